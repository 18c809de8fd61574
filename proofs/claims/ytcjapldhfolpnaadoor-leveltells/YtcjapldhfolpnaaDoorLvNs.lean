/-
  Walks, not a claim by itself: the reference's Spans. By the verifier.
-/
import Derived.Test.YtcjapldhfolpnaaDoorLvWo
namespace Go.Proofs.YtcjapldhfolpnaaDoor
open Go.RowKit
attribute [-go_sem] Builtin.append_
theorem leq_str (a b : ByteArray) (w : World) : (binOp .leq 9 (.string a) (.string b)).run Tryd.prog w = .ok (.bool (decide (cmpB a b ≤ 0))) w := by
  have e : (a.toList == b.toList) = decide (cmpB a b = 0) := by
    rw [ByteArray.toList_eq, ByteArray.toList_eq]
    have z := cb_zero a.data.toList b.data.toList
    by_cases h : a.data.toList = b.data.toList
    · rw [decide_eq_true (show cmpB a b = 0 from z.2 h), h]
      simp
    · rw [decide_eq_false (show ¬ cmpB a b = 0 from fun q => h (z.1 q))]
      simpa using h
  have h0 : (binOp .leq 9 (.string a) (.string b)).run Tryd.prog w = .ok (.bool (Op.bytesLess a.toList b.toList || (a.toList == b.toList))) w := rfl
  rw [h0, e, less_isR]
  congr 2
  by_cases h1 : cmpB a b < 0
  · rw [decide_eq_true h1, decide_eq_true (show cmpB a b ≤ 0 by omega)]; rfl
  · rw [decide_eq_false h1, Bool.false_or]
    by_cases h2 : cmpB a b = 0
    · rw [decide_eq_true h2, decide_eq_true (show cmpB a b ≤ 0 by omega)]
    · rw [decide_eq_false h2, decide_eq_false (show ¬ cmpB a b ≤ 0 by omega)]
/-- Does a table span such a key? (The reference's words.) -/
def rsB (f t : ByteArray) (r : Rn) : Bool := !decide (cmpB r.l f < 0) && (decide (t.size = 0) || decide (cmpB r.f t < 0))
def rsL (fl : List (Nat × RV)) (f t : ByteArray) : List RV := (fl.map fun q => q.2).filter fun x => rsB f t x.r
theorem rsL_snoc {fl : List (Nat × RV)} {k i : Nat} {y : RV} (h : fl[k]? = some (i, y)) (f t : ByteArray) : rsL (fl.take (k + 1)) f t = if rsB f t y.r then rsL (fl.take k) f t ++ [y] else rsL (fl.take k) f t := by
  obtain ⟨hk, e⟩ := List.getElem?_eq_some_iff.1 h
  unfold rsL
  rw [List.take_succ_eq_append_getElem hk, e, List.map_append, List.filter_append]
  by_cases hn : rsB f t y.r = true
  · rw [if_pos hn]; simp [hn]
  · rw [if_neg hn]; simp [hn]
/-- What its loops keep. -/
structure NsI (W : World) (ls : List LR) (f t : ByteArray) (j : Nat) (wr : World) (lv : Value) : Prop where
  own : OwnR wr 0 lv (rsL ((flt 0 ls).take j) f t)
  new : ∀ b, lv.ownBlock = some b → W.heap.size ≤ b
  below : Below W.heap.size W wr
theorem NsI.up {W wr w' : World} {ls : List LR} {f t : ByteArray} {j : Nat} {lv : Value} (h : NsI W ls f t j wr lv) (hB : Below wr.heap.size wr w') : NsI W ls f t j w' lv := ⟨h.own.below hB, h.new, h.below.trans (hB.mono h.below.size)⟩
theorem NsI.skip {W wr : World} {ls : List LR} {f t : ByteArray} {j i : Nat} {lv : Value} {y : RV} (h : NsI W ls f t j wr lv) (hx : (flt 0 ls)[j]? = some (i, y)) (hn : rsB f t y.r = false) : NsI W ls f t (j + 1) wr lv := ⟨by rw [rsL_snoc hx, hn]; exact h.own, h.new, h.below⟩
theorem NsI.app {W wr w' : World} {ls : List LR} {f t : ByteArray} {j i : Nat} {lv v6 : Value} {y : RV} (h : NsI W ls f t j wr lv) (hx : (flt 0 ls)[j]? = some (i, y)) (hn : rsB f t y.r = true) (hI : InsR wr lv (rsL ((flt 0 ls).take j) f t ++ [y]) v6 w') : NsI W ls f t (j + 1) w' v6 := ⟨by rw [rsL_snoc hx, hn]; exact hI.own, fun b hb => by
  rcases hI.blk b hb with q | q
  · exact h.new b q
  · exact Nat.le_trans h.below.size q, h.below.trans (hI.off.below (fun b hb => h.new b (by simpa using hb)) h.below.size)⟩
theorem rsL_few (ls : List LR) (f t : ByteArray) (j : Nat) (h : ∀ x ∈ ls, x.rs.length ≤ 1000) (h4 : ls.length ≤ 4) : (rsL ((flt 0 ls).take j) f t).length ≤ 4000 := by
  have a := flt_few h (b := 0)
  unfold rsL
  refine Nat.le_trans (List.length_filter_le _ _) ?_
  rw [List.length_map, List.length_take]
  omega
theorem mem_flt {ls : List LR} {x : RV} : ∀ {b : Nat}, x ∈ (flt b ls).map (fun q => q.2) → ∃ y ∈ ls, x ∈ y.rs := by
  intro b hx
  obtain ⟨⟨i, z⟩, hz, rfl⟩ := List.mem_map.1 hx
  obtain ⟨j, hj⟩ := List.getElem?_of_mem hz
  obtain ⟨i', k', y, h1, h2, _, _⟩ := flt_has b ls j i z hj
  exact ⟨y, List.mem_of_getElem? h1, List.mem_of_getElem? h2⟩
/-- The tables that the reference tells. -/
def nsL (ls : List LR) (f t : ByteArray) : List RV := if mayB (rns ls) = true ∧ ¬ (0 < t.size ∧ cmpB t f ≤ 0) then rsL (flt 0 ls) f t else []
theorem rsL_map (ls : List LR) (f t : ByteArray) : (rsL (flt 0 ls) f t).map RV.r = (rns ls).flatten.filter (rsB f t) := by
  unfold rsL
  rw [← flt_rns 0 ls, List.filter_map, List.filter_map, List.map_map]
  rfl
theorem rsB_inB {f t : ByteArray} {r : Rn} (h : cmpB r.f r.l ≤ 0) (hn : ¬ (0 < t.size ∧ cmpB t f ≤ 0)) : rsB f t r = inB f t r := by
  unfold rsB inB lowB spnB
  by_cases h1 : cmpB r.f f < 0
  · rw [if_pos h1]
    have a := c_anti r.l f
    have e1 : (!decide (cmpB r.l f < 0)) = (decide (cmpB r.f f ≤ 0) && decide (cmpB f r.l ≤ 0)) := by
      rw [decide_eq_true (show cmpB r.f f ≤ 0 by omega), Bool.true_and]
      by_cases h2 : cmpB r.l f < 0
      · rw [decide_eq_true h2, decide_eq_false (by omega)]; rfl
      · rw [decide_eq_false h2, decide_eq_true (by omega)]; rfl
    rw [e1]
    congr 1
    by_cases h0 : t.size = 0
    · simp [h0]
    · have k : cmpB f t < 0 := by have b := c_anti f t; have : ¬ cmpB t f ≤ 0 := fun q => hn ⟨by omega, q⟩; omega
      rw [decide_eq_true k, decide_eq_true (c_trans h1 k)]
  · rw [if_neg h1]
    have a := c_anti r.f f
    have e2 : ¬ cmpB r.l f < 0 := fun q => h1 (c_le_lt h q)
    rw [decide_eq_false e2, decide_eq_true (show cmpB r.f r.f ≤ 0 by rw [c_self]; exact Int.le_refl _), decide_eq_true h]
    rfl
theorem nsL_spD (ls : List LR) (f t : ByteArray) : (nsL ls f t).map RV.r = spD (rns ls) f t := by
  unfold nsL spD
  by_cases hm : mayB (rns ls) = true
  · rw [if_pos hm]
    have sn : ∀ r ∈ (rns ls).flatten, cmpB r.f r.l ≤ 0 := fun r hr => by
      obtain ⟨l, hl, hr⟩ := List.mem_flatten.1 hr
      obtain ⟨i, hi⟩ := List.getElem?_of_mem hl
      obtain ⟨k, hk⟩ := List.getElem?_of_mem hr
      have := ((mayB_at _).1 hm).2.1 i l k r hi hk
      unfold sndR at this
      simp at this
      exact this.2
    by_cases hn : 0 < t.size ∧ cmpB t f ≤ 0
    · rw [if_neg (fun q => q.2 hn)]
      symm
      rw [List.map_nil, List.filter_eq_nil_iff]
      intro r hr q
      unfold inB at q
      simp only [Bool.and_eq_true, Bool.or_eq_true, decide_eq_true_eq] at q
      rcases q.2 with q2 | q2
      · omega
      · unfold lowB at q2
        by_cases h1 : cmpB r.f f < 0
        · rw [if_pos h1] at q2
          have := c_anti f t
          omega
        · rw [if_neg h1] at q2
          have a := c_lt_le q2 hn.2
          exact h1 a
    · rw [if_pos ⟨hm, hn⟩, rsL_map]
      refine List.filter_congr (fun r hr => rsB_inB (sn r hr) hn)
  · rw [if_neg (fun q => hm q.1), if_neg hm]
    rfl
def nsR (W : World) (ls : List LR) (f t : ByteArray) (L : Nat) (lv iv : Value) (wr : World) : Prop := ∃ n : Nat, n ≤ L ∧ iv = .int .i64 (n : Int) ∧ Hid (NsI W ls f t (offL ls n) wr lv)
def nsJ (W : World) (ls : List LR) (f t : ByteArray) (n m : Nat) (lv iv : Value) (w' : World) : Prop := ∃ k : Nat, k ≤ m ∧ iv = .int .i64 (k : Int) ∧ Hid (NsI W ls f t (offL ls n + k) w' lv)
set_option maxRecDepth 100000 in
set_option maxHeartbeats 4000000 in
theorem nspans_any {W : World} {A : Option Addr} {ls : List LR} {N M : List Nat} {fv tv : Value} {ft tt : ByteArray} (L C : Nat) (hL : ls.length = L) (h : Lvs W A ls) (hs : ∀ x ∈ ls, x.rs.length ≤ 1000) (hf : Txt W N fv ft) (ht : Txt W M tv tt) : Calls Tryd.prog 17 #[.slice A L C, fv, tv] W (SgPost W (nsL ls ft tt)) := by
  have HL := hidIt h
  have HN := hidIt (And.intro hL hs)
  have HF := hidIt hf
  have HT := hidIt ht
  obtain ⟨fa, fC, ff, rfl, _⟩ := hf
  obtain ⟨ta, tC, tf, rfl, _⟩ := ht
  cases hm : mayB (rns ls) with
  | false =>
    have MI : Hid (mayI (rns ls) = 2) := hidIt (by unfold mayI; rw [hm]; rfl)
    have FI : Hid (nsL ls ft tt = []) := hidIt (by unfold nsL; rw [if_neg (fun q => by rw [hm] at q; cases q.1)])
    clear h hL hs hm
    go_enter Tryd.func17, Tryd.ntmps17
    go_wp2_with (go_at_call 14; refine (ncheck_any L C HN.out.1 HL.out HN.out.2).mono ?_; rw [MI.out]; rintro e W2 ⟨rfl, hb⟩; have E2 := hidIt hb; clear hb)
    exact bodyPost_ret (v := .slice none 0 0) (by simp [results, Tryd.results17, go_sem]) rfl ⟨none, 0, by rw [FI.out]; rfl, by rw [FI.out]; exact ⟨fun x hx => (by cases hx), fun q => absurd rfl q⟩, E2.out⟩
  | true =>
    have MI : Hid (mayI (rns ls) = 0) := hidIt (by unfold mayI; rw [hm]; rfl)
    have MB := hidIt hm
    have L4 : Hid (L ≤ 4) := hidIt (by have := ((mayB_at _).1 hm).1; simp [rns] at this; omega)
    clear h hL hs hm
    by_cases h0 : tt.size = 0
    · have YES : Hid (¬ (0 < tt.size ∧ cmpB tt ft ≤ 0)) := hidIt (by omega)
      have z1 : (0 < (tt.size : Int)) = False := eq_false (by omega)
      have z2 : (0 < tt.size) = False := eq_false (by omega)
      have z3 : ((tt.size : Int) == 0) = true := by simp [h0]
      have Z0 := hidIt h0
      clear h0
      obtain ⟨q, hq⟩ : ∃ q, q = tt.size := ⟨_, rfl⟩
      rw [← hq] at z1 z2 z3
      rw [← hq]
      have HQ := hidIt hq
      clear hq
      go_enter Tryd.func17, Tryd.ntmps17
      go_wp2_with (go_at_call 14; refine (ncheck_any L C HN.out.1 HL.out HN.out.2).mono ?_; rw [MI.out]; rintro e W2 ⟨rfl, hb⟩; have E2 := hidIt hb; clear hb)
      clear z1 z2
      go_loopw [7, 8] (fun lv iv wr => nsR W ls ft tt L lv iv wr) (fun _ iv _ => L - (RowKit.intOf iv).toNat)
      case atStart => exact ⟨0, Nat.zero_le _, rfl, hidIt ⟨by rw [offL_zero]; exact OwnR.nil _ _, fun b hb => (by cases hb), E2.out⟩⟩
      case round =>
        clear E2
        obtain ⟨n, hn, rfl, hI⟩ := hrel
        rename World => wr
        by_cases hlt : n < L
        · obtain ⟨x, hx⟩ : ∃ x, ls[n]? = some x := ⟨_, List.getElem?_eq_getElem (by have := HN.out.1; omega)⟩
          have HXC : Hid (∃ b o, A = some ⟨b, o, none⟩ ∧ ∀ w', Below W.heap.size W w' → w'.cell? ⟨b, o + n, none⟩ = some x.v) := hidIt (by
            obtain ⟨b, o, ha, hc, hb⟩ := HL.out.at n x hx
            exact ⟨b, o, ha, fun w' hw => (hw.cell (p := ⟨b, o + n, none⟩) hb).trans hc⟩)
          obtain ⟨b, o, ha, hxc⟩ := HXC.out
          subst ha
          have HC := hidIt hxc
          have LT := hidIt hlt
          have HX := hidIt hx
          have OX := hidIt (HL.out.1 x (List.mem_of_getElem? hx))
          have NX := hidIt (HN.out.2 x (List.mem_of_getElem? hx))
          have OS := hidIt (offL_succ ls n x hx)
          have AR := hidIt (tb_ar n L hlt (by have := L4.out; omega))
          have S2 : Hid (nsJ W ls ft tt n x.rs.length u7 (.int .i64 0) wr) := hidIt ⟨0, Nat.zero_le _, rfl, hI⟩
          unfold LR.v at HC
          clear hx hlt hn hxc HXC
          obtain ⟨m, hm⟩ : ∃ m, m = x.rs.length := ⟨_, rfl⟩
          rw [← hm] at S2 NX HC OS
          have HM := hidIt hm
          clear hm
          obtain ⟨i0, i1, i2, i3, _⟩ := AR.out
          go_wp2_with fail
          clear i0 i1 i2 i3
          go_loopw [7, 9] (fun lv iv w5 => nsJ W ls ft tt n m lv iv w5) (fun _ iv _ => m - (RowKit.intOf iv).toNat)
          case atStart => exact S2.out
          case round =>
            clear S2 hI
            obtain ⟨k, hk, rfl, hJ⟩ := hrel
            rename World => Wi
            have hc := HC.out Wi hJ.out.below
            obtain ⟨n0, n1, _, _, _⟩ := AR.out
            by_cases hlt : k < m
            · obtain ⟨y, hy⟩ : ∃ y, x.rs[k]? = some y := ⟨_, List.getElem?_eq_getElem (by have := HM.out; omega)⟩
              obtain ⟨b2, o2, ha, hr, hb⟩ := ((OX.out.below hJ.out.below).1).at k y hy
              have OY := hidIt ((OX.out.1.1 y (List.mem_of_getElem? hy)).below hJ.out.below)
              have JT := hidIt hlt
              have FA : Hid ((flt 0 ls)[offL ls n + k]? = some (n, y)) := hidIt (by have := flt_at 0 ls n k x y HX.out hy; rwa [Nat.zero_add] at this)
              obtain ⟨k0, k1, k2, k3, k4⟩ := tb_ar k m hlt (by have := NX.out; omega)
              have GO := hidIt k4
              rw [ha] at hc
              clear hb hy hlt hk k4
              go_wp2_with (first
                | (refine wpList_load_mid rfl 27 (.tmp 46) rfl b2 (o2 + k * 5) rfl y.cs _ hr Tryd.underlying27 rfl run_size ?_; clear hr)
                | (refine wpList_alloc_rec rfl 27 rfl _ Wi.heap.size rfl run_zero ?_; intro W2 R2 B2 z2; have E2 := hidIt (And.intro B2 z2); have P2 := hidIt R2; clear R2 B2 z2)
                | (refine wpList_store_rec rfl 27 (.tmp 10) (.tmp 47) rfl Wi.heap.size 0 _ y.cs rfl rfl P2.out rfl run_size OY.out.one ?_; intro W3 R3 B3; have E3 := hidIt (E2.out.1.trans (B3.below (Nat.le_refl _) (by have := E2.out.2; omega))); have P3 := hidIt R3; clear R3 B3; refine Held.out ?_))
              have OY3 := hidIt (OY.out.below E3.out)
              have J3 := hidIt (hJ.out.up E3.out)
              obtain ⟨Hb, hHb⟩ : ∃ Hb, Hb = Wi.heap.size := ⟨_, rfl⟩
              rw [← hHb] at P3
              simp only [← hHb]
              obtain ⟨q0, q1, q2, q3, q4⟩ := five_cells P3.out.1
              have cy := conv_ofR OY3.out.1
              have cl := conv_ofR OY3.out.2
              have cf := conv_ofR (HF.out.below J3.out.below)
              have ct := conv_ofR (HT.out.below J3.out.below)
              rw [← HQ.out] at ct
              have hge := fun w => geq_str y.r.l ft w
              have hcc := HC.out W3 J3.out.below
              clear P2 E2 hHb hc
              by_cases c1 : cmpB y.r.l ft < 0
              · have hb1 : Op.bytesLess y.r.l.toList ft.toList = true := by rw [less_isR, decide_eq_true c1]
                have NXT : Hid (nsJ W ls ft tt n m u7 (.int .i64 ((k : Int) + 1)) W3) := hidIt ⟨k + 1, JT.out, rfl, hidIt (J3.out.skip FA.out (by unfold rsB; rw [decide_eq_true c1]; rfl))⟩
                clear c1
                refine Held.mk ?_
                go_wp2_with fail
                exact ⟨NXT.out, GO.out⟩
              · have hb1 : Op.bytesLess y.r.l.toList ft.toList = false := by rw [less_isR, decide_eq_false c1]
                have RB : Hid (rsB ft tt y.r = true) := hidIt (by unfold rsB; rw [decide_eq_false c1, decide_eq_true Z0.out]; rfl)
                clear c1
                obtain ⟨W5, hW5⟩ : ∃ W5, W5 = W3.alloc (.cells y.cs.toArray 27) := ⟨_, rfl⟩
                have A5 : Below W3.heap.size W3 W5 := by rw [hW5]; exact (Below.refl _ _).alloc (Nat.le_refl _) _
                have R5 : Rec19 W5 W3.heap.size 0 (rcs [y]) := by rw [hW5, rcs_single]; exact Rec19.new W3 _ y.cs
                have J5 := J3.out.up A5
                obtain ⟨v6, W6, hr6, I6⟩ := app_runs 36 W5 u7 _ [y] ⟨W3.heap.size, 0, none⟩ 1 J5.own (fun j u hj => by rw [Addr.add_mid]; exact R5.1 j u hj) (by rw [rcs_single]; exact OY3.out.one) (by simp) (by have := rsL_few ls ft tt (offL ls n + k) HN.out.2 (by have := HN.out.1; have := L4.out; omega); simp; omega)
                simp only [List.length_singleton] at hr6
                have NXT : Hid (nsJ W ls ft tt n m v6 (.int .i64 ((k : Int) + 1)) W6) := hidIt ⟨k + 1, JT.out, rfl, hidIt (J5.app FA.out RB.out I6)⟩
                have HW5 := hidIt hW5
                clear hW5 A5 R5 J5 I6
                refine Held.mk ?_
                go_wp2_with (first
                  | (refine wpList_load_rec rfl 27 (.tmp 10) rfl Hb 0 y.cs rfl _ Tryd.underlying27 rfl run_size P3.out ?_)
                  | (refine wpList_run_w (by rfl) (.slice (some ⟨W3.heap.size, 0, none⟩) 1 1) W5 (by rw [HW5.out]; exact bsl_run 36 27 1 _ rfl 5 72 _ _ _ under_runs info_run (by decide) (by decide) rfl (by kernel_rfl)) ?_)
                  | (at_builtin; refine wpList_append_go rfl (.tmp 67) (.tmp 69) 36 36 rfl _ _ rfl rfl hr6 ?_))
                exact ⟨NXT.out, GO.out⟩
            · obtain rfl : k = m := by omega
              have i0 : ((k : Int) < (k : Int)) = False := eq_false (by omega)
              have NXT : Hid (nsR W ls ft tt L u7 (.int .i64 ((n : Int) + 1)) Wi) := hidIt ⟨n + 1, LT.out, rfl, hidIt (by rw [OS.out]; exact hJ.out)⟩
              obtain ⟨_, _, i2, i3, i4⟩ := AR.out
              have GO := hidIt i4
              clear hk hlt i4
              go_wp2_with fail
              exact ⟨NXT.out, GO.out⟩
        · obtain rfl : n = L := by omega
          have i0 : ((n : Int) < (n : Int)) = False := eq_false (by omega)
          have FL : Hid (nsL ls ft tt = rsL (flt 0 ls) ft tt) := hidIt (by unfold nsL; rw [if_pos ⟨MB.out, YES.out⟩])
          have TK : Hid ((flt 0 ls).take (offL ls n) = flt 0 ls) := hidIt (by rw [← HN.out.1, offL_all 0, List.take_length])
          have hw := hI.out.own
          rw [TK.out, ← FL.out] at hw
          obtain ⟨va, vc, hv, _⟩ := hw.sl
          have RES : Hid (SgPost W (nsL ls ft tt) (.returned u7) wr) := hidIt (by
            have hw2 := hw
            rw [hv] at hw2
            refine ⟨va, vc, by rw [hv], hw2.ls (fun x hx => ?_), hI.out.below⟩
            rw [FL.out] at hx
            unfold rsL at hx
            obtain ⟨y, hy, hxy⟩ := mem_flt ((List.mem_filter.1 hx).1)
            exact ((HL.out.1 y hy).1.1 x hxy).below hI.out.below)
          clear hn hlt hw hv
          go_wp2_with fail
          exact bodyPost_ret (v := u7) (by simp [results, Tryd.results17, go_sem]) rfl RES.out
    · have z1 : (0 < (tt.size : Int)) = True := eq_true (by omega)
      have z2 : (0 < tt.size) = True := eq_true (by omega)
      have z3 : ((tt.size : Int) == 0) = false := by simp [h0]
      have Z0 := hidIt h0
      have CV : Hid (∀ w', Below W.heap.size W w' → (convert 25 9 (.slice fa ft.size fC)).run Tryd.prog w' = .ok (.string ft) w' ∧ (convert 25 9 (.slice ta tt.size tC)).run Tryd.prog w' = .ok (.string tt) w') := hidIt (fun w' hw => ⟨conv_ofR (HF.out.below hw), conv_ofR (HT.out.below hw)⟩)
      by_cases hc : cmpB tt ft ≤ 0
      · have hle : ∀ w, (binOp .leq 9 (.string tt) (.string ft)).run Tryd.prog w = .ok (.bool true) w := fun w => by rw [leq_str, decide_eq_true hc]
        have FI : Hid (nsL ls ft tt = []) := hidIt (by unfold nsL; rw [if_neg (fun q => q.2 ⟨by omega, hc⟩)])
        clear hc h0
        obtain ⟨q, hq⟩ : ∃ q, q = tt.size := ⟨_, rfl⟩
        rw [← hq] at z1 z2 z3 CV
        rw [← hq]
        clear hq
        go_enter Tryd.func17, Tryd.ntmps17
        go_wp2_with (go_at_call 14; refine (ncheck_any L C HN.out.1 HL.out HN.out.2).mono ?_; rw [MI.out]; rintro e W2 ⟨rfl, hb⟩; have E2 := hidIt hb; obtain ⟨cf, ct⟩ := CV.out W2 hb; clear hb)
        exact bodyPost_ret (v := .slice none 0 0) (by simp [results, Tryd.results17, go_sem]) rfl ⟨none, 0, by rw [FI.out]; rfl, by rw [FI.out]; exact ⟨fun x hx => (by cases hx), fun q => absurd rfl q⟩, E2.out⟩
      · have hle : ∀ w, (binOp .leq 9 (.string tt) (.string ft)).run Tryd.prog w = .ok (.bool false) w := fun w => by rw [leq_str, decide_eq_false hc]
        have YES : Hid (¬ (0 < tt.size ∧ cmpB tt ft ≤ 0)) := hidIt (fun q => hc q.2)
        clear hc h0
        obtain ⟨q, hq⟩ : ∃ q, q = tt.size := ⟨_, rfl⟩
        rw [← hq] at z1 z2 z3 CV
        rw [← hq]
        have HQ := hidIt hq
        clear hq
        go_enter Tryd.func17, Tryd.ntmps17
        go_wp2_with (go_at_call 14; refine (ncheck_any L C HN.out.1 HL.out HN.out.2).mono ?_; rw [MI.out]; rintro e W2 ⟨rfl, hb⟩; have E2 := hidIt hb; obtain ⟨cf, ct⟩ := CV.out W2 hb; clear hb)
        clear cf ct hle
        clear z1 z2
        go_loopw [7, 8] (fun lv iv wr => nsR W ls ft tt L lv iv wr) (fun _ iv _ => L - (RowKit.intOf iv).toNat)
        case atStart => exact ⟨0, Nat.zero_le _, rfl, hidIt ⟨by rw [offL_zero]; exact OwnR.nil _ _, fun b hb => (by cases hb), E2.out⟩⟩
        case round =>
          clear E2
          obtain ⟨n, hn, rfl, hI⟩ := hrel
          rename World => wr
          by_cases hlt : n < L
          · obtain ⟨x, hx⟩ : ∃ x, ls[n]? = some x := ⟨_, List.getElem?_eq_getElem (by have := HN.out.1; omega)⟩
            have HXC : Hid (∃ b o, A = some ⟨b, o, none⟩ ∧ ∀ w', Below W.heap.size W w' → w'.cell? ⟨b, o + n, none⟩ = some x.v) := hidIt (by
              obtain ⟨b, o, ha, hc, hb⟩ := HL.out.at n x hx
              exact ⟨b, o, ha, fun w' hw => (hw.cell (p := ⟨b, o + n, none⟩) hb).trans hc⟩)
            obtain ⟨b, o, ha, hxc⟩ := HXC.out
            subst ha
            have HC := hidIt hxc
            have LT := hidIt hlt
            have HX := hidIt hx
            have OX := hidIt (HL.out.1 x (List.mem_of_getElem? hx))
            have NX := hidIt (HN.out.2 x (List.mem_of_getElem? hx))
            have OS := hidIt (offL_succ ls n x hx)
            have AR := hidIt (tb_ar n L hlt (by have := L4.out; omega))
            have S2 : Hid (nsJ W ls ft tt n x.rs.length u7 (.int .i64 0) wr) := hidIt ⟨0, Nat.zero_le _, rfl, hI⟩
            unfold LR.v at HC
            clear hx hlt hn hxc HXC
            obtain ⟨m, hm⟩ : ∃ m, m = x.rs.length := ⟨_, rfl⟩
            rw [← hm] at S2 NX HC OS
            have HM := hidIt hm
            clear hm
            obtain ⟨i0, i1, i2, i3, _⟩ := AR.out
            go_wp2_with fail
            clear i0 i1 i2 i3
            go_loopw [7, 9] (fun lv iv w5 => nsJ W ls ft tt n m lv iv w5) (fun _ iv _ => m - (RowKit.intOf iv).toNat)
            case atStart => exact S2.out
            case round =>
              clear S2 hI
              obtain ⟨k, hk, rfl, hJ⟩ := hrel
              rename World => Wi
              have hc := HC.out Wi hJ.out.below
              obtain ⟨n0, n1, _, _, _⟩ := AR.out
              by_cases hlt : k < m
              · obtain ⟨y, hy⟩ : ∃ y, x.rs[k]? = some y := ⟨_, List.getElem?_eq_getElem (by have := HM.out; omega)⟩
                obtain ⟨b2, o2, ha, hr, hb⟩ := ((OX.out.below hJ.out.below).1).at k y hy
                have OY := hidIt ((OX.out.1.1 y (List.mem_of_getElem? hy)).below hJ.out.below)
                have JT := hidIt hlt
                have FA : Hid ((flt 0 ls)[offL ls n + k]? = some (n, y)) := hidIt (by have := flt_at 0 ls n k x y HX.out hy; rwa [Nat.zero_add] at this)
                obtain ⟨k0, k1, k2, k3, k4⟩ := tb_ar k m hlt (by have := NX.out; omega)
                have GO := hidIt k4
                rw [ha] at hc
                clear hb hy hlt hk k4
                go_wp2_with (first
                  | (refine wpList_load_mid rfl 27 (.tmp 46) rfl b2 (o2 + k * 5) rfl y.cs _ hr Tryd.underlying27 rfl run_size ?_; clear hr)
                  | (refine wpList_alloc_rec rfl 27 rfl _ Wi.heap.size rfl run_zero ?_; intro W2 R2 B2 z2; have E2 := hidIt (And.intro B2 z2); have P2 := hidIt R2; clear R2 B2 z2)
                  | (refine wpList_store_rec rfl 27 (.tmp 10) (.tmp 47) rfl Wi.heap.size 0 _ y.cs rfl rfl P2.out rfl run_size OY.out.one ?_; intro W3 R3 B3; have E3 := hidIt (E2.out.1.trans (B3.below (Nat.le_refl _) (by have := E2.out.2; omega))); have P3 := hidIt R3; clear R3 B3; refine Held.out ?_))
                have OY3 := hidIt (OY.out.below E3.out)
                have J3 := hidIt (hJ.out.up E3.out)
                obtain ⟨Hb, hHb⟩ : ∃ Hb, Hb = Wi.heap.size := ⟨_, rfl⟩
                rw [← hHb] at P3
                simp only [← hHb]
                obtain ⟨q0, q1, q2, q3, q4⟩ := five_cells P3.out.1
                have cy := conv_ofR OY3.out.1
                have cl := conv_ofR OY3.out.2
                have cf := conv_ofR (HF.out.below J3.out.below)
                have ct := conv_ofR (HT.out.below J3.out.below)
                rw [← HQ.out] at ct
                have hge := fun w => geq_str y.r.l ft w
                have hcc := HC.out W3 J3.out.below
                clear P2 E2 hHb hc
                by_cases c1 : cmpB y.r.l ft < 0
                · have hb1 : Op.bytesLess y.r.l.toList ft.toList = true := by rw [less_isR, decide_eq_true c1]
                  have NXT : Hid (nsJ W ls ft tt n m u7 (.int .i64 ((k : Int) + 1)) W3) := hidIt ⟨k + 1, JT.out, rfl, hidIt (J3.out.skip FA.out (by unfold rsB; rw [decide_eq_true c1]; rfl))⟩
                  clear c1
                  refine Held.mk ?_
                  go_wp2_with fail
                  exact ⟨NXT.out, GO.out⟩
                · have hb1 : Op.bytesLess y.r.l.toList ft.toList = false := by rw [less_isR, decide_eq_false c1]
                  by_cases c2 : cmpB y.r.f tt < 0
                  · have hb2 : Op.bytesLess y.r.f.toList tt.toList = true := by rw [less_isR, decide_eq_true c2]
                    have RB : Hid (rsB ft tt y.r = true) := hidIt (by unfold rsB; rw [decide_eq_false c1, decide_eq_true c2]; simp)
                    clear c1 c2
                    obtain ⟨W5, hW5⟩ : ∃ W5, W5 = W3.alloc (.cells y.cs.toArray 27) := ⟨_, rfl⟩
                    have A5 : Below W3.heap.size W3 W5 := by rw [hW5]; exact (Below.refl _ _).alloc (Nat.le_refl _) _
                    have R5 : Rec19 W5 W3.heap.size 0 (rcs [y]) := by rw [hW5, rcs_single]; exact Rec19.new W3 _ y.cs
                    have J5 := J3.out.up A5
                    obtain ⟨v6, W6, hr6, I6⟩ := app_runs 36 W5 u7 _ [y] ⟨W3.heap.size, 0, none⟩ 1 J5.own (fun j u hj => by rw [Addr.add_mid]; exact R5.1 j u hj) (by rw [rcs_single]; exact OY3.out.one) (by simp) (by have := rsL_few ls ft tt (offL ls n + k) HN.out.2 (by have := HN.out.1; have := L4.out; omega); simp; omega)
                    simp only [List.length_singleton] at hr6
                    have NXT : Hid (nsJ W ls ft tt n m v6 (.int .i64 ((k : Int) + 1)) W6) := hidIt ⟨k + 1, JT.out, rfl, hidIt (J5.app FA.out RB.out I6)⟩
                    have HW5 := hidIt hW5
                    clear hW5 A5 R5 J5 I6
                    refine Held.mk ?_
                    go_wp2_with (first
                      | (refine wpList_load_rec rfl 27 (.tmp 10) rfl Hb 0 y.cs rfl _ Tryd.underlying27 rfl run_size P3.out ?_)
                      | (refine wpList_run_w (by rfl) (.slice (some ⟨W3.heap.size, 0, none⟩) 1 1) W5 (by rw [HW5.out]; exact bsl_run 36 27 1 _ rfl 5 72 _ _ _ under_runs info_run (by decide) (by decide) rfl (by kernel_rfl)) ?_)
                      | (at_builtin; refine wpList_append_go rfl (.tmp 67) (.tmp 69) 36 36 rfl _ _ rfl rfl hr6 ?_))
                    exact ⟨NXT.out, GO.out⟩
                  · have hb2 : Op.bytesLess y.r.f.toList tt.toList = false := by rw [less_isR, decide_eq_false c2]
                    have NXT : Hid (nsJ W ls ft tt n m u7 (.int .i64 ((k : Int) + 1)) W3) := hidIt ⟨k + 1, JT.out, rfl, hidIt (J3.out.skip FA.out (by unfold rsB; rw [decide_eq_false c1, decide_eq_false c2, decide_eq_false Z0.out]; rfl))⟩
                    clear c1 c2
                    refine Held.mk ?_
                    go_wp2_with fail
                    exact ⟨NXT.out, GO.out⟩
              · obtain rfl : k = m := by omega
                have i0 : ((k : Int) < (k : Int)) = False := eq_false (by omega)
                have NXT : Hid (nsR W ls ft tt L u7 (.int .i64 ((n : Int) + 1)) Wi) := hidIt ⟨n + 1, LT.out, rfl, hidIt (by rw [OS.out]; exact hJ.out)⟩
                obtain ⟨_, _, i2, i3, i4⟩ := AR.out
                have GO := hidIt i4
                clear hk hlt i4
                go_wp2_with fail
                exact ⟨NXT.out, GO.out⟩
          · obtain rfl : n = L := by omega
            have i0 : ((n : Int) < (n : Int)) = False := eq_false (by omega)
            have FL : Hid (nsL ls ft tt = rsL (flt 0 ls) ft tt) := hidIt (by unfold nsL; rw [if_pos ⟨MB.out, YES.out⟩])
            have TK : Hid ((flt 0 ls).take (offL ls n) = flt 0 ls) := hidIt (by rw [← HN.out.1, offL_all 0, List.take_length])
            have hw := hI.out.own
            rw [TK.out, ← FL.out] at hw
            obtain ⟨va, vc, hv, _⟩ := hw.sl
            have RES : Hid (SgPost W (nsL ls ft tt) (.returned u7) wr) := hidIt (by
              have hw2 := hw
              rw [hv] at hw2
              refine ⟨va, vc, by rw [hv], hw2.ls (fun x hx => ?_), hI.out.below⟩
              rw [FL.out] at hx
              unfold rsL at hx
              obtain ⟨y, hy, hxy⟩ := mem_flt ((List.mem_filter.1 hx).1)
              exact ((HL.out.1 y hy).1.1 x hxy).below hI.out.below)
            clear hn hlt hw hv
            go_wp2_with fail
            exact bodyPost_ret (v := u7) (by simp [results, Tryd.results17, go_sem]) rfl RES.out
end Go.Proofs.YtcjapldhfolpnaaDoor
