/-
  Walks, not a claim by itself: the reference's Lay, whole; the kit's OverBytes of whatever capacity, and OverPairs. By the verifier.
-/
import Derived.Test.YtandkedipjmdbaaMtRl
import Derived.Test.YtandkedipjmdbaaBOver
namespace Go.Proofs.Ytandkedipjmdbaa
open Go.RowKit
attribute [-go_sem] Builtin.append_
theorem rl_same {W W' : World} {r : Nat} {lv : Value} {rs : List PV} {p : Pr} {c : Int} (h : RT W r lv rs) (hB : Below W.heap.size W W') (hc : layC (rs.map PV.p) p = c) (hr : layR (rs.map PV.p) p = rs.map PV.p) : RLay W r lv rs p (.returned (.int .i64 c)) W' :=
  ⟨lv, rs, by rw [hc], h.below hB, hr.symm, Off.of hB, fun _ q => .inl q, fun _ q => .inl q⟩
set_option maxRecDepth 100000 in
set_option maxHeartbeats 1000000 in
theorem rlay_not {W : World} {N : List Nat} {r : Nat} {lv : Value} {rs : List PV} {x : PV} (hT : RT W r lv rs) (hx : PVOk W N x) (hm : ¬ may x.p) : Calls Try.prog 48 #[.pointer (some ⟨r, 0, none⟩), .agg x.cs.toArray] W (RLay W r lv rs x.p) := by
  have HT := hidIt hT
  have HX := hidIt hx
  have HM := hidIt (mayE_not hm)
  have HC : Hid (layC (rs.map PV.p) x.p = 2 ∧ layR (rs.map PV.p) x.p = rs.map PV.p) := hidIt ⟨if_neg hm, if_neg hm⟩
  clear hT hx hm
  go_enter Try.func48, Try.ntmps48
  go_wp2_with (first
    | (refine wpList_box_rec rfl 47 (.tmp 1) rfl x.cs rfl W.heap.size rfl ?_; intro W1 R1 B1 z1; have E1 := hidIt B1; have X1 := hidIt (HX.out.below B1); have c0 := (R1.cel 0 x.k rfl).1; have d1 := (R1.cel 1 x.v rfl).1; have d2 := (R1.cel 2 (.bool x.p.g) rfl).1; clear R1 B1 z1)
    | (go_at_call 19; refine (rcheck_any X1.out).mono ?_; rintro e W2 ⟨rfl, hb⟩; rw [HM.out]; clear c0 d1 d2; have E2 := hidIt (E1.out.trans (hb.mono E1.out.size)); clear hb))
  exact bodyPost_ret (v := .int .i64 2) (by simp [results, Try.results48, go_sem]) rfl (rl_same HT.out E2.out HC.out.1 HC.out.2)
set_option maxRecDepth 100000 in
set_option maxHeartbeats 1000000 in
theorem rlay_full {W : World} {N : List Nat} {r : Nat} {lv : Value} {rs : List PV} {x : PV} (hT : RT W r lv rs) (hx : PVOk W N x) (hm : may x.p) (hh : has (rs.map PV.p) x.p.k = false) (hn : rs.length = 64) : Calls Try.prog 48 #[.pointer (some ⟨r, 0, none⟩), .agg x.cs.toArray] W (RLay W r lv rs x.p) := by
  have HT := hidIt hT
  have HX := hidIt hx
  have HM := hidIt (mayE_yes hm)
  have hn' : (rs.map PV.p).length = 64 := by simpa using hn
  have HC : Hid (layC (rs.map PV.p) x.p = 8 ∧ layR (rs.map PV.p) x.p = rs.map PV.p) := hidIt ⟨by unfold layC; rw [if_pos hm, if_neg (by rw [hh]; simp), if_pos hn'], by unfold layR; rw [if_pos hm, if_neg (by rw [hh]; simp), if_pos hn']⟩
  have HH := hidIt hh
  obtain ⟨a, cap, hv, _⟩ := hT.lst
  rw [hn] at hv
  subst hv
  have QQ : Hid (∀ U, Below W.heap.size W U → U.cell? ⟨r, 0, none⟩ = some (.slice a 64 cap)) := hidIt (fun U hU => ((hT.rc.below hU).cel 0 _ rfl).1)
  clear hT hx hm hh hn hn'
  go_enter Try.func48, Try.ntmps48
  go_wp2_with (first
    | (refine wpList_box_rec rfl 47 (.tmp 1) rfl x.cs rfl W.heap.size rfl ?_; intro W1 R1 B1 z1; have E1 := hidIt B1; have P1 := hidIt R1; have T1 := hidIt (HT.out.below B1); have X1 := hidIt (HX.out.below B1); have c0 := (R1.cel 0 x.k rfl).1; have d1 := (R1.cel 1 x.v rfl).1; have d2 := (R1.cel 2 (.bool x.p.g) rfl).1; clear R1 B1 z1)
    | (go_at_call 19; refine (rcheck_any X1.out).mono ?_; rintro e W2 ⟨rfl, hb⟩; rw [HM.out]; clear c0 d1 d2; have E2 := hidIt (E1.out.trans (hb.mono E1.out.size)); have P2 := hidIt (P1.out.below hb); have T2 := hidIt (T1.out.below hb); have X2 := hidIt (X1.out.below hb); have d0 := (P2.out.cel 0 x.k rfl).1; clear hb)
    | (go_at_call 50; refine (rat_any T2.out X2.out.1).mono ?_; rintro e W3 ⟨rfl, hb⟩; rw [HH.out]; clear d0; have E3 := hidIt (E2.out.trans (hb.mono E2.out.size)); have q3 := QQ.out W3 E3.out; clear hb))
  exact bodyPost_ret (v := .int .i64 8) (by simp [results, Try.results48, go_sem]) rfl (rl_same HT.out E3.out HC.out.1 HC.out.2)
theorem rlay_ok {W : World} {N : List Nat} {r : Nat} {lv : Value} {rs : List PV} {x : PV} (hT : RT W r lv rs) (hx : PVOk W N x) : Calls Try.prog 48 #[.pointer (some ⟨r, 0, none⟩), .agg x.cs.toArray] W (RLay W r lv rs x.p) := by
  by_cases hm : may x.p
  · cases hh : has (rs.map PV.p) x.p.k with
    | true => exact rlay_true hT hx hm hh (fun h => by rw [hh] at h; cases h)
    | false =>
      by_cases hn : rs.length = 64
      · exact rlay_full hT hx hm hh hn
      · exact rlay_false hT hx hm hh (fun _ => hn)
  · exact rlay_not hT hx hm
theorem hsz_set {W : World} {g i : Nat} {u v : Value} (h : W.cell? ⟨g, i, none⟩ = some u) : hsz (W.setCell ⟨g, i, none⟩ v) g = hsz W g := by
  obtain ⟨o, ho, hc⟩ := cell_cells h
  cases o with
  | cells cur t fr =>
    have hg : W.heap[g]? = some (.cells cur t fr) := ho
    rw [setCell_eq_setRow W g i cur t fr v hg]
    unfold hsz
    rw [setRow_heap W g cur _ _ _ hg, hg]
    simp
  | _ => cases hc
def ovRelH (w : World) (g C : Nat) (F : Nat → Int) (i : Value) (wr : World) : Prop := ovRel w g C F i wr ∧ hsz wr g = hsz w g
set_option maxRecDepth 100000 in
set_option maxHeartbeats 1000000 in
theorem over_big (g n C : Nat) (F : Nat → Int) (w : World) (h : IRow w g .u8 C F) (hn : n ≤ C) (hC : C ≤ maxLen) :
    Calls Try.prog 33 #[.slice (some ⟨g, 0, none⟩) n C] w fun e w' => e = .returned (.tuple #[]) ∧ IRow w' g .u8 C (fun j => ov (F j)) ∧ But g w w' ∧ hsz w' g = hsz w g := by
  have ST : Hid (ovRelH w g C F (.int .i64 0) w) := ⟨⟨0, by omega, rfl, h.congr (fun j _ => by unfold ovF; rw [if_neg (by omega)]), But.refl _ _⟩, rfl⟩
  unfold maxLen at hC
  clear h
  have e0 : (0 : Int) ≤ (C : Int) := by omega
  have e1 : (n : Int) ≤ C := by omega
  go_enter Try.func33, Try.ntmps33
  go_wp2_with fail
  go_loopw [3] (fun i wr => ovRelH w g C F i wr) (fun i _ => C - (intOf i).toNat)
  case atStart => exact ST.out
  case round =>
    obtain ⟨⟨k, hk, rfl, hR, hB⟩, hz⟩ := hrel
    have HZ := hidIt hz
    clear ST hz
    have RR : Hid (IRow wr g .u8 C (ovF F k)) := hR
    have BE : Hid (But g w wr) := hB
    clear hB
    by_cases hlt : k < C
    · have c := hR.1 k hlt
      rw [ovF_at] at c
      have fr := hR.2.1 k
      have HS : Hid (∀ v, hsz (wr.setCell ⟨g, k, none⟩ v) g = hsz wr g) := hidIt (fun v => hsz_set c)
      clear hR
      have i0 : (k : Int) < C := by omega
      have i1 : (0 : Int) ≤ (k : Int) := by omega
      have i2 : wrap64 ((k : Int) + 1) = (k : Int) + 1 := by unfold wrap64; omega
      have i3 : IntKind.i64.wrap ((k : Int) + 1) = (k : Int) + 1 := by rw [IntKind.wrap_i64]; omega
      have eo : bits .xor .u8 (F k) 90 = ov (F k) := rfl
      go_wp2_with fail
      exact ⟨⟨⟨k + 1, by omega, by go_num, by rw [← ovF_step]; exact RR.out.set k _, BE.out.trans (But.set _ _ _)⟩, (HS.out _).trans HZ.out⟩, by simp [intOf]; omega⟩
    · obtain rfl : k = C := by omega
      clear hR
      go_wp2_with fail
      exact bodyPost_end (by simp [results, Try.results33, go_sem]) rfl ⟨rfl, RR.out.congr (fun j hj => by unfold ovF; rw [if_pos hj]), BE.out, HZ.out⟩
/-- Bytes that may be written over, apart from the block L. -/
def OvS (W : World) (base L : Nat) (s : Value) : Prop := s = .slice none 0 0 ∨ ∃ g n F, s = .slice (some ⟨g, 0, none⟩) n (hsz W g) ∧ base ≤ g ∧ g ≠ L ∧ n ≤ hsz W g ∧ hsz W g ≤ maxLen ∧ IRow W g .u8 (hsz W g) F
theorem OvS.of {W : World} {base L : Nat} {s : Value} {t : ByteArray} {N : List Nat} (h : Fr W base s t) (k : Txt W N s t) (hL : L ∈ N) : OvS W base L s := by
  rcases h with ⟨_, h⟩ | ⟨g, F, hs, hb, h0, h1, h2, hR, _, _⟩
  · exact .inl h
  · refine .inr ⟨g, t.size, F, hs, hb, fun q => ?_, h1, h2, hR⟩
    obtain ⟨a, C, f, hs', _, _, hn⟩ := k
    rw [hs] at hs'
    injection hs' with ha
    exact hn h0 _ ha.symm (by show g ∈ N; rw [q]; exact hL)
/-- What writing over does to the world. -/
def OvR (base L : Nat) (W W' : World) : Prop := W' = W ∨ ∃ g F, base ≤ g ∧ g ≠ L ∧ But g W W' ∧ hsz W' g = hsz W g ∧ IRow W' g .u8 (hsz W g) F
theorem OvS.keep {base L : Nat} {W W' : World} {s : Value} (h : OvS W base L s) (k : OvR base L W W') : OvS W' base L s := by
  rcases k with rfl | ⟨g, F, hb, hl, hB, hz, hR⟩
  · exact h
  · rcases h with h | ⟨g2, n, F2, hs, hb2, hl2, h1, h2, hR2⟩
    · exact .inl h
    · by_cases e : g2 = g
      · subst e
        exact .inr ⟨g2, n, F, by rw [hz]; exact hs, hb2, hl2, by rw [hz]; exact h1, by rw [hz]; exact h2, by rw [hz]; exact hR⟩
      · have q : hsz W' g2 = hsz W g2 := hsz_eq (hB.block g2 hR2.2.2 e)
        exact .inr ⟨g2, n, F2, by rw [q]; exact hs, hb2, hl2, by rw [q]; exact h1, by rw [q]; exact h2, by rw [q]; exact hR2.but hB e⟩
theorem OvR.below {base L : Nat} {W W' : World} (k : OvR base L W W') (hb : base ≤ W.heap.size) : Below base W W' := by
  rcases k with rfl | ⟨g, F, hg, _, hB, _⟩
  · exact Below.refl _ _
  · exact hB.below hg hb
theorem OvR.rec {base L : Nat} {W W' : World} {cs : List Value} (k : OvR base L W W') (h : Rec19 W L 0 cs) : Rec19 W' L 0 cs := by
  rcases k with rfl | ⟨g, F, _, hl, hB, _⟩
  · exact h
  · exact h.but hB (fun q => hl q.symm)
theorem over_s {base L : Nat} {W : World} {s : Value} (h : OvS W base L s) : Calls Try.prog 33 #[s] W fun e w' => e = .returned (.tuple #[]) ∧ OvR base L W w' := by
  rcases h with rfl | ⟨g, n, F, rfl, hb, hl, h1, h2, hR⟩
  · refine (over_nil W).mono ?_
    rintro e w' ⟨rfl, rfl⟩
    exact ⟨rfl, .inl rfl⟩
  · refine (over_big g n _ F W hR h1 h2).mono ?_
    rintro e w' ⟨rfl, h3, h4, h5⟩
    exact ⟨rfl, .inr ⟨g, _, hb, hl, h4, h5, h3⟩⟩
theorem laidL_hi (cs : List Value) (o : Nat) (vs : List Value) (h : o + vs.length ≤ cs.length) (j : Nat) (hj : o + vs.length ≤ j) : (laidL cs o vs)[j]? = cs[j]? := by
  unfold laidL
  have hl : (cs.take o ++ vs).length = o + vs.length := by rw [List.length_append, List.length_take]; omega
  rw [List.getElem?_append_right (by omega), hl, List.getElem?_drop]
  congr 1
  omega
/-- What OverPairs' loop keeps. -/
structure OpI (base L : Nat) (W : World) (os : List PV) (k : Nat) (wr : World) (cs : List Value) : Prop where
  rc : Rec19 wr L 0 cs
  len : cs.length = os.length * 3
  is : ∀ j x q, k ≤ j → os[j]? = some x → q < 3 → cs[j * 3 + q]? = x.cs[q]?
  ovs : ∀ x ∈ os, OvS wr base L x.k ∧ OvS wr base L x.v
  below : Below base W wr
theorem OpI.over {base L : Nat} {W wr w' : World} {os : List PV} {k : Nat} {cs : List Value} (h : OpI base L W os k wr cs) (hR : OvR base L wr w') (hb : base ≤ W.heap.size) : OpI base L W os k w' cs :=
  ⟨hR.rec h.rc, h.len, h.is, fun x hx => ⟨(h.ovs x hx).1.keep hR, (h.ovs x hx).2.keep hR⟩, h.below.trans (hR.below (Nat.le_trans hb h.below.size))⟩
theorem OpI.next {base L : Nat} {W wr w' : World} {os : List PV} {k : Nat} {cs : List Value} (h : OpI base L W os k wr cs) (hk : k < os.length) (hR : Rec19 w' L 0 (laidL cs (k * 3) [.slice none 0 0, .slice none 0 0, .bool false])) (hB : But L wr w') (hL : base ≤ L) (hb : base ≤ W.heap.size) (hne : ∀ x ∈ os, OvS wr base L x.k ∧ OvS wr base L x.v → OvS w' base L x.k ∧ OvS w' base L x.v) : OpI base L W os (k + 1) w' (laidL cs (k * 3) [.slice none 0 0, .slice none 0 0, .bool false]) := by
  have hl : k * 3 + 3 ≤ cs.length := by rw [h.len]; omega
  refine ⟨hR, by rw [laidL_len _ _ _ hl]; exact h.len, fun j x q hj hx hq => ?_, fun x hx => hne x hx (h.ovs x hx), h.below.trans (hB.below hL (Nat.le_trans hb h.below.size))⟩
  rw [laidL_hi _ _ _ hl _ (by show k * 3 + 3 ≤ _; omega)]
  exact h.is j x q (by omega) hx hq
theorem OvS.but {base L : Nat} {W W' : World} {s : Value} (h : OvS W base L s) (hB : But L W W') : OvS W' base L s := by
  rcases h with h | ⟨g2, n, F2, hs, hb2, hl2, h1, h2, hR2⟩
  · exact .inl h
  · have q : hsz W' g2 = hsz W g2 := hsz_eq (hB.block g2 hR2.2.2 hl2)
    exact .inr ⟨g2, n, F2, by rw [q]; exact hs, hb2, hl2, by rw [q]; exact h1, by rw [q]; exact h2, by rw [q]; exact hR2.but hB hl2⟩
set_option maxRecDepth 100000 in
set_option maxHeartbeats 2000000 in
theorem overPairs_any {base : Nat} {W : World} {a : Option Addr} {os : List PV} (n C : Nat) (hn : os.length = n) (hf : n ≤ 100000) (hb : base ≤ W.heap.size) (hA : os ≠ [] → ∃ L, a = some ⟨L, 0, none⟩ ∧ base ≤ L ∧ Rec19 W L 0 (pcs os) ∧ ∀ x ∈ os, OvS W base L x.k ∧ OvS W base L x.v) : Calls Try.prog 12 #[.slice a n C] W fun e w' => e = .returned (.tuple #[]) ∧ Below base W w' := by
  by_cases h0 : os = []
  · subst h0
    obtain rfl : n = 0 := by simpa using hn.symm
    clear hA hn hf
    go_enter Try.func12, Try.ntmps12
    go_wp2_with fail
    refine wp_loop_rounds 1 ?_
    rw [rounds_succ]
    go_wp2_with fail
    exact bodyPost_end (by simp [results, Try.results12, go_sem]) rfl ⟨rfl, Below.refl _ _⟩
  · obtain ⟨L, rfl, hL, hR, hO⟩ := hA h0
    have st : Hid (OpI base L W os 0 W (pcs os)) := hidIt ⟨hR, pcs_len os, fun j x q _ hx hq => pcs_at os j q x hx hq, hO, Below.refl _ _⟩
    have HN := hidIt hn
    have HF := hidIt hf
    have HL := hidIt hL
    have HB := hidIt hb
    clear hA h0 hR hO hn hf hL hb
    go_enter Try.func12, Try.ntmps12
    go_wp2_with fail
    go_loopw [2] (fun i wr => ∃ (k : Nat) (cs : List Value), k ≤ n ∧ i = .int .i64 (k : Int) ∧ Hid (OpI base L W os k wr cs)) (fun i _ => n - (RowKit.intOf i).toNat)
    case atStart => exact ⟨0, _, Nat.zero_le _, rfl, st⟩
    case round =>
      clear st
      obtain ⟨k, cs, hk, rfl, hI⟩ := hrel
      by_cases hlt : k < n
      · obtain ⟨x, hx⟩ : ∃ x, os[k]? = some x := ⟨_, List.getElem?_eq_getElem (by have := HN.out; omega)⟩
        have HX := hidIt hx
        have LT := hidIt hlt
        have CE : Hid (∀ U, OpI base L W os k U cs → U.cell? ⟨L, k * 3, none⟩ = some x.k ∧ U.cell? ⟨L, k * 3 + 1, none⟩ = some x.v) := hidIt (fun U hU => by
          have h0 := hU.is k x 0 (Nat.le_refl _) HX.out (by omega)
          have h1 := hU.is k x 1 (Nat.le_refl _) HX.out (by omega)
          have g0 := (hU.rc.cel (k * 3 + 0) x.k h0).1
          have g1 := (hU.rc.cel (k * 3 + 1) x.v h1).1
          exact ⟨g0, g1⟩)
        obtain ⟨i0, i1, i2, i3⟩ := k_ar k n hlt HF.out
        obtain ⟨c0, _⟩ := CE.out _ hI.out
        have na : Hid True := trivial
        clear hx hlt hk
        go_wp2_with (first
          | (go_at_call 33; have _q := na; clear na _q; refine (over_s (hI.out.ovs x (List.mem_of_getElem? HX.out)).1).mono ?_; rintro e W2 ⟨rfl, hr⟩; have I2 := hidIt (hI.out.over hr HB.out); clear hr c0; obtain ⟨_, c1⟩ := CE.out _ I2.out)
          | (go_at_call 33; refine (over_s (I2.out.ovs x (List.mem_of_getElem? HX.out)).2).mono ?_; rintro e W3 ⟨rfl, hr⟩; have I3 := hidIt (I2.out.over hr HB.out); clear hr c1)
          | (refine wpList_put_rec rfl 47 (.tmp 24) (.tmp 23) rfl L (k * 3) cs [.slice none 0 0, .slice none 0 0, .bool false] _ _ rfl rfl rfl I3.out.rc (by show k * 3 + 3 ≤ cs.length; rw [I3.out.len]; have := LT.out; have := HN.out; omega) rfl (by kernel_rfl) (by intro u hu; simp only [List.mem_cons, List.not_mem_nil, or_false] at hu; rcases hu with rfl | rfl | rfl <;> rfl) ?_; intro W4 R4 B4 z4; have I4 := hidIt (I3.out.next (by have := LT.out; have := HN.out; omega) R4 B4 HL.out HB.out (fun y _ hy => ⟨hy.1.but B4, hy.2.but B4⟩)); clear R4 B4 z4))
        exact ⟨⟨k + 1, _, LT.out, rfl, I4⟩, meas_k n k _ rfl LT.out⟩
      · have i0 : ((k : Int) < (n : Int)) = False := eq_false (by omega)
        have BF := hidIt hI.out.below
        clear hlt hk
        go_wp2_with fail
        exact bodyPost_end (by simp [results, Try.results12, go_sem]) rfl ⟨rfl, BF.out⟩
end Go.Proofs.Ytandkedipjmdbaa
