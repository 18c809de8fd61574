/-
  Walks, not a claim by itself: the reference's Check. By the verifier.
-/
import Derived.Test.YtelcijfcgflagaaLvAk
namespace Go.Proofs.Ytelcijfcgflagaa
open Go.RowKit
theorem less_cbR : ∀ (a b : List UInt8), Op.bytesLess a b = decide (Lib.compareBytes a b < 0)
  | [], [] => rfl
  | [], _ :: _ => rfl
  | _ :: _, [] => rfl
  | x :: a, y :: b => by
    unfold Op.bytesLess Lib.compareBytes
    by_cases h1 : x < y
    · simp [h1]
    · by_cases h2 : y < x
      · have : ¬ x = y := fun e => by subst e; exact h1 h2
        simp [h1, h2, this]
      · have e : x = y := UInt8.le_antisymm (UInt8.not_lt.1 h2) (UInt8.not_lt.1 h1)
        subst e
        simp [h1, less_cbR a b]
theorem less_isR (x y : ByteArray) : Op.bytesLess x.toList y.toList = decide (cmpB x y < 0) := by
  rw [ByteArray.toList_eq, ByteArray.toList_eq]
  exact less_cbR _ _
theorem conv_ofR {W : World} {N : List Nat} {s : Value} {t : ByteArray} (h : Txt W N s t) : (convert 43 9 s).run Try.prog W = .ok (.string t) W := by
  obtain ⟨a', C', f, rfl, hA, ht, _⟩ := h
  have := conv_arg W a' t.size C' f hA
  rwa [ht] at this
set_option maxRecDepth 100000 in
theorem nkeyed_any {W : World} {N : List Nat} {s : Value} {t : ByteArray} (h : Txt W N s t) : Calls Try.prog 49 #[s] W fun e w' => e = .returned (.bool (keyB t)) ∧ w' = W := by
  obtain ⟨a, C, f, rfl, _⟩ := h
  unfold keyB
  generalize t.size = n at *
  by_cases h1 : 1 ≤ n
  · have c1 : ((1 : Int) ≤ (n : Int)) = True := eq_true (by omega)
    have c1' : (1 ≤ n) = True := eq_true h1
    by_cases h2 : n ≤ 32
    · have c2 : ((n : Int) ≤ 32) = True := eq_true (by omega)
      have c2' : (n ≤ 32) = True := eq_true h2
      rw [decide_eq_true h1, decide_eq_true h2]
      clear h1 h2
      go_enter Try.func49, Try.ntmps49
      go_wp2_with fail
      exact bodyPost_ret (v := .bool true) (by simp [results, Try.results49, go_sem]) rfl ⟨rfl, rfl⟩
    · have c2 : ((n : Int) ≤ 32) = False := eq_false (by omega)
      have c2' : (n ≤ 32) = False := eq_false h2
      rw [decide_eq_true h1, decide_eq_false h2]
      clear h1 h2
      go_enter Try.func49, Try.ntmps49
      go_wp2_with fail
      exact bodyPost_ret (v := .bool false) (by simp [results, Try.results49, go_sem]) rfl ⟨rfl, rfl⟩
  · have c1 : ((1 : Int) ≤ (n : Int)) = False := eq_false (by omega)
    have c1' : (1 ≤ n) = False := eq_false h1
    rw [decide_eq_false h1]
    clear h1
    go_enter Try.func49, Try.ntmps49
    go_wp2_with fail
    exact bodyPost_ret (v := .bool false) (by simp [results, Try.results49, go_sem]) rfl ⟨rfl, rfl⟩
theorem okJ_at {ls : List LR} {n k : Nat} {x : LR} {y : RV} (hi : ls[n]? = some x) (hk : x.rs[k]? = some y) : okJ (flt 0 ls) (offL ls n + k) ↔ sndR y.r = true ∧ (0 < n → 0 < k → ∀ y', x.rs[k - 1]? = some y' → cmpB y'.r.l y.r.f < 0) := by
  have f1 := flt_at 0 ls n k x y hi hk
  rw [Nat.zero_add] at f1
  constructor
  · intro h
    obtain ⟨h1, h2⟩ := h n y f1
    refine ⟨h1, fun h0 hk0 y' hy' => h2 h0 (by omega) y' ?_⟩
    have f2 := flt_at 0 ls n (k - 1) x y' hi hy'
    rw [Nat.zero_add] at f2
    rw [show offL ls n + k - 1 = offL ls n + (k - 1) by omega]
    exact f2
  · rintro ⟨h1, h2⟩ i z hz
    rw [f1] at hz
    injection hz with hz
    injection hz with ha hb
    subst ha hb
    refine ⟨h1, fun h0 hj y' hy' => ?_⟩
    obtain ⟨i', k', x', a1, a2, a3, a4⟩ := flt_has 0 ls _ _ _ hy'
    obtain rfl : i' = n := by omega
    rw [hi] at a1
    injection a1 with a1
    subst a1
    exact h2 h0 (by omega) y' (by rw [show k - 1 = k' by omega]; exact a2)
theorem geq_str (a b : ByteArray) (w : World) : (binOp .geq 9 (.string a) (.string b)).run Try.prog w = .ok (.bool (!(Op.bytesLess a.toList b.toList))) w := rfl
theorem sub_ar (q m : Nat) (h : q + 1 < m) (hm : m ≤ 1000) : wrap64 (((q + 1 : Nat) : Int) - 1) = (q : Int) ∧ IntKind.i64.wrap (((q + 1 : Nat) : Int) - 1) = (q : Int) ∧ wrap64 ((q : Int) + 1 - 1) = (q : Int) ∧ IntKind.i64.wrap ((q : Int) + 1 - 1) = (q : Int) ∧ (0 : Int) ≤ (q : Int) ∧ (q : Int) < (m : Int) ∧ IntKind.i64.wrap (q : Int) = (q : Int) ∧ wrap64 (q : Int) = (q : Int) ∧ (0 : Int) < ((q + 1 : Nat) : Int) ∧ (0 : Int) < (q : Int) + 1 ∧ wrap64 ((q : Int) + 1 + 1) = ((q + 1 : Nat) : Int) + 1 ∧ IntKind.i64.wrap ((q : Int) + 1 + 1) = ((q + 1 : Nat) : Int) + 1 :=
  ⟨by unfold wrap64; omega, by rw [IntKind.wrap_i64]; omega, by unfold wrap64; omega, by rw [IntKind.wrap_i64]; omega, by omega, by omega, by rw [IntKind.wrap_i64]; omega, by unfold wrap64; omega, by omega, by omega, by unfold wrap64; omega, by rw [IntKind.wrap_i64]; omega⟩
/-- What holds at the heads of the loops. -/
def rcR (W : World) (ls : List LR) (L : Nat) (iv : Value) (wr : World) : Prop := ∃ n : Nat, n ≤ L ∧ iv = .int .i64 (n : Int) ∧ Hid (Below W.heap.size W wr ∧ ∀ j, j < offL ls n → okJ (flt 0 ls) j)
def rcI (W wr : World) (ls : List LR) (n m : Nat) (iv : Value) (w' : World) : Prop := ∃ k : Nat, k ≤ m ∧ iv = .int .i64 (k : Int) ∧ Hid (Below wr.heap.size wr w' ∧ Below W.heap.size W w' ∧ ∀ j, j < offL ls n + k → okJ (flt 0 ls) j)
set_option maxRecDepth 100000 in
set_option maxHeartbeats 4000000 in
theorem ncheck_any {W : World} {A : Option Addr} {ls : List LR} (L C : Nat) (hL : ls.length = L) (h : Lvs W A ls) (hs : ∀ x ∈ ls, x.rs.length ≤ 1000) : Calls Try.prog 22 #[.slice A L C] W fun e w' => e = .returned (.int .i64 (mayI (rns ls))) ∧ Below W.heap.size W w' := by
  have HL := hidIt h
  have HN := hidIt (And.intro hL hs)
  by_cases h4 : (4 : Int) < (L : Int)
  · have N : Hid (mayI (rns ls) = 2) := hidIt (by
      unfold mayI mayB
      rw [decide_eq_false (by simp [rns]; omega)]
      simp)
    clear h hL hs
    go_enter Try.func22, Try.ntmps22
    go_wp2
    exact bodyPost_ret (v := .int .i64 2) (by simp [results, Try.results22, go_sem]) rfl ⟨by rw [N.out], Below.refl _ _⟩
  · have h4' : ((4 : Int) < (L : Int)) = False := eq_false h4
    have F4 := hidIt (show L ≤ 4 by omega)
    have ST : Hid (rcR W ls L (.int .i64 0) W) := hidIt ⟨0, Nat.zero_le _, rfl, Below.refl _ _, fun j hj => by rw [offL_zero] at hj; omega⟩
    clear h hL hs h4
    go_enter Try.func22, Try.ntmps22
    go_wp2_with fail
    clear h4'
    go_loopw [3] (fun iv wr => rcR W ls L iv wr) (fun iv _ => L - (RowKit.intOf iv).toNat)
    case atStart => exact ST.out
    case round =>
      clear ST
      obtain ⟨n, hn, rfl, hI⟩ := hrel
      rename World => wr
      by_cases hlt : n < L
      · obtain ⟨x, hx⟩ : ∃ x, ls[n]? = some x := ⟨_, List.getElem?_eq_getElem (by have := HN.out.1; omega)⟩
        have HXC : Hid (∃ b o, A = some ⟨b, o, none⟩ ∧ ∀ w', Below wr.heap.size wr w' → w'.cell? ⟨b, o + n, none⟩ = some x.v) := hidIt (by
          obtain ⟨b, o, ha, hc, hb⟩ := (HL.out.below hI.out.1).at n x hx
          exact ⟨b, o, ha, fun w' hw => (hw.cell (p := ⟨b, o + n, none⟩) hb).trans hc⟩)
        obtain ⟨b, o, ha, hxc⟩ := HXC.out
        subst ha
        have HC := hidIt hxc
        have hc := hxc wr (Below.refl _ _)
        clear hxc HXC
        have LT := hidIt hlt
        have HX := hidIt hx
        have OX := hidIt (HL.out.1 x (List.mem_of_getElem? hx))
        have NX := hidIt (HN.out.2 x (List.mem_of_getElem? hx))
        have OS := hidIt (offL_succ ls n x hx)
        have AR := hidIt (tb_ar n L hlt (by have := F4.out; omega))
        have S2 : Hid (rcI W wr ls n x.rs.length (.int .i64 0) wr) := hidIt ⟨0, Nat.zero_le _, rfl, Below.refl _ _, hI.out.1, hI.out.2⟩
        unfold LR.v at hc HC
        clear hx hlt hn
        obtain ⟨m, hm⟩ : ∃ m, m = x.rs.length := ⟨_, rfl⟩
        rw [← hm] at hc S2 NX HC OS
        have HM := hidIt hm
        clear hm
        obtain ⟨i0, i1, i2, i3, _⟩ := AR.out
        go_wp2_with fail
        clear hc i0 i1 i2 i3
        go_loopw [4] (fun iv w5 => rcI W wr ls n m iv w5) (fun iv _ => m - (RowKit.intOf iv).toNat)
        case atStart => exact S2.out
        case round =>
          clear S2
          obtain ⟨k, hk, rfl, hJ⟩ := hrel
          rename World => Wi
          have hc := HC.out Wi hJ.out.1
          obtain ⟨n0, n1, _, _, _⟩ := AR.out
          by_cases hlt : k < m
          · obtain ⟨y, hy⟩ : ∃ y, x.rs[k]? = some y := ⟨_, List.getElem?_eq_getElem (by have := HM.out; omega)⟩
            obtain ⟨b2, o2, ha, hr, hb⟩ := ((OX.out.below hJ.out.2.1).1).at k y hy
            have OY := hidIt ((OX.out.1.1 y (List.mem_of_getElem? hy)).below hJ.out.2.1)
            have JT := hidIt hlt
            have OK := hidIt (okJ_at HX.out hy)
            have HY := hidIt hy
            obtain ⟨k0, k1, k2, k3, k4⟩ := tb_ar k m hlt (by have := NX.out; omega)
            have GO := hidIt k4
            rw [ha] at hc HC
            clear hb hy hlt hk k4
            go_wp2_with (first
              | (refine wpList_load_mid rfl 45 (.tmp 29) rfl b2 (o2 + k * 5) rfl y.cs _ hr Try.underlying45 rfl run_size ?_; clear hr)
              | (refine wpList_alloc_rec rfl 45 rfl _ Wi.heap.size rfl run_zero ?_; intro W2 R2 B2 z2; have E2 := hidIt (And.intro B2 z2); have P2 := hidIt R2; clear R2 B2 z2)
              | (refine wpList_store_rec rfl 45 (.tmp 5) (.tmp 30) rfl Wi.heap.size 0 _ y.cs rfl rfl P2.out rfl run_size OY.out.one ?_; intro W3 R3 B3; have E3 := hidIt (E2.out.1.trans (B3.below (Nat.le_refl _) (by have := E2.out.2; omega))); have P3 := hidIt R3; clear R3 B3; refine Held.out ?_))
            have OY3 := hidIt (OY.out.below E3.out)
            have B3 := hidIt (hJ.out.2.1.trans (E3.out.mono hJ.out.2.1.size))
            have BW := hidIt (hJ.out.1.trans (E3.out.mono hJ.out.1.size))
            have NB : Hid (¬ okJ (flt 0 ls) (offL ls n + k) → mayI (rns ls) = 2) := hidIt (fun q => by unfold mayI; rw [not_ok q]; rfl)
            have NXT : Hid (okJ (flt 0 ls) (offL ls n + k) → ∀ w', Below W3.heap.size W3 w' → rcI W wr ls n m (.int .i64 ((k : Int) + 1)) w') := hidIt (fun q w' hw => ⟨k + 1, JT.out, rfl, BW.out.trans (hw.mono BW.out.size), B3.out.trans (hw.mono B3.out.size), fun j hj => by
              by_cases e : j = offL ls n + k
              · rw [e]; exact q
              · exact hJ.out.2.2 j (by omega)⟩)
            obtain ⟨Hb, hHb⟩ : ∃ Hb, Hb = Wi.heap.size := ⟨_, rfl⟩
            rw [← hHb] at P3
            simp only [← hHb]
            obtain ⟨q0, q1, q2, q3, q4⟩ := five_cells P3.out.1
            have cf := conv_ofR OY3.out.1
            have cl := conv_ofR OY3.out.2
            have t1 : Hid True := trivial
            have cc := HC.out W3 BW.out
            clear P2 E2 hHb
            by_cases c1 : y.r.ct < 1
            · have e1 : (y.r.ct < 1) = True := eq_true c1
              have NO : Hid (mayI (rns ls) = 2) := hidIt (NB.out fun q => by have := (OK.out.1 q).1; unfold sndR at this; simp at this; omega)
              clear c1
              as_aux_lemma =>
                refine Held.mk ?_
                go_wp2_with fail
                exact bodyPost_ret (v := .int .i64 2) (by simp [results, Try.results22, go_sem]) rfl ⟨by rw [NO.out], B3.out⟩
            · have e1 : (y.r.ct < 1) = False := eq_false c1
              cases kf : keyB y.r.f with
              | false =>
                have KF := hidIt kf
                have NO : Hid (mayI (rns ls) = 2) := hidIt (NB.out fun q => by have := (OK.out.1 q).1; unfold sndR at this; rw [kf] at this; simp at this)
                clear kf c1
                as_aux_lemma =>
                  refine Held.mk ?_
                  go_wp2_with (go_at_call 49; refine (nkeyed_any OY3.out.1).mono ?_; rw [KF.out]; rintro e w4 ⟨rfl, hw⟩; rw [hw]; clear hw w4)
                  exact bodyPost_ret (v := .int .i64 2) (by simp [results, Try.results22, go_sem]) rfl ⟨by rw [NO.out], B3.out⟩
              | true =>
                have KF := hidIt kf
                cases kl : keyB y.r.l with
                | false =>
                  have KL := hidIt kl
                  have NO : Hid (mayI (rns ls) = 2) := hidIt (NB.out fun q => by have := (OK.out.1 q).1; unfold sndR at this; rw [kl] at this; simp at this)
                  clear kf kl c1
                  as_aux_lemma =>
                    refine Held.mk ?_
                    go_wp2_with (first
                      | (go_at_call 49; have _q := t1; clear t1 _q; refine (nkeyed_any OY3.out.1).mono ?_; rw [KF.out]; rintro e w4 ⟨rfl, hw⟩; rw [hw]; clear hw w4)
                      | (go_at_call 49; refine (nkeyed_any OY3.out.2).mono ?_; rw [KL.out]; rintro e w4 ⟨rfl, hw⟩; rw [hw]; clear hw w4))
                    exact bodyPost_ret (v := .int .i64 2) (by simp [results, Try.results22, go_sem]) rfl ⟨by rw [NO.out], B3.out⟩
                | true =>
                  have KL := hidIt kl
                  by_cases c2 : cmpB y.r.l y.r.f < 0
                  · have hb : Op.bytesLess y.r.l.toList y.r.f.toList = true := by rw [less_isR, decide_eq_true c2]
                    have NO : Hid (mayI (rns ls) = 2) := hidIt (NB.out fun q => by have := (OK.out.1 q).1; unfold sndR at this; simp at this; have a := c_anti y.r.l y.r.f; omega)
                    clear kf kl c1 c2
                    as_aux_lemma =>
                      refine Held.mk ?_
                      go_wp2_with (first
                        | (go_at_call 49; have _q := t1; clear t1 _q; refine (nkeyed_any OY3.out.1).mono ?_; rw [KF.out]; rintro e w4 ⟨rfl, hw⟩; rw [hw]; clear hw w4)
                        | (go_at_call 49; refine (nkeyed_any OY3.out.2).mono ?_; rw [KL.out]; rintro e w4 ⟨rfl, hw⟩; rw [hw]; clear hw w4))
                      exact bodyPost_ret (v := .int .i64 2) (by simp [results, Try.results22, go_sem]) rfl ⟨by rw [NO.out], B3.out⟩
                  · have hb : Op.bytesLess y.r.l.toList y.r.f.toList = false := by rw [less_isR, decide_eq_false c2]
                    have SN : Hid (sndR y.r = true) := hidIt (by unfold sndR; rw [kf, kl]; have a := c_anti y.r.l y.r.f; simp; omega)
                    clear kf kl c1 c2
                    refine Held.mk ?_
                    by_cases hn0 : 0 < n
                    · have g0 : ((0 : Int) < (n : Int)) = True := eq_true (by omega)
                      have g0' : (0 < n) = True := eq_true hn0
                      cases k with
                      | zero =>
                        have YES : Hid (okJ (flt 0 ls) (offL ls n + 0)) := hidIt (OK.out.2 ⟨SN.out, fun _ z => by omega⟩)
                        go_wp2_with (first
                          | (go_at_call 49; have _q := t1; clear t1 _q; refine (nkeyed_any OY3.out.1).mono ?_; rw [KF.out]; rintro e w4 ⟨rfl, hw⟩; rw [hw]; clear hw w4)
                          | (go_at_call 49; refine (nkeyed_any OY3.out.2).mono ?_; rw [KL.out]; rintro e w4 ⟨rfl, hw⟩; rw [hw]; clear hw w4))
                        refine wp_region_noPanic ?_
                        refine wp_region_held_drew (S := fun _ => True) (by kernel_rfl) ?_ (fun hHeld => ?_)
                        · trivial
                        refine take_at (i := 0) (v := ?_) (some 55) rfl rfl (by kernel_rfl) (by kernel_rfl) (by kernel_rfl) (fun _ _ _ h => h) (Or.inl ⟨by rfl, ?_⟩) (by assumption) ?_
                        rotate_left
                        · (intro w hSw; (try dsimp only at hSw); go_simp; try with_reducible rfl)
                        simp only [Act.put, List.setIfInBounds_toArray, List.set_cons_zero, List.set_cons_succ]
                        refine take_at (i := 1) (v := ?_) (some 56) rfl rfl (by kernel_rfl) (by kernel_rfl) (by kernel_rfl) (fun _ _ _ h => h) (Or.inl ⟨by rfl, ?_⟩) (by assumption) ?_
                        rotate_left
                        · (intro w hSw; (try dsimp only at hSw); go_simp; try with_reducible rfl)
                        simp only [Act.put, List.setIfInBounds_toArray, List.set_cons_zero, List.set_cons_succ]
                        refine take_at (i := 2) (v := ?_) (some 57) rfl rfl (by kernel_rfl) (by kernel_rfl) (by kernel_rfl) (fun _ _ _ h => h) (Or.inl ⟨by rfl, ?_⟩) (by assumption) ?_
                        rotate_left
                        · (intro w hSw; (try dsimp only at hSw); go_simp; try with_reducible rfl)
                        simp only [Act.put, List.setIfInBounds_toArray, List.set_cons_zero, List.set_cons_succ]
                        refine take_at (i := 3) (v := ?_) (some 58) rfl rfl (by kernel_rfl) (by kernel_rfl) (by kernel_rfl) (fun _ _ _ h => h) (Or.inl ⟨by rfl, ?_⟩) (by assumption) ?_
                        rotate_left
                        · (intro w hSw; (try dsimp only at hSw); go_simp; try with_reducible rfl)
                        simp only [Act.put, List.setIfInBounds_toArray, List.set_cons_zero, List.set_cons_succ]
                        refine take_at (i := 4) (v := ?_) (some 59) rfl rfl (by kernel_rfl) (by kernel_rfl) (by kernel_rfl) (fun _ _ _ h => h) (Or.inl ⟨by rfl, ?_⟩) (by assumption) ?_
                        rotate_left
                        · (intro w hSw; (try dsimp only at hSw); go_simp; try with_reducible rfl)
                        simp only [Act.put, List.setIfInBounds_toArray, List.set_cons_zero, List.set_cons_succ]
                        refine take_at (i := 5) (v := ?_) (some 60) rfl rfl (by kernel_rfl) (by kernel_rfl) (by kernel_rfl) (fun _ _ _ h => h) (Or.inl ⟨by rfl, ?_⟩) (by assumption) ?_
                        rotate_left
                        · (intro w hSw; (try dsimp only at hSw); go_simp; try with_reducible rfl)
                        simp only [Act.put, List.setIfInBounds_toArray, List.set_cons_zero, List.set_cons_succ]
                        refine take_at (i := 6) (v := ?_) (some 61) rfl rfl (by kernel_rfl) (by kernel_rfl) (by kernel_rfl) (fun _ _ _ h => h) (Or.inl ⟨by rfl, ?_⟩) (by assumption) ?_
                        rotate_left
                        · (intro w hSw; (try dsimp only at hSw); go_simp; try with_reducible rfl)
                        simp only [Act.put, List.setIfInBounds_toArray, List.set_cons_zero, List.set_cons_succ]
                        refine take_at (i := 7) (v := undef) (some 62) rfl rfl (by kernel_rfl) (by kernel_rfl) (by kernel_rfl) (fun _ _ _ h => h) (Or.inr ⟨by rfl, rfl⟩) (by assumption) ?_
                        simp only [Act.put, List.setIfInBounds_toArray, List.set_cons_zero, List.set_cons_succ]
                        refine take_at (i := 8) (v := undef) (some 63) rfl rfl (by kernel_rfl) (by kernel_rfl) (by kernel_rfl) (fun _ _ _ h => h) (Or.inr ⟨by rfl, rfl⟩) (by assumption) ?_
                        simp only [Act.put, List.setIfInBounds_toArray, List.set_cons_zero, List.set_cons_succ]
                        refine take_at (i := 9) (v := undef) (some 64) rfl rfl (by kernel_rfl) (by kernel_rfl) (by kernel_rfl) (fun _ _ _ h => h) (Or.inr ⟨by rfl, rfl⟩) (by assumption) ?_
                        simp only [Act.put, List.setIfInBounds_toArray, List.set_cons_zero, List.set_cons_succ]
                        refine take_at (i := 10) (v := undef) (some 65) rfl rfl (by kernel_rfl) (by kernel_rfl) (by kernel_rfl) (fun _ _ _ h => h) (Or.inr ⟨by rfl, rfl⟩) (by assumption) ?_
                        simp only [Act.put, List.setIfInBounds_toArray, List.set_cons_zero, List.set_cons_succ]
                        refine take_at (i := 11) (v := undef) (some 66) rfl rfl (by kernel_rfl) (by kernel_rfl) (by kernel_rfl) (fun _ _ _ h => h) (Or.inr ⟨by rfl, rfl⟩) (by assumption) ?_
                        simp only [Act.put, List.setIfInBounds_toArray, List.set_cons_zero, List.set_cons_succ]
                        refine take_at (i := 12) (v := undef) (some 67) rfl rfl (by kernel_rfl) (by kernel_rfl) (by kernel_rfl) (fun _ _ _ h => h) (Or.inr ⟨by rfl, rfl⟩) (by assumption) ?_
                        simp only [Act.put, List.setIfInBounds_toArray, List.set_cons_zero, List.set_cons_succ]
                        refine take_at (i := 13) (v := undef) (some 68) rfl rfl (by kernel_rfl) (by kernel_rfl) (by kernel_rfl) (fun _ _ _ h => h) (Or.inr ⟨by rfl, rfl⟩) (by assumption) ?_
                        simp only [Act.put, List.setIfInBounds_toArray, List.set_cons_zero, List.set_cons_succ]
                        refine take_at (i := 14) (v := undef) (some 69) rfl rfl (by kernel_rfl) (by kernel_rfl) (by kernel_rfl) (fun _ _ _ h => h) (Or.inr ⟨by rfl, rfl⟩) (by assumption) ?_
                        simp only [Act.put, List.setIfInBounds_toArray, List.set_cons_zero, List.set_cons_succ]
                        refine take_at (i := 15) (v := undef) (some 70) rfl rfl (by kernel_rfl) (by kernel_rfl) (by kernel_rfl) (fun _ _ _ h => h) (Or.inr ⟨by rfl, rfl⟩) (by assumption) ?_
                        simp only [Act.put, List.setIfInBounds_toArray, List.set_cons_zero, List.set_cons_succ]
                        refine take_at (i := 16) (v := undef) (some 71) rfl rfl (by kernel_rfl) (by kernel_rfl) (by kernel_rfl) (fun _ _ _ h => h) (Or.inr ⟨by rfl, rfl⟩) (by assumption) ?_
                        simp only [Act.put, List.setIfInBounds_toArray, List.set_cons_zero, List.set_cons_succ]
                        refine take_at (i := 17) (v := undef) (some 72) rfl rfl (by kernel_rfl) (by kernel_rfl) (by kernel_rfl) (fun _ _ _ h => h) (Or.inr ⟨by rfl, rfl⟩) (by assumption) ?_
                        simp only [Act.put, List.setIfInBounds_toArray, List.set_cons_zero, List.set_cons_succ]
                        refine take_at (i := 18) (v := undef) (some 73) rfl rfl (by kernel_rfl) (by kernel_rfl) (by kernel_rfl) (fun _ _ _ h => h) (Or.inr ⟨by rfl, rfl⟩) (by assumption) ?_
                        simp only [Act.put, List.setIfInBounds_toArray, List.set_cons_zero, List.set_cons_succ]
                        refine take_at (i := 19) (v := undef) (some 74) rfl rfl (by kernel_rfl) (by kernel_rfl) (by kernel_rfl) (fun _ _ _ h => h) (Or.inr ⟨by rfl, rfl⟩) (by assumption) ?_
                        simp only [Act.put, List.setIfInBounds_toArray, List.set_cons_zero, List.set_cons_succ]
                        refine take_at (i := 20) (v := undef) (some 75) rfl rfl (by kernel_rfl) (by kernel_rfl) (by kernel_rfl) (fun _ _ _ h => h) (Or.inr ⟨by rfl, rfl⟩) (by assumption) ?_
                        simp only [Act.put, List.setIfInBounds_toArray, List.set_cons_zero, List.set_cons_succ]
                        refine take_at (i := 21) (v := ?_) (some 76) rfl rfl (by kernel_rfl) (by kernel_rfl) (by kernel_rfl) (fun _ _ _ h => h) (Or.inl ⟨by rfl, ?_⟩) (by assumption) ?_
                        rotate_left
                        · (intro w hSw; (try dsimp only at hSw); go_simp; try with_reducible rfl)
                        simp only [Act.put, List.setIfInBounds_toArray, List.set_cons_zero, List.set_cons_succ]
                        refine wpAnyH_done (by kernel_rfl) ?_ _
                        refine NoPanic.normal ?_
                        go_wp2_with fail
                        exact ⟨NXT.out YES.out _ (Below.refl _ _).drew, GO.out⟩
                      | succ q =>
                        obtain ⟨y', hy'⟩ : ∃ y', x.rs[q]? = some y' := ⟨_, List.getElem?_eq_getElem (by have := HM.out; have := JT.out; omega)⟩
                        obtain ⟨b2', o2', ha', hr', hb'⟩ := ((OX.out.below B3.out).1).at q y' hy'
                        rw [ha] at ha'
                        injection ha' with ha'
                        injection ha' with h1 h2
                        subst h1 h2
                        have cy : W3.cell? ⟨b2, o2 + q * 5 + 4, none⟩ = some y'.l := (five_cells hr').2.2.2.2
                        have OY' := hidIt ((OX.out.1.1 y' (List.mem_of_getElem? hy')).below B3.out)
                        have OKX : Hid ((convert 43 9 y'.l).run Try.prog W3.drew = .ok (.string y'.r.l) W3.drew ∧ (convert 43 9 y.f).run Try.prog W3.drew = .ok (.string y.r.f) W3.drew) := hidIt ⟨conv_ofR (OY'.out.below (Below.refl _ _).drew).2, conv_ofR (OY3.out.below (Below.refl _ _).drew).1⟩
                        obtain ⟨w1, w2, w3, w4, w5, w6, w9, w10, w7, w8, w11, w12⟩ := sub_ar q m JT.out NX.out
                        have hge := fun w => geq_str y'.r.l y.r.f w
                        have HY' := hidIt hy'
                        clear hr' hb' hy'
                        by_cases c3 : cmpB y'.r.l y.r.f < 0
                        · have hb3 : Op.bytesLess y'.r.l.toList y.r.f.toList = true := by rw [less_isR, decide_eq_true c3]
                          have YES : Hid (okJ (flt 0 ls) (offL ls n + (q + 1))) := hidIt (OK.out.2 ⟨SN.out, fun _ _ z hz => by
                            rw [Nat.add_sub_cancel, HY'.out] at hz
                            injection hz with hz
                            rw [← hz]
                            exact c3⟩)
                          clear c3
                          go_wp2_with (first
                            | (go_at_call 49; have _q := t1; clear t1 _q; refine (nkeyed_any OY3.out.1).mono ?_; rw [KF.out]; rintro e w4 ⟨rfl, hw⟩; rw [hw]; clear hw w4)
                            | (go_at_call 49; refine (nkeyed_any OY3.out.2).mono ?_; rw [KL.out]; rintro e w4 ⟨rfl, hw⟩; rw [hw]; clear hw w4))
                          refine wp_region_noPanic ?_
                          refine wp_region_held_drew (S := fun w' => w'.cell? ⟨b, o + n, none⟩ = some (.slice (some ⟨b2, o2, none⟩) m x.c) ∧ w'.cell? ⟨b2, o2 + q * 5 + 4, none⟩ = some y'.l ∧ w'.cell? ⟨Hb, 3, none⟩ = some y.f ∧ (convert 43 9 y'.l).run Try.prog w' = .ok (.string y'.r.l) w' ∧ (convert 43 9 y.f).run Try.prog w' = .ok (.string y.r.f) w') (by kernel_rfl) ?_ (fun hHeld => ?_)
                          · exact ⟨cc, cy, q3, OKX.out.1, OKX.out.2⟩
                          refine take_at (i := 0) (v := ?_) (some 55) rfl rfl (by kernel_rfl) (by kernel_rfl) (by kernel_rfl) (fun _ _ _ h => h) (Or.inl ⟨by rfl, ?_⟩) (by assumption) ?_
                          rotate_left
                          · (intro w hSw; (try dsimp only at hSw); go_simp; try with_reducible rfl)
                          simp only [Act.put, List.setIfInBounds_toArray, List.set_cons_zero, List.set_cons_succ]
                          refine take_at (i := 1) (v := ?_) (some 56) rfl rfl (by kernel_rfl) (by kernel_rfl) (by kernel_rfl) (fun _ _ _ h => h) (Or.inl ⟨by rfl, ?_⟩) (by assumption) ?_
                          rotate_left
                          · (intro w hSw; (try dsimp only at hSw); go_simp; try with_reducible rfl)
                          simp only [Act.put, List.setIfInBounds_toArray, List.set_cons_zero, List.set_cons_succ]
                          refine take_at (i := 2) (v := ?_) (some 57) rfl rfl (by kernel_rfl) (by kernel_rfl) (by kernel_rfl) (fun _ _ _ h => h) (Or.inl ⟨by rfl, ?_⟩) (by assumption) ?_
                          rotate_left
                          · (intro w hSw; (try dsimp only at hSw); go_simp; try with_reducible rfl)
                          simp only [Act.put, List.setIfInBounds_toArray, List.set_cons_zero, List.set_cons_succ]
                          refine take_at (i := 3) (v := ?_) (some 58) rfl rfl (by kernel_rfl) (by kernel_rfl) (by kernel_rfl) (fun _ _ _ h => h) (Or.inl ⟨by rfl, ?_⟩) (by assumption) ?_
                          rotate_left
                          · (intro w hSw; (try dsimp only at hSw); go_simp; try with_reducible rfl)
                          simp only [Act.put, List.setIfInBounds_toArray, List.set_cons_zero, List.set_cons_succ]
                          refine take_at (i := 4) (v := ?_) (some 59) rfl rfl (by kernel_rfl) (by kernel_rfl) (by kernel_rfl) (fun _ _ _ h => h) (Or.inl ⟨by rfl, ?_⟩) (by assumption) ?_
                          rotate_left
                          · (intro w hSw; (try dsimp only at hSw); go_simp; try with_reducible rfl)
                          simp only [Act.put, List.setIfInBounds_toArray, List.set_cons_zero, List.set_cons_succ]
                          refine take_at (i := 5) (v := ?_) (some 60) rfl rfl (by kernel_rfl) (by kernel_rfl) (by kernel_rfl) (fun _ _ _ h => h) (Or.inl ⟨by rfl, ?_⟩) (by assumption) ?_
                          rotate_left
                          · (intro w hSw; (try dsimp only at hSw); go_simp; try with_reducible rfl)
                          simp only [Act.put, List.setIfInBounds_toArray, List.set_cons_zero, List.set_cons_succ]
                          refine take_at (i := 6) (v := ?_) (some 61) rfl rfl (by kernel_rfl) (by kernel_rfl) (by kernel_rfl) (fun _ _ _ h => h) (Or.inl ⟨by rfl, ?_⟩) (by assumption) ?_
                          rotate_left
                          · (intro w hSw; (try dsimp only at hSw); go_simp; try with_reducible rfl)
                          simp only [Act.put, List.setIfInBounds_toArray, List.set_cons_zero, List.set_cons_succ]
                          refine take_at (i := 7) (v := ?_) (some 62) rfl rfl (by kernel_rfl) (by kernel_rfl) (by kernel_rfl) (fun _ _ _ h => h) (Or.inl ⟨by rfl, ?_⟩) (by assumption) ?_
                          rotate_left
                          · (intro w hSw; (try dsimp only at hSw); go_simp; try with_reducible rfl)
                          simp only [Act.put, List.setIfInBounds_toArray, List.set_cons_zero, List.set_cons_succ]
                          refine take_at (i := 8) (v := ?_) (some 63) rfl rfl (by kernel_rfl) (by kernel_rfl) (by kernel_rfl) (fun _ _ _ h => h) (Or.inl ⟨by rfl, ?_⟩) (by assumption) ?_
                          rotate_left
                          · (intro w hSw; (try dsimp only at hSw); go_simp; try with_reducible rfl)
                          simp only [Act.put, List.setIfInBounds_toArray, List.set_cons_zero, List.set_cons_succ]
                          refine take_at (i := 9) (v := ?_) (some 64) rfl rfl (by kernel_rfl) (by kernel_rfl) (by kernel_rfl) (fun _ _ _ h => h) (Or.inl ⟨by rfl, ?_⟩) (by assumption) ?_
                          rotate_left
                          · (intro w hSw; (try dsimp only at hSw); go_simp; try with_reducible rfl)
                          simp only [Act.put, List.setIfInBounds_toArray, List.set_cons_zero, List.set_cons_succ]
                          refine take_at (i := 10) (v := ?_) (some 65) rfl rfl (by kernel_rfl) (by kernel_rfl) (by kernel_rfl) (fun _ _ _ h => h) (Or.inl ⟨by rfl, ?_⟩) (by assumption) ?_
                          rotate_left
                          · (intro w hSw; (try dsimp only at hSw); go_simp; try with_reducible rfl)
                          simp only [Act.put, List.setIfInBounds_toArray, List.set_cons_zero, List.set_cons_succ]
                          refine take_at (i := 11) (v := ?_) (some 66) rfl rfl (by kernel_rfl) (by kernel_rfl) (by kernel_rfl) (fun _ _ _ h => h) (Or.inl ⟨by rfl, ?_⟩) (by assumption) ?_
                          rotate_left
                          · (intro w hSw; (try dsimp only at hSw); go_simp; try with_reducible rfl)
                          simp only [Act.put, List.setIfInBounds_toArray, List.set_cons_zero, List.set_cons_succ]
                          refine take_at (i := 12) (v := ?_) (some 67) rfl rfl (by kernel_rfl) (by kernel_rfl) (by kernel_rfl) (fun _ _ _ h => h) (Or.inl ⟨by rfl, ?_⟩) (by assumption) ?_
                          rotate_left
                          · (intro w hSw; (try dsimp only at hSw); go_simp; try with_reducible rfl)
                          simp only [Act.put, List.setIfInBounds_toArray, List.set_cons_zero, List.set_cons_succ]
                          refine take_at (i := 13) (v := ?_) (some 68) rfl rfl (by kernel_rfl) (by kernel_rfl) (by kernel_rfl) (fun _ _ _ h => h) (Or.inl ⟨by rfl, ?_⟩) (by assumption) ?_
                          rotate_left
                          · (intro w hSw; (try dsimp only at hSw); go_simp; try with_reducible rfl)
                          simp only [Act.put, List.setIfInBounds_toArray, List.set_cons_zero, List.set_cons_succ]
                          refine take_at (i := 14) (v := ?_) (some 69) rfl rfl (by kernel_rfl) (by kernel_rfl) (by kernel_rfl) (fun _ _ _ h => h) (Or.inl ⟨by rfl, ?_⟩) (by assumption) ?_
                          rotate_left
                          · (intro w hSw; (try dsimp only at hSw); go_simp; try with_reducible rfl)
                          simp only [Act.put, List.setIfInBounds_toArray, List.set_cons_zero, List.set_cons_succ]
                          refine take_at (i := 15) (v := ?_) (some 70) rfl rfl (by kernel_rfl) (by kernel_rfl) (by kernel_rfl) (fun _ _ _ h => h) (Or.inl ⟨by rfl, ?_⟩) (by assumption) ?_
                          rotate_left
                          · (intro w hSw; (try dsimp only at hSw); go_simp; try with_reducible rfl)
                          simp only [Act.put, List.setIfInBounds_toArray, List.set_cons_zero, List.set_cons_succ]
                          refine take_at (i := 16) (v := ?_) (some 71) rfl rfl (by kernel_rfl) (by kernel_rfl) (by kernel_rfl) (fun _ _ _ h => h) (Or.inl ⟨by rfl, ?_⟩) (by assumption) ?_
                          rotate_left
                          · (intro w hSw; (try dsimp only at hSw); go_simp; try with_reducible rfl)
                          simp only [Act.put, List.setIfInBounds_toArray, List.set_cons_zero, List.set_cons_succ]
                          refine take_at (i := 17) (v := ?_) (some 72) rfl rfl (by kernel_rfl) (by kernel_rfl) (by kernel_rfl) (fun _ _ _ h => h) (Or.inl ⟨by rfl, ?_⟩) (by assumption) ?_
                          rotate_left
                          · (intro w hSw; (try dsimp only at hSw); go_simp; try with_reducible rfl)
                          simp only [Act.put, List.setIfInBounds_toArray, List.set_cons_zero, List.set_cons_succ]
                          refine take_at (i := 18) (v := ?_) (some 73) rfl rfl (by kernel_rfl) (by kernel_rfl) (by kernel_rfl) (fun _ _ _ h => h) (Or.inl ⟨by rfl, ?_⟩) (by assumption) ?_
                          rotate_left
                          · (intro w hSw; (try dsimp only at hSw); go_simp; try with_reducible rfl)
                          simp only [Act.put, List.setIfInBounds_toArray, List.set_cons_zero, List.set_cons_succ]
                          refine take_at (i := 19) (v := ?_) (some 74) rfl rfl (by kernel_rfl) (by kernel_rfl) (by kernel_rfl) (fun _ _ _ h => h) (Or.inl ⟨by rfl, ?_⟩) (by assumption) ?_
                          rotate_left
                          · (intro w hSw; (try dsimp only at hSw); go_simp; try with_reducible rfl)
                          simp only [Act.put, List.setIfInBounds_toArray, List.set_cons_zero, List.set_cons_succ]
                          refine take_at (i := 20) (v := ?_) (some 75) rfl rfl (by kernel_rfl) (by kernel_rfl) (by kernel_rfl) (fun _ _ _ h => h) (Or.inl ⟨by rfl, ?_⟩) (by assumption) ?_
                          rotate_left
                          · (intro w hSw; (try dsimp only at hSw); go_simp; try with_reducible rfl)
                          simp only [Act.put, List.setIfInBounds_toArray, List.set_cons_zero, List.set_cons_succ]
                          refine take_at (i := 21) (v := ?_) (some 76) rfl rfl (by kernel_rfl) (by kernel_rfl) (by kernel_rfl) (fun _ _ _ h => h) (Or.inl ⟨by rfl, ?_⟩) (by assumption) ?_
                          rotate_left
                          · (intro w hSw; (try dsimp only at hSw); go_simp; try with_reducible rfl)
                          simp only [Act.put, List.setIfInBounds_toArray, List.set_cons_zero, List.set_cons_succ]
                          refine wpAnyH_done (by kernel_rfl) ?_ _
                          refine NoPanic.normal ?_
                          go_wp2_with fail
                          exact ⟨NXT.out YES.out _ (Below.refl _ _).drew, GO.out⟩
                        · have hb3 : Op.bytesLess y'.r.l.toList y.r.f.toList = false := by rw [less_isR, decide_eq_false c3]
                          have NO : Hid (mayI (rns ls) = 2) := hidIt (NB.out fun z => c3 ((OK.out.1 z).2 hn0 (Nat.succ_pos q) y' (by rw [Nat.add_sub_cancel]; exact HY'.out)))
                          clear c3
                          go_wp2_with (first
                            | (go_at_call 49; have _q := t1; clear t1 _q; refine (nkeyed_any OY3.out.1).mono ?_; rw [KF.out]; rintro e w4 ⟨rfl, hw⟩; rw [hw]; clear hw w4)
                            | (go_at_call 49; refine (nkeyed_any OY3.out.2).mono ?_; rw [KL.out]; rintro e w4 ⟨rfl, hw⟩; rw [hw]; clear hw w4))
                          refine wp_region_noPanic ?_
                          refine wp_region_held_drew (S := fun w' => w'.cell? ⟨b, o + n, none⟩ = some (.slice (some ⟨b2, o2, none⟩) m x.c) ∧ w'.cell? ⟨b2, o2 + q * 5 + 4, none⟩ = some y'.l ∧ w'.cell? ⟨Hb, 3, none⟩ = some y.f ∧ (convert 43 9 y'.l).run Try.prog w' = .ok (.string y'.r.l) w' ∧ (convert 43 9 y.f).run Try.prog w' = .ok (.string y.r.f) w') (by kernel_rfl) ?_ (fun hHeld => ?_)
                          · exact ⟨cc, cy, q3, OKX.out.1, OKX.out.2⟩
                          refine take_at (i := 0) (v := ?_) (some 55) rfl rfl (by kernel_rfl) (by kernel_rfl) (by kernel_rfl) (fun _ _ _ h => h) (Or.inl ⟨by rfl, ?_⟩) (by assumption) ?_
                          rotate_left
                          · (intro w hSw; (try dsimp only at hSw); go_simp; try with_reducible rfl)
                          simp only [Act.put, List.setIfInBounds_toArray, List.set_cons_zero, List.set_cons_succ]
                          refine take_at (i := 1) (v := ?_) (some 56) rfl rfl (by kernel_rfl) (by kernel_rfl) (by kernel_rfl) (fun _ _ _ h => h) (Or.inl ⟨by rfl, ?_⟩) (by assumption) ?_
                          rotate_left
                          · (intro w hSw; (try dsimp only at hSw); go_simp; try with_reducible rfl)
                          simp only [Act.put, List.setIfInBounds_toArray, List.set_cons_zero, List.set_cons_succ]
                          refine take_at (i := 2) (v := ?_) (some 57) rfl rfl (by kernel_rfl) (by kernel_rfl) (by kernel_rfl) (fun _ _ _ h => h) (Or.inl ⟨by rfl, ?_⟩) (by assumption) ?_
                          rotate_left
                          · (intro w hSw; (try dsimp only at hSw); go_simp; try with_reducible rfl)
                          simp only [Act.put, List.setIfInBounds_toArray, List.set_cons_zero, List.set_cons_succ]
                          refine take_at (i := 3) (v := ?_) (some 58) rfl rfl (by kernel_rfl) (by kernel_rfl) (by kernel_rfl) (fun _ _ _ h => h) (Or.inl ⟨by rfl, ?_⟩) (by assumption) ?_
                          rotate_left
                          · (intro w hSw; (try dsimp only at hSw); go_simp; try with_reducible rfl)
                          simp only [Act.put, List.setIfInBounds_toArray, List.set_cons_zero, List.set_cons_succ]
                          refine take_at (i := 4) (v := ?_) (some 59) rfl rfl (by kernel_rfl) (by kernel_rfl) (by kernel_rfl) (fun _ _ _ h => h) (Or.inl ⟨by rfl, ?_⟩) (by assumption) ?_
                          rotate_left
                          · (intro w hSw; (try dsimp only at hSw); go_simp; try with_reducible rfl)
                          simp only [Act.put, List.setIfInBounds_toArray, List.set_cons_zero, List.set_cons_succ]
                          refine take_at (i := 5) (v := ?_) (some 60) rfl rfl (by kernel_rfl) (by kernel_rfl) (by kernel_rfl) (fun _ _ _ h => h) (Or.inl ⟨by rfl, ?_⟩) (by assumption) ?_
                          rotate_left
                          · (intro w hSw; (try dsimp only at hSw); go_simp; try with_reducible rfl)
                          simp only [Act.put, List.setIfInBounds_toArray, List.set_cons_zero, List.set_cons_succ]
                          refine take_at (i := 6) (v := ?_) (some 61) rfl rfl (by kernel_rfl) (by kernel_rfl) (by kernel_rfl) (fun _ _ _ h => h) (Or.inl ⟨by rfl, ?_⟩) (by assumption) ?_
                          rotate_left
                          · (intro w hSw; (try dsimp only at hSw); go_simp; try with_reducible rfl)
                          simp only [Act.put, List.setIfInBounds_toArray, List.set_cons_zero, List.set_cons_succ]
                          refine take_at (i := 7) (v := ?_) (some 62) rfl rfl (by kernel_rfl) (by kernel_rfl) (by kernel_rfl) (fun _ _ _ h => h) (Or.inl ⟨by rfl, ?_⟩) (by assumption) ?_
                          rotate_left
                          · (intro w hSw; (try dsimp only at hSw); go_simp; try with_reducible rfl)
                          simp only [Act.put, List.setIfInBounds_toArray, List.set_cons_zero, List.set_cons_succ]
                          refine take_at (i := 8) (v := ?_) (some 63) rfl rfl (by kernel_rfl) (by kernel_rfl) (by kernel_rfl) (fun _ _ _ h => h) (Or.inl ⟨by rfl, ?_⟩) (by assumption) ?_
                          rotate_left
                          · (intro w hSw; (try dsimp only at hSw); go_simp; try with_reducible rfl)
                          simp only [Act.put, List.setIfInBounds_toArray, List.set_cons_zero, List.set_cons_succ]
                          refine take_at (i := 9) (v := ?_) (some 64) rfl rfl (by kernel_rfl) (by kernel_rfl) (by kernel_rfl) (fun _ _ _ h => h) (Or.inl ⟨by rfl, ?_⟩) (by assumption) ?_
                          rotate_left
                          · (intro w hSw; (try dsimp only at hSw); go_simp; try with_reducible rfl)
                          simp only [Act.put, List.setIfInBounds_toArray, List.set_cons_zero, List.set_cons_succ]
                          refine take_at (i := 10) (v := ?_) (some 65) rfl rfl (by kernel_rfl) (by kernel_rfl) (by kernel_rfl) (fun _ _ _ h => h) (Or.inl ⟨by rfl, ?_⟩) (by assumption) ?_
                          rotate_left
                          · (intro w hSw; (try dsimp only at hSw); go_simp; try with_reducible rfl)
                          simp only [Act.put, List.setIfInBounds_toArray, List.set_cons_zero, List.set_cons_succ]
                          refine take_at (i := 11) (v := ?_) (some 66) rfl rfl (by kernel_rfl) (by kernel_rfl) (by kernel_rfl) (fun _ _ _ h => h) (Or.inl ⟨by rfl, ?_⟩) (by assumption) ?_
                          rotate_left
                          · (intro w hSw; (try dsimp only at hSw); go_simp; try with_reducible rfl)
                          simp only [Act.put, List.setIfInBounds_toArray, List.set_cons_zero, List.set_cons_succ]
                          refine take_at (i := 12) (v := ?_) (some 67) rfl rfl (by kernel_rfl) (by kernel_rfl) (by kernel_rfl) (fun _ _ _ h => h) (Or.inl ⟨by rfl, ?_⟩) (by assumption) ?_
                          rotate_left
                          · (intro w hSw; (try dsimp only at hSw); go_simp; try with_reducible rfl)
                          simp only [Act.put, List.setIfInBounds_toArray, List.set_cons_zero, List.set_cons_succ]
                          refine take_at (i := 13) (v := ?_) (some 68) rfl rfl (by kernel_rfl) (by kernel_rfl) (by kernel_rfl) (fun _ _ _ h => h) (Or.inl ⟨by rfl, ?_⟩) (by assumption) ?_
                          rotate_left
                          · (intro w hSw; (try dsimp only at hSw); go_simp; try with_reducible rfl)
                          simp only [Act.put, List.setIfInBounds_toArray, List.set_cons_zero, List.set_cons_succ]
                          refine take_at (i := 14) (v := ?_) (some 69) rfl rfl (by kernel_rfl) (by kernel_rfl) (by kernel_rfl) (fun _ _ _ h => h) (Or.inl ⟨by rfl, ?_⟩) (by assumption) ?_
                          rotate_left
                          · (intro w hSw; (try dsimp only at hSw); go_simp; try with_reducible rfl)
                          simp only [Act.put, List.setIfInBounds_toArray, List.set_cons_zero, List.set_cons_succ]
                          refine take_at (i := 15) (v := ?_) (some 70) rfl rfl (by kernel_rfl) (by kernel_rfl) (by kernel_rfl) (fun _ _ _ h => h) (Or.inl ⟨by rfl, ?_⟩) (by assumption) ?_
                          rotate_left
                          · (intro w hSw; (try dsimp only at hSw); go_simp; try with_reducible rfl)
                          simp only [Act.put, List.setIfInBounds_toArray, List.set_cons_zero, List.set_cons_succ]
                          refine take_at (i := 16) (v := ?_) (some 71) rfl rfl (by kernel_rfl) (by kernel_rfl) (by kernel_rfl) (fun _ _ _ h => h) (Or.inl ⟨by rfl, ?_⟩) (by assumption) ?_
                          rotate_left
                          · (intro w hSw; (try dsimp only at hSw); go_simp; try with_reducible rfl)
                          simp only [Act.put, List.setIfInBounds_toArray, List.set_cons_zero, List.set_cons_succ]
                          refine take_at (i := 17) (v := ?_) (some 72) rfl rfl (by kernel_rfl) (by kernel_rfl) (by kernel_rfl) (fun _ _ _ h => h) (Or.inl ⟨by rfl, ?_⟩) (by assumption) ?_
                          rotate_left
                          · (intro w hSw; (try dsimp only at hSw); go_simp; try with_reducible rfl)
                          simp only [Act.put, List.setIfInBounds_toArray, List.set_cons_zero, List.set_cons_succ]
                          refine take_at (i := 18) (v := ?_) (some 73) rfl rfl (by kernel_rfl) (by kernel_rfl) (by kernel_rfl) (fun _ _ _ h => h) (Or.inl ⟨by rfl, ?_⟩) (by assumption) ?_
                          rotate_left
                          · (intro w hSw; (try dsimp only at hSw); go_simp; try with_reducible rfl)
                          simp only [Act.put, List.setIfInBounds_toArray, List.set_cons_zero, List.set_cons_succ]
                          refine take_at (i := 19) (v := ?_) (some 74) rfl rfl (by kernel_rfl) (by kernel_rfl) (by kernel_rfl) (fun _ _ _ h => h) (Or.inl ⟨by rfl, ?_⟩) (by assumption) ?_
                          rotate_left
                          · (intro w hSw; (try dsimp only at hSw); go_simp; try with_reducible rfl)
                          simp only [Act.put, List.setIfInBounds_toArray, List.set_cons_zero, List.set_cons_succ]
                          refine take_at (i := 20) (v := ?_) (some 75) rfl rfl (by kernel_rfl) (by kernel_rfl) (by kernel_rfl) (fun _ _ _ h => h) (Or.inl ⟨by rfl, ?_⟩) (by assumption) ?_
                          rotate_left
                          · (intro w hSw; (try dsimp only at hSw); go_simp; try with_reducible rfl)
                          simp only [Act.put, List.setIfInBounds_toArray, List.set_cons_zero, List.set_cons_succ]
                          refine take_at (i := 21) (v := ?_) (some 76) rfl rfl (by kernel_rfl) (by kernel_rfl) (by kernel_rfl) (fun _ _ _ h => h) (Or.inl ⟨by rfl, ?_⟩) (by assumption) ?_
                          rotate_left
                          · (intro w hSw; (try dsimp only at hSw); go_simp; try with_reducible rfl)
                          simp only [Act.put, List.setIfInBounds_toArray, List.set_cons_zero, List.set_cons_succ]
                          refine wpAnyH_done (by kernel_rfl) ?_ _
                          refine NoPanic.normal ?_
                          go_wp2_with fail
                          exact bodyPost_ret (v := .int .i64 2) (by simp [results, Try.results22, go_sem]) rfl ⟨by rw [NO.out], B3.out.drew⟩
                    · have g0 : ((0 : Int) < (n : Int)) = False := eq_false (by omega)
                      have g0' : (0 < n) = False := eq_false hn0
                      have g0'' : (n = 0) = True := eq_true (by omega)
                      have YES : Hid (okJ (flt 0 ls) (offL ls n + k)) := hidIt (OK.out.2 ⟨SN.out, fun z => absurd z hn0⟩)
                      go_wp2_with (first
                        | (go_at_call 49; have _q := t1; clear t1 _q; refine (nkeyed_any OY3.out.1).mono ?_; rw [KF.out]; rintro e w4 ⟨rfl, hw⟩; rw [hw]; clear hw w4)
                        | (go_at_call 49; refine (nkeyed_any OY3.out.2).mono ?_; rw [KL.out]; rintro e w4 ⟨rfl, hw⟩; rw [hw]; clear hw w4))
                      refine wp_region_noPanic ?_
                      refine wp_region_held_drew (S := fun _ => True) (by kernel_rfl) ?_ (fun hHeld => ?_)
                      · trivial
                      refine take_at (i := 0) (v := ?_) (some 55) rfl rfl (by kernel_rfl) (by kernel_rfl) (by kernel_rfl) (fun _ _ _ h => h) (Or.inl ⟨by rfl, ?_⟩) (by assumption) ?_
                      rotate_left
                      · (intro w hSw; (try dsimp only at hSw); go_simp; try with_reducible rfl)
                      simp only [Act.put, List.setIfInBounds_toArray, List.set_cons_zero, List.set_cons_succ]
                      refine take_at (i := 1) (v := ?_) (some 56) rfl rfl (by kernel_rfl) (by kernel_rfl) (by kernel_rfl) (fun _ _ _ h => h) (Or.inl ⟨by rfl, ?_⟩) (by assumption) ?_
                      rotate_left
                      · (intro w hSw; (try dsimp only at hSw); go_simp; try with_reducible rfl)
                      simp only [Act.put, List.setIfInBounds_toArray, List.set_cons_zero, List.set_cons_succ]
                      refine take_at (i := 2) (v := ?_) (some 57) rfl rfl (by kernel_rfl) (by kernel_rfl) (by kernel_rfl) (fun _ _ _ h => h) (Or.inl ⟨by rfl, ?_⟩) (by assumption) ?_
                      rotate_left
                      · (intro w hSw; (try dsimp only at hSw); go_simp; try with_reducible rfl)
                      simp only [Act.put, List.setIfInBounds_toArray, List.set_cons_zero, List.set_cons_succ]
                      refine take_at (i := 3) (v := undef) (some 58) rfl rfl (by kernel_rfl) (by kernel_rfl) (by kernel_rfl) (fun _ _ _ h => h) (Or.inr ⟨by rfl, rfl⟩) (by assumption) ?_
                      simp only [Act.put, List.setIfInBounds_toArray, List.set_cons_zero, List.set_cons_succ]
                      refine take_at (i := 4) (v := undef) (some 59) rfl rfl (by kernel_rfl) (by kernel_rfl) (by kernel_rfl) (fun _ _ _ h => h) (Or.inr ⟨by rfl, rfl⟩) (by assumption) ?_
                      simp only [Act.put, List.setIfInBounds_toArray, List.set_cons_zero, List.set_cons_succ]
                      refine take_at (i := 5) (v := ?_) (some 60) rfl rfl (by kernel_rfl) (by kernel_rfl) (by kernel_rfl) (fun _ _ _ h => h) (Or.inl ⟨by rfl, ?_⟩) (by assumption) ?_
                      rotate_left
                      · (intro w hSw; (try dsimp only at hSw); go_simp; try with_reducible rfl)
                      simp only [Act.put, List.setIfInBounds_toArray, List.set_cons_zero, List.set_cons_succ]
                      refine take_at (i := 6) (v := ?_) (some 61) rfl rfl (by kernel_rfl) (by kernel_rfl) (by kernel_rfl) (fun _ _ _ h => h) (Or.inl ⟨by rfl, ?_⟩) (by assumption) ?_
                      rotate_left
                      · (intro w hSw; (try dsimp only at hSw); go_simp; try with_reducible rfl)
                      simp only [Act.put, List.setIfInBounds_toArray, List.set_cons_zero, List.set_cons_succ]
                      refine take_at (i := 7) (v := undef) (some 62) rfl rfl (by kernel_rfl) (by kernel_rfl) (by kernel_rfl) (fun _ _ _ h => h) (Or.inr ⟨by rfl, rfl⟩) (by assumption) ?_
                      simp only [Act.put, List.setIfInBounds_toArray, List.set_cons_zero, List.set_cons_succ]
                      refine take_at (i := 8) (v := undef) (some 63) rfl rfl (by kernel_rfl) (by kernel_rfl) (by kernel_rfl) (fun _ _ _ h => h) (Or.inr ⟨by rfl, rfl⟩) (by assumption) ?_
                      simp only [Act.put, List.setIfInBounds_toArray, List.set_cons_zero, List.set_cons_succ]
                      refine take_at (i := 9) (v := undef) (some 64) rfl rfl (by kernel_rfl) (by kernel_rfl) (by kernel_rfl) (fun _ _ _ h => h) (Or.inr ⟨by rfl, rfl⟩) (by assumption) ?_
                      simp only [Act.put, List.setIfInBounds_toArray, List.set_cons_zero, List.set_cons_succ]
                      refine take_at (i := 10) (v := undef) (some 65) rfl rfl (by kernel_rfl) (by kernel_rfl) (by kernel_rfl) (fun _ _ _ h => h) (Or.inr ⟨by rfl, rfl⟩) (by assumption) ?_
                      simp only [Act.put, List.setIfInBounds_toArray, List.set_cons_zero, List.set_cons_succ]
                      refine take_at (i := 11) (v := undef) (some 66) rfl rfl (by kernel_rfl) (by kernel_rfl) (by kernel_rfl) (fun _ _ _ h => h) (Or.inr ⟨by rfl, rfl⟩) (by assumption) ?_
                      simp only [Act.put, List.setIfInBounds_toArray, List.set_cons_zero, List.set_cons_succ]
                      refine take_at (i := 12) (v := undef) (some 67) rfl rfl (by kernel_rfl) (by kernel_rfl) (by kernel_rfl) (fun _ _ _ h => h) (Or.inr ⟨by rfl, rfl⟩) (by assumption) ?_
                      simp only [Act.put, List.setIfInBounds_toArray, List.set_cons_zero, List.set_cons_succ]
                      refine take_at (i := 13) (v := undef) (some 68) rfl rfl (by kernel_rfl) (by kernel_rfl) (by kernel_rfl) (fun _ _ _ h => h) (Or.inr ⟨by rfl, rfl⟩) (by assumption) ?_
                      simp only [Act.put, List.setIfInBounds_toArray, List.set_cons_zero, List.set_cons_succ]
                      refine take_at (i := 14) (v := undef) (some 69) rfl rfl (by kernel_rfl) (by kernel_rfl) (by kernel_rfl) (fun _ _ _ h => h) (Or.inr ⟨by rfl, rfl⟩) (by assumption) ?_
                      simp only [Act.put, List.setIfInBounds_toArray, List.set_cons_zero, List.set_cons_succ]
                      refine take_at (i := 15) (v := undef) (some 70) rfl rfl (by kernel_rfl) (by kernel_rfl) (by kernel_rfl) (fun _ _ _ h => h) (Or.inr ⟨by rfl, rfl⟩) (by assumption) ?_
                      simp only [Act.put, List.setIfInBounds_toArray, List.set_cons_zero, List.set_cons_succ]
                      refine take_at (i := 16) (v := undef) (some 71) rfl rfl (by kernel_rfl) (by kernel_rfl) (by kernel_rfl) (fun _ _ _ h => h) (Or.inr ⟨by rfl, rfl⟩) (by assumption) ?_
                      simp only [Act.put, List.setIfInBounds_toArray, List.set_cons_zero, List.set_cons_succ]
                      refine take_at (i := 17) (v := undef) (some 72) rfl rfl (by kernel_rfl) (by kernel_rfl) (by kernel_rfl) (fun _ _ _ h => h) (Or.inr ⟨by rfl, rfl⟩) (by assumption) ?_
                      simp only [Act.put, List.setIfInBounds_toArray, List.set_cons_zero, List.set_cons_succ]
                      refine take_at (i := 18) (v := undef) (some 73) rfl rfl (by kernel_rfl) (by kernel_rfl) (by kernel_rfl) (fun _ _ _ h => h) (Or.inr ⟨by rfl, rfl⟩) (by assumption) ?_
                      simp only [Act.put, List.setIfInBounds_toArray, List.set_cons_zero, List.set_cons_succ]
                      refine take_at (i := 19) (v := undef) (some 74) rfl rfl (by kernel_rfl) (by kernel_rfl) (by kernel_rfl) (fun _ _ _ h => h) (Or.inr ⟨by rfl, rfl⟩) (by assumption) ?_
                      simp only [Act.put, List.setIfInBounds_toArray, List.set_cons_zero, List.set_cons_succ]
                      refine take_at (i := 20) (v := undef) (some 75) rfl rfl (by kernel_rfl) (by kernel_rfl) (by kernel_rfl) (fun _ _ _ h => h) (Or.inr ⟨by rfl, rfl⟩) (by assumption) ?_
                      simp only [Act.put, List.setIfInBounds_toArray, List.set_cons_zero, List.set_cons_succ]
                      refine take_at (i := 21) (v := ?_) (some 76) rfl rfl (by kernel_rfl) (by kernel_rfl) (by kernel_rfl) (fun _ _ _ h => h) (Or.inl ⟨by rfl, ?_⟩) (by assumption) ?_
                      rotate_left
                      · (intro w hSw; (try dsimp only at hSw); go_simp; try with_reducible rfl)
                      simp only [Act.put, List.setIfInBounds_toArray, List.set_cons_zero, List.set_cons_succ]
                      refine wpAnyH_done (by kernel_rfl) ?_ _
                      refine NoPanic.normal ?_
                      go_wp2_with fail
                      exact ⟨NXT.out YES.out _ (Below.refl _ _).drew, GO.out⟩
          · obtain rfl : k = m := by omega
            have i0 : ((k : Int) < (k : Int)) = False := eq_false (by omega)
            have NXT : Hid (rcR W ls L (.int .i64 ((n : Int) + 1)) Wi) := hidIt ⟨n + 1, LT.out, rfl, hJ.out.2.1, by rw [OS.out]; exact hJ.out.2.2⟩
            obtain ⟨_, _, i2, i3, i4⟩ := AR.out
            have GO := hidIt i4
            clear hk hlt i4
            as_aux_lemma =>
              go_wp2_with fail
              go_roundw
              case rel => exact NXT.out
              case measure => exact GO.out
      · obtain rfl : n = L := by omega
        have i0 : ((n : Int) < (n : Int)) = False := eq_false (by omega)
        have FI : Hid (mayI (rns ls) = 0) := hidIt (by unfold mayI; rw [may_of (by have := HN.out.1; have := F4.out; omega) (fun j hj => hI.out.2 j (by rw [← HN.out.1, offL_all 0]; exact hj))]; rfl)
        clear hn hlt
        go_wp2_with fail
        exact bodyPost_ret (v := .int .i64 0) (by simp [results, Try.results22, go_sem]) rfl ⟨by rw [FI.out], hI.out.1⟩
end Go.Proofs.Ytelcijfcgflagaa
