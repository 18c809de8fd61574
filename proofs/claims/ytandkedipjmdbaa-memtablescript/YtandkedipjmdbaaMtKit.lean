/-
  Walks, not a claim by itself: the kit's SamePair and SamePairs; bytes of literals. By the verifier.
-/
import Derived.Test.YtandkedipjmdbaaMtGet
import Derived.Laws.IdiomStrings
namespace Go.Proofs.Ytandkedipjmdbaa
open Go.RowKit
theorem pr_ext {p q : Pr} (h1 : p.k = q.k) (h2 : p.v = q.v) (h3 : p.g = q.g) : p = q := by cases p; cases q; simp_all
instance : DecidableEq Pr := fun p q => decidable_of_iff (p.k = q.k ∧ p.v = q.v ∧ p.g = q.g) ⟨fun h => pr_ext h.1 h.2.1 h.2.2, fun h => by rw [h]; exact ⟨rfl, rfl, rfl⟩⟩
theorem same_txt {W : World} {N M : List Nat} {s s' : Value} {t t' : ByteArray} (h : Txt W N s t) (h' : Txt W M s' t') : Calls Try.prog 31 #[s, s'] W fun e w' => e = .returned (.bool (decide (t = t'))) ∧ w' = W := by
  obtain ⟨a, C, f, rfl, hA, ht, _⟩ := h
  obtain ⟨a', C', f', rfl, hA', ht', _⟩ := h'
  have := same_any a a' t.size t'.size C C' f f' W hA hA'
  rw [ht, ht'] at this
  exact this
set_option maxRecDepth 100000 in
set_option maxHeartbeats 1000000 in
theorem samePair_any {W : World} {N M : List Nat} {x y : PV} (h : PVOk W N x) (h' : PVOk W M y) : Calls Try.prog 23 #[.agg x.cs.toArray, .agg y.cs.toArray] W fun e w' => e = .returned (.bool (decide (x.p = y.p))) ∧ Below W.heap.size W w' := by
  have HX := hidIt h
  have HY := hidIt h'
  clear h h'
  have key : ∀ b, (b = true ↔ x.p = y.p) → b = decide (x.p = y.p) := fun b hb => by
    by_cases e : x.p = y.p
    · rw [decide_eq_true e]; exact hb.2 e
    · rw [decide_eq_false e]
      cases b with
      | false => rfl
      | true => exact absurd (hb.1 rfl) e
  have KY := hidIt key
  clear key
  by_cases hk : x.p.k = y.p.k
  · have DK := hidIt (decide_eq_true hk)
    by_cases hv : x.p.v = y.p.v
    · have DV := hidIt (decide_eq_true hv)
      have FI : Hid ((x.p.g == y.p.g) = decide (x.p = y.p)) := hidIt (KY.out _ ⟨fun h => pr_ext hk hv (by simpa using h), fun h => by rw [h]; simp⟩)
      clear hk hv KY
      go_enter Try.func23, Try.ntmps23
      go_wp2_with (first
        | (refine wpList_box_rec rfl 47 (.tmp 0) rfl x.cs rfl W.heap.size rfl ?_; intro W1 R1 B1 z1; have P1 := hidIt R1; have E1 := hidIt (And.intro B1 z1); clear R1 B1 z1)
        | (refine wpList_box_rec rfl 47 (.tmp 1) rfl y.cs rfl (W.heap.size + 1) E1.out.2 ?_; intro W2 R2 B2 z2; have bb : Below W1.heap.size W1 W2 := (by rw [E1.out.2]; exact B2); have E2 := hidIt (E1.out.1.trans (B2.mono (by omega))); have c0 := ((P1.out.below bb).cel 0 x.k rfl).1; have c1 := ((P1.out.below bb).cel 1 x.v rfl).1; have c2 := ((P1.out.below bb).cel 2 (.bool x.p.g) rfl).1; have d0 := (R2.cel 0 y.k rfl).1; have d1 := (R2.cel 1 y.v rfl).1; have d2 := (R2.cel 2 (.bool y.p.g) rfl).1; clear R2 B2 z2 bb; have q1 : Hid True := trivial; have q2 : Hid True := trivial)
        | (go_at_call 31; have _q := q1; clear q1 _q; refine (same_txt (HX.out.1.below E2.out) (HY.out.1.below E2.out)).mono ?_; rintro e w1 ⟨rfl, hw⟩; rw [hw, DK.out]; clear hw)
        | (go_at_call 31; refine (same_txt (HX.out.2.below E2.out) (HY.out.2.below E2.out)).mono ?_; rintro e w2 ⟨rfl, hw⟩; rw [hw, DV.out]; clear hw))
      exact bodyPost_ret (v := .bool (x.p.g == y.p.g)) (by simp [results, Try.results23, go_sem]) rfl ⟨by rw [FI.out], E2.out⟩
    · have DV := hidIt (decide_eq_false hv)
      have FI : Hid (false = decide (x.p = y.p)) := hidIt (KY.out _ ⟨fun h => (by cases h), fun h => absurd (by rw [h]) hv⟩)
      clear hk hv KY
      go_enter Try.func23, Try.ntmps23
      go_wp2_with (first
        | (refine wpList_box_rec rfl 47 (.tmp 0) rfl x.cs rfl W.heap.size rfl ?_; intro W1 R1 B1 z1; have P1 := hidIt R1; have E1 := hidIt (And.intro B1 z1); clear R1 B1 z1)
        | (refine wpList_box_rec rfl 47 (.tmp 1) rfl y.cs rfl (W.heap.size + 1) E1.out.2 ?_; intro W2 R2 B2 z2; have bb : Below W1.heap.size W1 W2 := (by rw [E1.out.2]; exact B2); have E2 := hidIt (E1.out.1.trans (B2.mono (by omega))); have c0 := ((P1.out.below bb).cel 0 x.k rfl).1; have c1 := ((P1.out.below bb).cel 1 x.v rfl).1; have d0 := (R2.cel 0 y.k rfl).1; have d1 := (R2.cel 1 y.v rfl).1; clear R2 B2 z2 bb; have q1 : Hid True := trivial; have q2 : Hid True := trivial)
        | (go_at_call 31; have _q := q1; clear q1 _q; refine (same_txt (HX.out.1.below E2.out) (HY.out.1.below E2.out)).mono ?_; rintro e w1 ⟨rfl, hw⟩; rw [hw, DK.out]; clear hw)
        | (go_at_call 31; refine (same_txt (HX.out.2.below E2.out) (HY.out.2.below E2.out)).mono ?_; rintro e w2 ⟨rfl, hw⟩; rw [hw, DV.out]; clear hw))
      exact bodyPost_ret (v := .bool false) (by simp [results, Try.results23, go_sem]) rfl ⟨by rw [← FI.out], E2.out⟩
  · have DK := hidIt (decide_eq_false hk)
    have FI : Hid (false = decide (x.p = y.p)) := hidIt (KY.out _ ⟨fun h => (by cases h), fun h => absurd (by rw [h]) hk⟩)
    clear hk KY
    go_enter Try.func23, Try.ntmps23
    go_wp2_with (first
      | (refine wpList_box_rec rfl 47 (.tmp 0) rfl x.cs rfl W.heap.size rfl ?_; intro W1 R1 B1 z1; have P1 := hidIt R1; have E1 := hidIt (And.intro B1 z1); clear R1 B1 z1)
      | (refine wpList_box_rec rfl 47 (.tmp 1) rfl y.cs rfl (W.heap.size + 1) E1.out.2 ?_; intro W2 R2 B2 z2; have bb : Below W1.heap.size W1 W2 := (by rw [E1.out.2]; exact B2); have E2 := hidIt (E1.out.1.trans (B2.mono (by omega))); have c0 := ((P1.out.below bb).cel 0 x.k rfl).1; have d0 := (R2.cel 0 y.k rfl).1; clear R2 B2 z2 bb)
      | (go_at_call 31; refine (same_txt (HX.out.1.below E2.out) (HY.out.1.below E2.out)).mono ?_; rintro e w1 ⟨rfl, hw⟩; rw [hw, DK.out]; clear hw))
    exact bodyPost_ret (v := .bool false) (by simp [results, Try.results23, go_sem]) rfl ⟨by rw [← FI.out], E2.out⟩
/-- What holds at the head of the loop. -/
def spR (W : World) (l m : List Pr) (n : Nat) (i : Value) (wr : World) : Prop := ∃ k : Nat, k ≤ n ∧ i = .int .i64 (k : Int) ∧ Below W.heap.size W wr ∧ l.take k = m.take k
theorem sp_go (W w1 : World) (l m : List Pr) (n k : Nat) (z : Int) (hz : z = (k : Int) + 1) (hk : k < n) (hB : Below W.heap.size W w1) (ht : l.take k = m.take k) (he : l[k]? = m[k]?) : spR W l m n (.int .i64 z) w1 := by
  refine ⟨k + 1, hk, by rw [hz]; rfl, hB, ?_⟩
  rw [List.take_add_one, List.take_add_one, ht, he]
theorem meas_k (n k : Nat) (z : Int) (hz : z = (k : Int) + 1) (h : k < n) : n - (RowKit.intOf (.int .i64 z)).toNat < n - (RowKit.intOf (.int .i64 (k : Int))).toNat := by
  simp only [RowKit.intOf]
  omega
theorem k_ar (k n : Nat) (h : k < n) (hn : n ≤ 100000) : (k : Int) < (n : Int) ∧ (0 : Int) ≤ (k : Int) ∧ wrap64 ((k : Int) + 1) = (k : Int) + 1 ∧ IntKind.i64.wrap ((k : Int) + 1) = (k : Int) + 1 := ⟨by omega, by omega, by unfold wrap64; omega, by rw [IntKind.wrap_i64]; omega⟩
set_option maxRecDepth 100000 in
set_option maxHeartbeats 1000000 in
theorem samePairs_any {W : World} {a b : Option Addr} {ps qs : List PV} (n m C D : Nat) (hn : ps.length = n) (hm : qs.length = m) (hL : Lst W a ps) (hM : Lst W b qs) (hf : n ≤ 100000) : Calls Try.prog 14 #[.slice a n C, .slice b m D] W fun e w' => e = .returned (.bool (decide (ps.map PV.p = qs.map PV.p))) ∧ Below W.heap.size W w' := by
  by_cases hnm : n = m
  · subst hnm
    have HL := hidIt hL
    have HM := hidIt hM
    have HN := hidIt (And.intro hn hm)
    have HF := hidIt hf
    have st : Hid (spR W (ps.map PV.p) (qs.map PV.p) n (.int .i64 0) W) := hidIt ⟨0, Nat.zero_le _, rfl, Below.refl _ _, rfl⟩
    have n0 : ((n : Int) == (n : Int)) = true := by simp
    clear hL hM hn hm hf
    go_enter Try.func14, Try.ntmps14
    go_wp2_with fail
    go_loopw [5] (fun i wr => spR W (ps.map PV.p) (qs.map PV.p) n i wr) (fun i _ => n - (RowKit.intOf i).toNat)
    case atStart => exact st.out
    case round =>
      clear st
      obtain ⟨k, hk, rfl, hB, ht⟩ := hrel
      have BB := hidIt hB
      have TK := hidIt ht
      have HK := hidIt hk
      clear hB ht hk
      by_cases hlt : k < n
      · obtain ⟨x, hx⟩ : ∃ x, ps[k]? = some x := ⟨_, List.getElem?_eq_getElem (by have := HN.out.1; omega)⟩
        obtain ⟨y, hy⟩ : ∃ y, qs[k]? = some y := ⟨_, List.getElem?_eq_getElem (by have := HN.out.2; omega)⟩
        obtain ⟨b1, o1, ha, hr1, l1⟩ := (HL.out.below BB.out).at k x hx
        obtain ⟨b2, o2, hb, hr2, l2⟩ := (HM.out.below BB.out).at k y hy
        subst ha hb
        have SP := hidIt (fun (U : World) (hU : Below wr.heap.size wr U) => samePair_any (((HL.out.1 x (List.mem_of_getElem? hx)).below BB.out).below hU) (((HM.out.1 y (List.mem_of_getElem? hy)).below BB.out).below hU))
        have XY := hidIt (And.intro hx hy)
        have LT := hidIt hlt
        obtain ⟨i0, i1, i2, i3⟩ := k_ar k n hlt HF.out
        clear hx hy hlt
        go_wp2_with fail
        refine wp_region_noPanic ?_
        refine wp_region_held_drew (S := fun w' => w'.rangeAt b1 (o1 + k * 3) x.cs ∧ w'.rangeAt b2 (o2 + k * 3) y.cs) (by kernel_rfl) ?_ (fun hHeld => ?_)
        · exact ⟨hr1, hr2⟩
        refine take_at (i := 0) (v := ?_) (some 17) rfl rfl (by kernel_rfl) (by kernel_rfl) (by kernel_rfl) (fun _ _ _ h => h) (Or.inl ⟨by rfl, ?_⟩) (by assumption) ?_
        rotate_left
        · (intro w hSw; (try dsimp only at hSw); go_simp; try with_reducible rfl)
        simp only [Act.put, List.setIfInBounds_toArray, List.set_cons_zero, List.set_cons_succ]
        refine take_at (i := 1) (v := ?_) (some 18) rfl rfl (by kernel_rfl) (by kernel_rfl) (by kernel_rfl) (fun _ _ _ h => h) (Or.inl ⟨by rfl, ?_⟩) (by assumption) ?_
        rotate_left
        · (intro w hSw; (try dsimp only at hSw); go_simp; try with_reducible rfl)
        simp only [Act.put, List.setIfInBounds_toArray, List.set_cons_zero, List.set_cons_succ]
        refine take_at (i := 2) (v := ?_) (some 19) rfl rfl (by kernel_rfl) (by kernel_rfl) (by kernel_rfl) (fun _ _ _ h => h) (Or.inl ⟨by rfl, ?_⟩) (by assumption) ?_
        rotate_left
        · (intro w hSw; (try dsimp only at hSw); go_simp; try with_reducible rfl)
        simp only [Act.put, List.setIfInBounds_toArray, List.set_cons_zero, List.set_cons_succ]
        refine take_at (i := 3) (v := _) (some 20) rfl rfl (by kernel_rfl) (by kernel_rfl) (by kernel_rfl) (fun _ _ _ h => h) (yieldsIf_load_mid (by rfl) _ _ rfl _ _ rfl _ _ (fun w h => h.1) Try.underlying47 rfl pair_size) (by assumption) ?_
        simp only [Act.put, List.setIfInBounds_toArray, List.set_cons_zero, List.set_cons_succ]
        refine take_at (i := 4) (v := ?_) (some 21) rfl rfl (by kernel_rfl) (by kernel_rfl) (by kernel_rfl) (fun _ _ _ h => h) (Or.inl ⟨by rfl, ?_⟩) (by assumption) ?_
        rotate_left
        · (intro w hSw; (try dsimp only at hSw); go_simp; try with_reducible rfl)
        simp only [Act.put, List.setIfInBounds_toArray, List.set_cons_zero, List.set_cons_succ]
        refine take_at (i := 5) (v := ?_) (some 22) rfl rfl (by kernel_rfl) (by kernel_rfl) (by kernel_rfl) (fun _ _ _ h => h) (Or.inl ⟨by rfl, ?_⟩) (by assumption) ?_
        rotate_left
        · (intro w hSw; (try dsimp only at hSw); go_simp; try with_reducible rfl)
        simp only [Act.put, List.setIfInBounds_toArray, List.set_cons_zero, List.set_cons_succ]
        refine take_at (i := 6) (v := ?_) (some 23) rfl rfl (by kernel_rfl) (by kernel_rfl) (by kernel_rfl) (fun _ _ _ h => h) (Or.inl ⟨by rfl, ?_⟩) (by assumption) ?_
        rotate_left
        · (intro w hSw; (try dsimp only at hSw); go_simp; try with_reducible rfl)
        simp only [Act.put, List.setIfInBounds_toArray, List.set_cons_zero, List.set_cons_succ]
        refine take_at (i := 7) (v := _) (some 24) rfl rfl (by kernel_rfl) (by kernel_rfl) (by kernel_rfl) (fun _ _ _ h => h) (yieldsIf_load_mid (by rfl) _ _ rfl _ _ rfl _ _ (fun w h => h.2) Try.underlying47 rfl pair_size) (by assumption) ?_
        simp only [Act.put, List.setIfInBounds_toArray, List.set_cons_zero, List.set_cons_succ]
        refine call_at (i := 8) (some 25) 23 _ _ rfl rfl rfl (by rfl) (by kernel_rfl) #[.agg x.cs.toArray, .agg y.cs.toArray] rfl Try.func23 (by kernel_rfl) (by kernel_rfl) ?_
        refine (SP.out _ (Below.refl _ _).drew).mono ?_
        rintro e W2 ⟨rfl, hb2⟩
        have E2 := hidIt (BB.out.drew.trans (hb2.mono BB.out.size))
        refine ⟨_, rfl, ⟨fun j u hj => (hb2.cell (p := ⟨b1, o1 + k * 3 + j, none⟩) l1).trans (hr1 j u hj), fun j u hj => (hb2.cell (p := ⟨b2, o2 + k * 3 + j, none⟩) l2).trans (hr2 j u hj)⟩, fun hHeld => ?_⟩
        simp only [Act.put, List.setIfInBounds_toArray, List.set_cons_zero, List.set_cons_succ]
        clear hb2 hr1 hr2 l1 l2 SP
        by_cases he : x.p = y.p
        · rw [decide_eq_true he]
          refine take_at (i := 9) (v := ?_) (some 26) rfl rfl (by kernel_rfl) (by kernel_rfl) (by kernel_rfl) (fun _ _ _ h => h) (Or.inl ⟨by rfl, ?_⟩) (by assumption) ?_
          rotate_left
          · (intro w hSw; (try dsimp only at hSw); go_simp; try with_reducible rfl)
          simp only [Act.put, List.setIfInBounds_toArray, List.set_cons_zero, List.set_cons_succ]
          refine wpAnyH_done (by kernel_rfl) ?_ _
          refine NoPanic.normal ?_
          have GO := hidIt (fun z hz => sp_go W W2 (ps.map PV.p) (qs.map PV.p) n k z hz LT.out E2.out TK.out (by rw [List.getElem?_map, List.getElem?_map, XY.out.1, XY.out.2]; simp [he]))
          clear he
          go_wp2_with fail
          exact ⟨GO.out _ rfl, meas_k n k _ rfl LT.out⟩
        · rw [decide_eq_false he]
          refine take_at (i := 9) (v := ?_) (some 26) rfl rfl (by kernel_rfl) (by kernel_rfl) (by kernel_rfl) (fun _ _ _ h => h) (Or.inl ⟨by rfl, ?_⟩) (by assumption) ?_
          rotate_left
          · (intro w hSw; (try dsimp only at hSw); go_simp; try with_reducible rfl)
          simp only [Act.put, List.setIfInBounds_toArray, List.set_cons_zero, List.set_cons_succ]
          refine wpAnyH_done (by kernel_rfl) ?_ _
          refine NoPanic.normal ?_
          have NE : Hid (decide (ps.map PV.p = qs.map PV.p) = false) := hidIt (decide_eq_false (fun q => he (by
            have := congrArg (fun l : List Pr => l[k]?) q
            simp only [List.getElem?_map, XY.out.1, XY.out.2, Option.map_some] at this
            exact Option.some.inj this)))
          clear he
          go_wp2_with fail
          exact bodyPost_ret (v := .bool false) (by simp [results, Try.results14, go_sem]) rfl ⟨by rw [NE.out], E2.out⟩
      · have EQ : Hid (decide (ps.map PV.p = qs.map PV.p) = true) := hidIt (decide_eq_true (by
          have := TK.out
          rw [List.take_of_length_le (by simp; have := HN.out.1; omega), List.take_of_length_le (by simp; have := HN.out.2; omega)] at this
          exact this))
        have i0 : ((k : Int) < (n : Int)) = False := eq_false (by omega)
        clear hlt
        go_wp2_with fail
        exact bodyPost_ret (v := .bool true) (by simp [results, Try.results14, go_sem]) rfl ⟨by rw [EQ.out], BB.out⟩
  · have NE : Hid (decide (ps.map PV.p = qs.map PV.p) = false) := hidIt (decide_eq_false (fun q => hnm (by have := congrArg List.length q; simp at this; omega)))
    have n0 : ((n : Int) == (m : Int)) = false := by rw [beq_eq_false_iff_ne]; omega
    clear hL hM hn hm hf hnm
    go_enter Try.func14, Try.ntmps14
    go_wp2_with fail
    exact bodyPost_ret (v := .bool false) (by simp [results, Try.results14, go_sem]) rfl ⟨by rw [NE.out], Below.refl _ _⟩
end Go.Proofs.Ytandkedipjmdbaa
