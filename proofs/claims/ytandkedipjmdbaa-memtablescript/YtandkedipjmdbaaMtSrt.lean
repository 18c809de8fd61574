/-
  Walks, not a claim by itself: memtable's Sorted. By the verifier.
-/
import Derived.Test.YtandkedipjmdbaaMtAw2
namespace Go.Proofs.Ytandkedipjmdbaa
open Go.RowKit
/-- Each key is ahead of the next one. -/
def Chn (l : List Pr) : Prop := ∀ j p q, l[j]? = some p → l[j + 1]? = some q → cmpB p.k q.k < 0
theorem chn_of {l : List Pr} (h : Srt l) : Chn l := fun _ _ _ hp hq => srt_mono h (by omega) hp hq
/-- What Sorted answers. -/
def SrtPost (W : World) (l : List Pr) (e : Ending) (w' : World) : Prop := ∃ b : Bool, e = .returned (.bool b) ∧ (b = true ↔ Chn l) ∧ Below W.heap.size W w'
/-- What holds at the head of the loop. -/
def soR (W : World) (l : List Pr) (i : Value) (wr : World) : Prop := ∃ k : Nat, i = .int .i64 ((k : Int) + 1) ∧ Below W.heap.size W wr ∧ ∀ j p q, j < k → l[j]? = some p → l[j + 1]? = some q → cmpB p.k q.k < 0
theorem so_go (W w1 : World) (l : List Pr) (k : Nat) (z : Int) (hz : z = (k : Int) + 1 + 1) (hB : Below W.heap.size W w1) (h : ∀ j p q, j < k → l[j]? = some p → l[j + 1]? = some q → cmpB p.k q.k < 0) (x y : Pr) (hx : l[k]? = some x) (hy : l[k + 1]? = some y) (hc : cmpB x.k y.k < 0) : soR W l (.int .i64 z) w1 := by
  refine ⟨k + 1, by rw [hz]; rfl, hB, fun j p q hj hp hq => ?_⟩
  by_cases e : j = k
  · subst e
    rw [hx] at hp
    rw [hy] at hq
    injection hp with hp
    injection hq with hq
    rw [← hp, ← hq]
    exact hc
  · exact h j p q (by omega) hp hq
theorem so_ar (k n : Nat) (h : k + 1 < n) (hn : n ≤ 100000) : (k : Int) + 1 < (n : Int) ∧ (0 : Int) ≤ (k : Int) ∧ (k : Int) < (n : Int) ∧ (0 : Int) ≤ (k : Int) + 1 ∧ wrap64 ((k : Int) + 1 + 1) = (k : Int) + 1 + 1 ∧ IntKind.i64.wrap ((k : Int) + 1 + 1) = (k : Int) + 1 + 1 ∧ wrap64 ((k : Int) + 1 - 1) = (k : Int) ∧ ((k : Int) + 1).toNat = k + 1 ∧ IntKind.i64.wrap ((k : Int) + 1 - 1) = (k : Int) ∧ IntKind.i64.wrap (k : Int) = (k : Int) ∧ wrap64 (k : Int) = (k : Int) ∧ IntKind.i64.wrap ((k : Int) + 1) = (k : Int) + 1 :=
  ⟨by omega, by omega, by omega, by omega, by unfold wrap64; omega, by rw [IntKind.wrap_i64]; omega, by unfold wrap64; omega, by omega, by rw [IntKind.wrap_i64]; omega, by rw [IntKind.wrap_i64]; omega, by unfold wrap64; omega, by rw [IntKind.wrap_i64]; omega⟩
theorem meas_s (n k : Nat) (z : Int) (hz : z = (k : Int) + 1 + 1) (h : k + 1 < n) : n + 1 - (RowKit.intOf (.int .i64 z)).toNat < n + 1 - (RowKit.intOf (.int .i64 ((k : Int) + 1))).toNat := by
  simp only [RowKit.intOf]
  omega
theorem key_cell {W : World} {b o i : Nat} {x : PV} (h : W.rangeAt b (o + i * 3) x.cs) : W.cell? ⟨b, o + i * 3, none⟩ = some x.k := h 0 _ rfl
theorem less_cb : ∀ (a b : List UInt8), Op.bytesLess a b = decide (Lib.compareBytes a b < 0)
  | [], [] => rfl
  | [], _ :: _ => rfl
  | _ :: _, [] => rfl
  | x :: a, y :: b => by
    unfold Op.bytesLess Lib.compareBytes
    by_cases h1 : x < y
    · simp [h1]
    · by_cases h2 : y < x
      · have : ¬ x = y := fun e => by subst e; exact h1 h2
        simp [h1, h2, this]
      · have e : x = y := UInt8.le_antisymm (UInt8.not_lt.1 h2) (UInt8.not_lt.1 h1)
        subst e
        simp [h1, less_cb a b]
theorem less_is (x y : ByteArray) : Op.bytesLess x.toList y.toList = decide (cmpB x y < 0) := by
  rw [ByteArray.toList_eq, ByteArray.toList_eq]
  exact less_cb _ _
set_option maxRecDepth 100000 in
theorem less_any {W : World} {N M : List Nat} {s s' : Value} {t t' : ByteArray} (h : Txt W N s t) (h' : Txt W M s' t') : Calls Try.prog 41 #[s, s'] W fun e w' => e = .returned (.bool (decide (cmpB t t' < 0))) ∧ w' = W := by
  obtain ⟨a, C, f, rfl, hA, ht, _⟩ := h
  obtain ⟨a', C', f', rfl, hA', ht', _⟩ := h'
  have c1 := conv_arg W a t.size C f hA
  have c2 := conv_arg W a' t'.size C' f' hA'
  rw [ht] at c1
  rw [ht'] at c2
  clear hA hA' ht ht'
  generalize t.size = n at *
  generalize t'.size = m at *
  go_enter Try.func41, Try.ntmps41
  go_wp2
  rw [less_is]
  go_ret
  exact ⟨rfl, rfl⟩
set_option maxRecDepth 100000 in
set_option maxHeartbeats 1000000 in
theorem tsorted_any {W : World} {a : Option Addr} {ps : List PV} (n C : Nat) (hn : ps.length = n) (hL : Lst W a ps) (hf : n ≤ 100000) : Calls Try.prog 20 #[.slice a n C] W (SrtPost W (ps.map PV.p)) := by
  have HL := hidIt hL
  have HN := hidIt hn
  have HF := hidIt hf
  have st : Hid (soR W (ps.map PV.p) (.int .i64 1) W) := hidIt ⟨0, rfl, Below.refl _ _, fun j p q hj => by omega⟩
  clear hL hn hf
  go_enter Try.func20, Try.ntmps20
  go_wp2_with fail
  go_loopw [3] (fun i wr => soR W (ps.map PV.p) i wr) (fun i _ => n + 1 - (RowKit.intOf i).toNat)
  case atStart => exact st.out
  case round =>
    clear st
    obtain ⟨k, rfl, hB, ht⟩ := hrel
    have BB := hidIt hB
    have TK := hidIt ht
    clear hB ht
    by_cases hlt : k + 1 < n
    · obtain ⟨x, hx⟩ : ∃ x, ps[k]? = some x := ⟨_, List.getElem?_eq_getElem (by have := HN.out; omega)⟩
      obtain ⟨y, hy⟩ : ∃ y, ps[k + 1]? = some y := ⟨_, List.getElem?_eq_getElem (by have := HN.out; omega)⟩
      obtain ⟨b1, o1, ha, hr1, l1⟩ := (HL.out.below BB.out).at k x hx
      subst ha
      obtain ⟨b2, o2, hb, hr2, l2⟩ := (HL.out.below BB.out).at (k + 1) y hy
      injection hb with hb
      injection hb with hb1 hb2
      subst hb1 hb2
      have q1 := key_cell hr1
      have q2 := key_cell hr2
      have CM := hidIt (ycmp_any ((HL.out.1 x (List.mem_of_getElem? hx)).below (BB.out.drew)).1 ((HL.out.1 y (List.mem_of_getElem? hy)).below (BB.out.drew)).1)
      have XY : Hid ((ps.map PV.p)[k]? = some x.p ∧ (ps.map PV.p)[k + 1]? = some y.p) := hidIt ⟨by rw [List.getElem?_map, hx]; rfl, by rw [List.getElem?_map, hy]; rfl⟩
      have LT := hidIt hlt
      obtain ⟨i0, i1, i2, i3, i4, i5, i6, i7, i8, i9, i10, i11⟩ := so_ar k n hlt HF.out
      clear hx hy hlt hr1 hr2 l1 l2
      go_wp2_with fail
      refine wp_region_noPanic ?_
      refine wp_region_held_drew (S := fun w' => w'.cell? ⟨b1, o1 + k * 3, none⟩ = some x.k ∧ w'.cell? ⟨b1, o1 + (k + 1) * 3, none⟩ = some y.k) (by kernel_rfl) ?_ (fun hHeld => ?_)
      · exact ⟨q1, q2⟩
      refine take_at (i := 0) (v := ?_) (some 10) rfl rfl (by kernel_rfl) (by kernel_rfl) (by kernel_rfl) (fun _ _ _ h => h) (Or.inl ⟨by rfl, ?_⟩) (by assumption) ?_
      rotate_left
      · (intro w hSw; (try dsimp only at hSw); go_simp; try with_reducible rfl)
      simp only [Act.put, List.setIfInBounds_toArray, List.set_cons_zero, List.set_cons_succ]
      refine take_at (i := 1) (v := ?_) (some 11) rfl rfl (by kernel_rfl) (by kernel_rfl) (by kernel_rfl) (fun _ _ _ h => h) (Or.inl ⟨by rfl, ?_⟩) (by assumption) ?_
      rotate_left
      · (intro w hSw; (try dsimp only at hSw); go_simp; try with_reducible rfl)
      simp only [Act.put, List.setIfInBounds_toArray, List.set_cons_zero, List.set_cons_succ]
      refine take_at (i := 2) (v := ?_) (some 12) rfl rfl (by kernel_rfl) (by kernel_rfl) (by kernel_rfl) (fun _ _ _ h => h) (Or.inl ⟨by rfl, ?_⟩) (by assumption) ?_
      rotate_left
      · (intro w hSw; (try dsimp only at hSw); go_simp; try with_reducible rfl)
      simp only [Act.put, List.setIfInBounds_toArray, List.set_cons_zero, List.set_cons_succ]
      refine take_at (i := 3) (v := ?_) (some 13) rfl rfl (by kernel_rfl) (by kernel_rfl) (by kernel_rfl) (fun _ _ _ h => h) (Or.inl ⟨by rfl, ?_⟩) (by assumption) ?_
      rotate_left
      · (intro w hSw; (try dsimp only at hSw); go_simp; try with_reducible rfl)
      simp only [Act.put, List.setIfInBounds_toArray, List.set_cons_zero, List.set_cons_succ]
      refine take_at (i := 4) (v := ?_) (some 14) rfl rfl (by kernel_rfl) (by kernel_rfl) (by kernel_rfl) (fun _ _ _ h => h) (Or.inl ⟨by rfl, ?_⟩) (by assumption) ?_
      rotate_left
      · (intro w hSw; (try dsimp only at hSw); go_simp; try with_reducible rfl)
      simp only [Act.put, List.setIfInBounds_toArray, List.set_cons_zero, List.set_cons_succ]
      refine take_at (i := 5) (v := ?_) (some 15) rfl rfl (by kernel_rfl) (by kernel_rfl) (by kernel_rfl) (fun _ _ _ h => h) (Or.inl ⟨by rfl, ?_⟩) (by assumption) ?_
      rotate_left
      · (intro w hSw; (try dsimp only at hSw); go_simp; try with_reducible rfl)
      simp only [Act.put, List.setIfInBounds_toArray, List.set_cons_zero, List.set_cons_succ]
      refine take_at (i := 6) (v := ?_) (some 16) rfl rfl (by kernel_rfl) (by kernel_rfl) (by kernel_rfl) (fun _ _ _ h => h) (Or.inl ⟨by rfl, ?_⟩) (by assumption) ?_
      rotate_left
      · (intro w hSw; (try dsimp only at hSw); go_simp; try with_reducible rfl)
      simp only [Act.put, List.setIfInBounds_toArray, List.set_cons_zero, List.set_cons_succ]
      refine take_at (i := 7) (v := ?_) (some 17) rfl rfl (by kernel_rfl) (by kernel_rfl) (by kernel_rfl) (fun _ _ _ h => h) (Or.inl ⟨by rfl, ?_⟩) (by assumption) ?_
      rotate_left
      · (intro w hSw; (try dsimp only at hSw); go_simp; try with_reducible rfl)
      simp only [Act.put, List.setIfInBounds_toArray, List.set_cons_zero, List.set_cons_succ]
      refine take_at (i := 8) (v := ?_) (some 18) rfl rfl (by kernel_rfl) (by kernel_rfl) (by kernel_rfl) (fun _ _ _ h => h) (Or.inl ⟨by rfl, ?_⟩) (by assumption) ?_
      rotate_left
      · (intro w hSw; (try dsimp only at hSw); go_simp; try with_reducible rfl)
      simp only [Act.put, List.setIfInBounds_toArray, List.set_cons_zero, List.set_cons_succ]
      refine take_at (i := 9) (v := ?_) (some 19) rfl rfl (by kernel_rfl) (by kernel_rfl) (by kernel_rfl) (fun _ _ _ h => h) (Or.inl ⟨by rfl, ?_⟩) (by assumption) ?_
      rotate_left
      · (intro w hSw; (try dsimp only at hSw); go_simp; try with_reducible rfl)
      simp only [Act.put, List.setIfInBounds_toArray, List.set_cons_zero, List.set_cons_succ]
      refine take_at (i := 10) (v := ?_) (some 20) rfl rfl (by kernel_rfl) (by kernel_rfl) (by kernel_rfl) (fun _ _ _ h => h) (Or.inl ⟨by rfl, ?_⟩) (by assumption) ?_
      rotate_left
      · (intro w hSw; (try dsimp only at hSw); go_simp; try with_reducible rfl)
      simp only [Act.put, List.setIfInBounds_toArray, List.set_cons_zero, List.set_cons_succ]
      refine call_at (i := 11) (some 21) 40 _ _ rfl rfl rfl (by rfl) (by kernel_rfl) #[x.k, y.k] rfl Try.func40 (by kernel_rfl) (by kernel_rfl) ?_
      refine CM.out.mono ?_
      rintro e W2 ⟨rfl, hw⟩
      rw [hw]
      refine ⟨_, rfl, ⟨q1, q2⟩, fun hHeld => ?_⟩
      simp only [Act.put, List.setIfInBounds_toArray, List.set_cons_zero, List.set_cons_succ]
      clear hw q1 q2 CM
      by_cases hc : cmpB x.p.k y.p.k < 0
      · have c1 : (0 ≤ cmpB x.p.k y.p.k) = False := eq_false (by omega)
        have HC := hidIt hc
        clear hc
        refine take_at (i := 12) (v := ?_) (some 22) rfl rfl (by kernel_rfl) (by kernel_rfl) (by kernel_rfl) (fun _ _ _ h => h) (Or.inl ⟨by rfl, ?_⟩) (by assumption) ?_
        rotate_left
        · (intro w hSw; (try dsimp only at hSw); go_simp; try with_reducible rfl)
        simp only [Act.put, List.setIfInBounds_toArray, List.set_cons_zero, List.set_cons_succ]
        refine wpAnyH_done (by kernel_rfl) ?_ _
        refine NoPanic.normal ?_
        have GO := hidIt (fun z hz => so_go W wr.drew (ps.map PV.p) k z hz BB.out.drew TK.out x.p y.p XY.out.1 XY.out.2 HC.out)
        go_wp2_with fail
        exact ⟨GO.out _ rfl, meas_s n k _ rfl LT.out⟩
      · have c1 : (0 ≤ cmpB x.p.k y.p.k) = True := eq_true (by omega)
        have HC := hidIt hc
        clear hc
        refine take_at (i := 12) (v := ?_) (some 22) rfl rfl (by kernel_rfl) (by kernel_rfl) (by kernel_rfl) (fun _ _ _ h => h) (Or.inl ⟨by rfl, ?_⟩) (by assumption) ?_
        rotate_left
        · (intro w hSw; (try dsimp only at hSw); go_simp; try with_reducible rfl)
        simp only [Act.put, List.setIfInBounds_toArray, List.set_cons_zero, List.set_cons_succ]
        refine wpAnyH_done (by kernel_rfl) ?_ _
        refine NoPanic.normal ?_
        go_wp2_with fail
        exact bodyPost_ret (v := .bool false) (by simp [results, Try.results20, go_sem]) rfl ⟨false, rfl, ⟨fun h => (by cases h), fun h => absurd (h k x.p y.p XY.out.1 XY.out.2) (Int.not_lt.2 HC.out)⟩, BB.out.drew⟩
    · have AL : Hid (Chn (ps.map PV.p)) := hidIt (fun j p q hp hq => TK.out j p q (by have := (List.getElem?_eq_some_iff.1 hq).1; simp at this; have := HN.out; omega) hp hq)
      have i0 : ((k : Int) + 1 < (n : Int)) = False := eq_false (by omega)
      clear hlt
      go_wp2_with fail
      exact bodyPost_ret (v := .bool true) (by simp [results, Try.results20, go_sem]) rfl ⟨true, rfl, ⟨fun _ => AL.out, fun _ => rfl⟩, BB.out⟩
set_option maxRecDepth 100000 in
set_option maxHeartbeats 1000000 in
theorem rsorted_any {W : World} {a : Option Addr} {ps : List PV} (n C : Nat) (hn : ps.length = n) (hL : Lst W a ps) (hf : n ≤ 100000) : Calls Try.prog 21 #[.slice a n C] W (SrtPost W (ps.map PV.p)) := by
  have HL := hidIt hL
  have HN := hidIt hn
  have HF := hidIt hf
  have st : Hid (soR W (ps.map PV.p) (.int .i64 1) W) := hidIt ⟨0, rfl, Below.refl _ _, fun j p q hj => by omega⟩
  clear hL hn hf
  go_enter Try.func21, Try.ntmps21
  go_wp2_with fail
  go_loopw [3] (fun i wr => soR W (ps.map PV.p) i wr) (fun i _ => n + 1 - (RowKit.intOf i).toNat)
  case atStart => exact st.out
  case round =>
    clear st
    obtain ⟨k, rfl, hB, ht⟩ := hrel
    have BB := hidIt hB
    have TK := hidIt ht
    clear hB ht
    by_cases hlt : k + 1 < n
    · obtain ⟨x, hx⟩ : ∃ x, ps[k]? = some x := ⟨_, List.getElem?_eq_getElem (by have := HN.out; omega)⟩
      obtain ⟨y, hy⟩ : ∃ y, ps[k + 1]? = some y := ⟨_, List.getElem?_eq_getElem (by have := HN.out; omega)⟩
      obtain ⟨b1, o1, ha, hr1, l1⟩ := (HL.out.below BB.out).at k x hx
      subst ha
      obtain ⟨b2, o2, hb, hr2, l2⟩ := (HL.out.below BB.out).at (k + 1) y hy
      injection hb with hb
      injection hb with hb1 hb2
      subst hb1 hb2
      have q1 := key_cell hr1
      have q2 := key_cell hr2
      have CM := hidIt (less_any ((HL.out.1 x (List.mem_of_getElem? hx)).below (BB.out.drew)).1 ((HL.out.1 y (List.mem_of_getElem? hy)).below (BB.out.drew)).1)
      have XY : Hid ((ps.map PV.p)[k]? = some x.p ∧ (ps.map PV.p)[k + 1]? = some y.p) := hidIt ⟨by rw [List.getElem?_map, hx]; rfl, by rw [List.getElem?_map, hy]; rfl⟩
      have LT := hidIt hlt
      obtain ⟨i0, i1, i2, i3, i4, i5, i6, i7, i8, i9, i10, i11⟩ := so_ar k n hlt HF.out
      clear hx hy hlt hr1 hr2 l1 l2
      go_wp2_with fail
      refine wp_region_noPanic ?_
      refine wp_region_held_drew (S := fun w' => w'.cell? ⟨b1, o1 + k * 3, none⟩ = some x.k ∧ w'.cell? ⟨b1, o1 + (k + 1) * 3, none⟩ = some y.k) (by kernel_rfl) ?_ (fun hHeld => ?_)
      · exact ⟨q1, q2⟩
      refine take_at (i := 0) (v := ?_) (some 10) rfl rfl (by kernel_rfl) (by kernel_rfl) (by kernel_rfl) (fun _ _ _ h => h) (Or.inl ⟨by rfl, ?_⟩) (by assumption) ?_
      rotate_left
      · (intro w hSw; (try dsimp only at hSw); go_simp; try with_reducible rfl)
      simp only [Act.put, List.setIfInBounds_toArray, List.set_cons_zero, List.set_cons_succ]
      refine take_at (i := 1) (v := ?_) (some 11) rfl rfl (by kernel_rfl) (by kernel_rfl) (by kernel_rfl) (fun _ _ _ h => h) (Or.inl ⟨by rfl, ?_⟩) (by assumption) ?_
      rotate_left
      · (intro w hSw; (try dsimp only at hSw); go_simp; try with_reducible rfl)
      simp only [Act.put, List.setIfInBounds_toArray, List.set_cons_zero, List.set_cons_succ]
      refine take_at (i := 2) (v := ?_) (some 12) rfl rfl (by kernel_rfl) (by kernel_rfl) (by kernel_rfl) (fun _ _ _ h => h) (Or.inl ⟨by rfl, ?_⟩) (by assumption) ?_
      rotate_left
      · (intro w hSw; (try dsimp only at hSw); go_simp; try with_reducible rfl)
      simp only [Act.put, List.setIfInBounds_toArray, List.set_cons_zero, List.set_cons_succ]
      refine take_at (i := 3) (v := ?_) (some 13) rfl rfl (by kernel_rfl) (by kernel_rfl) (by kernel_rfl) (fun _ _ _ h => h) (Or.inl ⟨by rfl, ?_⟩) (by assumption) ?_
      rotate_left
      · (intro w hSw; (try dsimp only at hSw); go_simp; try with_reducible rfl)
      simp only [Act.put, List.setIfInBounds_toArray, List.set_cons_zero, List.set_cons_succ]
      refine take_at (i := 4) (v := ?_) (some 14) rfl rfl (by kernel_rfl) (by kernel_rfl) (by kernel_rfl) (fun _ _ _ h => h) (Or.inl ⟨by rfl, ?_⟩) (by assumption) ?_
      rotate_left
      · (intro w hSw; (try dsimp only at hSw); go_simp; try with_reducible rfl)
      simp only [Act.put, List.setIfInBounds_toArray, List.set_cons_zero, List.set_cons_succ]
      refine take_at (i := 5) (v := ?_) (some 15) rfl rfl (by kernel_rfl) (by kernel_rfl) (by kernel_rfl) (fun _ _ _ h => h) (Or.inl ⟨by rfl, ?_⟩) (by assumption) ?_
      rotate_left
      · (intro w hSw; (try dsimp only at hSw); go_simp; try with_reducible rfl)
      simp only [Act.put, List.setIfInBounds_toArray, List.set_cons_zero, List.set_cons_succ]
      refine take_at (i := 6) (v := ?_) (some 16) rfl rfl (by kernel_rfl) (by kernel_rfl) (by kernel_rfl) (fun _ _ _ h => h) (Or.inl ⟨by rfl, ?_⟩) (by assumption) ?_
      rotate_left
      · (intro w hSw; (try dsimp only at hSw); go_simp; try with_reducible rfl)
      simp only [Act.put, List.setIfInBounds_toArray, List.set_cons_zero, List.set_cons_succ]
      refine take_at (i := 7) (v := ?_) (some 17) rfl rfl (by kernel_rfl) (by kernel_rfl) (by kernel_rfl) (fun _ _ _ h => h) (Or.inl ⟨by rfl, ?_⟩) (by assumption) ?_
      rotate_left
      · (intro w hSw; (try dsimp only at hSw); go_simp; try with_reducible rfl)
      simp only [Act.put, List.setIfInBounds_toArray, List.set_cons_zero, List.set_cons_succ]
      refine take_at (i := 8) (v := ?_) (some 18) rfl rfl (by kernel_rfl) (by kernel_rfl) (by kernel_rfl) (fun _ _ _ h => h) (Or.inl ⟨by rfl, ?_⟩) (by assumption) ?_
      rotate_left
      · (intro w hSw; (try dsimp only at hSw); go_simp; try with_reducible rfl)
      simp only [Act.put, List.setIfInBounds_toArray, List.set_cons_zero, List.set_cons_succ]
      refine take_at (i := 9) (v := ?_) (some 19) rfl rfl (by kernel_rfl) (by kernel_rfl) (by kernel_rfl) (fun _ _ _ h => h) (Or.inl ⟨by rfl, ?_⟩) (by assumption) ?_
      rotate_left
      · (intro w hSw; (try dsimp only at hSw); go_simp; try with_reducible rfl)
      simp only [Act.put, List.setIfInBounds_toArray, List.set_cons_zero, List.set_cons_succ]
      refine take_at (i := 10) (v := ?_) (some 20) rfl rfl (by kernel_rfl) (by kernel_rfl) (by kernel_rfl) (fun _ _ _ h => h) (Or.inl ⟨by rfl, ?_⟩) (by assumption) ?_
      rotate_left
      · (intro w hSw; (try dsimp only at hSw); go_simp; try with_reducible rfl)
      simp only [Act.put, List.setIfInBounds_toArray, List.set_cons_zero, List.set_cons_succ]
      refine call_at (i := 11) (some 21) 41 _ _ rfl rfl rfl (by rfl) (by kernel_rfl) #[x.k, y.k] rfl Try.func41 (by kernel_rfl) (by kernel_rfl) ?_
      refine CM.out.mono ?_
      rintro e W2 ⟨rfl, hw⟩
      rw [hw]
      refine ⟨_, rfl, ⟨q1, q2⟩, fun hHeld => ?_⟩
      simp only [Act.put, List.setIfInBounds_toArray, List.set_cons_zero, List.set_cons_succ]
      clear hw q1 q2 CM
      by_cases hc : cmpB x.p.k y.p.k < 0
      · rw [decide_eq_true hc]
        have HC := hidIt hc
        clear hc
        refine take_at (i := 12) (v := ?_) (some 22) rfl rfl (by kernel_rfl) (by kernel_rfl) (by kernel_rfl) (fun _ _ _ h => h) (Or.inl ⟨by rfl, ?_⟩) (by assumption) ?_
        rotate_left
        · (intro w hSw; (try dsimp only at hSw); go_simp; try with_reducible rfl)
        simp only [Act.put, List.setIfInBounds_toArray, List.set_cons_zero, List.set_cons_succ]
        refine wpAnyH_done (by kernel_rfl) ?_ _
        refine NoPanic.normal ?_
        have GO := hidIt (fun z hz => so_go W wr.drew (ps.map PV.p) k z hz BB.out.drew TK.out x.p y.p XY.out.1 XY.out.2 HC.out)
        go_wp2_with fail
        exact ⟨GO.out _ rfl, meas_s n k _ rfl LT.out⟩
      · rw [decide_eq_false hc]
        have HC := hidIt hc
        clear hc
        refine take_at (i := 12) (v := ?_) (some 22) rfl rfl (by kernel_rfl) (by kernel_rfl) (by kernel_rfl) (fun _ _ _ h => h) (Or.inl ⟨by rfl, ?_⟩) (by assumption) ?_
        rotate_left
        · (intro w hSw; (try dsimp only at hSw); go_simp; try with_reducible rfl)
        simp only [Act.put, List.setIfInBounds_toArray, List.set_cons_zero, List.set_cons_succ]
        refine wpAnyH_done (by kernel_rfl) ?_ _
        refine NoPanic.normal ?_
        go_wp2_with fail
        exact bodyPost_ret (v := .bool false) (by simp [results, Try.results21, go_sem]) rfl ⟨false, rfl, ⟨fun h => (by cases h), fun h => absurd (h k x.p y.p XY.out.1 XY.out.2) (Int.not_lt.2 HC.out)⟩, BB.out.drew⟩
    · have AL : Hid (Chn (ps.map PV.p)) := hidIt (fun j p q hp hq => TK.out j p q (by have := (List.getElem?_eq_some_iff.1 hq).1; simp at this; have := HN.out; omega) hp hq)
      have i0 : ((k : Int) + 1 < (n : Int)) = False := eq_false (by omega)
      clear hlt
      go_wp2_with fail
      exact bodyPost_ret (v := .bool true) (by simp [results, Try.results21, go_sem]) rfl ⟨true, rfl, ⟨fun _ => AL.out, fun _ => rfl⟩, BB.out⟩
end Go.Proofs.Ytandkedipjmdbaa
