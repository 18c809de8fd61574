/-
  Walks, not a claim by itself: the reference's Cmp. By the verifier.
-/
import Derived.Test.YtkpkehbhgfbckaaGateF
import Derived.Test.YtkpkehbhgfbckaaPs
import Derived.Test.YtkpkehbhgfbckaaCmp
import Derived.Deep.DeepCutAuto
import Derived.Deep.QuietTactic
import Derived.BigQuiet
namespace Go.Proofs.Ytkpkehbhgfbckaa
open Go.RowKit

/-- What holds at the head of Cmp's loop: p bytes are still to be compared. -/
def CmpRel (w : World) (X Y : Nat) (a b : Nat → Int) (i : Value) (wr : World) : Prop := ∃ p : Nat, p ≤ 16 ∧ ((p = 0 ∧ i = .int .i64 (-1)) ∨ ∃ m : Nat, p = m + 1 ∧ i = .int .i64 m) ∧ (∀ j, p ≤ j → j < 16 → a j = b j) ∧ RowF wr X a ∧ RowF wr Y b ∧ Below w.heap.size w wr
theorem cmp_step (w wr : World) (X Y : Nat) (a b : Nat → Int) (m : Nat) (hm : m < 16) (he : ∀ j, m + 1 ≤ j → j < 16 → a j = b j) (h : a m = b m) (hX : RowF wr X a) (hY : RowF wr Y b) (hE : Below w.heap.size w wr) : CmpRel w X Y a b (.int .i64 ((m : Int) - 1)) wr.drew.drew := by
  refine ⟨m, by omega, ?_, ?_, hX, hY, hE.drew.drew⟩
  · match m with
    | 0 => exact .inl ⟨rfl, rfl⟩
    | k + 1 => exact .inr ⟨k, rfl, by go_num⟩
  · intro j h1 h2
    by_cases e : j = m
    · rw [e, h]
    · exact he j (by omega) h2
theorem ret_i64 {a b : Int} (h : a = b) : Ending.returned (.int .i64 a) = .returned (.int .i64 b) := by rw [h]

set_option maxRecDepth 100000 in
set_option maxHeartbeats 20000000 in
theorem rcmp_any (ah al bh bl : Int) (w : World) (h1 : Word ah) (h2 : Word al) (h3 : Word bh) (h4 : Word bl) :
    Calls Try.prog 14 #[U ah al, U bh bl] w fun e w' => e = .returned (.int .i64 (cmpI (V ah al) (V bh bl))) ∧ Below w.heap.size w w' := by
  go_enter Try.func14, Try.ntmps14
  go_wp2_with fail
  go_cut [5, 6] (fun t5 t6 wx => ∃ X Y : Nat, t5 = .pointer (some ⟨X, 0, none⟩) ∧ t6 = .pointer (some ⟨Y, 0, none⟩) ∧ RowF wx X (bf ah al) ∧ RowF wx Y (bf bh bl) ∧ Below w.heap.size w wx)
  case first =>
    obtain ⟨w0, hw0⟩ : ∃ w0, w0 = (w.alloc (.cells #[.int .u64 ah, .int .u64 al] 24)).alloc (.cells #[.int .u64 bh, .int .u64 bl] 24) := ⟨_, rfl⟩
    have c1 : w0.cell? ⟨w.heap.size, 0, none⟩ = some (.int .u64 ah) := by rw [hw0]; simp [go_sem, World.cell?_alloc_past]
    have c2 : w0.cell? ⟨w.heap.size, 1, none⟩ = some (.int .u64 al) := by rw [hw0]; simp [go_sem, World.cell?_alloc_past]
    have c3 : w0.cell? ⟨w.heap.size + 1, 0, none⟩ = some (.int .u64 bh) := by rw [hw0]; simp [go_sem]
    have c4 : w0.cell? ⟨w.heap.size + 1, 1, none⟩ = some (.int .u64 bl) := by rw [hw0]; simp [go_sem]
    have hq : w.heap.size + 1 < w0.heap.size := by rw [hw0]; simp
    have hp : w.heap.size < w0.heap.size := by omega
    have hb : Hid (Below w.heap.size w w0) := by rw [hw0]; exact ((Below.refl _ _).alloc (Nat.le_refl _) _).alloc (by simp) _
    rw [← hw0]
    clear hw0
    obtain ⟨q, hq'⟩ : ∃ q, q = w.heap.size + 1 := ⟨_, rfl⟩
    rw [← hq'] at c3 c4 hq ⊢
    obtain ⟨p, hp'⟩ : ∃ p, p = w.heap.size := ⟨_, rfl⟩
    rw [← hp'] at c1 c2 hp ⊢
    have PQ : Hid (p = w.heap.size ∧ q = w.heap.size + 1) := ⟨hp', hq'⟩
    clear hp' hq'
    refine wp_region_held_drew (S := fun W' => W'.cell? ⟨p, 0, none⟩ = some (.int .u64 ah) ∧ W'.cell? ⟨p, 1, none⟩ = some (.int .u64 al) ∧ W'.cell? ⟨q, 0, none⟩ = some (.int .u64 bh) ∧ W'.cell? ⟨q, 1, none⟩ = some (.int .u64 bl) ∧ Hid (Below w0.heap.size w0 W')) (by kernel_rfl) ?_ (fun hHeld => ?_)
    · exact ⟨c1, c2, c3, c4, (Below.refl _ _).drew⟩
    refine take_at (i := 0) (v := ?_) (some 8) rfl rfl (by kernel_rfl) (by kernel_rfl) (by kernel_rfl) (fun _ _ _ h => h) (Or.inl ⟨by rfl, ?_⟩) (by assumption) ?_
    rotate_left
    · (intro w hSw; (try dsimp only at hSw); go_simp; try with_reducible rfl)
    simp only [Act.put, List.setIfInBounds_toArray, List.set_cons_zero, List.set_cons_succ]
    refine take_at (i := 2) (v := ?_) (some 10) rfl rfl (by kernel_rfl) (by kernel_rfl) (by kernel_rfl) (fun _ _ _ h => h) (Or.inl ⟨by rfl, ?_⟩) (by assumption) ?_
    rotate_left
    · (intro w hSw; (try dsimp only at hSw); go_simp; try with_reducible rfl)
    simp only [Act.put, List.setIfInBounds_toArray, List.set_cons_zero, List.set_cons_succ]
    obtain ⟨wd, hwd⟩ : ∃ wd, wd = w0.drew := ⟨_, rfl⟩
    rw [← hwd] at hHeld ⊢
    clear hwd
    refine wpAnyH_ready (rs := [1, 4, 5]) (by kernel_rfl) (by simp) ?_
    refine all_call (i := 1) (some 9) 30 _ _ rfl rfl rfl (by rfl) #[U ah al] rfl Try.func30 (by kernel_rfl) (by kernel_rfl) ?_ ?_
    · refine (rbytes_cl ah al _ h1 h2).mono ?_
      rintro e W1 ⟨rfl, hB⟩
      refine ⟨_, rfl, keepG hp hq hHeld (hB.mono (sizeG hHeld)), fun s1 => ?_⟩
      clear hB
      simp only [Act.put, List.setIfInBounds_toArray, List.set_cons_zero, List.set_cons_succ]
      refine wpAnyH_ready (rs := [3, 4, 5]) (by kernel_rfl) (by simp) ?_
      refine all_call (i := 3) (some 11) 30 _ _ rfl rfl rfl (by rfl) #[U bh bl] rfl Try.func30 (by kernel_rfl) (by kernel_rfl) ?_ ?_
      · refine (rbytes_cl bh bl _ h3 h4).mono ?_
        rintro e W2 ⟨rfl, hB⟩
        refine ⟨_, rfl, keepG hp hq s1 (hB.mono (sizeG s1)), fun s2 => ?_⟩
        clear hB
        simp only [Act.put, List.setIfInBounds_toArray, List.set_cons_zero, List.set_cons_succ]
        refine wpAnyH_ready (rs := [4, 5]) (by kernel_rfl) (by simp) ?_
        refine all_alloc (i := 4) (some 5) 42 rfl rfl rfl (by rfl) .u8 16 (by kernel_rfl) ?_ ?_
        · intro X W3 hn x3 hB
          have bX := Nat.le_trans (sizeG s2) hn
          refine ⟨keepG hp hq s2 (hB.mono (sizeG s2)), fun s3 => ?_⟩
          clear hB hn
          simp only [Act.put, List.setIfInBounds_toArray, List.set_cons_zero, List.set_cons_succ]
          refine wpAnyH_ready (rs := [5]) (by kernel_rfl) (by simp) ?_
          refine all_alloc (i := 5) (some 6) 42 rfl rfl rfl (by rfl) .u8 16 (by kernel_rfl) ?_ ?_
          · intro Y W4 hn y4 hB
            have ne : X ≠ Y := by have := x3.2.2; omega
            have x4 := x3.below hB
            have bY := Nat.le_trans (sizeG s3) hn
            refine ⟨keepG hp hq s3 (hB.mono (sizeG s3)), fun s4 => ?_⟩
            clear hB hn
            simp only [Act.put, List.setIfInBounds_toArray, List.set_cons_zero, List.set_cons_succ]
            refine wpAnyH_ready (rs := [6]) (by kernel_rfl) (by simp) ?_
            refine all_store (i := 6) none 42 _ _ rfl rfl rfl (by rfl) X .u8 16 (bf ah al) _ rfl rfl x4 (by kernel_rfl) ?_ AllReadyH.nil
            intro W5 x5 hB
            have y5 := y4.but hB ne.symm
            refine ⟨keepG hp hq s4 (hB.below bX (sizeG s4)), fun s5 => ?_⟩
            clear hB
            simp only [Act.put]
            refine wpAnyH_ready (rs := [7]) (by kernel_rfl) (by simp) ?_
            refine all_store (i := 7) none 42 _ _ rfl rfl rfl (by rfl) Y .u8 16 (bf bh bl) _ rfl rfl y5 (by kernel_rfl) ?_ AllReadyH.nil
            intro W6 y6 hB
            have x6 := x5.but hB ne
            refine ⟨keepG hp hq s5 (hB.below bY (sizeG s5)), fun s6 => ?_⟩
            clear hB
            simp only [Act.put]
            refine wpAnyH_done (by kernel_rfl) ?_ _
            obtain ⟨hp', hq'⟩ := PQ.out
            subst hp' hq'
            clear PQ
            go_wp2_with fail
            go_meet
            case rel => exact ⟨X, Y, rfl, rfl, RowF.of x6, RowF.of y6, hb.out.trans (s6.2.2.2.2.out.mono hb.out.size)⟩
          exact AllReadyH.nil
        refine all_alloc (i := 5) (some 6) 42 rfl rfl rfl (by rfl) .u8 16 (by kernel_rfl) ?_ ?_
        · intro Y W7 hn y7 hB
          have bY := Nat.le_trans (sizeG s2) hn
          refine ⟨keepG hp hq s2 (hB.mono (sizeG s2)), fun s7 => ?_⟩
          clear hB hn
          simp only [Act.put, List.setIfInBounds_toArray, List.set_cons_zero, List.set_cons_succ]
          refine wpAnyH_ready (rs := [4]) (by kernel_rfl) (by simp) ?_
          refine all_alloc (i := 4) (some 5) 42 rfl rfl rfl (by rfl) .u8 16 (by kernel_rfl) ?_ ?_
          · intro X W8 hn x8 hB
            have ne : X ≠ Y := by have := y7.2.2; omega
            have y8 := y7.below hB
            have bX := Nat.le_trans (sizeG s7) hn
            refine ⟨keepG hp hq s7 (hB.mono (sizeG s7)), fun s8 => ?_⟩
            clear hB hn
            simp only [Act.put, List.setIfInBounds_toArray, List.set_cons_zero, List.set_cons_succ]
            refine wpAnyH_ready (rs := [6]) (by kernel_rfl) (by simp) ?_
            refine all_store (i := 6) none 42 _ _ rfl rfl rfl (by rfl) X .u8 16 (bf ah al) _ rfl rfl x8 (by kernel_rfl) ?_ AllReadyH.nil
            intro W9 x9 hB
            have y9 := y8.but hB ne.symm
            refine ⟨keepG hp hq s8 (hB.below bX (sizeG s8)), fun s9 => ?_⟩
            clear hB
            simp only [Act.put]
            refine wpAnyH_ready (rs := [7]) (by kernel_rfl) (by simp) ?_
            refine all_store (i := 7) none 42 _ _ rfl rfl rfl (by rfl) Y .u8 16 (bf bh bl) _ rfl rfl y9 (by kernel_rfl) ?_ AllReadyH.nil
            intro W10 y10 hB
            have x10 := x9.but hB ne
            refine ⟨keepG hp hq s9 (hB.below bY (sizeG s9)), fun s10 => ?_⟩
            clear hB
            simp only [Act.put]
            refine wpAnyH_done (by kernel_rfl) ?_ _
            obtain ⟨hp', hq'⟩ := PQ.out
            subst hp' hq'
            clear PQ
            go_wp2_with fail
            go_meet
            case rel => exact ⟨X, Y, rfl, rfl, RowF.of x10, RowF.of y10, hb.out.trans (s10.2.2.2.2.out.mono hb.out.size)⟩
          exact AllReadyH.nil
        exact AllReadyH.nil
      refine all_alloc (i := 4) (some 5) 42 rfl rfl rfl (by rfl) .u8 16 (by kernel_rfl) ?_ ?_
      · intro X W11 hn x11 hB
        have bX := Nat.le_trans (sizeG s1) hn
        refine ⟨keepG hp hq s1 (hB.mono (sizeG s1)), fun s11 => ?_⟩
        clear hB hn
        simp only [Act.put, List.setIfInBounds_toArray, List.set_cons_zero, List.set_cons_succ]
        refine wpAnyH_ready (rs := [3, 5]) (by kernel_rfl) (by simp) ?_
        refine all_call (i := 3) (some 11) 30 _ _ rfl rfl rfl (by rfl) #[U bh bl] rfl Try.func30 (by kernel_rfl) (by kernel_rfl) ?_ ?_
        · refine (rbytes_cl bh bl _ h3 h4).mono ?_
          rintro e W12 ⟨rfl, hB⟩
          refine ⟨_, rfl, keepG hp hq s11 (hB.mono (sizeG s11)), fun s12 => ?_⟩
          have x12 := x11.below hB
          clear hB
          simp only [Act.put, List.setIfInBounds_toArray, List.set_cons_zero, List.set_cons_succ]
          refine wpAnyH_ready (rs := [5]) (by kernel_rfl) (by simp) ?_
          refine all_alloc (i := 5) (some 6) 42 rfl rfl rfl (by rfl) .u8 16 (by kernel_rfl) ?_ ?_
          · intro Y W13 hn y13 hB
            have ne : X ≠ Y := by have := x12.2.2; omega
            have x13 := x12.below hB
            have bY := Nat.le_trans (sizeG s12) hn
            refine ⟨keepG hp hq s12 (hB.mono (sizeG s12)), fun s13 => ?_⟩
            clear hB hn
            simp only [Act.put, List.setIfInBounds_toArray, List.set_cons_zero, List.set_cons_succ]
            refine wpAnyH_ready (rs := [6]) (by kernel_rfl) (by simp) ?_
            refine all_store (i := 6) none 42 _ _ rfl rfl rfl (by rfl) X .u8 16 (bf ah al) _ rfl rfl x13 (by kernel_rfl) ?_ AllReadyH.nil
            intro W14 x14 hB
            have y14 := y13.but hB ne.symm
            refine ⟨keepG hp hq s13 (hB.below bX (sizeG s13)), fun s14 => ?_⟩
            clear hB
            simp only [Act.put]
            refine wpAnyH_ready (rs := [7]) (by kernel_rfl) (by simp) ?_
            refine all_store (i := 7) none 42 _ _ rfl rfl rfl (by rfl) Y .u8 16 (bf bh bl) _ rfl rfl y14 (by kernel_rfl) ?_ AllReadyH.nil
            intro W15 y15 hB
            have x15 := x14.but hB ne
            refine ⟨keepG hp hq s14 (hB.below bY (sizeG s14)), fun s15 => ?_⟩
            clear hB
            simp only [Act.put]
            refine wpAnyH_done (by kernel_rfl) ?_ _
            obtain ⟨hp', hq'⟩ := PQ.out
            subst hp' hq'
            clear PQ
            go_wp2_with fail
            go_meet
            case rel => exact ⟨X, Y, rfl, rfl, RowF.of x15, RowF.of y15, hb.out.trans (s15.2.2.2.2.out.mono hb.out.size)⟩
          exact AllReadyH.nil
        refine all_alloc (i := 5) (some 6) 42 rfl rfl rfl (by rfl) .u8 16 (by kernel_rfl) ?_ ?_
        · intro Y W16 hn y16 hB
          have ne : X ≠ Y := by have := x11.2.2; omega
          have x16 := x11.below hB
          have bY := Nat.le_trans (sizeG s11) hn
          refine ⟨keepG hp hq s11 (hB.mono (sizeG s11)), fun s16 => ?_⟩
          clear hB hn
          simp only [Act.put, List.setIfInBounds_toArray, List.set_cons_zero, List.set_cons_succ]
          refine wpAnyH_ready (rs := [3]) (by kernel_rfl) (by simp) ?_
          refine all_call (i := 3) (some 11) 30 _ _ rfl rfl rfl (by rfl) #[U bh bl] rfl Try.func30 (by kernel_rfl) (by kernel_rfl) ?_ ?_
          · refine (rbytes_cl bh bl _ h3 h4).mono ?_
            rintro e W17 ⟨rfl, hB⟩
            refine ⟨_, rfl, keepG hp hq s16 (hB.mono (sizeG s16)), fun s17 => ?_⟩
            have x17 := x16.below hB
            have y17 := y16.below hB
            clear hB
            simp only [Act.put, List.setIfInBounds_toArray, List.set_cons_zero, List.set_cons_succ]
            refine wpAnyH_ready (rs := [6]) (by kernel_rfl) (by simp) ?_
            refine all_store (i := 6) none 42 _ _ rfl rfl rfl (by rfl) X .u8 16 (bf ah al) _ rfl rfl x17 (by kernel_rfl) ?_ AllReadyH.nil
            intro W18 x18 hB
            have y18 := y17.but hB ne.symm
            refine ⟨keepG hp hq s17 (hB.below bX (sizeG s17)), fun s18 => ?_⟩
            clear hB
            simp only [Act.put]
            refine wpAnyH_ready (rs := [7]) (by kernel_rfl) (by simp) ?_
            refine all_store (i := 7) none 42 _ _ rfl rfl rfl (by rfl) Y .u8 16 (bf bh bl) _ rfl rfl y18 (by kernel_rfl) ?_ AllReadyH.nil
            intro W19 y19 hB
            have x19 := x18.but hB ne
            refine ⟨keepG hp hq s18 (hB.below bY (sizeG s18)), fun s19 => ?_⟩
            clear hB
            simp only [Act.put]
            refine wpAnyH_done (by kernel_rfl) ?_ _
            obtain ⟨hp', hq'⟩ := PQ.out
            subst hp' hq'
            clear PQ
            go_wp2_with fail
            go_meet
            case rel => exact ⟨X, Y, rfl, rfl, RowF.of x19, RowF.of y19, hb.out.trans (s19.2.2.2.2.out.mono hb.out.size)⟩
          exact AllReadyH.nil
        exact AllReadyH.nil
      refine all_alloc (i := 5) (some 6) 42 rfl rfl rfl (by rfl) .u8 16 (by kernel_rfl) ?_ ?_
      · intro Y W20 hn y20 hB
        have bY := Nat.le_trans (sizeG s1) hn
        refine ⟨keepG hp hq s1 (hB.mono (sizeG s1)), fun s20 => ?_⟩
        clear hB hn
        simp only [Act.put, List.setIfInBounds_toArray, List.set_cons_zero, List.set_cons_succ]
        refine wpAnyH_ready (rs := [3, 4]) (by kernel_rfl) (by simp) ?_
        refine all_call (i := 3) (some 11) 30 _ _ rfl rfl rfl (by rfl) #[U bh bl] rfl Try.func30 (by kernel_rfl) (by kernel_rfl) ?_ ?_
        · refine (rbytes_cl bh bl _ h3 h4).mono ?_
          rintro e W21 ⟨rfl, hB⟩
          refine ⟨_, rfl, keepG hp hq s20 (hB.mono (sizeG s20)), fun s21 => ?_⟩
          have y21 := y20.below hB
          clear hB
          simp only [Act.put, List.setIfInBounds_toArray, List.set_cons_zero, List.set_cons_succ]
          refine wpAnyH_ready (rs := [4]) (by kernel_rfl) (by simp) ?_
          refine all_alloc (i := 4) (some 5) 42 rfl rfl rfl (by rfl) .u8 16 (by kernel_rfl) ?_ ?_
          · intro X W22 hn x22 hB
            have ne : X ≠ Y := by have := y21.2.2; omega
            have y22 := y21.below hB
            have bX := Nat.le_trans (sizeG s21) hn
            refine ⟨keepG hp hq s21 (hB.mono (sizeG s21)), fun s22 => ?_⟩
            clear hB hn
            simp only [Act.put, List.setIfInBounds_toArray, List.set_cons_zero, List.set_cons_succ]
            refine wpAnyH_ready (rs := [6]) (by kernel_rfl) (by simp) ?_
            refine all_store (i := 6) none 42 _ _ rfl rfl rfl (by rfl) X .u8 16 (bf ah al) _ rfl rfl x22 (by kernel_rfl) ?_ AllReadyH.nil
            intro W23 x23 hB
            have y23 := y22.but hB ne.symm
            refine ⟨keepG hp hq s22 (hB.below bX (sizeG s22)), fun s23 => ?_⟩
            clear hB
            simp only [Act.put]
            refine wpAnyH_ready (rs := [7]) (by kernel_rfl) (by simp) ?_
            refine all_store (i := 7) none 42 _ _ rfl rfl rfl (by rfl) Y .u8 16 (bf bh bl) _ rfl rfl y23 (by kernel_rfl) ?_ AllReadyH.nil
            intro W24 y24 hB
            have x24 := x23.but hB ne
            refine ⟨keepG hp hq s23 (hB.below bY (sizeG s23)), fun s24 => ?_⟩
            clear hB
            simp only [Act.put]
            refine wpAnyH_done (by kernel_rfl) ?_ _
            obtain ⟨hp', hq'⟩ := PQ.out
            subst hp' hq'
            clear PQ
            go_wp2_with fail
            go_meet
            case rel => exact ⟨X, Y, rfl, rfl, RowF.of x24, RowF.of y24, hb.out.trans (s24.2.2.2.2.out.mono hb.out.size)⟩
          exact AllReadyH.nil
        refine all_alloc (i := 4) (some 5) 42 rfl rfl rfl (by rfl) .u8 16 (by kernel_rfl) ?_ ?_
        · intro X W25 hn x25 hB
          have ne : X ≠ Y := by have := y20.2.2; omega
          have y25 := y20.below hB
          have bX := Nat.le_trans (sizeG s20) hn
          refine ⟨keepG hp hq s20 (hB.mono (sizeG s20)), fun s25 => ?_⟩
          clear hB hn
          simp only [Act.put, List.setIfInBounds_toArray, List.set_cons_zero, List.set_cons_succ]
          refine wpAnyH_ready (rs := [3]) (by kernel_rfl) (by simp) ?_
          refine all_call (i := 3) (some 11) 30 _ _ rfl rfl rfl (by rfl) #[U bh bl] rfl Try.func30 (by kernel_rfl) (by kernel_rfl) ?_ ?_
          · refine (rbytes_cl bh bl _ h3 h4).mono ?_
            rintro e W26 ⟨rfl, hB⟩
            refine ⟨_, rfl, keepG hp hq s25 (hB.mono (sizeG s25)), fun s26 => ?_⟩
            have x26 := x25.below hB
            have y26 := y25.below hB
            clear hB
            simp only [Act.put, List.setIfInBounds_toArray, List.set_cons_zero, List.set_cons_succ]
            refine wpAnyH_ready (rs := [6]) (by kernel_rfl) (by simp) ?_
            refine all_store (i := 6) none 42 _ _ rfl rfl rfl (by rfl) X .u8 16 (bf ah al) _ rfl rfl x26 (by kernel_rfl) ?_ AllReadyH.nil
            intro W27 x27 hB
            have y27 := y26.but hB ne.symm
            refine ⟨keepG hp hq s26 (hB.below bX (sizeG s26)), fun s27 => ?_⟩
            clear hB
            simp only [Act.put]
            refine wpAnyH_ready (rs := [7]) (by kernel_rfl) (by simp) ?_
            refine all_store (i := 7) none 42 _ _ rfl rfl rfl (by rfl) Y .u8 16 (bf bh bl) _ rfl rfl y27 (by kernel_rfl) ?_ AllReadyH.nil
            intro W28 y28 hB
            have x28 := x27.but hB ne
            refine ⟨keepG hp hq s27 (hB.below bY (sizeG s27)), fun s28 => ?_⟩
            clear hB
            simp only [Act.put]
            refine wpAnyH_done (by kernel_rfl) ?_ _
            obtain ⟨hp', hq'⟩ := PQ.out
            subst hp' hq'
            clear PQ
            go_wp2_with fail
            go_meet
            case rel => exact ⟨X, Y, rfl, rfl, RowF.of x28, RowF.of y28, hb.out.trans (s28.2.2.2.2.out.mono hb.out.size)⟩
          exact AllReadyH.nil
        exact AllReadyH.nil
      exact AllReadyH.nil
    refine all_alloc (i := 4) (some 5) 42 rfl rfl rfl (by rfl) .u8 16 (by kernel_rfl) ?_ ?_
    · intro X W29 hn x29 hB
      have bX := Nat.le_trans (sizeG hHeld) hn
      refine ⟨keepG hp hq hHeld (hB.mono (sizeG hHeld)), fun s29 => ?_⟩
      clear hB hn
      simp only [Act.put, List.setIfInBounds_toArray, List.set_cons_zero, List.set_cons_succ]
      refine wpAnyH_ready (rs := [1, 5]) (by kernel_rfl) (by simp) ?_
      refine all_call (i := 1) (some 9) 30 _ _ rfl rfl rfl (by rfl) #[U ah al] rfl Try.func30 (by kernel_rfl) (by kernel_rfl) ?_ ?_
      · refine (rbytes_cl ah al _ h1 h2).mono ?_
        rintro e W30 ⟨rfl, hB⟩
        refine ⟨_, rfl, keepG hp hq s29 (hB.mono (sizeG s29)), fun s30 => ?_⟩
        have x30 := x29.below hB
        clear hB
        simp only [Act.put, List.setIfInBounds_toArray, List.set_cons_zero, List.set_cons_succ]
        refine wpAnyH_ready (rs := [3, 5]) (by kernel_rfl) (by simp) ?_
        refine all_call (i := 3) (some 11) 30 _ _ rfl rfl rfl (by rfl) #[U bh bl] rfl Try.func30 (by kernel_rfl) (by kernel_rfl) ?_ ?_
        · refine (rbytes_cl bh bl _ h3 h4).mono ?_
          rintro e W31 ⟨rfl, hB⟩
          refine ⟨_, rfl, keepG hp hq s30 (hB.mono (sizeG s30)), fun s31 => ?_⟩
          have x31 := x30.below hB
          clear hB
          simp only [Act.put, List.setIfInBounds_toArray, List.set_cons_zero, List.set_cons_succ]
          refine wpAnyH_ready (rs := [5]) (by kernel_rfl) (by simp) ?_
          refine all_alloc (i := 5) (some 6) 42 rfl rfl rfl (by rfl) .u8 16 (by kernel_rfl) ?_ ?_
          · intro Y W32 hn y32 hB
            have ne : X ≠ Y := by have := x31.2.2; omega
            have x32 := x31.below hB
            have bY := Nat.le_trans (sizeG s31) hn
            refine ⟨keepG hp hq s31 (hB.mono (sizeG s31)), fun s32 => ?_⟩
            clear hB hn
            simp only [Act.put, List.setIfInBounds_toArray, List.set_cons_zero, List.set_cons_succ]
            refine wpAnyH_ready (rs := [6]) (by kernel_rfl) (by simp) ?_
            refine all_store (i := 6) none 42 _ _ rfl rfl rfl (by rfl) X .u8 16 (bf ah al) _ rfl rfl x32 (by kernel_rfl) ?_ AllReadyH.nil
            intro W33 x33 hB
            have y33 := y32.but hB ne.symm
            refine ⟨keepG hp hq s32 (hB.below bX (sizeG s32)), fun s33 => ?_⟩
            clear hB
            simp only [Act.put]
            refine wpAnyH_ready (rs := [7]) (by kernel_rfl) (by simp) ?_
            refine all_store (i := 7) none 42 _ _ rfl rfl rfl (by rfl) Y .u8 16 (bf bh bl) _ rfl rfl y33 (by kernel_rfl) ?_ AllReadyH.nil
            intro W34 y34 hB
            have x34 := x33.but hB ne
            refine ⟨keepG hp hq s33 (hB.below bY (sizeG s33)), fun s34 => ?_⟩
            clear hB
            simp only [Act.put]
            refine wpAnyH_done (by kernel_rfl) ?_ _
            obtain ⟨hp', hq'⟩ := PQ.out
            subst hp' hq'
            clear PQ
            go_wp2_with fail
            go_meet
            case rel => exact ⟨X, Y, rfl, rfl, RowF.of x34, RowF.of y34, hb.out.trans (s34.2.2.2.2.out.mono hb.out.size)⟩
          exact AllReadyH.nil
        refine all_alloc (i := 5) (some 6) 42 rfl rfl rfl (by rfl) .u8 16 (by kernel_rfl) ?_ ?_
        · intro Y W35 hn y35 hB
          have ne : X ≠ Y := by have := x30.2.2; omega
          have x35 := x30.below hB
          have bY := Nat.le_trans (sizeG s30) hn
          refine ⟨keepG hp hq s30 (hB.mono (sizeG s30)), fun s35 => ?_⟩
          clear hB hn
          simp only [Act.put, List.setIfInBounds_toArray, List.set_cons_zero, List.set_cons_succ]
          refine wpAnyH_ready (rs := [3]) (by kernel_rfl) (by simp) ?_
          refine all_call (i := 3) (some 11) 30 _ _ rfl rfl rfl (by rfl) #[U bh bl] rfl Try.func30 (by kernel_rfl) (by kernel_rfl) ?_ ?_
          · refine (rbytes_cl bh bl _ h3 h4).mono ?_
            rintro e W36 ⟨rfl, hB⟩
            refine ⟨_, rfl, keepG hp hq s35 (hB.mono (sizeG s35)), fun s36 => ?_⟩
            have x36 := x35.below hB
            have y36 := y35.below hB
            clear hB
            simp only [Act.put, List.setIfInBounds_toArray, List.set_cons_zero, List.set_cons_succ]
            refine wpAnyH_ready (rs := [6]) (by kernel_rfl) (by simp) ?_
            refine all_store (i := 6) none 42 _ _ rfl rfl rfl (by rfl) X .u8 16 (bf ah al) _ rfl rfl x36 (by kernel_rfl) ?_ AllReadyH.nil
            intro W37 x37 hB
            have y37 := y36.but hB ne.symm
            refine ⟨keepG hp hq s36 (hB.below bX (sizeG s36)), fun s37 => ?_⟩
            clear hB
            simp only [Act.put]
            refine wpAnyH_ready (rs := [7]) (by kernel_rfl) (by simp) ?_
            refine all_store (i := 7) none 42 _ _ rfl rfl rfl (by rfl) Y .u8 16 (bf bh bl) _ rfl rfl y37 (by kernel_rfl) ?_ AllReadyH.nil
            intro W38 y38 hB
            have x38 := x37.but hB ne
            refine ⟨keepG hp hq s37 (hB.below bY (sizeG s37)), fun s38 => ?_⟩
            clear hB
            simp only [Act.put]
            refine wpAnyH_done (by kernel_rfl) ?_ _
            obtain ⟨hp', hq'⟩ := PQ.out
            subst hp' hq'
            clear PQ
            go_wp2_with fail
            go_meet
            case rel => exact ⟨X, Y, rfl, rfl, RowF.of x38, RowF.of y38, hb.out.trans (s38.2.2.2.2.out.mono hb.out.size)⟩
          exact AllReadyH.nil
        exact AllReadyH.nil
      refine all_alloc (i := 5) (some 6) 42 rfl rfl rfl (by rfl) .u8 16 (by kernel_rfl) ?_ ?_
      · intro Y W39 hn y39 hB
        have ne : X ≠ Y := by have := x29.2.2; omega
        have x39 := x29.below hB
        have bY := Nat.le_trans (sizeG s29) hn
        refine ⟨keepG hp hq s29 (hB.mono (sizeG s29)), fun s39 => ?_⟩
        clear hB hn
        simp only [Act.put, List.setIfInBounds_toArray, List.set_cons_zero, List.set_cons_succ]
        refine wpAnyH_ready (rs := [1]) (by kernel_rfl) (by simp) ?_
        refine all_call (i := 1) (some 9) 30 _ _ rfl rfl rfl (by rfl) #[U ah al] rfl Try.func30 (by kernel_rfl) (by kernel_rfl) ?_ ?_
        · refine (rbytes_cl ah al _ h1 h2).mono ?_
          rintro e W40 ⟨rfl, hB⟩
          refine ⟨_, rfl, keepG hp hq s39 (hB.mono (sizeG s39)), fun s40 => ?_⟩
          have x40 := x39.below hB
          have y40 := y39.below hB
          clear hB
          simp only [Act.put, List.setIfInBounds_toArray, List.set_cons_zero, List.set_cons_succ]
          refine wpAnyH_ready (rs := [3]) (by kernel_rfl) (by simp) ?_
          refine all_call (i := 3) (some 11) 30 _ _ rfl rfl rfl (by rfl) #[U bh bl] rfl Try.func30 (by kernel_rfl) (by kernel_rfl) ?_ ?_
          · refine (rbytes_cl bh bl _ h3 h4).mono ?_
            rintro e W41 ⟨rfl, hB⟩
            refine ⟨_, rfl, keepG hp hq s40 (hB.mono (sizeG s40)), fun s41 => ?_⟩
            have x41 := x40.below hB
            have y41 := y40.below hB
            clear hB
            simp only [Act.put, List.setIfInBounds_toArray, List.set_cons_zero, List.set_cons_succ]
            refine wpAnyH_ready (rs := [6]) (by kernel_rfl) (by simp) ?_
            refine all_store (i := 6) none 42 _ _ rfl rfl rfl (by rfl) X .u8 16 (bf ah al) _ rfl rfl x41 (by kernel_rfl) ?_ AllReadyH.nil
            intro W42 x42 hB
            have y42 := y41.but hB ne.symm
            refine ⟨keepG hp hq s41 (hB.below bX (sizeG s41)), fun s42 => ?_⟩
            clear hB
            simp only [Act.put]
            refine wpAnyH_ready (rs := [7]) (by kernel_rfl) (by simp) ?_
            refine all_store (i := 7) none 42 _ _ rfl rfl rfl (by rfl) Y .u8 16 (bf bh bl) _ rfl rfl y42 (by kernel_rfl) ?_ AllReadyH.nil
            intro W43 y43 hB
            have x43 := x42.but hB ne
            refine ⟨keepG hp hq s42 (hB.below bY (sizeG s42)), fun s43 => ?_⟩
            clear hB
            simp only [Act.put]
            refine wpAnyH_done (by kernel_rfl) ?_ _
            obtain ⟨hp', hq'⟩ := PQ.out
            subst hp' hq'
            clear PQ
            go_wp2_with fail
            go_meet
            case rel => exact ⟨X, Y, rfl, rfl, RowF.of x43, RowF.of y43, hb.out.trans (s43.2.2.2.2.out.mono hb.out.size)⟩
          exact AllReadyH.nil
        exact AllReadyH.nil
      exact AllReadyH.nil
    refine all_alloc (i := 5) (some 6) 42 rfl rfl rfl (by rfl) .u8 16 (by kernel_rfl) ?_ ?_
    · intro Y W44 hn y44 hB
      have bY := Nat.le_trans (sizeG hHeld) hn
      refine ⟨keepG hp hq hHeld (hB.mono (sizeG hHeld)), fun s44 => ?_⟩
      clear hB hn
      simp only [Act.put, List.setIfInBounds_toArray, List.set_cons_zero, List.set_cons_succ]
      refine wpAnyH_ready (rs := [1, 4]) (by kernel_rfl) (by simp) ?_
      refine all_call (i := 1) (some 9) 30 _ _ rfl rfl rfl (by rfl) #[U ah al] rfl Try.func30 (by kernel_rfl) (by kernel_rfl) ?_ ?_
      · refine (rbytes_cl ah al _ h1 h2).mono ?_
        rintro e W45 ⟨rfl, hB⟩
        refine ⟨_, rfl, keepG hp hq s44 (hB.mono (sizeG s44)), fun s45 => ?_⟩
        have y45 := y44.below hB
        clear hB
        simp only [Act.put, List.setIfInBounds_toArray, List.set_cons_zero, List.set_cons_succ]
        refine wpAnyH_ready (rs := [3, 4]) (by kernel_rfl) (by simp) ?_
        refine all_call (i := 3) (some 11) 30 _ _ rfl rfl rfl (by rfl) #[U bh bl] rfl Try.func30 (by kernel_rfl) (by kernel_rfl) ?_ ?_
        · refine (rbytes_cl bh bl _ h3 h4).mono ?_
          rintro e W46 ⟨rfl, hB⟩
          refine ⟨_, rfl, keepG hp hq s45 (hB.mono (sizeG s45)), fun s46 => ?_⟩
          have y46 := y45.below hB
          clear hB
          simp only [Act.put, List.setIfInBounds_toArray, List.set_cons_zero, List.set_cons_succ]
          refine wpAnyH_ready (rs := [4]) (by kernel_rfl) (by simp) ?_
          refine all_alloc (i := 4) (some 5) 42 rfl rfl rfl (by rfl) .u8 16 (by kernel_rfl) ?_ ?_
          · intro X W47 hn x47 hB
            have ne : X ≠ Y := by have := y46.2.2; omega
            have y47 := y46.below hB
            have bX := Nat.le_trans (sizeG s46) hn
            refine ⟨keepG hp hq s46 (hB.mono (sizeG s46)), fun s47 => ?_⟩
            clear hB hn
            simp only [Act.put, List.setIfInBounds_toArray, List.set_cons_zero, List.set_cons_succ]
            refine wpAnyH_ready (rs := [6]) (by kernel_rfl) (by simp) ?_
            refine all_store (i := 6) none 42 _ _ rfl rfl rfl (by rfl) X .u8 16 (bf ah al) _ rfl rfl x47 (by kernel_rfl) ?_ AllReadyH.nil
            intro W48 x48 hB
            have y48 := y47.but hB ne.symm
            refine ⟨keepG hp hq s47 (hB.below bX (sizeG s47)), fun s48 => ?_⟩
            clear hB
            simp only [Act.put]
            refine wpAnyH_ready (rs := [7]) (by kernel_rfl) (by simp) ?_
            refine all_store (i := 7) none 42 _ _ rfl rfl rfl (by rfl) Y .u8 16 (bf bh bl) _ rfl rfl y48 (by kernel_rfl) ?_ AllReadyH.nil
            intro W49 y49 hB
            have x49 := x48.but hB ne
            refine ⟨keepG hp hq s48 (hB.below bY (sizeG s48)), fun s49 => ?_⟩
            clear hB
            simp only [Act.put]
            refine wpAnyH_done (by kernel_rfl) ?_ _
            obtain ⟨hp', hq'⟩ := PQ.out
            subst hp' hq'
            clear PQ
            go_wp2_with fail
            go_meet
            case rel => exact ⟨X, Y, rfl, rfl, RowF.of x49, RowF.of y49, hb.out.trans (s49.2.2.2.2.out.mono hb.out.size)⟩
          exact AllReadyH.nil
        refine all_alloc (i := 4) (some 5) 42 rfl rfl rfl (by rfl) .u8 16 (by kernel_rfl) ?_ ?_
        · intro X W50 hn x50 hB
          have ne : X ≠ Y := by have := y45.2.2; omega
          have y50 := y45.below hB
          have bX := Nat.le_trans (sizeG s45) hn
          refine ⟨keepG hp hq s45 (hB.mono (sizeG s45)), fun s50 => ?_⟩
          clear hB hn
          simp only [Act.put, List.setIfInBounds_toArray, List.set_cons_zero, List.set_cons_succ]
          refine wpAnyH_ready (rs := [3]) (by kernel_rfl) (by simp) ?_
          refine all_call (i := 3) (some 11) 30 _ _ rfl rfl rfl (by rfl) #[U bh bl] rfl Try.func30 (by kernel_rfl) (by kernel_rfl) ?_ ?_
          · refine (rbytes_cl bh bl _ h3 h4).mono ?_
            rintro e W51 ⟨rfl, hB⟩
            refine ⟨_, rfl, keepG hp hq s50 (hB.mono (sizeG s50)), fun s51 => ?_⟩
            have x51 := x50.below hB
            have y51 := y50.below hB
            clear hB
            simp only [Act.put, List.setIfInBounds_toArray, List.set_cons_zero, List.set_cons_succ]
            refine wpAnyH_ready (rs := [6]) (by kernel_rfl) (by simp) ?_
            refine all_store (i := 6) none 42 _ _ rfl rfl rfl (by rfl) X .u8 16 (bf ah al) _ rfl rfl x51 (by kernel_rfl) ?_ AllReadyH.nil
            intro W52 x52 hB
            have y52 := y51.but hB ne.symm
            refine ⟨keepG hp hq s51 (hB.below bX (sizeG s51)), fun s52 => ?_⟩
            clear hB
            simp only [Act.put]
            refine wpAnyH_ready (rs := [7]) (by kernel_rfl) (by simp) ?_
            refine all_store (i := 7) none 42 _ _ rfl rfl rfl (by rfl) Y .u8 16 (bf bh bl) _ rfl rfl y52 (by kernel_rfl) ?_ AllReadyH.nil
            intro W53 y53 hB
            have x53 := x52.but hB ne
            refine ⟨keepG hp hq s52 (hB.below bY (sizeG s52)), fun s53 => ?_⟩
            clear hB
            simp only [Act.put]
            refine wpAnyH_done (by kernel_rfl) ?_ _
            obtain ⟨hp', hq'⟩ := PQ.out
            subst hp' hq'
            clear PQ
            go_wp2_with fail
            go_meet
            case rel => exact ⟨X, Y, rfl, rfl, RowF.of x53, RowF.of y53, hb.out.trans (s53.2.2.2.2.out.mono hb.out.size)⟩
          exact AllReadyH.nil
        exact AllReadyH.nil
      refine all_alloc (i := 4) (some 5) 42 rfl rfl rfl (by rfl) .u8 16 (by kernel_rfl) ?_ ?_
      · intro X W54 hn x54 hB
        have ne : X ≠ Y := by have := y44.2.2; omega
        have y54 := y44.below hB
        have bX := Nat.le_trans (sizeG s44) hn
        refine ⟨keepG hp hq s44 (hB.mono (sizeG s44)), fun s54 => ?_⟩
        clear hB hn
        simp only [Act.put, List.setIfInBounds_toArray, List.set_cons_zero, List.set_cons_succ]
        refine wpAnyH_ready (rs := [1]) (by kernel_rfl) (by simp) ?_
        refine all_call (i := 1) (some 9) 30 _ _ rfl rfl rfl (by rfl) #[U ah al] rfl Try.func30 (by kernel_rfl) (by kernel_rfl) ?_ ?_
        · refine (rbytes_cl ah al _ h1 h2).mono ?_
          rintro e W55 ⟨rfl, hB⟩
          refine ⟨_, rfl, keepG hp hq s54 (hB.mono (sizeG s54)), fun s55 => ?_⟩
          have x55 := x54.below hB
          have y55 := y54.below hB
          clear hB
          simp only [Act.put, List.setIfInBounds_toArray, List.set_cons_zero, List.set_cons_succ]
          refine wpAnyH_ready (rs := [3]) (by kernel_rfl) (by simp) ?_
          refine all_call (i := 3) (some 11) 30 _ _ rfl rfl rfl (by rfl) #[U bh bl] rfl Try.func30 (by kernel_rfl) (by kernel_rfl) ?_ ?_
          · refine (rbytes_cl bh bl _ h3 h4).mono ?_
            rintro e W56 ⟨rfl, hB⟩
            refine ⟨_, rfl, keepG hp hq s55 (hB.mono (sizeG s55)), fun s56 => ?_⟩
            have x56 := x55.below hB
            have y56 := y55.below hB
            clear hB
            simp only [Act.put, List.setIfInBounds_toArray, List.set_cons_zero, List.set_cons_succ]
            refine wpAnyH_ready (rs := [6]) (by kernel_rfl) (by simp) ?_
            refine all_store (i := 6) none 42 _ _ rfl rfl rfl (by rfl) X .u8 16 (bf ah al) _ rfl rfl x56 (by kernel_rfl) ?_ AllReadyH.nil
            intro W57 x57 hB
            have y57 := y56.but hB ne.symm
            refine ⟨keepG hp hq s56 (hB.below bX (sizeG s56)), fun s57 => ?_⟩
            clear hB
            simp only [Act.put]
            refine wpAnyH_ready (rs := [7]) (by kernel_rfl) (by simp) ?_
            refine all_store (i := 7) none 42 _ _ rfl rfl rfl (by rfl) Y .u8 16 (bf bh bl) _ rfl rfl y57 (by kernel_rfl) ?_ AllReadyH.nil
            intro W58 y58 hB
            have x58 := x57.but hB ne
            refine ⟨keepG hp hq s57 (hB.below bY (sizeG s57)), fun s58 => ?_⟩
            clear hB
            simp only [Act.put]
            refine wpAnyH_done (by kernel_rfl) ?_ _
            obtain ⟨hp', hq'⟩ := PQ.out
            subst hp' hq'
            clear PQ
            go_wp2_with fail
            go_meet
            case rel => exact ⟨X, Y, rfl, rfl, RowF.of x58, RowF.of y58, hb.out.trans (s58.2.2.2.2.out.mono hb.out.size)⟩
          exact AllReadyH.nil
        exact AllReadyH.nil
      exact AllReadyH.nil
    exact AllReadyH.nil
  case rest =>
    obtain ⟨X, Y, rfl, rfl, hX, hY, hE⟩ := hcut
    have BA : Hid (∀ j, j < 16 → 0 ≤ bf ah al j ∧ bf ah al j < 256) := bf_byte ah al h1 h2
    have BB : Hid (∀ j, j < 16 → 0 ≤ bf bh bl j ∧ bf bh bl j < 256) := bf_byte bh bl h3 h4
    have SA : Hid (ps (bf ah al) 16 = V ah al) := bf_16 ah al
    have SB : Hid (ps (bf bh bl) 16 = V bh bl) := bf_16 bh bl
    generalize bf ah al = a at *
    generalize bf bh bl = b at *
    have R : Hid (RowF wc X a ∧ RowF wc Y b ∧ Below w.heap.size w wc) := ⟨hX, hY, hE⟩
    clear hX hY hE
    go_wp2_with fail
    go_loopw [7] (fun i wr => CmpRel w X Y a b i wr) (fun i _ => (intOf i + 1).toNat)
    case atStart => exact ⟨16, by omega, .inr ⟨15, rfl, rfl⟩, fun j h1 h2 => by omega, R.out.1, R.out.2.1, R.out.2.2⟩
    case round =>
      obtain ⟨p, hp, hi, he, hX, hY, hE⟩ := hrel
      have HE : Hid (∀ j, p ≤ j → j < 16 → a j = b j) := he
      have BE : Hid (Below w.heap.size w wr) := hE
      clear he hE R
      rcases hi with ⟨rfl, rfl⟩ | ⟨m, rfl, rfl⟩
      · go_wp2_with fail
        go_ret
        refine ⟨ret_i64 ?_, BE.out⟩
        have : V ah al = V bh bl := by rw [← SA.out, ← SB.out]; exact ps_congr a b 16 (fun j hj => HE.out j (by omega) hj)
        rw [this]; unfold cmpI; rw [if_neg (by omega), if_neg (by omega)]
      · have hm : m < 16 := by omega
        have x0 := hX.1 m hm
        have y0 := hY.1 m hm
        obtain ⟨p0, p1⟩ := BA.out m hm
        obtain ⟨q0, q1⟩ := BB.out m hm
        obtain ⟨u, hu⟩ : ∃ u, u = a m := ⟨_, rfl⟩
        obtain ⟨v, hv⟩ : ∃ v, v = b m := ⟨_, rfl⟩
        rw [← hu] at x0 p0 p1
        rw [← hv] at y0 q0 q1
        have UV : Hid (u = a m ∧ v = b m) := ⟨hu, hv⟩
        clear hu hv
        by_cases g1 : u < v
        · have FIN : Hid (cmpI (V ah al) (V bh bl) = -1) := by
            have := ps_less a b m (fun j hj => BA.out j (by omega)) (fun j hj => BB.out j (by omega)) (by rw [← UV.out.1, ← UV.out.2]; exact g1) 16 hm (fun j h1 h2 => HE.out j h1 h2)
            rw [SA.out, SB.out] at this
            unfold Hid cmpI; rw [if_pos this]
          go_wp2_with fail
          go_region
          go_wp2_with fail
          go_ret
          exact ⟨ret_i64 FIN.out.symm, BE.out.drew⟩
        · by_cases g2 : v < u
          · have FIN : Hid (cmpI (V ah al) (V bh bl) = 1) := by
              have := ps_less b a m (fun j hj => BB.out j (by omega)) (fun j hj => BA.out j (by omega)) (by rw [← UV.out.1, ← UV.out.2]; exact g2) 16 hm (fun j h1 h2 => (HE.out j h1 h2).symm)
              rw [SA.out, SB.out] at this
              unfold Hid cmpI; rw [if_neg (by omega), if_pos this]
            go_wp2_with fail
            go_region
            go_wp2_with fail
            go_region
            go_wp2_with fail
            go_ret
            exact ⟨ret_i64 FIN.out.symm, BE.out.drew.drew⟩
          · go_wp2_with fail
            go_region
            go_wp2_with fail
            go_region
            go_wp2_with fail
            exact ⟨cmp_step w wr X Y a b m hm HE.out (by have := UV.out.1; have := UV.out.2; omega) hX hY BE.out, by simp [intOf]⟩
end Go.Proofs.Ytkpkehbhgfbckaa
