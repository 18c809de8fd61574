/-
  Walks, not a claim by itself: the reference's Sum. By the verifier.
-/
import Derived.Test.YtkpkehbhgfbckaaUSum
import Derived.Test.YtkpkehbhgfbckaaGateF
namespace Go.Proofs.Ytkpkehbhgfbckaa
open Go.RowKit
def two (p q : Int) : Nat → Int
  | 0 => p
  | _ => q
theorem keepA {w0 W W' : World} {p q : Nat} {o1 o2 o3 o4 : Nat} {ah al bh bl : Value} (hp : p < w0.heap.size) (hq : q < w0.heap.size)
    (h : W.cell? ⟨p, o1, none⟩ = some ah ∧ W.cell? ⟨p, o2, none⟩ = some al ∧ W.cell? ⟨q, o3, none⟩ = some bh ∧ W.cell? ⟨q, o4, none⟩ = some bl ∧ Hid (Below w0.heap.size w0 W)) (hB : Below w0.heap.size W W') :
    W'.cell? ⟨p, o1, none⟩ = some ah ∧ W'.cell? ⟨p, o2, none⟩ = some al ∧ W'.cell? ⟨q, o3, none⟩ = some bh ∧ W'.cell? ⟨q, o4, none⟩ = some bl ∧ Hid (Below w0.heap.size w0 W') :=
  ⟨(hB.cell (p := ⟨p, o1, none⟩) hp).trans h.1, (hB.cell (p := ⟨p, o2, none⟩) hp).trans h.2.1, (hB.cell (p := ⟨q, o3, none⟩) hq).trans h.2.2.1, (hB.cell (p := ⟨q, o4, none⟩) hq).trans h.2.2.2.1, h.2.2.2.2.out.trans hB⟩
theorem sum_step0 {w w5 : World} {F : Nat → Int} {n k : Nat} (hk : k < n) (g : tot F (k + 1) < 340282366920938463463374607431768211456) (hA : AtW w5 (w.heap.size + 1) (hiW (tot F k)) (loW (tot F k))) (hR : AtW w5 w.heap.size 0 0) (hB : Below w.heap.size w w5) :
    SumRel w F n (.int .i64 ((k : Int) + 1)) ((w5.setCell ⟨w.heap.size + 1, 0, none⟩ (.int .u64 (hiW (tot F (k + 1))))).setCell ⟨w.heap.size + 1, 1, none⟩ (.int .u64 (loW (tot F (k + 1))))) :=
  ⟨k + 1, by omega, by go_num, g, hA.set _ _, (hR.other _ 0 _ (by omega)).other _ 1 _ (by omega), (hB.setCell (p := ⟨w.heap.size + 1, 0, none⟩) (by simp) _).setCell (p := ⟨w.heap.size + 1, 1, none⟩) (by simp) _⟩
set_option maxRecDepth 100000 in
set_option maxHeartbeats 2000000 in
theorem rsum_any (a : Option Addr) (n C : Nat) (F : Nat → Int) (w : World) (h : NArg w a n F) (hn : n ≤ 1000) :
    Calls Try.prog 19 #[.slice a n C] w fun e w' => e = .returned (sumV (tot F n)) ∧ Below w.heap.size w w' := by
  have HA : Hid (NArg w a n F) := h
  have hN : (n : Int) ≤ 1000 := by omega
  clear h
  go_enter Try.func19, Try.ntmps19
  go_wp2_with fail
  go_loopw [5] (fun i wr => SumRel w F n i wr) (fun i _ => n - (intOf i).toNat)
  case atStart => exact sum_start w F n
  case round =>
    obtain ⟨k, hk, rfl, ht, hA, hR, hB⟩ := hrel
    by_cases hlt : k < n
    · rcases HA.out with h0 | ⟨b, off, rfl, hl⟩
      · omega
      have c1 := (hB.cell (p := ⟨b, off + k * 2, none⟩) hl.2.2).trans (hl.1 (k * 2) (by omega))
      have c2 := (hB.cell (p := ⟨b, off + (k * 2 + 1), none⟩) hl.2.2).trans (hl.1 (k * 2 + 1) (by omega))
      rw [← Nat.add_assoc] at c2
      have hb1 : b < wr.heap.size := Nat.lt_of_lt_of_le hl.2.2 hB.size
      have W1 : Hid (Word (F (k * 2)) ∧ Word (F (k * 2 + 1))) := ⟨hl.2.1 _ (by omega), hl.2.1 _ (by omega)⟩
      have TT : Hid (tot F k < 340282366920938463463374607431768211456 ∧ 0 ≤ tot F k ∧ tot F (k + 1) ≤ tot F n) := ⟨ht, tot_nonneg k (fun j hj => hl.2.1 j (by omega)), tot_mono (k + 1) n (by omega) hl.2.1⟩
      have T1 : Hid (V (hiW (tot F k)) (loW (tot F k)) + V (F (k * 2)) (F (k * 2 + 1)) = tot F (k + 1)) := by unfold Hid; rw [V_words]; rfl
      have i0 : (k : Int) < n := by omega
      have i1 : (0 : Int) ≤ (k : Int) := by omega
      have BE : Hid (Below w.heap.size w wr) := hB
      have AE : Hid (AtW wr (w.heap.size + 1) (hiW (tot F k)) (loW (tot F k))) := hA
      have RE : Hid (AtW wr w.heap.size 0 0) := hR
      obtain ⟨a0, a1, a2, a3, a4⟩ := hA
      clear hl hB hR ht HA
      by_cases g : tot F (k + 1) < 340282366920938463463374607431768211456
      · go_wp2_with fail
        refine wp_region_held_drew (S := fun W' => W'.cell? ⟨w.heap.size + 1, 0, none⟩ = some (.int .u64 (hiW (tot F k))) ∧ W'.cell? ⟨w.heap.size + 1, 1, none⟩ = some (.int .u64 (loW (tot F k))) ∧ W'.cell? ⟨b, off + k * 2, none⟩ = some (.int .u64 (F (k * 2))) ∧ W'.cell? ⟨b, off + k * 2 + 1, none⟩ = some (.int .u64 (F (k * 2 + 1))) ∧ Hid (Below wr.heap.size wr W')) (by kernel_rfl) ?_ (fun hHeld => ?_)
        · exact ⟨a0, a1, c1, c2, (Below.refl _ _).drew⟩
        refine take_at (i := 0) (v := ?_) (some 15) rfl rfl (by kernel_rfl) (by kernel_rfl) (by kernel_rfl) (fun _ _ _ h => h) (Or.inl ⟨by rfl, ?_⟩) (by assumption) ?_
        rotate_left
        · (intro w hSw; (try dsimp only at hSw); go_simp; try with_reducible rfl)
        simp only [Act.put, List.setIfInBounds_toArray, List.set_cons_zero, List.set_cons_succ]
        refine take_at (i := 1) (v := ?_) (some 16) rfl rfl (by kernel_rfl) (by kernel_rfl) (by kernel_rfl) (fun _ _ _ h => h) (Or.inl ⟨by rfl, ?_⟩) (by assumption) ?_
        rotate_left
        · (intro w hSw; (try dsimp only at hSw); go_simp; try with_reducible rfl)
        simp only [Act.put, List.setIfInBounds_toArray, List.set_cons_zero, List.set_cons_succ]
        refine take_at (i := 2) (v := ?_) (some 17) rfl rfl (by kernel_rfl) (by kernel_rfl) (by kernel_rfl) (fun _ _ _ h => h) (Or.inl ⟨by rfl, ?_⟩) (by assumption) ?_
        rotate_left
        · (intro w hSw; (try dsimp only at hSw); go_simp; try with_reducible rfl)
        simp only [Act.put, List.setIfInBounds_toArray, List.set_cons_zero, List.set_cons_succ]
        refine take_at (i := 3) (v := ?_) (some 18) rfl rfl (by kernel_rfl) (by kernel_rfl) (by kernel_rfl) (fun _ _ _ h => h) (Or.inl ⟨by rfl, ?_⟩) (by assumption) ?_
        rotate_left
        · (intro w hSw; (try dsimp only at hSw); go_simp; try with_reducible rfl)
        simp only [Act.put, List.setIfInBounds_toArray, List.set_cons_zero, List.set_cons_succ]
        refine take_at (i := 4) (v := ?_) (some 19) rfl rfl (by kernel_rfl) (by kernel_rfl) (by kernel_rfl) (fun _ _ _ h => h) (Or.inl ⟨by rfl, ?_⟩) (by assumption) ?_
        rotate_left
        · (intro w hSw; (try dsimp only at hSw); go_simp; try with_reducible rfl)
        simp only [Act.put, List.setIfInBounds_toArray, List.set_cons_zero, List.set_cons_succ]
        obtain ⟨wd, hwd⟩ : ∃ wd, wd = wr.drew := ⟨_, rfl⟩
        rw [← hwd] at hHeld ⊢
        clear hwd
        refine wpAnyH_ready (rs := [5, 9]) (by kernel_rfl) (by simp) ?_
        refine all_call (i := 5) (some 20) 10 _ _ rfl rfl rfl (by rfl) #[U (hiW (tot F k)) (loW (tot F k)), U (F (k * 2)) (F (k * 2 + 1))] rfl Try.func10 (by kernel_rfl) (by kernel_rfl) ?_ ?_
        · refine (radd_sum _ _ _ _ (tot F (k + 1)) _ (hi_word TT.out.2.1 TT.out.1) (lo_word _) W1.out.1 W1.out.2 T1.out).mono ?_
          rintro e W1 ⟨rfl, hB⟩
          rw [sumV_ok g]
          refine ⟨_, rfl, keepA a4 hb1 hHeld (hB.mono (sizeG hHeld)), fun s1 => ?_⟩
          clear hB
          simp only [Act.put, List.setIfInBounds_toArray, List.set_cons_zero, List.set_cons_succ]
          refine take_at (i := 6) (v := ?_) (some 14) rfl rfl (by kernel_rfl) (by kernel_rfl) (by kernel_rfl) (fun _ _ _ h => h) (Or.inl ⟨by rfl, ?_⟩) (by assumption) ?_
          rotate_left
          · (intro w hSw; (try dsimp only at hSw); go_simp; try with_reducible rfl)
          simp only [Act.put, List.setIfInBounds_toArray, List.set_cons_zero, List.set_cons_succ]
          refine take_at (i := 7) (v := ?_) (some 21) rfl rfl (by kernel_rfl) (by kernel_rfl) (by kernel_rfl) (fun _ _ _ h => h) (Or.inl ⟨by rfl, ?_⟩) (by assumption) ?_
          rotate_left
          · (intro w hSw; (try dsimp only at hSw); go_simp; try with_reducible rfl)
          simp only [Act.put, List.setIfInBounds_toArray, List.set_cons_zero, List.set_cons_succ]
          refine take_at (i := 8) (v := ?_) (some 22) rfl rfl (by kernel_rfl) (by kernel_rfl) (by kernel_rfl) (fun _ _ _ h => h) (Or.inl ⟨by rfl, ?_⟩) (by assumption) ?_
          rotate_left
          · (intro w hSw; (try dsimp only at hSw); go_simp; try with_reducible rfl)
          simp only [Act.put, List.setIfInBounds_toArray, List.set_cons_zero, List.set_cons_succ]
          refine wpAnyH_ready (rs := [9]) (by kernel_rfl) (by simp) ?_
          refine all_alloc (i := 9) (some 6) 24 rfl rfl rfl (by rfl) .u64 2 (by kernel_rfl) ?_ ?_
          · intro X W2 hn x1 hB
            have bX := Nat.le_trans (sizeG s1) hn
            refine ⟨keepA a4 hb1 s1 (hB.mono (sizeG s1)), fun s2 => ?_⟩
            clear hB hn
            simp only [Act.put, List.setIfInBounds_toArray, List.set_cons_zero, List.set_cons_succ]
            refine wpAnyH_ready (rs := [10]) (by kernel_rfl) (by simp) ?_
            refine all_store (i := 10) none 24 _ _ rfl rfl rfl (by rfl) X .u64 2 (two (hiW (tot F (k + 1))) (loW (tot F (k + 1)))) _ rfl rfl x1 (by kernel_rfl) ?_ AllReadyH.nil
            intro W3 x3 hB
            refine ⟨keepA a4 hb1 s2 (hB.below bX (sizeG s2)), fun s3 => ?_⟩
            clear hB
            simp only [Act.put]
            refine take_at (i := 11) (v := ?_) (some 7) rfl rfl (by kernel_rfl) (by kernel_rfl) (by kernel_rfl) (fun _ _ _ h => h) (Or.inl ⟨by rfl, ?_⟩) (by assumption) ?_
            rotate_left
            · (intro w hSw; (try dsimp only at hSw); go_simp; try with_reducible rfl)
            simp only [Act.put, List.setIfInBounds_toArray, List.set_cons_zero, List.set_cons_succ]
            refine wpAnyH_done (by kernel_rfl) ?_ _
            have B3 : Hid (Below wr.heap.size wr W3) := s3.2.2.2.2
            have A3 := AE.out.below B3.out
            have A4 : Hid (AtW W3 (w.heap.size + 1) (hiW (tot F k)) (loW (tot F k))) := A3
            have R3 := RE.out.below B3.out
            have R4 : Hid (AtW W3 w.heap.size 0 0) := R3
            have E3 : Hid (Below w.heap.size w W3) := BE.out.trans (B3.out.mono BE.out.size)
            have y0 := x3.1 0 (by omega)
            have y1 := x3.1 1 (by omega)
            simp only [two] at y0 y1
            clear s3 x3 B3 AE RE BE
            obtain ⟨v0, v1, v2, v3, v4⟩ := A3
            clear R3
            go_wp2_with fail
            exact ⟨sum_step0 hlt g A4.out R4.out E3.out, by simp [intOf]; omega⟩
          exact AllReadyH.nil
        refine all_alloc (i := 9) (some 6) 24 rfl rfl rfl (by rfl) .u64 2 (by kernel_rfl) ?_ ?_
        · intro X W0 hn x1 hB
          have bX := Nat.le_trans (sizeG hHeld) hn
          refine ⟨keepA a4 hb1 hHeld (hB.mono (sizeG hHeld)), fun s0 => ?_⟩
          clear hB hn
          simp only [Act.put, List.setIfInBounds_toArray, List.set_cons_zero, List.set_cons_succ]
          refine wpAnyH_ready (rs := [5]) (by kernel_rfl) (by simp) ?_
          refine all_call (i := 5) (some 20) 10 _ _ rfl rfl rfl (by rfl) #[U (hiW (tot F k)) (loW (tot F k)), U (F (k * 2)) (F (k * 2 + 1))] rfl Try.func10 (by kernel_rfl) (by kernel_rfl) ?_ ?_
          · refine (radd_sum _ _ _ _ (tot F (k + 1)) _ (hi_word TT.out.2.1 TT.out.1) (lo_word _) W1.out.1 W1.out.2 T1.out).mono ?_
            rintro e W1 ⟨rfl, hB⟩
            rw [sumV_ok g]
            refine ⟨_, rfl, keepA a4 hb1 s0 (hB.mono (sizeG s0)), fun s1 => ?_⟩
            have x2 := x1.below hB
            clear hB
            simp only [Act.put, List.setIfInBounds_toArray, List.set_cons_zero, List.set_cons_succ]
            refine take_at (i := 6) (v := ?_) (some 14) rfl rfl (by kernel_rfl) (by kernel_rfl) (by kernel_rfl) (fun _ _ _ h => h) (Or.inl ⟨by rfl, ?_⟩) (by assumption) ?_
            rotate_left
            · (intro w hSw; (try dsimp only at hSw); go_simp; try with_reducible rfl)
            simp only [Act.put, List.setIfInBounds_toArray, List.set_cons_zero, List.set_cons_succ]
            refine take_at (i := 7) (v := ?_) (some 21) rfl rfl (by kernel_rfl) (by kernel_rfl) (by kernel_rfl) (fun _ _ _ h => h) (Or.inl ⟨by rfl, ?_⟩) (by assumption) ?_
            rotate_left
            · (intro w hSw; (try dsimp only at hSw); go_simp; try with_reducible rfl)
            simp only [Act.put, List.setIfInBounds_toArray, List.set_cons_zero, List.set_cons_succ]
            refine take_at (i := 8) (v := ?_) (some 22) rfl rfl (by kernel_rfl) (by kernel_rfl) (by kernel_rfl) (fun _ _ _ h => h) (Or.inl ⟨by rfl, ?_⟩) (by assumption) ?_
            rotate_left
            · (intro w hSw; (try dsimp only at hSw); go_simp; try with_reducible rfl)
            simp only [Act.put, List.setIfInBounds_toArray, List.set_cons_zero, List.set_cons_succ]
            refine wpAnyH_ready (rs := [10]) (by kernel_rfl) (by simp) ?_
            refine all_store (i := 10) none 24 _ _ rfl rfl rfl (by rfl) X .u64 2 (two (hiW (tot F (k + 1))) (loW (tot F (k + 1)))) _ rfl rfl x2 (by kernel_rfl) ?_ AllReadyH.nil
            intro W3 x3 hB
            refine ⟨keepA a4 hb1 s1 (hB.below bX (sizeG s1)), fun s3 => ?_⟩
            clear hB
            simp only [Act.put]
            refine take_at (i := 11) (v := ?_) (some 7) rfl rfl (by kernel_rfl) (by kernel_rfl) (by kernel_rfl) (fun _ _ _ h => h) (Or.inl ⟨by rfl, ?_⟩) (by assumption) ?_
            rotate_left
            · (intro w hSw; (try dsimp only at hSw); go_simp; try with_reducible rfl)
            simp only [Act.put, List.setIfInBounds_toArray, List.set_cons_zero, List.set_cons_succ]
            refine wpAnyH_done (by kernel_rfl) ?_ _
            have B3 : Hid (Below wr.heap.size wr W3) := s3.2.2.2.2
            have A3 := AE.out.below B3.out
            have A4 : Hid (AtW W3 (w.heap.size + 1) (hiW (tot F k)) (loW (tot F k))) := A3
            have R3 := RE.out.below B3.out
            have R4 : Hid (AtW W3 w.heap.size 0 0) := R3
            have E3 : Hid (Below w.heap.size w W3) := BE.out.trans (B3.out.mono BE.out.size)
            have y0 := x3.1 0 (by omega)
            have y1 := x3.1 1 (by omega)
            simp only [two] at y0 y1
            clear s3 x3 B3 AE RE BE
            obtain ⟨v0, v1, v2, v3, v4⟩ := A3
            clear R3
            go_wp2_with fail
            exact ⟨sum_step0 hlt g A4.out R4.out E3.out, by simp [intOf]; omega⟩
          exact AllReadyH.nil
        exact AllReadyH.nil
      · go_wp2_with fail
        refine wp_region_held_drew (S := fun W' => W'.cell? ⟨w.heap.size + 1, 0, none⟩ = some (.int .u64 (hiW (tot F k))) ∧ W'.cell? ⟨w.heap.size + 1, 1, none⟩ = some (.int .u64 (loW (tot F k))) ∧ W'.cell? ⟨b, off + k * 2, none⟩ = some (.int .u64 (F (k * 2))) ∧ W'.cell? ⟨b, off + k * 2 + 1, none⟩ = some (.int .u64 (F (k * 2 + 1))) ∧ Hid (Below wr.heap.size wr W')) (by kernel_rfl) ?_ (fun hHeld => ?_)
        · exact ⟨a0, a1, c1, c2, (Below.refl _ _).drew⟩
        refine take_at (i := 0) (v := ?_) (some 15) rfl rfl (by kernel_rfl) (by kernel_rfl) (by kernel_rfl) (fun _ _ _ h => h) (Or.inl ⟨by rfl, ?_⟩) (by assumption) ?_
        rotate_left
        · (intro w hSw; (try dsimp only at hSw); go_simp; try with_reducible rfl)
        simp only [Act.put, List.setIfInBounds_toArray, List.set_cons_zero, List.set_cons_succ]
        refine take_at (i := 1) (v := ?_) (some 16) rfl rfl (by kernel_rfl) (by kernel_rfl) (by kernel_rfl) (fun _ _ _ h => h) (Or.inl ⟨by rfl, ?_⟩) (by assumption) ?_
        rotate_left
        · (intro w hSw; (try dsimp only at hSw); go_simp; try with_reducible rfl)
        simp only [Act.put, List.setIfInBounds_toArray, List.set_cons_zero, List.set_cons_succ]
        refine take_at (i := 2) (v := ?_) (some 17) rfl rfl (by kernel_rfl) (by kernel_rfl) (by kernel_rfl) (fun _ _ _ h => h) (Or.inl ⟨by rfl, ?_⟩) (by assumption) ?_
        rotate_left
        · (intro w hSw; (try dsimp only at hSw); go_simp; try with_reducible rfl)
        simp only [Act.put, List.setIfInBounds_toArray, List.set_cons_zero, List.set_cons_succ]
        refine take_at (i := 3) (v := ?_) (some 18) rfl rfl (by kernel_rfl) (by kernel_rfl) (by kernel_rfl) (fun _ _ _ h => h) (Or.inl ⟨by rfl, ?_⟩) (by assumption) ?_
        rotate_left
        · (intro w hSw; (try dsimp only at hSw); go_simp; try with_reducible rfl)
        simp only [Act.put, List.setIfInBounds_toArray, List.set_cons_zero, List.set_cons_succ]
        refine take_at (i := 4) (v := ?_) (some 19) rfl rfl (by kernel_rfl) (by kernel_rfl) (by kernel_rfl) (fun _ _ _ h => h) (Or.inl ⟨by rfl, ?_⟩) (by assumption) ?_
        rotate_left
        · (intro w hSw; (try dsimp only at hSw); go_simp; try with_reducible rfl)
        simp only [Act.put, List.setIfInBounds_toArray, List.set_cons_zero, List.set_cons_succ]
        obtain ⟨wd, hwd⟩ : ∃ wd, wd = wr.drew := ⟨_, rfl⟩
        rw [← hwd] at hHeld ⊢
        clear hwd
        refine wpAnyH_ready (rs := [5, 9]) (by kernel_rfl) (by simp) ?_
        refine all_call (i := 5) (some 20) 10 _ _ rfl rfl rfl (by rfl) #[U (hiW (tot F k)) (loW (tot F k)), U (F (k * 2)) (F (k * 2 + 1))] rfl Try.func10 (by kernel_rfl) (by kernel_rfl) ?_ ?_
        · refine (radd_sum _ _ _ _ (tot F (k + 1)) _ (hi_word TT.out.2.1 TT.out.1) (lo_word _) W1.out.1 W1.out.2 T1.out).mono ?_
          rintro e W1 ⟨rfl, hB⟩
          rw [sumV_over (t := tot F (k + 1)) (by omega)]
          refine ⟨_, rfl, keepA a4 hb1 hHeld (hB.mono (sizeG hHeld)), fun s1 => ?_⟩
          clear hB
          simp only [Act.put, List.setIfInBounds_toArray, List.set_cons_zero, List.set_cons_succ]
          refine take_at (i := 6) (v := ?_) (some 14) rfl rfl (by kernel_rfl) (by kernel_rfl) (by kernel_rfl) (fun _ _ _ h => h) (Or.inl ⟨by rfl, ?_⟩) (by assumption) ?_
          rotate_left
          · (intro w hSw; (try dsimp only at hSw); go_simp; try with_reducible rfl)
          simp only [Act.put, List.setIfInBounds_toArray, List.set_cons_zero, List.set_cons_succ]
          refine take_at (i := 7) (v := ?_) (some 21) rfl rfl (by kernel_rfl) (by kernel_rfl) (by kernel_rfl) (fun _ _ _ h => h) (Or.inl ⟨by rfl, ?_⟩) (by assumption) ?_
          rotate_left
          · (intro w hSw; (try dsimp only at hSw); go_simp; try with_reducible rfl)
          simp only [Act.put, List.setIfInBounds_toArray, List.set_cons_zero, List.set_cons_succ]
          refine take_at (i := 8) (v := ?_) (some 22) rfl rfl (by kernel_rfl) (by kernel_rfl) (by kernel_rfl) (fun _ _ _ h => h) (Or.inl ⟨by rfl, ?_⟩) (by assumption) ?_
          rotate_left
          · (intro w hSw; (try dsimp only at hSw); go_simp; try with_reducible rfl)
          simp only [Act.put, List.setIfInBounds_toArray, List.set_cons_zero, List.set_cons_succ]
          refine wpAnyH_ready (rs := [9]) (by kernel_rfl) (by simp) ?_
          refine all_alloc (i := 9) (some 6) 24 rfl rfl rfl (by rfl) .u64 2 (by kernel_rfl) ?_ ?_
          · intro X W2 hn x1 hB
            have bX := Nat.le_trans (sizeG s1) hn
            refine ⟨keepA a4 hb1 s1 (hB.mono (sizeG s1)), fun s2 => ?_⟩
            clear hB hn
            simp only [Act.put, List.setIfInBounds_toArray, List.set_cons_zero, List.set_cons_succ]
            refine wpAnyH_ready (rs := [10]) (by kernel_rfl) (by simp) ?_
            refine all_store (i := 10) none 24 _ _ rfl rfl rfl (by rfl) X .u64 2 (two 0 0) _ rfl rfl x1 (by kernel_rfl) ?_ AllReadyH.nil
            intro W3 x3 hB
            refine ⟨keepA a4 hb1 s2 (hB.below bX (sizeG s2)), fun s3 => ?_⟩
            clear hB
            simp only [Act.put]
            refine take_at (i := 11) (v := ?_) (some 7) rfl rfl (by kernel_rfl) (by kernel_rfl) (by kernel_rfl) (fun _ _ _ h => h) (Or.inl ⟨by rfl, ?_⟩) (by assumption) ?_
            rotate_left
            · (intro w hSw; (try dsimp only at hSw); go_simp; try with_reducible rfl)
            simp only [Act.put, List.setIfInBounds_toArray, List.set_cons_zero, List.set_cons_succ]
            refine wpAnyH_done (by kernel_rfl) ?_ _
            have B3 : Hid (Below wr.heap.size wr W3) := s3.2.2.2.2
            have A3 := AE.out.below B3.out
            have A4 : Hid (AtW W3 (w.heap.size + 1) (hiW (tot F k)) (loW (tot F k))) := A3
            have R3 := RE.out.below B3.out
            have R4 : Hid (AtW W3 w.heap.size 0 0) := R3
            have E3 : Hid (Below w.heap.size w W3) := BE.out.trans (B3.out.mono BE.out.size)
            have y0 := x3.1 0 (by omega)
            have y1 := x3.1 1 (by omega)
            simp only [two] at y0 y1
            clear s3 x3 B3 AE RE BE
            obtain ⟨v0, v1, v2, v3, v4⟩ := R3
            clear A3
            go_wp2_with fail
            refine bodyPost_ret (v := .tuple #[U 0 0, .bool true]) (by simp [results, Try.results19, go_sem, v0, v1]) rfl ⟨?_, ?_⟩
            · rw [sumV_over (by have := TT.out.2.2; omega)]
            · exact sum_below2 E3.out (Nat.le_refl _)
          exact AllReadyH.nil
        refine all_alloc (i := 9) (some 6) 24 rfl rfl rfl (by rfl) .u64 2 (by kernel_rfl) ?_ ?_
        · intro X W0 hn x1 hB
          have bX := Nat.le_trans (sizeG hHeld) hn
          refine ⟨keepA a4 hb1 hHeld (hB.mono (sizeG hHeld)), fun s0 => ?_⟩
          clear hB hn
          simp only [Act.put, List.setIfInBounds_toArray, List.set_cons_zero, List.set_cons_succ]
          refine wpAnyH_ready (rs := [5]) (by kernel_rfl) (by simp) ?_
          refine all_call (i := 5) (some 20) 10 _ _ rfl rfl rfl (by rfl) #[U (hiW (tot F k)) (loW (tot F k)), U (F (k * 2)) (F (k * 2 + 1))] rfl Try.func10 (by kernel_rfl) (by kernel_rfl) ?_ ?_
          · refine (radd_sum _ _ _ _ (tot F (k + 1)) _ (hi_word TT.out.2.1 TT.out.1) (lo_word _) W1.out.1 W1.out.2 T1.out).mono ?_
            rintro e W1 ⟨rfl, hB⟩
            rw [sumV_over (t := tot F (k + 1)) (by omega)]
            refine ⟨_, rfl, keepA a4 hb1 s0 (hB.mono (sizeG s0)), fun s1 => ?_⟩
            have x2 := x1.below hB
            clear hB
            simp only [Act.put, List.setIfInBounds_toArray, List.set_cons_zero, List.set_cons_succ]
            refine take_at (i := 6) (v := ?_) (some 14) rfl rfl (by kernel_rfl) (by kernel_rfl) (by kernel_rfl) (fun _ _ _ h => h) (Or.inl ⟨by rfl, ?_⟩) (by assumption) ?_
            rotate_left
            · (intro w hSw; (try dsimp only at hSw); go_simp; try with_reducible rfl)
            simp only [Act.put, List.setIfInBounds_toArray, List.set_cons_zero, List.set_cons_succ]
            refine take_at (i := 7) (v := ?_) (some 21) rfl rfl (by kernel_rfl) (by kernel_rfl) (by kernel_rfl) (fun _ _ _ h => h) (Or.inl ⟨by rfl, ?_⟩) (by assumption) ?_
            rotate_left
            · (intro w hSw; (try dsimp only at hSw); go_simp; try with_reducible rfl)
            simp only [Act.put, List.setIfInBounds_toArray, List.set_cons_zero, List.set_cons_succ]
            refine take_at (i := 8) (v := ?_) (some 22) rfl rfl (by kernel_rfl) (by kernel_rfl) (by kernel_rfl) (fun _ _ _ h => h) (Or.inl ⟨by rfl, ?_⟩) (by assumption) ?_
            rotate_left
            · (intro w hSw; (try dsimp only at hSw); go_simp; try with_reducible rfl)
            simp only [Act.put, List.setIfInBounds_toArray, List.set_cons_zero, List.set_cons_succ]
            refine wpAnyH_ready (rs := [10]) (by kernel_rfl) (by simp) ?_
            refine all_store (i := 10) none 24 _ _ rfl rfl rfl (by rfl) X .u64 2 (two 0 0) _ rfl rfl x2 (by kernel_rfl) ?_ AllReadyH.nil
            intro W3 x3 hB
            refine ⟨keepA a4 hb1 s1 (hB.below bX (sizeG s1)), fun s3 => ?_⟩
            clear hB
            simp only [Act.put]
            refine take_at (i := 11) (v := ?_) (some 7) rfl rfl (by kernel_rfl) (by kernel_rfl) (by kernel_rfl) (fun _ _ _ h => h) (Or.inl ⟨by rfl, ?_⟩) (by assumption) ?_
            rotate_left
            · (intro w hSw; (try dsimp only at hSw); go_simp; try with_reducible rfl)
            simp only [Act.put, List.setIfInBounds_toArray, List.set_cons_zero, List.set_cons_succ]
            refine wpAnyH_done (by kernel_rfl) ?_ _
            have B3 : Hid (Below wr.heap.size wr W3) := s3.2.2.2.2
            have A3 := AE.out.below B3.out
            have A4 : Hid (AtW W3 (w.heap.size + 1) (hiW (tot F k)) (loW (tot F k))) := A3
            have R3 := RE.out.below B3.out
            have R4 : Hid (AtW W3 w.heap.size 0 0) := R3
            have E3 : Hid (Below w.heap.size w W3) := BE.out.trans (B3.out.mono BE.out.size)
            have y0 := x3.1 0 (by omega)
            have y1 := x3.1 1 (by omega)
            simp only [two] at y0 y1
            clear s3 x3 B3 AE RE BE
            obtain ⟨v0, v1, v2, v3, v4⟩ := R3
            clear A3
            go_wp2_with fail
            refine bodyPost_ret (v := .tuple #[U 0 0, .bool true]) (by simp [results, Try.results19, go_sem, v0, v1]) rfl ⟨?_, ?_⟩
            · rw [sumV_over (by have := TT.out.2.2; omega)]
            · exact sum_below2 E3.out (Nat.le_refl _)
          exact AllReadyH.nil
        exact AllReadyH.nil
    · obtain rfl : k = n := by omega
      have BE : Hid (Below w.heap.size w wr) := hB
      obtain ⟨a0, a1, a2, a3, a4⟩ := hA
      obtain ⟨r0, r1, r2, r3, r4⟩ := hR
      go_wp2_with fail
      refine bodyPost_ret (v := .tuple #[U (hiW (tot F k)) (loW (tot F k)), .bool false]) (by simp [results, Try.results19, go_sem, r0, r1]) rfl ⟨?_, ?_⟩
      · rw [sumV_ok ht]
      · exact sum_below2 BE.out (Nat.le_refl _)
end Go.Proofs.Ytkpkehbhgfbckaa
