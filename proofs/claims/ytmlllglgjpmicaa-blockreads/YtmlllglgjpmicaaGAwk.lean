/-
  Walks, not a claim by itself: what is written is read; the statements' awake. By the verifier.
-/
import Derived.Test.YtmlllglgjpmicaaGFive
import Derived.Test.YtmlllglgjpmicaaGSame
import Derived.Test.YtmlllglgjpmicaaGByt2
import Derived.Test.YtmlllglgjpmicaaGRd
namespace Go.Proofs.Ytmlllglgjpmicaa
open Go.RowKit
theorem Blk.Eq.val {s t : Blk} (h : s.Eq t) (a : Option Addr) (C : Nat) (b : Option Addr) (D : Nat) : blkV s a C b D = blkV t a C b D := by
  obtain ⟨h1, h2, h3, _, _⟩ := h
  unfold blkV blkC
  rw [h1, h2, h3 0 (by omega), h3 1 (by omega), h3 2 (by omega)]
theorem TbGot.eq {w w' : World} {s t : Blk} {g1 g2 : Nat} (h : s.Eq t) (k : TbGot w w' s g1 g2) : TbGot w w' t g1 g2 := by
  obtain ⟨h1, h2, h3, h4, h5⟩ := h
  refine ⟨fun j hj => by rw [← h4 j (by omega)]; exact k.refs j (by omega), k.l1, by rw [← h2]; exact k.row.congr h5, k.n1, k.n2, fun j hj => by rw [← h5 j (by omega)]; exact k.byt j (by omega)⟩
/-- What is written is read as it was. -/
theorem read_back (s : Blk) (g C : Nat) (w : World) (m : s.May) (hb : s.Byt) (h : IRow w g .u8 1024 s.img) (hC : 1024 ≤ C) : Calls Try.prog 19 #[.slice (some ⟨g, 0, none⟩) 1024 C] w (RdOk w s) := by
  refine (read_ok g 0 C s.img w (h.lies (fun j hj => s.img_byte hb j hj)) hC m.whole).mono ?_
  rintro e w' ⟨g1, g2, rfl, k, hB⟩
  have E := m.read.symm
  exact ⟨g1, g2, by rw [E.val, E.1, E.2.1], k.eq E, hB⟩
theorem five_img (j : Nat) (h : 16 ≤ j) (hj : j < 1024) : five.img j = fnA (j - 16) := by
  unfold Blk.img sealedF
  rw [if_neg (by omega), five_beh _ (by omega)]
/-- What stays in awake. -/
structure AwS (w : World) (g r x1 x2 : Nat) (W : World) : Prop where
  row : IRow W g .u8 1024 five.img
  recd : Rec19 W r 0 (blkC five (some ⟨x1, 0, none⟩) 1 (some ⟨x2, 0, none⟩) 2)
  at_ : BlkAt W five (some ⟨x1, 0, none⟩) 1 (some ⟨x2, 0, none⟩) 2
  bel : Below w.heap.size w W
theorem AwS.below {w : World} {g r x1 x2 : Nat} {W W' : World} (h : AwS w g r x1 x2 W) (hB : Below W.heap.size W W') : AwS w g r x1 x2 W' := ⟨h.row.below hB, h.recd.below hB, h.at_.below hB, below_sh (Nat.le_refl _) h.bel hB⟩
/-- Its bytes that awake asks for. -/
def AwC (g r x1 x2 : Nat) (W : World) : Prop := W.cell? ⟨g, 16, none⟩ = some (.int .u8 1) ∧ W.cell? ⟨g, 20, none⟩ = some (.int .u8 5) ∧ W.cell? ⟨g, 24, none⟩ = some (.int .u8 7) ∧ W.cell? ⟨g, 28, none⟩ = some (.int .u8 1) ∧ W.cell? ⟨g, 32, none⟩ = some (.int .u8 2) ∧ W.cell? ⟨g, 36, none⟩ = some (.int .u8 2) ∧ W.cell? ⟨g, 164, none⟩ = some (.int .u8 97) ∧ W.rangeAt r 0 (blkC five (some ⟨x1, 0, none⟩) 1 (some ⟨x2, 0, none⟩) 2)
theorem AwS.cells {w : World} {g r x1 x2 : Nat} {W : World} (h : AwS w g r x1 x2 W) : AwC g r x1 x2 W := by
  have c : ∀ j, 16 ≤ j → j < 1024 → W.cell? ⟨g, j, none⟩ = some (.int .u8 (fnA (j - 16))) := fun j h1 h2 => by rw [h.row.1 j h2, five_img j h1 h2]
  exact ⟨c 16 (by omega) (by omega), c 20 (by omega) (by omega), c 24 (by omega) (by omega), c 28 (by omega) (by omega), c 32 (by omega) (by omega), c 36 (by omega) (by omega), c 164 (by omega) (by omega), h.recd.1⟩
set_option maxRecDepth 100000 in
set_option maxHeartbeats 2000000 in
theorem awake_ok (w : World) : Calls Try.prog 18 #[] w fun e w' => e = .returned (.bool true) ∧ Below w.heap.size w w' := by
  go_enter Try.func18, Try.ntmps18
  go_wp2_with (first
    | (go_at_call 22; refine (five_any _).mono ?_; rintro e w1 ⟨y1, y2, rfl, hA1, hB1⟩; unfold blkV; have A1 := hidIt hA1; have B1 := hidIt hB1; clear hA1 hB1)
    | (go_at_call 10; refine (bytes_ok five (some ⟨y1, 0, none⟩) (some ⟨y2, 0, none⟩) 1 2 _ A1.out five_may).mono ?_; rintro e w2 ⟨g, rfl, hg, hR2, hB2⟩; have R2 := hidIt hR2; have B2 := hidIt (below_sh (Nat.le_refl _) B1.out hB2); clear hR2 hB2 hg A1 B1)
    | (go_at_call 19; refine (read_back five g 1024 _ five_may five_byt R2.out (Nat.le_refl _)).mono ?_; rintro e w3 ⟨x1, x2, rfl, hG3, hB3⟩; unfold blkV; have R3 := hidIt (R2.out.below hB3); have G3 : Hid (BlkAt w3 five (some ⟨x1, 0, none⟩) 1 (some ⟨x2, 0, none⟩) 2) := hG3.at; have B3 := hidIt (below_sh (Nat.le_refl _) B2.out hB3); clear hG3 hB3 R2 B2)
    | (refine wpList_alloc_rec rfl 27 rfl (blkC blk0 none 0 none 0) w3.heap.size rfl zero_blk ?_; intro W4 R4 B4 z4)
    | (refine wpList_store_rec rfl 27 (.tmp 3) (.tmp 20) rfl w3.heap.size 0 _ (blkC five (some ⟨x1, 0, none⟩) 1 (some ⟨x2, 0, none⟩) 2) rfl rfl R4 rfl (by kernel_rfl) (blkC_one _ _ _ _ _) ?_; intro W5 R5 B5
       have BX : Below w3.heap.size w3 W5 := B4.trans (B5.below (Nat.le_refl _) B4.size)
       have S5 : Hid (AwS w g w3.heap.size x1 x2 W5) := ⟨R3.out.below BX, R5, G3.out.below BX, below_sh (Nat.le_refl _) B3.out BX⟩
       clear R4 B4 z4 R5 B5 BX R3 G3 B3))
  have hu := Try.underlying27
  have hi : (Try.prog.info? 27).map (·.size) = some (blkC five (some ⟨x1, 0, none⟩) 1 (some ⟨x2, 0, none⟩) 2).length := by kernel_rfl
  refine wp_region_noPanic ?_
  refine wp_region_held_drew (S := AwC g w3.heap.size x1 x2) (by kernel_rfl) ?_ (fun hHeld => ?_)
  · exact S5.out.cells
  refine take_at (i := 0) (v := ?_) (some 22) rfl rfl (by kernel_rfl) (by kernel_rfl) (by kernel_rfl) (fun _ _ _ h => h) (Or.inl ⟨by rfl, ?_⟩) (by assumption) ?_
  rotate_left
  · (intro w hSw; unfold AwC at hSw; (try obtain ⟨q1, q2, q3, q4, q5, q6, q7, q8⟩ := hSw); (try clear q8); go_simp; try with_reducible rfl)
  simp only [Act.put, List.setIfInBounds_toArray, List.set_cons_zero, List.set_cons_succ]
  refine take_at (i := 1) (v := ?_) (some 23) rfl rfl (by kernel_rfl) (by kernel_rfl) (by kernel_rfl) (fun _ _ _ h => h) (Or.inl ⟨by rfl, ?_⟩) (by assumption) ?_
  rotate_left
  · (intro w hSw; unfold AwC at hSw; (try obtain ⟨q1, q2, q3, q4, q5, q6, q7, q8⟩ := hSw); (try clear q8); go_simp; try with_reducible rfl)
  simp only [Act.put, List.setIfInBounds_toArray, List.set_cons_zero, List.set_cons_succ]
  refine take_at (i := 2) (v := ?_) (some 24) rfl rfl (by kernel_rfl) (by kernel_rfl) (by kernel_rfl) (fun _ _ _ h => h) (Or.inl ⟨by rfl, ?_⟩) (by assumption) ?_
  rotate_left
  · (intro w hSw; unfold AwC at hSw; (try obtain ⟨q1, q2, q3, q4, q5, q6, q7, q8⟩ := hSw); (try clear q8); go_simp; try with_reducible rfl)
  simp only [Act.put, List.setIfInBounds_toArray, List.set_cons_zero, List.set_cons_succ]
  refine take_at (i := 3) (v := ?_) (some 25) rfl rfl (by kernel_rfl) (by kernel_rfl) (by kernel_rfl) (fun _ _ _ h => h) (Or.inl ⟨by rfl, ?_⟩) (by assumption) ?_
  rotate_left
  · (intro w hSw; unfold AwC at hSw; (try obtain ⟨q1, q2, q3, q4, q5, q6, q7, q8⟩ := hSw); (try clear q8); go_simp; try with_reducible rfl)
  simp only [Act.put, List.setIfInBounds_toArray, List.set_cons_zero, List.set_cons_succ]
  refine take_at (i := 4) (v := ?_) (some 26) rfl rfl (by kernel_rfl) (by kernel_rfl) (by kernel_rfl) (fun _ _ _ h => h) (Or.inl ⟨by rfl, ?_⟩) (by assumption) ?_
  rotate_left
  · (intro w hSw; unfold AwC at hSw; (try obtain ⟨q1, q2, q3, q4, q5, q6, q7, q8⟩ := hSw); (try clear q8); go_simp; try with_reducible rfl)
  simp only [Act.put, List.setIfInBounds_toArray, List.set_cons_zero, List.set_cons_succ]
  refine take_at (i := 5) (v := ?_) (some 27) rfl rfl (by kernel_rfl) (by kernel_rfl) (by kernel_rfl) (fun _ _ _ h => h) (Or.inl ⟨by rfl, ?_⟩) (by assumption) ?_
  rotate_left
  · (intro w hSw; unfold AwC at hSw; (try obtain ⟨q1, q2, q3, q4, q5, q6, q7, q8⟩ := hSw); (try clear q8); go_simp; try with_reducible rfl)
  simp only [Act.put, List.setIfInBounds_toArray, List.set_cons_zero, List.set_cons_succ]
  refine take_at (i := 6) (v := ?_) (some 28) rfl rfl (by kernel_rfl) (by kernel_rfl) (by kernel_rfl) (fun _ _ _ h => h) (Or.inl ⟨by rfl, ?_⟩) (by assumption) ?_
  rotate_left
  · (intro w hSw; unfold AwC at hSw; (try obtain ⟨q1, q2, q3, q4, q5, q6, q7, q8⟩ := hSw); (try clear q8); go_simp; try with_reducible rfl)
  simp only [Act.put, List.setIfInBounds_toArray, List.set_cons_zero, List.set_cons_succ]
  refine take_at (i := 7) (v := ?_) (some 29) rfl rfl (by kernel_rfl) (by kernel_rfl) (by kernel_rfl) (fun _ _ _ h => h) (Or.inl ⟨by rfl, ?_⟩) (by assumption) ?_
  rotate_left
  · (intro w hSw; unfold AwC at hSw; (try obtain ⟨q1, q2, q3, q4, q5, q6, q7, q8⟩ := hSw); (try clear q8); go_simp; try with_reducible rfl)
  simp only [Act.put, List.setIfInBounds_toArray, List.set_cons_zero, List.set_cons_succ]
  refine take_at (i := 8) (v := ?_) (some 30) rfl rfl (by kernel_rfl) (by kernel_rfl) (by kernel_rfl) (fun _ _ _ h => h) (Or.inl ⟨by rfl, ?_⟩) (by assumption) ?_
  rotate_left
  · (intro w hSw; unfold AwC at hSw; (try obtain ⟨q1, q2, q3, q4, q5, q6, q7, q8⟩ := hSw); (try clear q8); go_simp; try with_reducible rfl)
  simp only [Act.put, List.setIfInBounds_toArray, List.set_cons_zero, List.set_cons_succ]
  refine take_at (i := 9) (v := ?_) (some 31) rfl rfl (by kernel_rfl) (by kernel_rfl) (by kernel_rfl) (fun _ _ _ h => h) (Or.inl ⟨by rfl, ?_⟩) (by assumption) ?_
  rotate_left
  · (intro w hSw; unfold AwC at hSw; (try obtain ⟨q1, q2, q3, q4, q5, q6, q7, q8⟩ := hSw); (try clear q8); go_simp; try with_reducible rfl)
  simp only [Act.put, List.setIfInBounds_toArray, List.set_cons_zero, List.set_cons_succ]
  refine take_at (i := 10) (v := ?_) (some 32) rfl rfl (by kernel_rfl) (by kernel_rfl) (by kernel_rfl) (fun _ _ _ h => h) (Or.inl ⟨by rfl, ?_⟩) (by assumption) ?_
  rotate_left
  · (intro w hSw; unfold AwC at hSw; (try obtain ⟨q1, q2, q3, q4, q5, q6, q7, q8⟩ := hSw); (try clear q8); go_simp; try with_reducible rfl)
  simp only [Act.put, List.setIfInBounds_toArray, List.set_cons_zero, List.set_cons_succ]
  refine take_at (i := 11) (v := ?_) (some 33) rfl rfl (by kernel_rfl) (by kernel_rfl) (by kernel_rfl) (fun _ _ _ h => h) (Or.inl ⟨by rfl, ?_⟩) (by assumption) ?_
  rotate_left
  · (intro w hSw; unfold AwC at hSw; (try obtain ⟨q1, q2, q3, q4, q5, q6, q7, q8⟩ := hSw); (try clear q8); go_simp; try with_reducible rfl)
  simp only [Act.put, List.setIfInBounds_toArray, List.set_cons_zero, List.set_cons_succ]
  refine take_at (i := 12) (v := ?_) (some 34) rfl rfl (by kernel_rfl) (by kernel_rfl) (by kernel_rfl) (fun _ _ _ h => h) (Or.inl ⟨by rfl, ?_⟩) (by assumption) ?_
  rotate_left
  · (intro w hSw; unfold AwC at hSw; (try obtain ⟨q1, q2, q3, q4, q5, q6, q7, q8⟩ := hSw); (try clear q8); go_simp; try with_reducible rfl)
  simp only [Act.put, List.setIfInBounds_toArray, List.set_cons_zero, List.set_cons_succ]
  refine take_at (i := 13) (v := ?_) (some 35) rfl rfl (by kernel_rfl) (by kernel_rfl) (by kernel_rfl) (fun _ _ _ h => h) (Or.inl ⟨by rfl, ?_⟩) (by assumption) ?_
  rotate_left
  · (intro w hSw; unfold AwC at hSw; (try obtain ⟨q1, q2, q3, q4, q5, q6, q7, q8⟩ := hSw); (try clear q8); go_simp; try with_reducible rfl)
  simp only [Act.put, List.setIfInBounds_toArray, List.set_cons_zero, List.set_cons_succ]
  refine take_at (i := 14) (v := ?_) (some 36) rfl rfl (by kernel_rfl) (by kernel_rfl) (by kernel_rfl) (fun _ _ _ h => h) (Or.inl ⟨by rfl, ?_⟩) (by assumption) ?_
  rotate_left
  · (intro w hSw; unfold AwC at hSw; (try obtain ⟨q1, q2, q3, q4, q5, q6, q7, q8⟩ := hSw); (try clear q8); go_simp; try with_reducible rfl)
  simp only [Act.put, List.setIfInBounds_toArray, List.set_cons_zero, List.set_cons_succ]
  refine take_at (i := 15) (v := ?_) (some 37) rfl rfl (by kernel_rfl) (by kernel_rfl) (by kernel_rfl) (fun _ _ _ h => h) (Or.inl ⟨by rfl, ?_⟩) (by assumption) ?_
  rotate_left
  · (intro w hSw; unfold AwC at hSw; (try obtain ⟨q1, q2, q3, q4, q5, q6, q7, q8⟩ := hSw); (try clear q8); go_simp; try with_reducible rfl)
  simp only [Act.put, List.setIfInBounds_toArray, List.set_cons_zero, List.set_cons_succ]
  refine take_at (i := 16) (v := ?_) (some 38) rfl rfl (by kernel_rfl) (by kernel_rfl) (by kernel_rfl) (fun _ _ _ h => h) (Or.inl ⟨by rfl, ?_⟩) (by assumption) ?_
  rotate_left
  · (intro w hSw; unfold AwC at hSw; (try obtain ⟨q1, q2, q3, q4, q5, q6, q7, q8⟩ := hSw); (try clear q8); go_simp; try with_reducible rfl)
  simp only [Act.put, List.setIfInBounds_toArray, List.set_cons_zero, List.set_cons_succ]
  refine take_at (i := 17) (v := ?_) (some 39) rfl rfl (by kernel_rfl) (by kernel_rfl) (by kernel_rfl) (fun _ _ _ h => h) (Or.inl ⟨by rfl, ?_⟩) (by assumption) ?_
  rotate_left
  · (intro w hSw; unfold AwC at hSw; (try obtain ⟨q1, q2, q3, q4, q5, q6, q7, q8⟩ := hSw); (try clear q8); go_simp; try with_reducible rfl)
  simp only [Act.put, List.setIfInBounds_toArray, List.set_cons_zero, List.set_cons_succ]
  refine take_at (i := 18) (v := ?_) (some 40) rfl rfl (by kernel_rfl) (by kernel_rfl) (by kernel_rfl) (fun _ _ _ h => h) (Or.inl ⟨by rfl, ?_⟩) (by assumption) ?_
  rotate_left
  · (intro w hSw; unfold AwC at hSw; (try obtain ⟨q1, q2, q3, q4, q5, q6, q7, q8⟩ := hSw); (try clear q8); go_simp; try with_reducible rfl)
  simp only [Act.put, List.setIfInBounds_toArray, List.set_cons_zero, List.set_cons_succ]
  refine take_at (i := 19) (v := ?_) (some 41) rfl rfl (by kernel_rfl) (by kernel_rfl) (by kernel_rfl) (fun _ _ _ h => h) (Or.inl ⟨by rfl, ?_⟩) (by assumption) ?_
  rotate_left
  · (intro w hSw; unfold AwC at hSw; (try obtain ⟨q1, q2, q3, q4, q5, q6, q7, q8⟩ := hSw); (try clear q8); go_simp; try with_reducible rfl)
  simp only [Act.put, List.setIfInBounds_toArray, List.set_cons_zero, List.set_cons_succ]
  refine take_at (i := 20) (v := ?_) (some 42) rfl rfl (by kernel_rfl) (by kernel_rfl) (by kernel_rfl) (fun _ _ _ h => h) (Or.inl ⟨by rfl, ?_⟩) (by assumption) ?_
  rotate_left
  · (intro w hSw; unfold AwC at hSw; (try obtain ⟨q1, q2, q3, q4, q5, q6, q7, q8⟩ := hSw); (try clear q8); go_simp; try with_reducible rfl)
  simp only [Act.put, List.setIfInBounds_toArray, List.set_cons_zero, List.set_cons_succ]
  refine take_at (i := 21) (v := ?_) (some 43) rfl rfl (by kernel_rfl) (by kernel_rfl) (by kernel_rfl) (fun _ _ _ h => h) (Or.inl ⟨by rfl, ?_⟩) (by assumption) ?_
  rotate_left
  · (intro w hSw; unfold AwC at hSw; (try obtain ⟨q1, q2, q3, q4, q5, q6, q7, q8⟩ := hSw); (try clear q8); go_simp; try with_reducible rfl)
  simp only [Act.put, List.setIfInBounds_toArray, List.set_cons_zero, List.set_cons_succ]
  refine take_at (i := 22) (v := ?_) (some 44) rfl rfl (by kernel_rfl) (by kernel_rfl) (by kernel_rfl) (fun _ _ _ h => h) (Or.inl ⟨by rfl, ?_⟩) (by assumption) ?_
  rotate_left
  · (intro w hSw; unfold AwC at hSw; (try obtain ⟨q1, q2, q3, q4, q5, q6, q7, q8⟩ := hSw); (try clear q8); go_simp; try with_reducible rfl)
  simp only [Act.put, List.setIfInBounds_toArray, List.set_cons_zero, List.set_cons_succ]
  refine take_at (i := 23) (v := ?_) (some 45) rfl rfl (by kernel_rfl) (by kernel_rfl) (by kernel_rfl) (fun _ _ _ h => h) (Or.inl ⟨by rfl, ?_⟩) (by assumption) ?_
  rotate_left
  · (intro w hSw; unfold AwC at hSw; (try obtain ⟨q1, q2, q3, q4, q5, q6, q7, q8⟩ := hSw); (try clear q8); go_simp; try with_reducible rfl)
  simp only [Act.put, List.setIfInBounds_toArray, List.set_cons_zero, List.set_cons_succ]
  refine take_at (i := 24) (v := ?_) (some 46) rfl rfl (by kernel_rfl) (by kernel_rfl) (by kernel_rfl) (fun _ _ _ h => h) (Or.inl ⟨by rfl, ?_⟩) (by assumption) ?_
  rotate_left
  · (intro w hSw; unfold AwC at hSw; (try obtain ⟨q1, q2, q3, q4, q5, q6, q7, q8⟩ := hSw); (try clear q8); go_simp; try with_reducible rfl)
  simp only [Act.put, List.setIfInBounds_toArray, List.set_cons_zero, List.set_cons_succ]
  refine take_at (i := 25) (v := ?_) (some 47) rfl rfl (by kernel_rfl) (by kernel_rfl) (by kernel_rfl) (fun _ _ _ h => h) (Or.inl ⟨by rfl, ?_⟩) (by assumption) ?_
  rotate_left
  · (intro w hSw; unfold AwC at hSw; (try obtain ⟨q1, q2, q3, q4, q5, q6, q7, q8⟩ := hSw); (try clear q8); go_simp; try with_reducible rfl)
  simp only [Act.put, List.setIfInBounds_toArray, List.set_cons_zero, List.set_cons_succ]
  refine take_at (i := 26) (v := ?_) (some 48) rfl rfl (by kernel_rfl) (by kernel_rfl) (by kernel_rfl) (fun _ _ _ h => h) (Or.inl ⟨by rfl, ?_⟩) (by assumption) ?_
  rotate_left
  · (intro w hSw; unfold AwC at hSw; (try obtain ⟨q1, q2, q3, q4, q5, q6, q7, q8⟩ := hSw); (try clear q8); go_simp; try with_reducible rfl)
  simp only [Act.put, List.setIfInBounds_toArray, List.set_cons_zero, List.set_cons_succ]
  refine take_at (i := 27) (v := ?_) (some 49) rfl rfl (by kernel_rfl) (by kernel_rfl) (by kernel_rfl) (fun _ _ _ h => h) (Or.inl ⟨by rfl, ?_⟩) (by assumption) ?_
  rotate_left
  · (intro w hSw; unfold AwC at hSw; (try obtain ⟨q1, q2, q3, q4, q5, q6, q7, q8⟩ := hSw); (try clear q8); go_simp; try with_reducible rfl)
  simp only [Act.put, List.setIfInBounds_toArray, List.set_cons_zero, List.set_cons_succ]
  refine take_at (i := 28) (v := ?_) (some 50) rfl rfl (by kernel_rfl) (by kernel_rfl) (by kernel_rfl) (fun _ _ _ h => h) (Or.inl ⟨by rfl, ?_⟩) (by assumption) ?_
  rotate_left
  · (intro w hSw; unfold AwC at hSw; (try obtain ⟨q1, q2, q3, q4, q5, q6, q7, q8⟩ := hSw); (try clear q8); go_simp; try with_reducible rfl)
  simp only [Act.put, List.setIfInBounds_toArray, List.set_cons_zero, List.set_cons_succ]
  refine take_at (i := 29) (v := ?_) (some 51) rfl rfl (by kernel_rfl) (by kernel_rfl) (by kernel_rfl) (fun _ _ _ h => h) (Or.inl ⟨by rfl, ?_⟩) (by assumption) ?_
  rotate_left
  · (intro w hSw; unfold AwC at hSw; (try obtain ⟨q1, q2, q3, q4, q5, q6, q7, q8⟩ := hSw); (try clear q8); go_simp; try with_reducible rfl)
  simp only [Act.put, List.setIfInBounds_toArray, List.set_cons_zero, List.set_cons_succ]
  refine take_at (i := 30) (v := ?_) (some 52) rfl rfl (by kernel_rfl) (by kernel_rfl) (by kernel_rfl) (fun _ _ _ h => h) (Or.inl ⟨by rfl, ?_⟩) (by assumption) ?_
  rotate_left
  · (intro w hSw; unfold AwC at hSw; (try obtain ⟨q1, q2, q3, q4, q5, q6, q7, q8⟩ := hSw); (try clear q8); go_simp; try with_reducible rfl)
  simp only [Act.put, List.setIfInBounds_toArray, List.set_cons_zero, List.set_cons_succ]
  refine take_at (i := 31) (v := ?_) (some 53) rfl rfl (by kernel_rfl) (by kernel_rfl) (by kernel_rfl) (fun _ _ _ h => h) (Or.inl ⟨by rfl, ?_⟩) (by assumption) ?_
  rotate_left
  · (intro w hSw; unfold AwC at hSw; (try obtain ⟨q1, q2, q3, q4, q5, q6, q7, q8⟩ := hSw); (try clear q8); go_simp; try with_reducible rfl)
  simp only [Act.put, List.setIfInBounds_toArray, List.set_cons_zero, List.set_cons_succ]
  refine take_at (i := 32) (v := ?_) (some 54) rfl rfl (by kernel_rfl) (by kernel_rfl) (by kernel_rfl) (fun _ _ _ h => h) (Or.inl ⟨by rfl, ?_⟩) (by assumption) ?_
  rotate_left
  · (intro w hSw; unfold AwC at hSw; (try obtain ⟨q1, q2, q3, q4, q5, q6, q7, q8⟩ := hSw); (try clear q8); go_simp; try with_reducible rfl)
  simp only [Act.put, List.setIfInBounds_toArray, List.set_cons_zero, List.set_cons_succ]
  refine take_at (i := 33) (v := ?_) (some 55) rfl rfl (by kernel_rfl) (by kernel_rfl) (by kernel_rfl) (fun _ _ _ h => h) (Or.inl ⟨by rfl, ?_⟩) (by assumption) ?_
  rotate_left
  · (intro w hSw; unfold AwC at hSw; (try obtain ⟨q1, q2, q3, q4, q5, q6, q7, q8⟩ := hSw); (try clear q8); go_simp; try with_reducible rfl)
  simp only [Act.put, List.setIfInBounds_toArray, List.set_cons_zero, List.set_cons_succ]
  refine take_at (i := 34) (v := ?_) (some 56) rfl rfl (by kernel_rfl) (by kernel_rfl) (by kernel_rfl) (fun _ _ _ h => h) (Or.inl ⟨by rfl, ?_⟩) (by assumption) ?_
  rotate_left
  · (intro w hSw; unfold AwC at hSw; (try obtain ⟨q1, q2, q3, q4, q5, q6, q7, q8⟩ := hSw); (try clear q8); go_simp; try with_reducible rfl)
  simp only [Act.put, List.setIfInBounds_toArray, List.set_cons_zero, List.set_cons_succ]
  refine take_at (i := 35) (v := ?_) (some 57) rfl rfl (by kernel_rfl) (by kernel_rfl) (by kernel_rfl) (fun _ _ _ h => h) (Or.inl ⟨by rfl, ?_⟩) (by assumption) ?_
  rotate_left
  · (intro w hSw; unfold AwC at hSw; (try obtain ⟨q1, q2, q3, q4, q5, q6, q7, q8⟩ := hSw); (try clear q8); go_simp; try with_reducible rfl)
  simp only [Act.put, List.setIfInBounds_toArray, List.set_cons_zero, List.set_cons_succ]
  refine take_at (i := 36) (v := ?_) (some 58) rfl rfl (by kernel_rfl) (by kernel_rfl) (by kernel_rfl) (fun _ _ _ h => h) (Or.inl ⟨by rfl, ?_⟩) (by assumption) ?_
  rotate_left
  · (intro w hSw; unfold AwC at hSw; (try obtain ⟨q1, q2, q3, q4, q5, q6, q7, q8⟩ := hSw); (try clear q8); go_simp; try with_reducible rfl)
  simp only [Act.put, List.setIfInBounds_toArray, List.set_cons_zero, List.set_cons_succ]
  refine take_at (i := 37) (v := ?_) (some 59) rfl rfl (by kernel_rfl) (by kernel_rfl) (by kernel_rfl) (fun _ _ _ h => h) (Or.inl ⟨by rfl, ?_⟩) (by assumption) ?_
  rotate_left
  · (intro w hSw; unfold AwC at hSw; (try obtain ⟨q1, q2, q3, q4, q5, q6, q7, q8⟩ := hSw); (try clear q8); go_simp; try with_reducible rfl)
  simp only [Act.put, List.setIfInBounds_toArray, List.set_cons_zero, List.set_cons_succ]
  refine take_at (i := 38) (v := ?_) (some 60) rfl rfl (by kernel_rfl) (by kernel_rfl) (by kernel_rfl) (fun _ _ _ h => h) (Or.inl ⟨by rfl, ?_⟩) (by assumption) ?_
  rotate_left
  · (intro w hSw; unfold AwC at hSw; (try obtain ⟨q1, q2, q3, q4, q5, q6, q7, q8⟩ := hSw); (try clear q8); go_simp; try with_reducible rfl)
  simp only [Act.put, List.setIfInBounds_toArray, List.set_cons_zero, List.set_cons_succ]
  refine take_at (i := 39) (v := ?_) (some 61) rfl rfl (by kernel_rfl) (by kernel_rfl) (by kernel_rfl) (fun _ _ _ h => h) (Or.inl ⟨by rfl, ?_⟩) (by assumption) ?_
  rotate_left
  · (intro w hSw; unfold AwC at hSw; (try obtain ⟨q1, q2, q3, q4, q5, q6, q7, q8⟩ := hSw); (try clear q8); go_simp; try with_reducible rfl)
  simp only [Act.put, List.setIfInBounds_toArray, List.set_cons_zero, List.set_cons_succ]
  refine take_at (i := 40) (v := ?_) (some 62) rfl rfl (by kernel_rfl) (by kernel_rfl) (by kernel_rfl) (fun _ _ _ h => h) (Or.inl ⟨by rfl, ?_⟩) (by assumption) ?_
  rotate_left
  · (intro w hSw; unfold AwC at hSw; (try obtain ⟨q1, q2, q3, q4, q5, q6, q7, q8⟩ := hSw); (try clear q8); go_simp; try with_reducible rfl)
  simp only [Act.put, List.setIfInBounds_toArray, List.set_cons_zero, List.set_cons_succ]
  refine take_at (i := 41) (v := ?_) (some 63) rfl rfl (by kernel_rfl) (by kernel_rfl) (by kernel_rfl) (fun _ _ _ h => h) (Or.inl ⟨by rfl, ?_⟩) (by assumption) ?_
  rotate_left
  · (intro w hSw; unfold AwC at hSw; (try obtain ⟨q1, q2, q3, q4, q5, q6, q7, q8⟩ := hSw); (try clear q8); go_simp; try with_reducible rfl)
  simp only [Act.put, List.setIfInBounds_toArray, List.set_cons_zero, List.set_cons_succ]
  refine take_at (i := 42) (v := ?_) (some 64) rfl rfl (by kernel_rfl) (by kernel_rfl) (by kernel_rfl) (fun _ _ _ h => h) (Or.inl ⟨by rfl, ?_⟩) (by assumption) ?_
  rotate_left
  · (intro w hSw; unfold AwC at hSw; (try obtain ⟨q1, q2, q3, q4, q5, q6, q7, q8⟩ := hSw); (try clear q8); go_simp; try with_reducible rfl)
  simp only [Act.put, List.setIfInBounds_toArray, List.set_cons_zero, List.set_cons_succ]
  refine take_at (i := 43) (v := ?_) (some 65) rfl rfl (by kernel_rfl) (by kernel_rfl) (by kernel_rfl) (fun _ _ _ h => h) (Or.inl ⟨by rfl, ?_⟩) (by assumption) ?_
  rotate_left
  · (intro w hSw; unfold AwC at hSw; (try obtain ⟨q1, q2, q3, q4, q5, q6, q7, q8⟩ := hSw); (try clear q8); go_simp; try with_reducible rfl)
  simp only [Act.put, List.setIfInBounds_toArray, List.set_cons_zero, List.set_cons_succ]
  refine take_at (i := 44) (v := ?_) (some 66) rfl rfl (by kernel_rfl) (by kernel_rfl) (by kernel_rfl) (fun _ _ _ h => h) (Or.inl ⟨by rfl, ?_⟩) (by assumption) ?_
  rotate_left
  · (intro w hSw; unfold AwC at hSw; (try obtain ⟨q1, q2, q3, q4, q5, q6, q7, q8⟩ := hSw); (try clear q8); go_simp; try with_reducible rfl)
  simp only [Act.put, List.setIfInBounds_toArray, List.set_cons_zero, List.set_cons_succ]
  refine take_at (i := 45) (v := _) (some 67) rfl rfl (by kernel_rfl) (by kernel_rfl) (by kernel_rfl) (fun _ _ _ h => h) (yieldsIf_load_mid (by rfl) _ _ rfl _ _ rfl _ _ (fun _ h => h.2.2.2.2.2.2.2) hu rfl hi) (by assumption) ?_
  simp only [Act.put, List.setIfInBounds_toArray, List.set_cons_zero, List.set_cons_succ]
  refine call_at (i := 46) (some 68) 22 _ _ rfl rfl rfl (by rfl) (by kernel_rfl) #[] rfl Try.func22 (by kernel_rfl) (by kernel_rfl) ?_
  refine (five_any _).mono ?_
  rintro e w6 ⟨y3, y4, rfl, hA6, hB6⟩
  unfold blkV
  have S6 := hidIt ((S5.out.below (Below.refl _ _).drew).below hB6)
  have A6 := hidIt hA6
  clear hA6 hB6
  refine ⟨_, rfl, S6.out.cells, fun hHeld => ?_⟩
  simp only [Act.put, List.setIfInBounds_toArray, List.set_cons_zero, List.set_cons_succ]
  refine call_at (i := 47) (some 69) 21 _ _ rfl rfl rfl (by rfl) (by kernel_rfl) #[.agg (blkC five (some ⟨x1, 0, none⟩) 1 (some ⟨x2, 0, none⟩) 2).toArray, .agg (blkC five (some ⟨y3, 0, none⟩) 1 (some ⟨y4, 0, none⟩) 2).toArray] rfl Try.func21 (by kernel_rfl) (by kernel_rfl) ?_
  refine (blk_self five (some ⟨x1, 0, none⟩) (some ⟨y3, 0, none⟩) (some ⟨x2, 0, none⟩) (some ⟨y4, 0, none⟩) 1 1 2 2 _ S6.out.at_ A6.out (by decide)).mono ?_
  rintro e w7 ⟨rfl, hB7⟩
  have S7 := hidIt (S6.out.below hB7)
  clear hB7
  refine ⟨_, rfl, S7.out.cells, fun hHeld => ?_⟩
  simp only [Act.put, List.setIfInBounds_toArray, List.set_cons_zero, List.set_cons_succ]
  refine take_at (i := 48) (v := ?_) (some 70) rfl rfl (by kernel_rfl) (by kernel_rfl) (by kernel_rfl) (fun _ _ _ h => h) (Or.inl ⟨by rfl, ?_⟩) (by assumption) ?_
  rotate_left
  · (intro w hSw; unfold AwC at hSw; (try obtain ⟨q1, q2, q3, q4, q5, q6, q7, q8⟩ := hSw); (try clear q8); go_simp; try with_reducible rfl)
  simp only [Act.put, List.setIfInBounds_toArray, List.set_cons_zero, List.set_cons_succ]
  refine take_at (i := 49) (v := ?_) (some 0) rfl rfl (by kernel_rfl) (by kernel_rfl) (by kernel_rfl) (fun _ _ _ h => h) (Or.inl ⟨by rfl, ?_⟩) (by assumption) ?_
  rotate_left
  · (intro w hSw; unfold AwC at hSw; (try obtain ⟨q1, q2, q3, q4, q5, q6, q7, q8⟩ := hSw); (try clear q8); go_simp; try with_reducible rfl)
  simp only [Act.put, List.setIfInBounds_toArray, List.set_cons_zero]
  refine wpAnyH_done (by kernel_rfl) ?_ _
  refine NoPanic.normal ?_
  go_wp2_with fail
  go_ret
  exact ⟨rfl, S7.out.bel⟩
end Go.Proofs.Ytmlllglgjpmicaa
