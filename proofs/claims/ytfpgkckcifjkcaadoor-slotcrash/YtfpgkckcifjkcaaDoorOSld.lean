/-
  Walks, not a claim by itself: the statements' sealed. By the verifier.
-/
import Derived.Test.YtfpgkckcifjkcaaDoorOKn
namespace Go.Proofs.YtfpgkckcifjkcaaDoor
open Go.RowKit
/-- Are bytes at the front those of a header and a body whose seals are right? -/
def sealB (F : Nat → Int) : Bool := decide (headCode F = 0) && bodySeal (256 + (hdrF F 2).toNat) F
theorem prep_sealed {n : Nat} {F : Nat → Int} {k : Int} (h : prepOK n F k = true) : sealB F = true := by
  obtain ⟨_, a, _, _, b⟩ := prepOK_iff.1 h
  unfold sealB
  rw [(openCode_zero b).2.2.2, decide_eq_true a]
  rfl
theorem seal_ar (s : Nat) (hs : s ≤ 1024) : ((1280 : Int) < 256 + (s : Int)) = False ∧ wrap64 (256 + (s : Int)) = 256 + (s : Int) ∧ IntKind.i64.wrap (256 + (s : Int)) = 256 + (s : Int) ∧ (256 : Int) ≤ 256 + (s : Int) ∧ 256 + (s : Int) ≤ 1280 ∧ (256 + (s : Int)).toNat = 256 + s ∧ 256 + s - 256 = s := by
  refine ⟨eq_false (by omega), ?_, ?_, by omega, by omega, by omega, by omega⟩
  · unfold wrap64; omega
  · rw [IntKind.wrap_i64]; omega
set_option maxRecDepth 100000 in
set_option maxHeartbeats 400000 in
theorem sealed_not (g : Nat) (F : Nat → Int) (w : World) (hT : Tab w) (hR : IRow w g .u8 1280 F) (hF : ∀ j, 0 ≤ F j ∧ F j < 256) (c : Int) (hc : headCode F = c) (h0 : c ≠ 0) :
    Calls Tryd.prog 30 #[.slice (some ⟨g, 0, none⟩) 1280 1280] w fun e w' => e = .returned (.bool false) ∧ Below w.heap.size w w' := by
  have TT : Hid (Tab w) := hT
  have LL : Hid (Lies w g 0 256 F) := ((hR.lies (fun j _ => hF j)).part 0 256 (by omega)).zero
  have HC : Hid (headCode F = c) := hc
  obtain ⟨h, hh⟩ : ∃ h, headVal F = h := ⟨_, rfl⟩
  have HV : Hid (headVal F = h) := hh
  have c0 : (c != 0) = true := by simpa using h0
  clear hc hh h0 hT hR hF
  have T0 : Hid True := trivial
  go_enter Tryd.func30, Tryd.ntmps30
  go_wp2_with (first
    | (have _q := T0; clear _q; go_at_call 27; refine (head_any g 0 1280 F _ TT.out LL.out (by omega)).mono ?_; rintro e W2 ⟨rfl, hB2⟩; rw [HV.out, HC.out]
       have B2 : Hid (Below w.heap.size w W2) := hB2
       clear hB2 T0)
    | (have _q := B2; clear _q; refine wpList_alloc_rec rfl 26 rfl (hcs fun _ => 0) W2.heap.size rfl zeroHdr ?_; intro W3 hR3 hB3 hz3)
    | (have _q := B2; clear _q; refine wpList_store_rec rfl 26 (.tmp 3) (.tmp 10) rfl W2.heap.size 0 _ (hcs h) rfl rfl hR3 rfl (by kernel_rfl) (hcs_one _) ?_; intro W4 hR4 hB4
       have F4 : Below W2.heap.size W2 W4 := hB3.trans (hB4.below (Nat.le_refl _) (by omega))
       have B4 : Hid (Below w.heap.size w W4) := B2.out.trans (F4.mono B2.out.size)
       clear F4 hR3 hB3 hz3 hB4 hR4 B2))
  go_ret
  exact ⟨rfl, B4.out⟩
set_option maxRecDepth 100000 in
set_option maxHeartbeats 400000 in
theorem sealed_is (g : Nat) (F : Nat → Int) (w : World) (hT : Tab w) (hR : IRow w g .u8 1280 F) (hF : ∀ j, 0 ≤ F j ∧ F j < 256) (hc : headCode F = 0) :
    Calls Tryd.prog 30 #[.slice (some ⟨g, 0, none⟩) 1280 1280] w fun e w' => e = .returned (.bool (bodySeal (256 + (hdrF F 2).toNat) F)) ∧ Below w.heap.size w w' := by
  have TT : Hid (Tab w) := hT
  have LL : Hid (Lies w g 0 1280 F) := hR.lies (fun j _ => hF j)
  have HC : Hid (headCode F = 0) := hc
  obtain ⟨z0, z1⟩ := size_range hc
  have hv : headVal F = hdrF F := by unfold headVal; rw [if_pos hc]
  obtain ⟨h, hh⟩ : ∃ h, hdrF F = h := ⟨_, rfl⟩
  rw [hh] at hv z0 z1 ⊢
  have HV : Hid (headVal F = h) := hv
  obtain ⟨s, hs⟩ : ∃ s : Nat, (h 2).toNat = s := ⟨_, rfl⟩
  rw [hs]
  have E2 : Hid (h 2 = (s : Int)) := (by omega : h 2 = (s : Int))
  obtain ⟨s0, s1, s2, s3, s4, s5, s6⟩ := seal_ar s (by omega)
  have BS : Hid (bodySeal (256 + s) F = eqN 16 (sealF s (fun j => F (256 + j))) (fun j => F (16 + j))) := (by unfold bodySeal; rw [Nat.add_sub_cancel_left] : bodySeal (256 + s) F = eqN 16 (sealF s (fun j => F (256 + j))) (fun j => F (16 + j)))
  have HS : Hid (s ≤ 1024) := (by omega : s ≤ 1024)
  clear hc hv hh hT hR hF z0 z1 hs
  have T0 : Hid True := trivial
  go_enter Tryd.func30, Tryd.ntmps30
  go_wp2_with (first
    | (have _q := T0; clear _q; go_at_call 27; refine (head_any g 0 1280 F _ TT.out (LL.out.part 0 256 (by omega)).zero (by omega)).mono ?_; rintro e W2 ⟨rfl, hB2⟩; rw [HV.out, HC.out]
       have B2 : Hid (Below w.heap.size w W2) := hB2
       clear hB2 T0)
    | (have _q := B2; clear _q; refine wpList_alloc_rec rfl 26 rfl (hcs fun _ => 0) W2.heap.size rfl zeroHdr ?_; intro W3 hR3 hB3 hz3)
    | (have _q := B2; clear _q; refine wpList_store_rec rfl 26 (.tmp 3) (.tmp 10) rfl W2.heap.size 0 _ (hcs h) rfl rfl hR3 rfl (by kernel_rfl) (hcs_one _) ?_; intro W4 hR4 hB4
       have F4 : Below W2.heap.size W2 W4 := hB3.trans (hB4.below (Nat.le_refl _) (by omega))
       have B4 : Hid (Below w.heap.size w W4) := B2.out.trans (F4.mono B2.out.size)
       have H4 : Hid (Rec19 W4 W2.heap.size 0 (hcs h)) := hR4
       have c2 : W4.cell? ⟨W2.heap.size, 2, none⟩ = some (.int .i64 (s : Int)) := by rw [← E2.out]; exact (hR4.at 2 _ rfl).1
       clear F4 hR3 hB3 hz3 hB4 hR4 B2)
    | (have _q := B4; clear _q; refine wpList_alloc_row rfl 75 rfl .u8 16 W4.heap.size rfl zero8_16 ?_; intro W5 hR5 hB5 hz5
       have B5 : Hid (Below w.heap.size w W5) := B4.out.trans (hB5.mono B4.out.size)
       have H5 : Hid (Rec19 W5 W2.heap.size 0 (hcs h)) := H4.out.below hB5
       have N5 : Hid (W2.heap.size < W4.heap.size) := H4.out.2.2
       have R5 : Hid (IRow W5 W4.heap.size .u8 16 (fun _ => 0)) := hR5
       clear hR5 hB5 hz5 c2 H4))
  have A5 : Arg W5.drew (some ⟨g, 0 + 16, none⟩) 16 (fun j => F (16 + j)) := Arg.part (LL.out.below B5.out.drew) 16 16 (by omega)
  obtain ⟨W6, hc6, hR6, hB6, hz6⟩ := copy_row W5.drew W4.heap.size 16 0 16 16 16 1264 16 (some ⟨g, 0 + 16, none⟩) (fun j => F (16 + j)) (fun _ => 0) R5.out.drew (by omega) rfl A5
  have n5 := N5.out
  have b4 := B4.out.size
  have B6 : Hid (Below w.heap.size w W6) := B5.out.drew.trans (hB6.below b4 (by show _ ≤ W5.heap.size; exact B5.out.size))
  have H6 : Rec19 W6 W2.heap.size 0 (hcs h) := (show Rec19 W5.drew W2.heap.size 0 (hcs h) from H5.out).but hB6 (by omega)
  have c2 : W6.cell? ⟨W2.heap.size, 2, none⟩ = some (.int .i64 (s : Int)) := by rw [← E2.out]; exact (H6.at 2 _ rfl).1
  have R6 : Hid (IRow W6 W4.heap.size .u8 16 (fun j => F (16 + j))) := hR6.congr (fun j hj => by unfold over; rw [if_pos (by omega), Nat.sub_zero])
  clear A5 hR6 hB6 hz6 H6 H5 R5 B5 n5 b4
  go_region_held3 (fun w' => True) (trivial) (refine step_copy rfl (.tmp 22) (.tmp 24) 27 27 rfl _ _ rfl rfl (hc6 _) ?_)
  clear hc6
  go_wp2_with fail
  refine wp_region_noPanic ?_
  refine wp_region_held_drew (S := fun W' => W'.cell? ⟨W2.heap.size, 2, none⟩ = some (.int .i64 (s : Int)) ∧ W'.rangeAt W4.heap.size 0 (cl .u8 16 (fun j => F (16 + j)))) (by kernel_rfl) ?_ (fun hHeld => ?_)
  · exact ⟨c2, R6.out.rec.1⟩
  refine take_at (i := 0) (v := ?_) (some 26) rfl rfl (by kernel_rfl) (by kernel_rfl) (by kernel_rfl) (fun _ _ _ h => h) (Or.inl ⟨by rfl, ?_⟩) (by assumption) ?_
  rotate_left
  · (intro w hSw; (try dsimp only at hSw); go_simp; try with_reducible rfl)
  simp only [Act.put, List.setIfInBounds_toArray, List.set_cons_zero, List.set_cons_succ]
  refine take_at (i := 1) (v := ?_) (some 27) rfl rfl (by kernel_rfl) (by kernel_rfl) (by kernel_rfl) (fun _ _ _ h => h) (Or.inl ⟨by rfl, ?_⟩) (by assumption) ?_
  rotate_left
  · (intro w hSw; (try dsimp only at hSw); go_simp; try with_reducible rfl)
  simp only [Act.put, List.setIfInBounds_toArray, List.set_cons_zero, List.set_cons_succ]
  refine take_at (i := 2) (v := ?_) (some 28) rfl rfl (by kernel_rfl) (by kernel_rfl) (by kernel_rfl) (fun _ _ _ h => h) (Or.inl ⟨by rfl, ?_⟩) (by assumption) ?_
  rotate_left
  · (intro w hSw; (try dsimp only at hSw); go_simp; try with_reducible rfl)
  simp only [Act.put, List.setIfInBounds_toArray, List.set_cons_zero, List.set_cons_succ]
  refine take_at (i := 3) (v := ?_) (some 29) rfl rfl (by kernel_rfl) (by kernel_rfl) (by kernel_rfl) (fun _ _ _ h => h) (Or.inl ⟨by rfl, ?_⟩) (by assumption) ?_
  rotate_left
  · (intro w hSw; (try dsimp only at hSw); go_simp; try with_reducible rfl)
  simp only [Act.put, List.setIfInBounds_toArray, List.set_cons_zero, List.set_cons_succ]
  refine take_at (i := 4) (v := ?_) (some 30) rfl rfl (by kernel_rfl) (by kernel_rfl) (by kernel_rfl) (fun _ _ _ h => h) (Or.inl ⟨by rfl, ?_⟩) (by assumption) ?_
  rotate_left
  · (intro w hSw; (try dsimp only at hSw); go_simp; try with_reducible rfl)
  simp only [Act.put, List.setIfInBounds_toArray, List.set_cons_zero, List.set_cons_succ]
  refine take_at (i := 5) (v := _) (some 31) rfl rfl (by kernel_rfl) (by kernel_rfl) (by kernel_rfl) (fun _ _ _ h => h) (yieldsIf_load_mid (by rfl) _ _ rfl _ _ rfl _ _ (fun _ h => h.2) Tryd.underlying75 rfl (by rw [cl_len]; kernel_rfl)) (by assumption) ?_
  simp only [Act.put, List.setIfInBounds_toArray, List.set_cons_zero, List.set_cons_succ]
  refine call_at (i := 6) (some 32) 47 _ _ rfl rfl rfl (by rfl) (by kernel_rfl) #[.slice (some ⟨g, 0 + 256, none⟩) s 1024, .agg (cl .u8 16 (fun j => F (16 + j))).toArray] rfl Tryd.func47 (by kernel_rfl) (by kernel_rfl) ?_
  refine (right16 (some ⟨g, 0 + 256, none⟩) s 1024 (fun j => F (256 + j)) (fun j => F (16 + j)) _ (Arg.part (LL.out.below B6.out.drew) 256 s (by have := HS.out; omega)) HS.out (by have := HS.out; omega)).mono ?_
  rintro e W7 ⟨rfl, hB7⟩
  have B7 : Below W6.heap.size W6 W7 := ((Below.refl W6.heap.size W6).drew).trans hB7
  have R7 := R6.out.below B7
  have k2 := (B7.cell (p := ⟨W2.heap.size, 2, none⟩) (World.block_lt_of_cell? W6 _ c2)).trans c2
  have E7 : Hid (Below w.heap.size w W7) := B6.out.trans (B7.mono B6.out.size)
  rw [← BS.out]
  refine ⟨_, rfl, ⟨k2, R7.rec.1⟩, fun hHeld => ?_⟩
  simp only [Act.put, List.setIfInBounds_toArray, List.set_cons_zero, List.set_cons_succ]
  refine take_at (i := 7) (v := ?_) (some 2) rfl rfl (by kernel_rfl) (by kernel_rfl) (by kernel_rfl) (fun _ _ _ h => h) (Or.inl ⟨by rfl, ?_⟩) (by assumption) ?_
  rotate_left
  · (intro w hSw; (try dsimp only at hSw); go_simp; try with_reducible rfl)
  simp only [Act.put, List.setIfInBounds_toArray, List.set_cons_zero, List.set_cons_succ]
  refine wpAnyH_done (by kernel_rfl) ?_ _
  refine NoPanic.normal ?_
  go_wp2_with fail
  go_ret
  exact ⟨rfl, E7.out⟩
theorem sealed_any (g : Nat) (F : Nat → Int) (w : World) (hT : Tab w) (hR : IRow w g .u8 1280 F) (hF : ∀ j, 0 ≤ F j ∧ F j < 256) :
    Calls Tryd.prog 30 #[.slice (some ⟨g, 0, none⟩) 1280 1280] w fun e w' => e = .returned (.bool (sealB F)) ∧ Below w.heap.size w w' := by
  unfold sealB
  by_cases h : headCode F = 0
  · rw [decide_eq_true h, Bool.true_and]
    exact sealed_is g F w hT hR hF h
  · rw [decide_eq_false h, Bool.false_and]
    exact sealed_not g F w hT hR hF _ rfl h
end Go.Proofs.YtfpgkckcifjkcaaDoor
