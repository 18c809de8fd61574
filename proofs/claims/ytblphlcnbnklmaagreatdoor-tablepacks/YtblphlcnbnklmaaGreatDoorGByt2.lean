/-
  Walks, not a claim by itself: block's Bytes of a block that may be. By the verifier.
-/
import Derived.Test.YtblphlcnbnklmaaGreatDoorGByt
namespace Go.Proofs.YtblphlcnbnklmaaGreatDoor
open Go.RowKit
set_option maxRecDepth 100000 in
set_option maxHeartbeats 1000000 in
theorem bytes_ok (s : Blk) (a b : Option Addr) (C D : Nat) (w : World) (hA : BlkAt w s a C b D) (m : s.May) :
    Calls Tryz.prog 122 #[blkV s a C b D] w (ByPost w s) := by
  have CK : Hid (∀ w', Below w.heap.size w w' → Calls Tryz.prog 97 #[blkV s a C b D] w' fun e w'' => e = .returned (.int .i64 0) ∧ Below w'.heap.size w' w'') := fun w' hB => by
    have := check_any s a b C D w' (hA.refs.below hB)
    unfold ChkPost at this
    rwa [show chkE s = 0 from if_pos m] at this
  have HA := hidIt hA
  have MM := hidIt m
  clear hA m
  unfold blkV
  unfold blkV at CK
  go_enter Tryz.func122, Tryz.ntmps122
  go_wp2_with (first
    | (refine wpList_box_rec rfl 107 (.tmp 0) rfl (blkC s a C b D) rfl w.heap.size rfl ?_; intro W0 R0 B0 z0)
    | (refine wpList_load_rec rfl 107 (.tmp 1) rfl w.heap.size 0 (blkC s a C b D) rfl _ Tryz.underlying107 rfl (by kernel_rfl) R0 ?_)
    | (go_at_call 97; refine (CK.out _ B0).mono ?_; rintro e w1 ⟨rfl, B1⟩; have R1 := hidIt (R0.below B1); have E1 := hidIt (below_sh (Nat.le_refl _) B0 B1); clear R0 B0 z0 B1)
    | (refine wpList_make rfl _ _ rfl 1024 w1.heap.size rfl _ rfl rfl rfl (by omega) ?_; intro W2 hR2 hB2 z2; have R2 := hidIt (R1.out.below hB2); have M2 := hidIt hR2; have E2 := hidIt (below_sh (Nat.le_refl _) E1.out hB2); have Z2 := hidIt z2; clear hR2 hB2 z2))
  have WL : Hid (w.heap.size < w1.heap.size) := R1.out.2.2
  have hu := Tryz.underlying107
  have hi : (Tryz.prog.info? 107).map (·.size) = some (blkC s a C b D).length := by kernel_rfl
  refine wp_region_noPanic ?_
  refine wp_region_held_drew (S := fun W' => W'.rangeAt w.heap.size 0 (blkC s a C b D)) (by kernel_rfl) ?_ (fun hHeld => ?_)
  · exact R2.out.1
  refine take_at (i := 0) (v := ?_) (some 13) rfl rfl (by kernel_rfl) (by kernel_rfl) (by kernel_rfl) (fun _ _ _ h => h) (Or.inl ⟨by rfl, ?_⟩) (by assumption) ?_
  rotate_left
  · (intro w hSw; (try dsimp only at hSw); (try obtain _q := hSw); go_simp; try with_reducible rfl)
  simp only [Act.put, List.setIfInBounds_toArray, List.set_cons_zero, List.set_cons_succ]
  refine take_at (i := 1) (v := ?_) (some 14) rfl rfl (by kernel_rfl) (by kernel_rfl) (by kernel_rfl) (fun _ _ _ h => h) (Or.inl ⟨by rfl, ?_⟩) (by assumption) ?_
  rotate_left
  · (intro w hSw; (try dsimp only at hSw); (try obtain _q := hSw); go_simp; try with_reducible rfl)
  simp only [Act.put, List.setIfInBounds_toArray, List.set_cons_zero, List.set_cons_succ]
  refine take_at (i := 2) (v := _) (some 15) rfl rfl (by kernel_rfl) (by kernel_rfl) (by kernel_rfl) (fun _ _ _ h => h) (yieldsIf_load_mid (by rfl) _ _ rfl _ _ rfl _ _ (fun _ h => h) hu rfl hi) (by assumption) ?_
  simp only [Act.put, List.setIfInBounds_toArray, List.set_cons_zero, List.set_cons_succ]
  refine call_at (i := 3) (some 16) 173 _ _ rfl rfl rfl (by rfl) (by kernel_rfl) #[.slice (some ⟨w1.heap.size, 16, none⟩) 1008 1008, .agg (blkC s a C b D).toArray] rfl Tryz.func173 (by kernel_rfl) (by kernel_rfl) ?_
  refine (laid_any w W2.drew w1.heap.size s a b C D HA.out E2.out.drew E1.out.size M2.out MM.out.2.2.1 MM.out.2.2.2.1).mono ?_
  rintro e w3 ⟨rfl, h3, b3⟩
  have L3 := hidIt h3
  have E3 : Hid (Below w.heap.size w w3) := E2.out.drew.trans (b3.below E1.out.size (by show w.heap.size ≤ W2.heap.size; have := E2.out.size; omega))
  have R3 := hidIt (show Rec19 w3 w.heap.size 0 (blkC s a C b D) from Rec19.but (W := W2.drew) R2.out b3 (Nat.ne_of_lt WL.out))
  clear h3 b3
  refine ⟨_, rfl, R3.out.1, fun hHeld => ?_⟩
  simp only [Act.put, List.setIfInBounds_toArray, List.set_cons_zero, List.set_cons_succ]
  refine wpAnyH_done (by kernel_rfl) ?_ _
  refine NoPanic.normal ?_
  go_wp2_with (first
    | (go_at_call 156; refine (sum_any (some ⟨w1.heap.size, 16, none⟩) 1008 1008 s.beh _ (Arg.of ⟨fun j hj => by have := L3.out.1 (16 + j) (by omega); rw [this]; unfold layF; rw [if_pos (by omega), show 16 + j - 16 = j by omega], fun j hj => s.beh_byte HA.out.byt j, L3.out.2.2⟩) (by omega) (by omega)).mono ?_; rintro e w4 ⟨rfl, hB4⟩; have L4 := hidIt (L3.out.below hB4); have E4 := hidIt (below_sh (Nat.le_refl _) E3.out hB4); clear hB4)
    | (refine wpList_alloc_row rfl 170 rfl .u8 16 w4.heap.size rfl zero8_16 ?_; intro W5 hR5 hB5 z5)
    | (refine wpList_store_row rfl 170 (.tmp 6) (.tmp 19) rfl w4.heap.size .u8 16 (sealF 1008 s.beh) (fun _ => 0) rfl rfl hR5 (by kernel_rfl) ?_; intro W6 hR6 hB6 z6
       have BX : Below w4.heap.size w4 W6 := hB5.trans (hB6.below (Nat.le_refl _) hB5.size)
       obtain ⟨W7, g1, g2, g3, g4⟩ := copy_row W6 w1.heap.size 1024 0 1024 1024 16 16 16 (some ⟨w4.heap.size, 0, none⟩) (sealF 1008 s.beh) (layF s 1008) (L4.out.below BX) (by omega) rfl (Arg.of (hR6.lies (fun j _ => sealF_byte _ _ j)))
       have PP : Hid (ByPost w s (.returned (.tuple #[.slice (some ⟨w1.heap.size, 0, none⟩) 1024 1024, .int .i64 0])) W7) := ⟨_, rfl, E1.out.size, g2.congr (layF_img s), (below_sh (Nat.le_refl _) E4.out BX).trans (g3.below E1.out.size (by have := E4.out.size; have := BX.size; omega))⟩
       clear g2 g3 g4 hR5 hB5 z5 hR6 hB6 z6 BX)
    | (at_builtin; refine wpList_copy_go rfl (.tmp 20) (.tmp 21) 23 23 rfl _ _ rfl rfl g1 ?_))
  go_ret2
  exact PP.out
end Go.Proofs.YtblphlcnbnklmaaGreatDoor
