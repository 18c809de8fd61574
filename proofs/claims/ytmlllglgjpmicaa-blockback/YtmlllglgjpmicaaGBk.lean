/-
  Walks, not a claim by itself: BlockBack. By the verifier.
-/
import Derived.Test.YtmlllglgjpmicaaGKn
namespace Go.Proofs.Ytmlllglgjpmicaa
open Go.RowKit
set_option maxRecDepth 100000 in
set_option maxHeartbeats 1000000 in
theorem back_l1 (s : Blk) (a b a' : Option Addr) (C D n C' : Nat) (w : World) (i1 : (40 : Int) < (s.k : Int)) :
    Calls Try.prog 6 #[blkV s a C b D, .slice a' n C'] w fun e w' => e = .returned (.bool true) ∧ Below w.heap.size w w' := by
  unfold blkV
  go_enter Try.func6, Try.ntmps6
  go_wp2_with (first
    | (refine wpList_box_rec rfl 27 (.tmp 0) rfl (blkC s a C b D) rfl w.heap.size rfl ?_; intro W0 R0 B0 z0)
    | (go_at_call 5; refine (known_ok _).mono ?_; rintro e w1 ⟨rfl, B1⟩
       have E1 := hidIt (below_sh (Nat.le_refl _) B0 B1)
       have R1 := hidIt (R0.below B1)
       have c3 := R1.out.1 3 _ rfl
       have c4 := R1.out.1 4 _ rfl
       simp only [Nat.zero_add] at c3 c4
       clear R0 B0 z0 B1))
  go_ret
  exact ⟨rfl, E1.out⟩
set_option maxRecDepth 100000 in
set_option maxHeartbeats 1000000 in
theorem back_l2 (s : Blk) (a b a' : Option Addr) (C D n C' : Nat) (w : World) (i1 : ¬ (40 : Int) < (s.k : Int)) (i2 : (2000 : Int) < (s.n : Int)) :
    Calls Try.prog 6 #[blkV s a C b D, .slice a' n C'] w fun e w' => e = .returned (.bool true) ∧ Below w.heap.size w w' := by
  unfold blkV
  go_enter Try.func6, Try.ntmps6
  go_wp2_with (first
    | (refine wpList_box_rec rfl 27 (.tmp 0) rfl (blkC s a C b D) rfl w.heap.size rfl ?_; intro W0 R0 B0 z0)
    | (go_at_call 5; refine (known_ok _).mono ?_; rintro e w1 ⟨rfl, B1⟩
       have E1 := hidIt (below_sh (Nat.le_refl _) B0 B1)
       have R1 := hidIt (R0.below B1)
       have c3 := R1.out.1 3 _ rfl
       have c4 := R1.out.1 4 _ rfl
       simp only [Nat.zero_add] at c3 c4
       clear R0 B0 z0 B1))
  go_ret
  exact ⟨rfl, E1.out⟩
set_option maxRecDepth 100000 in
set_option maxHeartbeats 1000000 in
theorem back_l3 (s : Blk) (a b a' : Option Addr) (C D n C' : Nat) (w : World) (i1 : ¬ (40 : Int) < (s.k : Int)) (i2 : ¬ (2000 : Int) < (s.n : Int)) (i3 : (2000 : Int) < (n : Int)) :
    Calls Try.prog 6 #[blkV s a C b D, .slice a' n C'] w fun e w' => e = .returned (.bool true) ∧ Below w.heap.size w w' := by
  unfold blkV
  go_enter Try.func6, Try.ntmps6
  go_wp2_with (first
    | (refine wpList_box_rec rfl 27 (.tmp 0) rfl (blkC s a C b D) rfl w.heap.size rfl ?_; intro W0 R0 B0 z0)
    | (go_at_call 5; refine (known_ok _).mono ?_; rintro e w1 ⟨rfl, B1⟩
       have E1 := hidIt (below_sh (Nat.le_refl _) B0 B1)
       have R1 := hidIt (R0.below B1)
       have c3 := R1.out.1 3 _ rfl
       have c4 := R1.out.1 4 _ rfl
       simp only [Nat.zero_add] at c3 c4
       clear R0 B0 z0 B1))
  go_ret
  exact ⟨rfl, E1.out⟩
set_option maxRecDepth 100000 in
set_option maxHeartbeats 1000000 in
theorem back_my (s : Blk) (a b a' : Option Addr) (C D C' : Nat) (f : Nat → Int) (w : World) (hA : BlkAt w s a C b D) (ra : Arg w a' 1024 f) (hk : s.k ≤ 40) (hn : s.n ≤ 2000) (m : s.May) (t : Blk) (tm : t.May) (ti : ∀ j, j < 1024 → t.img j = f j) (ry : ∀ u, Below w.heap.size w u → Calls Try.prog 19 #[.slice a' 1024 C'] u (RdOk u t)) :
    Calls Try.prog 6 #[blkV s a C b D, .slice a' 1024 C'] w fun e w' => e = .returned (.bool true) ∧ Below w.heap.size w w' := by
  have HA := hidIt hA
  have MM := hidIt m
  clear hA m
  have TM := hidIt tm
  have TI := hidIt ti
  have RY := hidIt ry
  have RA := hidIt ra
  clear tm ti ry ra
  have i1 : ¬ (40 : Int) < (s.k : Int) := by omega
  have i2 : ¬ (2000 : Int) < (s.n : Int) := by omega
  have K1 : Hid True := trivial
  have K2 : Hid True := trivial
  have K3 : Hid True := trivial
  have K4 : Hid True := trivial
  unfold blkV
  go_enter Try.func6, Try.ntmps6
  go_wp2_with (first
    | (refine wpList_box_rec rfl 27 (.tmp 0) rfl (blkC s a C b D) rfl w.heap.size rfl ?_; intro W0 R0 B0 z0)
    | (go_at_call 5; refine (known_ok _).mono ?_; rintro e w1 ⟨rfl, B1⟩
       have E1 := hidIt (below_sh (Nat.le_refl _) B0 B1)
       have R1 := hidIt (R0.below B1)
       have c3 := R1.out.1 3 _ rfl
       have c4 := R1.out.1 4 _ rfl
       simp only [Nat.zero_add] at c3 c4
       clear R0 B0 z0 B1)
    | (refine wpList_load_g (by rfl) 27 (.tmp 2) rfl w.heap.size 0 (blkC s a C b D) rfl _ Try.underlying27 rfl (by kernel_rfl) R1.out.1 ?_)
    | (go_at_call 10; have _q := K1; clear K1; refine (bytes_ok s a b C D _ (HA.out.below E1.out) MM.out).mono ?_; rintro e w2 ⟨g, rfl, hg, hR2, hB2⟩; have Q2 := hidIt hR2; have E2 := hidIt (below_sh (Nat.le_refl _) E1.out hB2); have R2 := hidIt (R1.out.below hB2); clear hR2 hB2 hg R1 E1 c3 c4)
    | (go_at_call 19; have _q := K2; have _p := Q2.out; clear K2; refine (read_back s g 1024 _ MM.out HA.out.byt Q2.out (Nat.le_refl _)).mono ?_; rintro e w3 ⟨x1, x2, rfl, hG, hB⟩; unfold blkV; have G3 := hidIt hG.at; have E3 := hidIt (below_sh (Nat.le_refl _) E2.out hB); have R3 := hidIt (R2.out.below hB); clear hG hB E2 R2 Q2)
    | (refine wpList_alloc_rec rfl 27 rfl (blkC blk0 none 0 none 0) w3.heap.size rfl zero_blk ?_; intro W4 R4 B4 z4)
    | (refine wpList_store_rec rfl 27 (.tmp 8) (.tmp 39) rfl w3.heap.size 0 _ (blkC s (some ⟨x1, 0, none⟩) s.k (some ⟨x2, 0, none⟩) s.n) rfl rfl R4 rfl (by kernel_rfl) (blkC_one _ _ _ _ _) ?_; intro W5 R5 B5
       have BX : Below w3.heap.size w3 W5 := B4.trans (B5.below (Nat.le_refl _) B4.size)
       have G5 := hidIt (G3.out.below BX)
       have E5 := hidIt (below_sh (Nat.le_refl _) E3.out BX)
       have R5' := hidIt (R3.out.below BX)
       have Y5 := hidIt R5
       clear R4 B4 z4 R5 B5 BX E3 R3 G3)
    | (refine wpList_load_g (by rfl) 27 (.tmp 8) rfl w3.heap.size 0 (blkC s (some ⟨x1, 0, none⟩) s.k (some ⟨x2, 0, none⟩) s.n) rfl _ Try.underlying27 rfl (by kernel_rfl) Y5.out.1 ?_)
    | (refine wpList_load_g (by rfl) 27 (.tmp 2) rfl w.heap.size 0 (blkC s a C b D) rfl _ Try.underlying27 rfl (by kernel_rfl) R5'.out.1 ?_)
    | (go_at_call 21; refine (blk_self s (some ⟨x1, 0, none⟩) a (some ⟨x2, 0, none⟩) b s.k C s.n D _ G5.out (HA.out.below E5.out) (by omega)).mono ?_; rintro e w6 ⟨rfl, hB⟩; have E6 := hidIt (below_sh (Nat.le_refl _) E5.out hB); clear hB E5 R5' Y5 G5)
    | (go_at_call 19; have _q := K3; have _p := E6.out; clear K3; refine (RY.out _ E6.out).mono ?_; rintro e w7 ⟨v1, v2, rfl, hG, hB⟩; unfold blkV; have G7 := hidIt hG.at; have E7 := hidIt (below_sh (Nat.le_refl _) E6.out hB); clear hG hB E6)
    | (refine wpList_alloc_rec rfl 27 rfl (blkC blk0 none 0 none 0) w7.heap.size rfl zero_blk ?_; intro W8 R8 B8 z8)
    | (refine wpList_store_rec rfl 27 (.tmp 10) (.tmp 56) rfl w7.heap.size 0 _ (blkC t (some ⟨v1, 0, none⟩) t.k (some ⟨v2, 0, none⟩) t.n) rfl rfl R8 rfl (by kernel_rfl) (blkC_one _ _ _ _ _) ?_; intro W9 R9 B9
       have BX : Below w7.heap.size w7 W9 := B8.trans (B9.below (Nat.le_refl _) B8.size)
       have E9 := hidIt (below_sh (Nat.le_refl _) E7.out BX)
       have G9 := hidIt (G7.out.below BX)
       have Y9 := hidIt R9
       clear R8 B8 z8 R9 B9 BX E7 G7)
    | (refine wpList_load_g (by rfl) 27 (.tmp 10) rfl w7.heap.size 0 (blkC t (some ⟨v1, 0, none⟩) t.k (some ⟨v2, 0, none⟩) t.n) rfl _ Try.underlying27 rfl (by kernel_rfl) Y9.out.1 ?_)
    | (go_at_call 10; have _q := K4; have _p := G9.out; clear K4; refine (bytes_ok t (some ⟨v1, 0, none⟩) (some ⟨v2, 0, none⟩) t.k t.n _ G9.out TM.out).mono ?_; rintro e w10 ⟨h, rfl, hg, hR, hB⟩; have Q10 := hidIt hR; have E10 := hidIt (below_sh (Nat.le_refl _) E9.out hB); have G10 := hidIt G9.out.byt; clear hR hB hg E9 G9 Y9)
    | (go_at_call 12; refine (same_any (some ⟨h, 0, none⟩) a' 1024 1024 1024 C' t.img f _ (Arg.of (Q10.out.lies (fun j hj => t.img_byte G10.out j hj))) (RA.out.below E10.out)).mono ?_; rintro e w11 ⟨rfl, rfl⟩; rw [decide_eq_true (txtN_congr 1024 _ _ TI.out)]))
  go_ret
  exact ⟨rfl, E10.out⟩
set_option maxRecDepth 100000 in
set_option maxHeartbeats 1000000 in
theorem back_mn (s : Blk) (a b a' : Option Addr) (C D n C' : Nat) (w : World) (hA : BlkAt w s a C b D) (hk : s.k ≤ 40) (hn : s.n ≤ 2000) (hr : n ≤ 2000) (m : s.May) (x : Int) (hx : ¬ x = 0) (rn : ∀ u, Below w.heap.size w u → Calls Try.prog 19 #[.slice a' n C'] u (RdNo u x)) :
    Calls Try.prog 6 #[blkV s a C b D, .slice a' n C'] w fun e w' => e = .returned (.bool true) ∧ Below w.heap.size w w' := by
  have HA := hidIt hA
  have MM := hidIt m
  clear hA m
  have RN := hidIt rn
  clear rn
  have i1 : ¬ (40 : Int) < (s.k : Int) := by omega
  have i2 : ¬ (2000 : Int) < (s.n : Int) := by omega
  have i3 : ¬ (2000 : Int) < (n : Int) := by omega
  have K1 : Hid True := trivial
  have K2 : Hid True := trivial
  have K3 : Hid True := trivial
  have K4 : Hid True := trivial
  unfold blkV
  go_enter Try.func6, Try.ntmps6
  go_wp2_with (first
    | (refine wpList_box_rec rfl 27 (.tmp 0) rfl (blkC s a C b D) rfl w.heap.size rfl ?_; intro W0 R0 B0 z0)
    | (go_at_call 5; refine (known_ok _).mono ?_; rintro e w1 ⟨rfl, B1⟩
       have E1 := hidIt (below_sh (Nat.le_refl _) B0 B1)
       have R1 := hidIt (R0.below B1)
       have c3 := R1.out.1 3 _ rfl
       have c4 := R1.out.1 4 _ rfl
       simp only [Nat.zero_add] at c3 c4
       clear R0 B0 z0 B1)
    | (refine wpList_load_g (by rfl) 27 (.tmp 2) rfl w.heap.size 0 (blkC s a C b D) rfl _ Try.underlying27 rfl (by kernel_rfl) R1.out.1 ?_)
    | (go_at_call 10; have _q := K1; clear K1; refine (bytes_ok s a b C D _ (HA.out.below E1.out) MM.out).mono ?_; rintro e w2 ⟨g, rfl, hg, hR2, hB2⟩; have Q2 := hidIt hR2; have E2 := hidIt (below_sh (Nat.le_refl _) E1.out hB2); have R2 := hidIt (R1.out.below hB2); clear hR2 hB2 hg R1 E1 c3 c4)
    | (go_at_call 19; have _q := K2; have _p := Q2.out; clear K2; refine (read_back s g 1024 _ MM.out HA.out.byt Q2.out (Nat.le_refl _)).mono ?_; rintro e w3 ⟨x1, x2, rfl, hG, hB⟩; unfold blkV; have G3 := hidIt hG.at; have E3 := hidIt (below_sh (Nat.le_refl _) E2.out hB); have R3 := hidIt (R2.out.below hB); clear hG hB E2 R2 Q2)
    | (refine wpList_alloc_rec rfl 27 rfl (blkC blk0 none 0 none 0) w3.heap.size rfl zero_blk ?_; intro W4 R4 B4 z4)
    | (refine wpList_store_rec rfl 27 (.tmp 8) (.tmp 39) rfl w3.heap.size 0 _ (blkC s (some ⟨x1, 0, none⟩) s.k (some ⟨x2, 0, none⟩) s.n) rfl rfl R4 rfl (by kernel_rfl) (blkC_one _ _ _ _ _) ?_; intro W5 R5 B5
       have BX : Below w3.heap.size w3 W5 := B4.trans (B5.below (Nat.le_refl _) B4.size)
       have G5 := hidIt (G3.out.below BX)
       have E5 := hidIt (below_sh (Nat.le_refl _) E3.out BX)
       have R5' := hidIt (R3.out.below BX)
       have Y5 := hidIt R5
       clear R4 B4 z4 R5 B5 BX E3 R3 G3)
    | (refine wpList_load_g (by rfl) 27 (.tmp 8) rfl w3.heap.size 0 (blkC s (some ⟨x1, 0, none⟩) s.k (some ⟨x2, 0, none⟩) s.n) rfl _ Try.underlying27 rfl (by kernel_rfl) Y5.out.1 ?_)
    | (refine wpList_load_g (by rfl) 27 (.tmp 2) rfl w.heap.size 0 (blkC s a C b D) rfl _ Try.underlying27 rfl (by kernel_rfl) R5'.out.1 ?_)
    | (go_at_call 21; refine (blk_self s (some ⟨x1, 0, none⟩) a (some ⟨x2, 0, none⟩) b s.k C s.n D _ G5.out (HA.out.below E5.out) (by omega)).mono ?_; rintro e w6 ⟨rfl, hB⟩; have E6 := hidIt (below_sh (Nat.le_refl _) E5.out hB); clear hB E5 R5' Y5 G5)
    | (go_at_call 19; have _q := K3; have _p := E6.out; clear K3; refine (RN.out _ E6.out).mono ?_; rintro e w7 ⟨rfl, hB⟩; unfold blkV; have E7 := hidIt (below_sh (Nat.le_refl _) E6.out hB); clear hB E6)
    | (refine wpList_alloc_rec rfl 27 rfl (blkC blk0 none 0 none 0) w7.heap.size rfl zero_blk ?_; intro W8 R8 B8 z8)
    | (refine wpList_store_rec rfl 27 (.tmp 10) (.tmp 56) rfl w7.heap.size 0 _ (blkC blk0 none 0 none 0) rfl rfl R8 rfl (by kernel_rfl) (blkC_one _ _ _ _ _) ?_; intro W9 R9 B9
       have BX : Below w7.heap.size w7 W9 := B8.trans (B9.below (Nat.le_refl _) B8.size)
       have E9 := hidIt (below_sh (Nat.le_refl _) E7.out BX)
       clear R8 B8 z8 R9 B9 BX E7))
  go_ret
  exact ⟨rfl, E9.out⟩
set_option maxRecDepth 100000 in
set_option maxHeartbeats 1000000 in
theorem back_ny (s : Blk) (a b a' : Option Addr) (C D C' : Nat) (f : Nat → Int) (w : World) (hA : BlkAt w s a C b D) (ra : Arg w a' 1024 f) (hk : s.k ≤ 40) (hn : s.n ≤ 2000) (m : ¬ s.May) (t : Blk) (tm : t.May) (ti : ∀ j, j < 1024 → t.img j = f j) (ry : ∀ u, Below w.heap.size w u → Calls Try.prog 19 #[.slice a' 1024 C'] u (RdOk u t)) :
    Calls Try.prog 6 #[blkV s a C b D, .slice a' 1024 C'] w fun e w' => e = .returned (.bool true) ∧ Below w.heap.size w w' := by
  have HA := hidIt hA
  have MM := hidIt m
  clear hA m
  have TM := hidIt tm
  have TI := hidIt ti
  have RY := hidIt ry
  have RA := hidIt ra
  clear tm ti ry ra
  have i1 : ¬ (40 : Int) < (s.k : Int) := by omega
  have i2 : ¬ (2000 : Int) < (s.n : Int) := by omega
  have K1 : Hid True := trivial
  have K2 : Hid True := trivial
  have K3 : Hid True := trivial
  have K4 : Hid True := trivial
  unfold blkV
  go_enter Try.func6, Try.ntmps6
  go_wp2_with (first
    | (refine wpList_box_rec rfl 27 (.tmp 0) rfl (blkC s a C b D) rfl w.heap.size rfl ?_; intro W0 R0 B0 z0)
    | (go_at_call 5; refine (known_ok _).mono ?_; rintro e w1 ⟨rfl, B1⟩
       have E1 := hidIt (below_sh (Nat.le_refl _) B0 B1)
       have R1 := hidIt (R0.below B1)
       have c3 := R1.out.1 3 _ rfl
       have c4 := R1.out.1 4 _ rfl
       simp only [Nat.zero_add] at c3 c4
       clear R0 B0 z0 B1)
    | (refine wpList_load_g (by rfl) 27 (.tmp 2) rfl w.heap.size 0 (blkC s a C b D) rfl _ Try.underlying27 rfl (by kernel_rfl) R1.out.1 ?_)
    | (go_at_call 10; have _q := K1; clear K1; refine (bytes_no s a b C D _ (HA.out.refs.below E1.out) MM.out).mono ?_; rintro e w2 ⟨rfl, hB2⟩; have E2 := hidIt (below_sh (Nat.le_refl _) E1.out hB2); clear hB2 R1 E1 c3 c4)
    | (go_at_call 19; have _q := K2; have _p := E2.out; clear K2; refine (read_len none 0 0 _ (by decide)).mono ?_; rintro e w3 ⟨rfl, hB⟩; unfold blkV; have E3 := hidIt (below_sh (Nat.le_refl _) E2.out hB); clear hB E2)
    | (refine wpList_alloc_rec rfl 27 rfl (blkC blk0 none 0 none 0) w3.heap.size rfl zero_blk ?_; intro W4 R4 B4 z4)
    | (refine wpList_store_rec rfl 27 (.tmp 8) (.tmp 39) rfl w3.heap.size 0 _ (blkC blk0 none 0 none 0) rfl rfl R4 rfl (by kernel_rfl) (blkC_one _ _ _ _ _) ?_; intro w6 R5 B5
       have BX : Below w3.heap.size w3 w6 := B4.trans (B5.below (Nat.le_refl _) B4.size)
       have E6 := hidIt (below_sh (Nat.le_refl _) E3.out BX)
       clear R4 B4 z4 R5 B5 BX E3)
    | (go_at_call 19; have _q := K3; have _p := E6.out; clear K3; refine (RY.out _ E6.out).mono ?_; rintro e w7 ⟨v1, v2, rfl, hG, hB⟩; unfold blkV; have G7 := hidIt hG.at; have E7 := hidIt (below_sh (Nat.le_refl _) E6.out hB); clear hG hB E6)
    | (refine wpList_alloc_rec rfl 27 rfl (blkC blk0 none 0 none 0) w7.heap.size rfl zero_blk ?_; intro W8 R8 B8 z8)
    | (refine wpList_store_rec rfl 27 (.tmp 10) (.tmp 56) rfl w7.heap.size 0 _ (blkC t (some ⟨v1, 0, none⟩) t.k (some ⟨v2, 0, none⟩) t.n) rfl rfl R8 rfl (by kernel_rfl) (blkC_one _ _ _ _ _) ?_; intro W9 R9 B9
       have BX : Below w7.heap.size w7 W9 := B8.trans (B9.below (Nat.le_refl _) B8.size)
       have E9 := hidIt (below_sh (Nat.le_refl _) E7.out BX)
       have G9 := hidIt (G7.out.below BX)
       have Y9 := hidIt R9
       clear R8 B8 z8 R9 B9 BX E7 G7)
    | (refine wpList_load_g (by rfl) 27 (.tmp 10) rfl w7.heap.size 0 (blkC t (some ⟨v1, 0, none⟩) t.k (some ⟨v2, 0, none⟩) t.n) rfl _ Try.underlying27 rfl (by kernel_rfl) Y9.out.1 ?_)
    | (go_at_call 10; have _q := K4; have _p := G9.out; clear K4; refine (bytes_ok t (some ⟨v1, 0, none⟩) (some ⟨v2, 0, none⟩) t.k t.n _ G9.out TM.out).mono ?_; rintro e w10 ⟨h, rfl, hg, hR, hB⟩; have Q10 := hidIt hR; have E10 := hidIt (below_sh (Nat.le_refl _) E9.out hB); have G10 := hidIt G9.out.byt; clear hR hB hg E9 G9 Y9)
    | (go_at_call 12; refine (same_any (some ⟨h, 0, none⟩) a' 1024 1024 1024 C' t.img f _ (Arg.of (Q10.out.lies (fun j hj => t.img_byte G10.out j hj))) (RA.out.below E10.out)).mono ?_; rintro e w11 ⟨rfl, rfl⟩; rw [decide_eq_true (txtN_congr 1024 _ _ TI.out)]))
  go_ret
  exact ⟨rfl, E10.out⟩
set_option maxRecDepth 100000 in
set_option maxHeartbeats 1000000 in
theorem back_nn (s : Blk) (a b a' : Option Addr) (C D n C' : Nat) (w : World) (hA : BlkAt w s a C b D) (hk : s.k ≤ 40) (hn : s.n ≤ 2000) (hr : n ≤ 2000) (m : ¬ s.May) (x : Int) (hx : ¬ x = 0) (rn : ∀ u, Below w.heap.size w u → Calls Try.prog 19 #[.slice a' n C'] u (RdNo u x)) :
    Calls Try.prog 6 #[blkV s a C b D, .slice a' n C'] w fun e w' => e = .returned (.bool true) ∧ Below w.heap.size w w' := by
  have HA := hidIt hA
  have MM := hidIt m
  clear hA m
  have RN := hidIt rn
  clear rn
  have i1 : ¬ (40 : Int) < (s.k : Int) := by omega
  have i2 : ¬ (2000 : Int) < (s.n : Int) := by omega
  have i3 : ¬ (2000 : Int) < (n : Int) := by omega
  have K1 : Hid True := trivial
  have K2 : Hid True := trivial
  have K3 : Hid True := trivial
  have K4 : Hid True := trivial
  unfold blkV
  go_enter Try.func6, Try.ntmps6
  go_wp2_with (first
    | (refine wpList_box_rec rfl 27 (.tmp 0) rfl (blkC s a C b D) rfl w.heap.size rfl ?_; intro W0 R0 B0 z0)
    | (go_at_call 5; refine (known_ok _).mono ?_; rintro e w1 ⟨rfl, B1⟩
       have E1 := hidIt (below_sh (Nat.le_refl _) B0 B1)
       have R1 := hidIt (R0.below B1)
       have c3 := R1.out.1 3 _ rfl
       have c4 := R1.out.1 4 _ rfl
       simp only [Nat.zero_add] at c3 c4
       clear R0 B0 z0 B1)
    | (refine wpList_load_g (by rfl) 27 (.tmp 2) rfl w.heap.size 0 (blkC s a C b D) rfl _ Try.underlying27 rfl (by kernel_rfl) R1.out.1 ?_)
    | (go_at_call 10; have _q := K1; clear K1; refine (bytes_no s a b C D _ (HA.out.refs.below E1.out) MM.out).mono ?_; rintro e w2 ⟨rfl, hB2⟩; have E2 := hidIt (below_sh (Nat.le_refl _) E1.out hB2); clear hB2 R1 E1 c3 c4)
    | (go_at_call 19; have _q := K2; have _p := E2.out; clear K2; refine (read_len none 0 0 _ (by decide)).mono ?_; rintro e w3 ⟨rfl, hB⟩; unfold blkV; have E3 := hidIt (below_sh (Nat.le_refl _) E2.out hB); clear hB E2)
    | (refine wpList_alloc_rec rfl 27 rfl (blkC blk0 none 0 none 0) w3.heap.size rfl zero_blk ?_; intro W4 R4 B4 z4)
    | (refine wpList_store_rec rfl 27 (.tmp 8) (.tmp 39) rfl w3.heap.size 0 _ (blkC blk0 none 0 none 0) rfl rfl R4 rfl (by kernel_rfl) (blkC_one _ _ _ _ _) ?_; intro w6 R5 B5
       have BX : Below w3.heap.size w3 w6 := B4.trans (B5.below (Nat.le_refl _) B4.size)
       have E6 := hidIt (below_sh (Nat.le_refl _) E3.out BX)
       clear R4 B4 z4 R5 B5 BX E3)
    | (go_at_call 19; have _q := K3; have _p := E6.out; clear K3; refine (RN.out _ E6.out).mono ?_; rintro e w7 ⟨rfl, hB⟩; unfold blkV; have E7 := hidIt (below_sh (Nat.le_refl _) E6.out hB); clear hB E6)
    | (refine wpList_alloc_rec rfl 27 rfl (blkC blk0 none 0 none 0) w7.heap.size rfl zero_blk ?_; intro W8 R8 B8 z8)
    | (refine wpList_store_rec rfl 27 (.tmp 10) (.tmp 56) rfl w7.heap.size 0 _ (blkC blk0 none 0 none 0) rfl rfl R8 rfl (by kernel_rfl) (blkC_one _ _ _ _ _) ?_; intro W9 R9 B9
       have BX : Below w7.heap.size w7 W9 := B8.trans (B9.below (Nat.le_refl _) B8.size)
       have E9 := hidIt (below_sh (Nat.le_refl _) E7.out BX)
       clear R8 B8 z8 R9 B9 BX E7))
  go_ret
  exact ⟨rfl, E9.out⟩
theorem back_any (s : Blk) (a b a' : Option Addr) (C D n C' : Nat) (f : Nat → Int) (w : World) (hA : BlkAt w s a C b D) (ra : Arg w a' n f) (hC : n ≤ C') :
    Calls Try.prog 6 #[blkV s a C b D, .slice a' n C'] w fun e w' => e = .returned (.bool true) ∧ Below w.heap.size w w' := by
  by_cases h1 : 40 < s.k
  · exact back_l1 s a b a' C D n C' w (by omega)
  by_cases h2 : 2000 < s.n
  · exact back_l2 s a b a' C D n C' w (by omega) (by omega)
  by_cases h3 : 2000 < n
  · exact back_l3 s a b a' C D n C' w (by omega) (by omega) (by omega)
  by_cases hw : n = 1024 ∧ Whole f
  · obtain ⟨rfl, hw⟩ := hw
    obtain ⟨b', off, rfl, hl⟩ : ∃ b' off, a' = some ⟨b', off, none⟩ ∧ Lies w b' off 1024 f := by
      rcases ra with ⟨h, _⟩ | ⟨_, b', off, e, hl⟩
      · omega
      · exact ⟨b', off, e, hl⟩
    have RY : ∀ u, Below w.heap.size w u → Calls Try.prog 19 #[.slice (some ⟨b', off, none⟩) 1024 C'] u (RdOk u (blkOf (behO f))) := fun u hB => read_ok b' off C' f u (hl.below hB) hC hw
    by_cases m : s.May
    · exact back_my s a b _ C D C' f w hA ra (by omega) (by omega) m _ hw.2.2 (hw.back hl.2.1) RY
    · exact back_ny s a b _ C D C' f w hA ra (by omega) (by omega) m _ hw.2.2 (hw.back hl.2.1) RY
  · have RN : ∀ u, Below w.heap.size w u → Calls Try.prog 19 #[.slice a' n C'] u (RdNo u (if n = 1024 then rdE f else 4)) := fun u hB => (read_any a' n C' f u (ra.below hB) hC).mono fun e w' q => by
      rcases q with ⟨q1, q2, _⟩ | ⟨_, q⟩
      · exact absurd ⟨q1, q2⟩ hw
      · exact q
    have hx : ¬ (if n = 1024 then rdE f else 4) = 0 := by
      by_cases e : n = 1024
      · rw [if_pos e]
        rcases rdE_not (fun q => hw ⟨e, q⟩) with ⟨_, q⟩ | ⟨_, _, q⟩ <;> rw [q] <;> decide
      · rw [if_neg e]; decide
    by_cases m : s.May
    · exact back_mn s a b a' C D n C' w hA (by omega) (by omega) (by omega) m _ hx RN
    · exact back_nn s a b a' C D n C' w hA (by omega) (by omega) (by omega) m _ hx RN
end Go.Proofs.Ytmlllglgjpmicaa
