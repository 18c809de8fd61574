/-
  Walks, not a claim by itself: block's Read. By the verifier.
-/
import Derived.Test.YtblphlcnbnklmaaGreatDoorGTb2
import Derived.Test.YtblphlcnbnklmaaGreatDoorGChk
namespace Go.Proofs.YtblphlcnbnklmaaGreatDoor
open Go.RowKit
theorem tb_no (w : World) (r q c : Nat) (F : Nat → Int) (h : Lies w r q 1008 F) (hc : 1008 ≤ c) (m : ¬ BlkOk F) : Calls Tryz.prog 96 #[.slice (some ⟨r, q, none⟩) 1008 c] w (TbNo w) := by
  have b3 := rdN_bound F 3 (fun j hj => h.2.1 _ (by omega))
  have b4 := rdN_bound F 4 (fun j hj => h.2.1 _ (by omega))
  by_cases h3 : 16 < rdN F 3
  · exact tb_no1 w r q c F h hc h3
  by_cases h4 : 860 < rdN F 4
  · exact tb_no2 w r q c F h hc b3.1 (by omega) h4
  have hk : rdN F 3 = (((rdN F 3).toNat : Nat) : Int) := by omega
  have hn : rdN F 4 = (((rdN F 4).toNat : Nat) : Int) := by omega
  by_cases h5 : NoRefs F
  · exact tb_no4 w r q c F h hc _ _ hk hn (by omega) (by omega) h5 (fun h6 => m ⟨⟨by omega, by omega⟩, h5, h6⟩)
  · exact tb_no3 w r q c F h hc _ _ hk hn (by omega) (by omega) h5
theorem tb_yes (w : World) (r q c : Nat) (F : Nat → Int) (h : Lies w r q 1008 F) (hc : 1008 ≤ c) (m : BlkOk F) : Calls Tryz.prog 96 #[.slice (some ⟨r, q, none⟩) 1008 c] w (TbOk w (blkOf F)) := by
  have b3 := rdN_bound F 3 (fun j hj => h.2.1 _ (by omega))
  have b4 := rdN_bound F 4 (fun j hj => h.2.1 _ (by omega))
  obtain ⟨⟨h3, h4⟩, h5, h6⟩ := m
  exact tb_ok w r q c F h hc _ _ (show rdN F 3 = (((rdN F 3).toNat : Nat) : Int) by omega) (show rdN F 4 = (((rdN F 4).toNat : Nat) : Int) by omega) (by omega) (by omega) h5 h6
/-- What Read answers of bytes that it doesn't take. -/
def RdNo (w : World) (c : Int) (e : Ending) (w' : World) : Prop := e = .returned (.tuple #[blkV blk0 none 0 none 0, .int .i64 c]) ∧ Below w.heap.size w w'
/-- What it answers of bytes that it takes. -/
def RdOk (w : World) (s : Blk) (e : Ending) (w' : World) : Prop := ∃ g1 g2, e = .returned (.tuple #[blkV s (some ⟨g1, 0, none⟩) s.k (some ⟨g2, 0, none⟩) s.n, .int .i64 0]) ∧ TbGot w w' s g1 g2 ∧ Below w.heap.size w w'
theorem TbGot.mono {w0 w w' : World} {s : Blk} {g1 g2 : Nat} (h : TbGot w w' s g1 g2) (hz : w0.heap.size ≤ w.heap.size) : TbGot w0 w' s g1 g2 := ⟨h.refs, h.l1, h.row, Nat.le_trans hz h.n1, Nat.le_trans hz h.n2, h.byt⟩
theorem TbGot.but {w w' u : World} {s : Blk} {g1 g2 c : Nat} (h : TbGot w w' s g1 g2) (hB : But c w' u) (h1 : c < g1) (h2 : c < g2) : TbGot w u s g1 g2 :=
  ⟨fun j hj => (hB.cell (p := ⟨g1, j, none⟩) h.l1 (by show g1 ≠ c; omega)).trans (h.refs j hj), Nat.lt_of_lt_of_le h.l1 hB.size, h.row.but hB (by omega), h.n1, h.n2, h.byt⟩
set_option maxRecDepth 100000 in
set_option maxHeartbeats 1000000 in
theorem read_len (a : Option Addr) (n C : Nat) (w : World) (hn : n ≠ 1024) : Calls Tryz.prog 46 #[.slice a n C] w (RdNo w 4) := by
  have i1 : ¬ (n : Int) = 1024 := by omega
  have T1 : Hid True := trivial
  go_enter Tryz.func46, Tryz.ntmps46
  go_wp2_with (first
    | (have _q := T1; clear T1; refine wpList_alloc_rec rfl 107 rfl (blkC blk0 none 0 none 0) w.heap.size rfl zero_blk ?_; intro W1 R1 B1 z1)
    | (refine wpList_build_to rfl 107 _ rfl (blkC blk0 none 0 none 0).toArray (by kernel_rfl) ?_)
    | (refine wpList_store_rec rfl 107 (.tmp 2) (.tmp 11) rfl w.heap.size 0 (blkC blk0 none 0 none 0) (blkC blk0 none 0 none 0) rfl rfl R1 rfl (by kernel_rfl) (blkC_one _ _ _ _ _) ?_; intro W9 R9 B9; have E9 := hidIt (B1.trans (B9.below (Nat.le_refl _) B1.size)); have R9' := hidIt R9; clear R9 B9))
  have hl := R9'.out.run_load 107 _ Tryz.underlying107 rfl (by kernel_rfl)
  refine bodyPost_ret (v := .tuple #[.agg (blkC blk0 none 0 none 0).toArray, .int .i64 4]) (by simp [results, Tryz.results46, asAddr, hl]) rfl ⟨rfl, E9.out⟩
set_option maxRecDepth 100000 in
set_option maxHeartbeats 1000000 in
theorem read_seal (b off C : Nat) (f : Nat → Int) (w : World) (h : Lies w b off 1024 f) (hC : 1024 ≤ C) (ho : opens 1024 f = false) : Calls Tryz.prog 46 #[.slice (some ⟨b, off, none⟩) 1024 C] w (RdNo w 12) := by
  have OP : Hid (eqN 16 (sealF 1008 (behO f)) f = false) := ho
  clear ho
  have HL := hidIt h
  clear h
  have i1 : ¬ C = 16 := by omega
  have i2 : (16 : Int) ≤ (C : Int) := by omega
  have T1 : Hid True := trivial
  go_enter Tryz.func46, Tryz.ntmps46
  go_wp2_with (first
    | (have _q := T1; clear T1; refine wpList_alloc_rec rfl 107 rfl (blkC blk0 none 0 none 0) w.heap.size rfl zero_blk ?_; intro W1 R1 B1 z1)
    | (refine wpList_alloc_row rfl 170 rfl .u8 16 (w.heap.size + 1) z1 zero8_16 ?_; intro W2 hR2 B2 z2
       have L2 := HL.out.below (B1.trans (B2.mono (by omega)))
       obtain ⟨W3, g1, g2, g3, g4⟩ := copy_row W2 (w.heap.size + 1) 16 0 16 16 1024 C 16 (some ⟨b, off, none⟩) f (fun _ => 0) hR2 (by omega) rfl (Arg.of L2)
       have E3 : Hid (Below w.heap.size w W3) := (B1.trans (B2.mono (by omega))).trans (g3.below (by omega) (by omega))
       have S3 := hidIt g2
       have O3 := hidIt ((R1.below (by rw [z1]; exact B2)).but g3 (by omega))
       clear R1 B1 z1 hR2 B2 z2 g2 g3 g4 L2)
    | (at_builtin; refine wpList_copy_go rfl (.tmp 13) (.tmp 14) 23 23 rfl _ _ rfl rfl g1 ?_)
    | (refine wpList_load_irow rfl 170 (.tmp 4) rfl (w.heap.size + 1) .u8 16 _ rfl _ Tryz.underlying170 rfl (by kernel_rfl) S3.out ?_)
    | (go_at_call 95; refine (right16 (some ⟨b, off + 16, none⟩) 1008 (C - 16) (behO f) (over (fun _ => 0) 0 16 f) _ (Arg.of ((HL.out.below E3.out).part 16 1008 (by omega))) (by omega) (by omega)).mono ?_; rintro e w4 ⟨rfl, B4⟩; rw [eqN_over, OP.out]; have E4 := hidIt (below_sh (Nat.le_refl _) E3.out B4); have O4 := hidIt (O3.out.below B4); clear B4)
    | (refine wpList_build_to rfl 107 _ rfl (blkC blk0 none 0 none 0).toArray (by kernel_rfl) ?_)
    | (refine wpList_store_rec rfl 107 (.tmp 2) (.tmp 21) rfl w.heap.size 0 (blkC blk0 none 0 none 0) (blkC blk0 none 0 none 0) rfl rfl O4.out rfl (by kernel_rfl) (blkC_one _ _ _ _ _) ?_; intro W9 R9 B9; have E9 := hidIt (E4.out.trans (B9.below (Nat.le_refl _) E4.out.size)); have R9' := hidIt R9; clear R9 B9))
  have hl := R9'.out.run_load 107 _ Tryz.underlying107 rfl (by kernel_rfl)
  refine bodyPost_ret (v := .tuple #[.agg (blkC blk0 none 0 none 0).toArray, .int .i64 12]) (by simp [results, Tryz.results46, asAddr, hl]) rfl ⟨rfl, E9.out⟩
set_option maxRecDepth 100000 in
set_option maxHeartbeats 1000000 in
theorem read_not (b off C : Nat) (f : Nat → Int) (w : World) (h : Lies w b off 1024 f) (hC : 1024 ≤ C) (ho : opens 1024 f = true) (m : ¬ BlkOk (behO f)) : Calls Tryz.prog 46 #[.slice (some ⟨b, off, none⟩) 1024 C] w (RdNo w 4) := by
  have OP : Hid (eqN 16 (sealF 1008 (behO f)) f = true) := ho
  clear ho
  have HL := hidIt h
  clear h
  have i1 : ¬ C = 16 := by omega
  have i2 : (16 : Int) ≤ (C : Int) := by omega
  have T1 : Hid True := trivial
  go_enter Tryz.func46, Tryz.ntmps46
  go_wp2_with (first
    | (have _q := T1; clear T1; refine wpList_alloc_rec rfl 107 rfl (blkC blk0 none 0 none 0) w.heap.size rfl zero_blk ?_; intro W1 R1 B1 z1)
    | (refine wpList_alloc_row rfl 170 rfl .u8 16 (w.heap.size + 1) z1 zero8_16 ?_; intro W2 hR2 B2 z2
       have L2 := HL.out.below (B1.trans (B2.mono (by omega)))
       obtain ⟨W3, g1, g2, g3, g4⟩ := copy_row W2 (w.heap.size + 1) 16 0 16 16 1024 C 16 (some ⟨b, off, none⟩) f (fun _ => 0) hR2 (by omega) rfl (Arg.of L2)
       have E3 : Hid (Below w.heap.size w W3) := (B1.trans (B2.mono (by omega))).trans (g3.below (by omega) (by omega))
       have S3 := hidIt g2
       have O3 := hidIt ((R1.below (by rw [z1]; exact B2)).but g3 (by omega))
       clear R1 B1 z1 hR2 B2 z2 g2 g3 g4 L2)
    | (at_builtin; refine wpList_copy_go rfl (.tmp 13) (.tmp 14) 23 23 rfl _ _ rfl rfl g1 ?_)
    | (refine wpList_load_irow rfl 170 (.tmp 4) rfl (w.heap.size + 1) .u8 16 _ rfl _ Tryz.underlying170 rfl (by kernel_rfl) S3.out ?_)
    | (go_at_call 95; refine (right16 (some ⟨b, off + 16, none⟩) 1008 (C - 16) (behO f) (over (fun _ => 0) 0 16 f) _ (Arg.of ((HL.out.below E3.out).part 16 1008 (by omega))) (by omega) (by omega)).mono ?_; rintro e w4 ⟨rfl, B4⟩; rw [eqN_over, OP.out]; have E4 := hidIt (below_sh (Nat.le_refl _) E3.out B4); have O4 := hidIt (O3.out.below B4); clear B4)
    | (go_at_call 96; refine (tb_no _ b (off + 16) (C - 16) (behO f) ((HL.out.below E4.out).part 16 1008 (by omega)) (by omega) m).mono ?_; rintro e w5 ⟨rfl, B5⟩; unfold blkV; have E5 := hidIt (below_sh (Nat.le_refl _) E4.out B5); have O5 := hidIt (O4.out.below B5); clear B5)
    | (refine wpList_alloc_rec rfl 107 rfl (blkC blk0 none 0 none 0) w5.heap.size rfl zero_blk ?_; intro W6 R6 B6 z6)
    | (refine wpList_store_rec rfl 107 (.tmp 6) (.tmp 25) rfl w5.heap.size 0 (blkC blk0 none 0 none 0) (blkC blk0 none 0 none 0) rfl rfl R6 rfl (by kernel_rfl) (blkC_one _ _ _ _ _) ?_; intro W7 R7 B7; have BX : Below w5.heap.size w5 W7 := B6.trans (B7.below (Nat.le_refl _) B6.size); have E7 := hidIt (below_sh (Nat.le_refl _) E5.out BX); have O7 := hidIt (O5.out.below BX); clear R6 B6 z6 R7 B7 BX)
    | (refine wpList_build_to rfl 107 _ rfl (blkC blk0 none 0 none 0).toArray (by kernel_rfl) ?_)
    | (refine wpList_store_rec rfl 107 (.tmp 2) (.tmp 34) rfl w.heap.size 0 (blkC blk0 none 0 none 0) (blkC blk0 none 0 none 0) rfl rfl O7.out rfl (by kernel_rfl) (blkC_one _ _ _ _ _) ?_; intro W9 R9 B9; have E9 := hidIt (E7.out.trans (B9.below (Nat.le_refl _) E7.out.size)); have R9' := hidIt R9; clear R9 B9))
  have hl := R9'.out.run_load 107 _ Tryz.underlying107 rfl (by kernel_rfl)
  refine bodyPost_ret (v := .tuple #[.agg (blkC blk0 none 0 none 0).toArray, .int .i64 4]) (by simp [results, Tryz.results46, asAddr, hl]) rfl ⟨rfl, E9.out⟩
set_option maxRecDepth 100000 in
set_option maxHeartbeats 1000000 in
theorem read_may (b off C : Nat) (f : Nat → Int) (w : World) (h : Lies w b off 1024 f) (hC : 1024 ≤ C) (ho : opens 1024 f = true) (mo : BlkOk (behO f)) (m : ¬ (blkOf (behO f)).May) : Calls Tryz.prog 46 #[.slice (some ⟨b, off, none⟩) 1024 C] w (RdNo w 4) := by
  have OP : Hid (eqN 16 (sealF 1008 (behO f)) f = true) := ho
  have MO := hidIt mo
  have MM := hidIt m
  clear ho mo m
  have HL := hidIt h
  clear h
  have i1 : ¬ C = 16 := by omega
  have i2 : (16 : Int) ≤ (C : Int) := by omega
  have T1 : Hid True := trivial
  go_enter Tryz.func46, Tryz.ntmps46
  go_wp2_with (first
    | (have _q := T1; clear T1; refine wpList_alloc_rec rfl 107 rfl (blkC blk0 none 0 none 0) w.heap.size rfl zero_blk ?_; intro W1 R1 B1 z1)
    | (refine wpList_alloc_row rfl 170 rfl .u8 16 (w.heap.size + 1) z1 zero8_16 ?_; intro W2 hR2 B2 z2
       have L2 := HL.out.below (B1.trans (B2.mono (by omega)))
       obtain ⟨W3, g1, g2, g3, g4⟩ := copy_row W2 (w.heap.size + 1) 16 0 16 16 1024 C 16 (some ⟨b, off, none⟩) f (fun _ => 0) hR2 (by omega) rfl (Arg.of L2)
       have E3 : Hid (Below w.heap.size w W3) := (B1.trans (B2.mono (by omega))).trans (g3.below (by omega) (by omega))
       have S3 := hidIt g2
       have O3 := hidIt ((R1.below (by rw [z1]; exact B2)).but g3 (by omega))
       clear R1 B1 z1 hR2 B2 z2 g2 g3 g4 L2)
    | (at_builtin; refine wpList_copy_go rfl (.tmp 13) (.tmp 14) 23 23 rfl _ _ rfl rfl g1 ?_)
    | (refine wpList_load_irow rfl 170 (.tmp 4) rfl (w.heap.size + 1) .u8 16 _ rfl _ Tryz.underlying170 rfl (by kernel_rfl) S3.out ?_)
    | (go_at_call 95; refine (right16 (some ⟨b, off + 16, none⟩) 1008 (C - 16) (behO f) (over (fun _ => 0) 0 16 f) _ (Arg.of ((HL.out.below E3.out).part 16 1008 (by omega))) (by omega) (by omega)).mono ?_; rintro e w4 ⟨rfl, B4⟩; rw [eqN_over, OP.out]; have E4 := hidIt (below_sh (Nat.le_refl _) E3.out B4); have O4 := hidIt (O3.out.below B4); clear B4)
    | (go_at_call 96; refine (tb_yes _ b (off + 16) (C - 16) (behO f) ((HL.out.below E4.out).part 16 1008 (by omega)) (by omega) MO.out).mono ?_; rintro e w5 ⟨g1', g2', rfl, hG, B5⟩; unfold blkV; have E5 := hidIt (below_sh (Nat.le_refl _) E4.out B5); have O5 := hidIt (O4.out.below B5); have G5 := hidIt (hG.mono (w0 := w) E4.out.size); have GN : Hid (w.heap.size < g1' ∧ w.heap.size < g2') := ⟨Nat.lt_of_lt_of_le O4.out.2.2 hG.n1, Nat.lt_of_lt_of_le O4.out.2.2 hG.n2⟩; clear B5 hG)
    | (refine wpList_alloc_rec rfl 107 rfl (blkC blk0 none 0 none 0) w5.heap.size rfl zero_blk ?_; intro W6 R6 B6 z6)
    | (refine wpList_store_rec rfl 107 (.tmp 6) (.tmp 25) rfl w5.heap.size 0 (blkC blk0 none 0 none 0) (blkC (blkOf (behO f)) (some ⟨g1', 0, none⟩) (blkOf (behO f)).k (some ⟨g2', 0, none⟩) (blkOf (behO f)).n) rfl rfl R6 rfl (by kernel_rfl) (blkC_one _ _ _ _ _) ?_; intro W7 R7 B7; have BX : Below w5.heap.size w5 W7 := B6.trans (B7.below (Nat.le_refl _) B6.size); have E7 := hidIt (below_sh (Nat.le_refl _) E5.out BX); have O7 := hidIt (O5.out.below BX); have G7 := hidIt (G5.out.below BX); have R7' := hidIt R7; clear R6 B6 z6 R7 B7 BX)
    | (refine wpList_load_g (by rfl) 107 (.tmp 6) rfl w5.heap.size 0 _ rfl _ Tryz.underlying107 rfl (by kernel_rfl) R7'.out.1 ?_)
    | (go_at_call 97; refine (check_any (blkOf (behO f)) (some ⟨g1', 0, none⟩) (some ⟨g2', 0, none⟩) (blkOf (behO f)).k (blkOf (behO f)).n _ G7.out.at.refs).mono ?_; rintro e w8 ⟨rfl, B8⟩; rw [show chkE (blkOf (behO f)) = 2 from if_neg MM.out]; have E8 := hidIt (below_sh (Nat.le_refl _) E7.out B8); have O8 := hidIt (O7.out.below B8); have G8 := hidIt (G7.out.below B8); have R8 := hidIt (R7'.out.below B8); clear B8)
    | (refine wpList_build_to rfl 107 _ rfl (blkC blk0 none 0 none 0).toArray (by kernel_rfl) ?_)
    | (refine wpList_store_rec rfl 107 (.tmp 2) (.tmp 34) rfl w.heap.size 0 (blkC blk0 none 0 none 0) (blkC blk0 none 0 none 0) rfl rfl O8.out rfl (by kernel_rfl) (blkC_one _ _ _ _ _) ?_; intro W9 R9 B9; have E9 := hidIt (E8.out.trans (B9.below (Nat.le_refl _) E8.out.size)); have R9' := hidIt R9; clear R9 B9))
  have hl := R9'.out.run_load 107 _ Tryz.underlying107 rfl (by kernel_rfl)
  refine bodyPost_ret (v := .tuple #[.agg (blkC blk0 none 0 none 0).toArray, .int .i64 4]) (by simp [results, Tryz.results46, asAddr, hl]) rfl ⟨rfl, E9.out⟩
set_option maxRecDepth 100000 in
set_option maxHeartbeats 1000000 in
theorem read_ok (b off C : Nat) (f : Nat → Int) (w : World) (h : Lies w b off 1024 f) (hC : 1024 ≤ C) (hw : Whole f) : Calls Tryz.prog 46 #[.slice (some ⟨b, off, none⟩) 1024 C] w (RdOk w (blkOf (behO f))) := by
  have OP : Hid (eqN 16 (sealF 1008 (behO f)) f = true) := hw.1
  have MO := hidIt hw.2.1
  have MM := hidIt hw.2.2
  clear hw
  have HL := hidIt h
  clear h
  have i1 : ¬ C = 16 := by omega
  have i2 : (16 : Int) ≤ (C : Int) := by omega
  have T1 : Hid True := trivial
  go_enter Tryz.func46, Tryz.ntmps46
  go_wp2_with (first
    | (have _q := T1; clear T1; refine wpList_alloc_rec rfl 107 rfl (blkC blk0 none 0 none 0) w.heap.size rfl zero_blk ?_; intro W1 R1 B1 z1)
    | (refine wpList_alloc_row rfl 170 rfl .u8 16 (w.heap.size + 1) z1 zero8_16 ?_; intro W2 hR2 B2 z2
       have L2 := HL.out.below (B1.trans (B2.mono (by omega)))
       obtain ⟨W3, g1, g2, g3, g4⟩ := copy_row W2 (w.heap.size + 1) 16 0 16 16 1024 C 16 (some ⟨b, off, none⟩) f (fun _ => 0) hR2 (by omega) rfl (Arg.of L2)
       have E3 : Hid (Below w.heap.size w W3) := (B1.trans (B2.mono (by omega))).trans (g3.below (by omega) (by omega))
       have S3 := hidIt g2
       have O3 := hidIt ((R1.below (by rw [z1]; exact B2)).but g3 (by omega))
       clear R1 B1 z1 hR2 B2 z2 g2 g3 g4 L2)
    | (at_builtin; refine wpList_copy_go rfl (.tmp 13) (.tmp 14) 23 23 rfl _ _ rfl rfl g1 ?_)
    | (refine wpList_load_irow rfl 170 (.tmp 4) rfl (w.heap.size + 1) .u8 16 _ rfl _ Tryz.underlying170 rfl (by kernel_rfl) S3.out ?_)
    | (go_at_call 95; refine (right16 (some ⟨b, off + 16, none⟩) 1008 (C - 16) (behO f) (over (fun _ => 0) 0 16 f) _ (Arg.of ((HL.out.below E3.out).part 16 1008 (by omega))) (by omega) (by omega)).mono ?_; rintro e w4 ⟨rfl, B4⟩; rw [eqN_over, OP.out]; have E4 := hidIt (below_sh (Nat.le_refl _) E3.out B4); have O4 := hidIt (O3.out.below B4); clear B4)
    | (go_at_call 96; refine (tb_yes _ b (off + 16) (C - 16) (behO f) ((HL.out.below E4.out).part 16 1008 (by omega)) (by omega) MO.out).mono ?_; rintro e w5 ⟨g1', g2', rfl, hG, B5⟩; unfold blkV; have E5 := hidIt (below_sh (Nat.le_refl _) E4.out B5); have O5 := hidIt (O4.out.below B5); have G5 := hidIt (hG.mono (w0 := w) E4.out.size); have GN : Hid (w.heap.size < g1' ∧ w.heap.size < g2') := ⟨Nat.lt_of_lt_of_le O4.out.2.2 hG.n1, Nat.lt_of_lt_of_le O4.out.2.2 hG.n2⟩; clear B5 hG)
    | (refine wpList_alloc_rec rfl 107 rfl (blkC blk0 none 0 none 0) w5.heap.size rfl zero_blk ?_; intro W6 R6 B6 z6)
    | (refine wpList_store_rec rfl 107 (.tmp 6) (.tmp 25) rfl w5.heap.size 0 (blkC blk0 none 0 none 0) (blkC (blkOf (behO f)) (some ⟨g1', 0, none⟩) (blkOf (behO f)).k (some ⟨g2', 0, none⟩) (blkOf (behO f)).n) rfl rfl R6 rfl (by kernel_rfl) (blkC_one _ _ _ _ _) ?_; intro W7 R7 B7; have BX : Below w5.heap.size w5 W7 := B6.trans (B7.below (Nat.le_refl _) B6.size); have E7 := hidIt (below_sh (Nat.le_refl _) E5.out BX); have O7 := hidIt (O5.out.below BX); have G7 := hidIt (G5.out.below BX); have R7' := hidIt R7; clear R6 B6 z6 R7 B7 BX)
    | (refine wpList_load_g (by rfl) 107 (.tmp 6) rfl w5.heap.size 0 _ rfl _ Tryz.underlying107 rfl (by kernel_rfl) R7'.out.1 ?_)
    | (go_at_call 97; refine (check_any (blkOf (behO f)) (some ⟨g1', 0, none⟩) (some ⟨g2', 0, none⟩) (blkOf (behO f)).k (blkOf (behO f)).n _ G7.out.at.refs).mono ?_; rintro e w8 ⟨rfl, B8⟩; rw [show chkE (blkOf (behO f)) = 0 from if_pos MM.out]; have E8 := hidIt (below_sh (Nat.le_refl _) E7.out B8); have O8 := hidIt (O7.out.below B8); have G8 := hidIt (G7.out.below B8); have R8 := hidIt (R7'.out.below B8); clear B8)
    | (refine wpList_load_rec rfl 107 (.tmp 6) rfl w5.heap.size 0 _ rfl _ Tryz.underlying107 rfl (by kernel_rfl) R8.out ?_)
    | (refine wpList_store_rec rfl 107 (.tmp 2) (.tmp 35) rfl w.heap.size 0 (blkC blk0 none 0 none 0) (blkC (blkOf (behO f)) (some ⟨g1', 0, none⟩) (blkOf (behO f)).k (some ⟨g2', 0, none⟩) (blkOf (behO f)).n) rfl rfl O8.out rfl (by kernel_rfl) (blkC_one _ _ _ _ _) ?_; intro W9 R9 B9; have E9 := hidIt (E8.out.trans (B9.below (Nat.le_refl _) E8.out.size)); have R9' := hidIt R9; have GB := hidIt B9; clear R9 B9))
  have hl := R9'.out.run_load 107 _ Tryz.underlying107 rfl (by kernel_rfl)
  refine bodyPost_ret (v := .tuple #[.agg (blkC (blkOf (behO f)) (some ⟨g1', 0, none⟩) (blkOf (behO f)).k (some ⟨g2', 0, none⟩) (blkOf (behO f)).n).toArray, .int .i64 0]) (by simp [results, Tryz.results46, asAddr, hl]) rfl ⟨g1', g2', rfl, G8.out.but GB.out GN.out.1 GN.out.2, E9.out⟩
/-- Read of any bytes. -/
def RdPost (w : World) (n : Nat) (f : Nat → Int) (e : Ending) (w' : World) : Prop := (n = 1024 ∧ Whole f ∧ RdOk w (blkOf (behO f)) e w') ∨ (¬ (n = 1024 ∧ Whole f) ∧ RdNo w (if n = 1024 then rdE f else 4) e w')
theorem rdE_not {f : Nat → Int} (h : ¬ Whole f) : (opens 1024 f = false ∧ rdE f = 12) ∨ (opens 1024 f = true ∧ ¬ (BlkOk (behO f) ∧ (blkOf (behO f)).May) ∧ rdE f = 4) := by
  unfold rdE
  by_cases o : opens 1024 f = true
  · rw [if_pos o]
    have q : ¬ (BlkOk (behO f) ∧ (blkOf (behO f)).May) := fun q => h ⟨o, q⟩
    exact .inr ⟨o, q, if_neg q⟩
  · rw [if_neg o]
    exact .inl ⟨by simpa using o, rfl⟩
theorem read_any (a : Option Addr) (n C : Nat) (f : Nat → Int) (w : World) (h : Arg w a n f) (hC : n ≤ C) : Calls Tryz.prog 46 #[.slice a n C] w (RdPost w n f) := by
  by_cases hn : n = 1024
  · subst hn
    rcases h with ⟨h, _⟩ | ⟨_, b, off, rfl, hl⟩
    · omega
    by_cases hw : Whole f
    · exact (read_ok b off C f w hl hC hw).mono fun e w' q => .inl ⟨rfl, hw, q⟩
    · have nw : ¬ (1024 = 1024 ∧ Whole f) := fun q => hw q.2
      rcases rdE_not hw with ⟨o, ce⟩ | ⟨o, m, ce⟩
      · exact (read_seal b off C f w hl hC o).mono fun e w' q => .inr ⟨nw, by rw [if_pos rfl, ce]; exact q⟩
      · by_cases mo : BlkOk (behO f)
        · exact (read_may b off C f w hl hC o mo (fun q => m ⟨mo, q⟩)).mono fun e w' q => .inr ⟨nw, by rw [if_pos rfl, ce]; exact q⟩
        · exact (read_not b off C f w hl hC o mo).mono fun e w' q => .inr ⟨nw, by rw [if_pos rfl, ce]; exact q⟩
  · exact (read_len a n C w hn).mono fun e w' q => .inr ⟨fun h => hn h.1, by rw [if_neg hn]; exact q⟩
end Go.Proofs.YtblphlcnbnklmaaGreatDoor
