/-
  Walks, not a claim by itself: block's takeBlock of bytes that are a block's. By the verifier.
-/
import Derived.Test.YtblphlcnbnklmaaGreatDoorGTb
namespace Go.Proofs.YtblphlcnbnklmaaGreatDoor
open Go.RowKit
set_option maxRecDepth 100000 in
set_option maxHeartbeats 1000000 in
theorem tb_ok (w : World) (r q c : Nat) (F : Nat → Int) (h : Lies w r q 1008 F) (hc : 1008 ≤ c) (k n : Nat) (hk : rdN F 3 = (k : Int)) (hn : rdN F 4 = (n : Int)) (hk16 : k ≤ 16) (hn860 : n ≤ 860) (hz : NoRefs F) (hr : NoRest F) : Calls Tryz.prog 96 #[.slice (some ⟨r, q, none⟩) 1008 c] w (TbOk w (blkOf F)) := by
  have NZ := hidIt ((refsZ_iff F k hk hk16).2 hz)
  have NR := hidIt ((allZ_iff F n hn hn860).2 hr)
  have KN : Hid ((blkOf F).k = k ∧ (blkOf F).n = n) := ⟨by show (rdN F 3).toNat = k; omega, by show (rdN F 4).toNat = n; omega⟩
  clear hz hr
  have HL := hidIt h
  clear h
  have C0 : Hid (∀ W, Below w.heap.size w W → Calls Tryz.prog 157 #[.slice (some ⟨r, q, none⟩) 1008 c] W fun e w' => e = .returned (.tuple #[.int .i64 (rdN F 0), .slice (some ⟨r, q + 4, none⟩) 1004 (c - 4)]) ∧ Below W.heap.size W w') := fun W hB => tk_num w W r q c 0 F HL.out hB hc (by omega)
  have C3 : Hid (∀ W, Below w.heap.size w W → Calls Tryz.prog 157 #[.slice (some ⟨r, q + 12, none⟩) 996 (c - 12)] W fun e w' => e = .returned (.tuple #[.int .i64 (k : Int), .slice (some ⟨r, q + 16, none⟩) 992 (c - 16)]) ∧ Below W.heap.size W w') := fun W hB => by have := tk_num w W r q c 3 F HL.out hB hc (by omega); rwa [hk] at this
  have C4 : Hid (∀ W, Below w.heap.size w W → Calls Tryz.prog 157 #[.slice (some ⟨r, q + 16, none⟩) 992 (c - 16)] W fun e w' => e = .returned (.tuple #[.int .i64 (n : Int), .slice (some ⟨r, q + 20, none⟩) 988 (c - 20)]) ∧ Below W.heap.size W w') := fun W hB => by have := tk_num w W r q c 4 F HL.out hB hc (by omega); rwa [hn] at this
  obtain ⟨x0, e0⟩ : ∃ x, rdN F 0 = x := ⟨_, rfl⟩
  obtain ⟨x1, e1⟩ : ∃ x, rdN F 1 = x := ⟨_, rfl⟩
  obtain ⟨x2, e2⟩ : ∃ x, rdN F 2 = x := ⟨_, rfl⟩
  have E012 : Hid (rdN F 0 = x0 ∧ rdN F 1 = x1 ∧ rdN F 2 = x2) := ⟨e0, e1, e2⟩
  have CR : Hid (∀ W, Below w.heap.size w W → Calls Tryz.prog 158 #[.slice (some ⟨r, q + 4, none⟩) 1004 (c - 4)] W fun e w' => e = .returned (.tuple #[.agg (twoC x1 x2).toArray, .slice (some ⟨r, q + 12, none⟩) 996 (c - 12)]) ∧ Below W.heap.size W w') := fun W hB => by have := tk_ref w W r q c F HL.out hB hc; rwa [e1, e2] at this
  rw [e0] at C0
  clear e0 e1 e2
  have K1 : Hid True := trivial
  have K2 : Hid True := trivial
  have K3 : Hid True := trivial
  have T1 : Hid True := trivial
  have T2 : Hid True := trivial
  have i1 : ¬ (k : Int) < 0 := by omega
  have i2 : ¬ (16 : Int) < (k : Int) := by omega
  have i3 : ¬ (n : Int) < 0 := by omega
  have i4 : ¬ (860 : Int) < (n : Int) := by omega
  clear hk hn
  go_enter Tryz.func96, Tryz.ntmps96
  go_wp2_with (first
    | (have _q := T1; clear T1; refine wpList_alloc_rec rfl 107 rfl (blkC blk0 none 0 none 0) w.heap.size rfl zero_blk ?_; intro W1 R1 B1 z1)
    | (have _q := T2; clear T2; refine wpList_alloc_rec rfl 107 rfl (blkC blk0 none 0 none 0) (w.heap.size + 1) z1 zero_blk ?_; intro W2 R2 B2 z2; have S2 : Hid (TbAt w (pc 0 0 0) W2) := ⟨R1.below (by rw [z1]; exact B2), R2, B1.trans (B2.mono (by omega))⟩; clear R1 B1 z1 R2 B2 z2)
    | (go_at_call 157; have _q := K1; clear K1; refine (C0.out _ S2.out.bel).mono ?_; rintro e w3 ⟨rfl, B3⟩; have S3 := hidIt (S2.out.below B3); clear B3 S2)
    | (refine wpList_put_rec rfl 3 (.tmp 13) (.tmp 11) rfl (w.heap.size + 1) 0 (pc 0 0 0) [.int .i64 x0] (pc x0 0 0) _ rfl rfl rfl S3.out.b (by show 0 + 1 ≤ 5; omega) rfl (by kernel_rfl) (int_one x0) ?_; intro W4 R4 B4 z4; have S4 := hidIt (S3.out.put R4 B4); clear R4 B4 z4 S3)
    | (go_at_call 158; refine (CR.out _ S4.out.bel).mono ?_; rintro e w5 ⟨rfl, B5⟩; have S5 := hidIt (S4.out.below B5); clear B5 S4)
    | (refine wpList_put_rec rfl 57 (.tmp 19) (.tmp 17) rfl (w.heap.size + 1) 1 (pc x0 0 0) (twoC x1 x2) (pc x0 x1 x2) _ rfl rfl rfl S5.out.b (by show 1 + 2 ≤ 5; omega) rfl (by kernel_rfl) (twoC_one _ _) ?_; intro W6 R6 B6 z6; have S6 := hidIt (S5.out.put R6 B6); clear R6 B6 z6 S5)
    | (go_at_call 157; have _q := K2; clear K2; refine (C3.out _ S6.out.bel).mono ?_; rintro e w7 ⟨rfl, B7⟩; have S7 := hidIt (S6.out.below B7); clear B7 S6)
    | (go_at_call 157; have _q := K3; clear K3; refine (C4.out _ S7.out.bel).mono ?_; rintro e w8 ⟨rfl, B8⟩; have S8 := hidIt (S7.out.below B8); clear B8 S7)
    | (go_at_call 159; refine (tk_refs w _ r q c F HL.out S8.out.bel hc).mono ?_; rintro e w9 ⟨rfl, RA, B9⟩; have S9 := hidIt (S8.out.below B9); have A9 := hidIt RA; have H9 : Hid (w.heap.size + 1 < w8.heap.size) := S8.out.b.2.2; clear B9 RA)
    | (refine wpList_cut (by rfl) 66 57 (.tmp 50) (.tmp 51) rfl 2 Tryz.underlying66 Tryz.underlying66 size_ref w8.heap.size 0 16 16 k (k : Int) rfl rfl rfl hk16 ?_)
    | (go_at_call 160; refine (norefs_any (some (cutP w8.heap.size 0 k 2 16)) (16 - k) (16 - k) (fun j => rdN F (5 + (2 * k + j))) _ (cut_refs (fun j hj => by have := A9.out.1 j _ (cl_at .i64 32 _ j (by omega)); rwa [Nat.zero_add] at this) A9.out.2.2 (Nat.le_refl _) hk16) (by omega)).mono ?_; rintro e w10 ⟨rfl, B10⟩; rw [decide_eq_true NZ.out]; have S10 := hidIt (S9.out.below B10); have A10 := hidIt (A9.out.below B10); clear B10 S9 A9)
    | (refine wpList_cut (by rfl) 23 5 (.tmp 56) (.tmp 57) rfl 1 Tryz.underlying23 Tryz.underlying23 (by kernel_rfl) r (q + 148) 860 (c - 148) n (n : Int) rfl rfl rfl hn860 ?_)
    | (go_at_call 161; refine (noughts_any (some (cutP r (q + 148) n 1 (c - 148))) (860 - n) (c - 148 - n) (fun j => F (148 + (n + j))) _ (cut_lies (f := fun j => F (148 + j)) (lies_part (HL.out.below S10.out.bel) 148 860 (by omega)) (by omega) hn860) (by omega)).mono ?_; rintro e w11 ⟨rfl, rfl⟩; rw [decide_eq_true NR.out])
    | (refine wpList_clip (by rfl) 66 57 (.tmp 63) (.tmp 64) (.tmp 65) rfl Tryz.underlying66 Tryz.underlying66 size_ref w8.heap.size 0 16 16 k rfl rfl rfl hk16 ?_)
    | (refine wpList_put_rec rfl 66 (.tmp 67) (.tmp 66) rfl (w.heap.size + 1) 3 (pc x0 x1 x2) [.slice (some ⟨w8.heap.size, 0, none⟩) k k] [.int .i64 x0, .int .i64 x1, .int .i64 x2, .slice (some ⟨w8.heap.size, 0, none⟩) k k, .slice none 0 0] _ rfl rfl rfl S10.out.b (by show 3 + 1 ≤ 5; omega) rfl (by kernel_rfl) (slice_one _ _ _) ?_; intro W12 R12 B12 z12; have S12 := hidIt (S10.out.put R12 B12); have A12 := hidIt (A10.out.but B12 (by have := H9.out; omega)); clear R12 B12 z12 S10 A10)
    | (refine wpList_make rfl (.tmp 68) (.tmp 68) rfl n W12.heap.size rfl _ rfl rfl rfl (by omega) ?_; intro W13 R13 B13 z13; have S13 := hidIt (S12.out.below B13); have A13 := hidIt (A12.out.below B13); have N13 := hidIt R13; have G13 : Hid (w8.heap.size < W12.heap.size) := A12.out.2.2; clear R13 B13 z13 S12 A12)
    | (refine wpList_put_rec rfl 23 (.tmp 70) (.tmp 69) rfl (w.heap.size + 1) 4 [.int .i64 x0, .int .i64 x1, .int .i64 x2, .slice (some ⟨w8.heap.size, 0, none⟩) k k, .slice none 0 0] [.slice (some ⟨W12.heap.size, 0, none⟩) n n] [.int .i64 x0, .int .i64 x1, .int .i64 x2, .slice (some ⟨w8.heap.size, 0, none⟩) k k, .slice (some ⟨W12.heap.size, 0, none⟩) n n] _ rfl rfl rfl S13.out.b (by show 4 + 1 ≤ 5; omega) rfl (by kernel_rfl) (slice_one _ _ _) ?_; intro W14 R14 B14 z14; have S14 := hidIt (S13.out.put R14 B14); have A14 := hidIt (A13.out.but B14 (by have := H9.out; omega)); have N14 := hidIt (N13.out.but B14 (by have := H9.out; have := G13.out; omega)); have c4 := R14.1 4 _ rfl; simp only [Nat.zero_add] at c4
       obtain ⟨W15, g1, g2, g3, g4⟩ := copy_row W14 W12.heap.size n 0 n n 860 (c - 148) n (some ⟨r, q + 148, none⟩) (fun j => F (148 + j)) (fun _ => 0) N14.out (by omega) (by show n = min 860 n; omega) (Arg.of (lies_part (HL.out.below S14.out.bel) 148 860 (by omega)))
       have S15 := hidIt (S14.out.but g3 (by have := H9.out; have := G13.out; omega))
       have A15 := hidIt (A14.out.but g3 (by have := G13.out; omega))
       have N15 := hidIt g2
       clear R14 B14 z14 S13 A13 N13 g2 g3 g4)
    | (at_builtin; refine wpList_copy_go rfl (.tmp 72) (.tmp 73) 23 23 rfl _ _ rfl rfl g1 ?_)
    | (refine wpList_load_rec rfl 107 (.tmp 4) rfl (w.heap.size + 1) 0 _ rfl _ Tryz.underlying107 rfl (by kernel_rfl) S15.out.b ?_)
    | (refine wpList_store_rec rfl 107 (.tmp 2) (.tmp 75) rfl w.heap.size 0 (blkC blk0 none 0 none 0) [.int .i64 x0, .int .i64 x1, .int .i64 x2, .slice (some ⟨w8.heap.size, 0, none⟩) k k, .slice (some ⟨W12.heap.size, 0, none⟩) n n] rfl rfl S15.out.out rfl (by kernel_rfl) (fun v hv => by simp only [List.mem_cons, List.not_mem_nil, or_false] at hv; rcases hv with rfl | rfl | rfl | rfl | rfl <;> rfl) ?_; intro W16 R16 B16; have E16 := hidIt (S15.out.bel.trans (B16.below (Nat.le_refl _) S15.out.bel.size)); have R16' := hidIt R16; have A16 := hidIt (A15.out.but B16 (by have := H9.out; omega)); have N16 := hidIt (N15.out.but B16 (by have := H9.out; have := G13.out; omega)); clear R16 B16))
  have hl := R16'.out.run_load 107 _ Tryz.underlying107 rfl (by kernel_rfl)
  refine bodyPost_ret (v := .tuple #[.agg [.int .i64 x0, .int .i64 x1, .int .i64 x2, .slice (some ⟨w8.heap.size, 0, none⟩) k k, .slice (some ⟨W12.heap.size, 0, none⟩) n n].toArray, .bool true]) (by simp [results, Tryz.results96, asAddr, hl]) rfl ?_
  obtain ⟨kk, nn⟩ := KN.out
  obtain ⟨e0, e1, e2⟩ := E012.out
  have FB : ∀ j, j < n → 0 ≤ F (148 + j) ∧ F (148 + j) < 256 := fun j hj => HL.out.2.1 (148 + j) (by omega)
  refine ⟨w8.heap.size, W12.heap.size, ?_, ⟨fun j hj => ?_, A16.out.2.2, ?_, ?_, ?_, fun j hj => FB j (by omega)⟩, E16.out⟩
  · unfold blkV blkC
    rw [kk, nn]
    show _ = Ending.returned (.tuple #[.agg [.int .i64 (rdN F 0), .int .i64 (rdN F 1), .int .i64 (rdN F 2), .slice (some ⟨w8.heap.size, 0, none⟩) k k, .slice (some ⟨W12.heap.size, 0, none⟩) n n].toArray, .bool true])
    rw [e0, e1, e2]
  · have := A16.out.1 j _ (cl_at .i64 32 _ j (by omega))
    rwa [Nat.zero_add] at this
  · rw [nn]
    exact N16.out.congr fun j hj => by
      show over (fun _ => 0) 0 n (fun j => F (148 + j)) j = F (148 + j)
      unfold over
      rw [if_pos (by omega), Nat.sub_zero]
  · have := S8.out.bel.size; omega
  · have := S8.out.bel.size; have := G13.out; omega
end Go.Proofs.YtblphlcnbnklmaaGreatDoor
