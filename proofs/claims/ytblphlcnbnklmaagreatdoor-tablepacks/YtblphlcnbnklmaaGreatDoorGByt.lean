/-
  Walks, not a claim by itself: block's layBlock and Bytes. By the verifier.
-/
import Derived.Test.YtblphlcnbnklmaaGreatDoorGLay
import Derived.Test.YtblphlcnbnklmaaGreatDoorGChk
namespace Go.Proofs.YtblphlcnbnklmaaGreatDoor
open Go.RowKit
/-- The first p bytes behind the seal are laid. -/
def layF (s : Blk) (p j : Nat) : Int := if 16 ≤ j ∧ j < 16 + p then s.beh (j - 16) else 0
theorem layF_num (s : Blk) (i : Nat) (hi : i < 37) : over (layF s (4 * i)) (16 + 4 * i) 4 (byt (s.num i)) = layF s (4 * i + 4) := by
  funext j
  unfold over layF
  by_cases h : 16 + 4 * i ≤ j ∧ j < 16 + 4 * i + 4
  · rw [if_pos h, if_pos (by omega)]
    unfold Blk.beh
    rw [if_pos (by omega), show (j - 16) / 4 = i by omega, show (j - 16) % 4 = j - (16 + 4 * i) by omega]
  · rw [if_neg h]
    by_cases g : 16 ≤ j ∧ j < 16 + 4 * i
    · rw [if_pos g, if_pos (by omega)]
    · rw [if_neg g, if_neg (by omega)]
theorem layF_0 (s : Blk) : layF s 0 = fun _ => 0 := by funext j; unfold layF; rw [if_neg (by omega)]
theorem layF_kind (s : Blk) : over (fun _ => 0) 16 4 (byt (s.x 0)) = layF s 4 := by rw [← layF_0 s]; exact layF_num s 0 (by omega)
theorem layF_ref (s : Blk) : over (over (layF s 4) 20 4 (byt (s.x 1))) (20 + 4) 4 (byt (s.x 2)) = layF s 12 := by
  have h1 := layF_num s 1 (by omega)
  have h2 := layF_num s 2 (by omega)
  rw [show over (layF s 4) 20 4 (byt (s.x 1)) = layF s 8 from h1]
  exact h2
theorem layF_k (s : Blk) : over (layF s 12) 28 4 (byt (s.k : Int)) = layF s 16 := layF_num s 3 (by omega)
theorem layF_n (s : Blk) : over (layF s 16) 32 4 (byt (s.n : Int)) = layF s 20 := layF_num s 4 (by omega)
theorem byt_0 (i : Nat) : byt 0 i = 0 := by unfold byt up8; simp
theorem layF_refs (s : Blk) (hk : s.k ≤ 16) : over (layF s 20) 36 (8 * s.k) (refG s.h) = layF s 148 := by
  funext j
  unfold over layF
  by_cases h : 36 ≤ j ∧ j < 36 + 8 * s.k
  · rw [if_pos h, if_pos (by omega)]
    unfold Blk.beh refG Blk.num
    rw [if_pos (by omega), if_neg (by omega), if_neg (by omega), if_neg (by omega), if_pos (by omega), show (j - 16) / 4 - 5 = (j - 36) / 4 by omega, show (j - 16) % 4 = (j - 36) % 4 by omega]
  · rw [if_neg h]
    by_cases g : 16 ≤ j ∧ j < 16 + 20
    · rw [if_pos g, if_pos (by omega)]
    · rw [if_neg g]
      by_cases q : 16 ≤ j ∧ j < 16 + 148
      · rw [if_pos q]
        unfold Blk.beh Blk.num
        rw [if_pos (by omega), if_neg (by omega), if_neg (by omega), if_neg (by omega), if_neg (by omega), byt_0]
      · rw [if_neg q]
theorem layF_body (s : Blk) (hn : s.n ≤ 860) : over (layF s 148) 164 s.n s.F = layF s 1008 := by
  funext j
  unfold over layF
  by_cases h : 164 ≤ j ∧ j < 164 + s.n
  · rw [if_pos h, if_pos (by omega)]
    unfold Blk.beh
    rw [if_neg (by omega), if_pos (by omega), show j - 16 - 148 = j - 164 by omega]
  · rw [if_neg h]
    by_cases g : 16 ≤ j ∧ j < 16 + 148
    · rw [if_pos g, if_pos (by omega)]
    · rw [if_neg g]
      by_cases q : 16 ≤ j ∧ j < 16 + 1008
      · rw [if_pos q]
        unfold Blk.beh
        rw [if_neg (by omega), if_neg (by omega)]
      · rw [if_neg q]
theorem layF_img (s : Blk) (j : Nat) (hj : j < 1024) : over (layF s 1008) 0 16 (sealF 1008 s.beh) j = s.img j := by
  unfold over Blk.img sealedF layF
  by_cases h : j < 16
  · rw [if_pos (by omega), if_pos h]; rfl
  · rw [if_neg (by omega), if_neg h, if_pos (by omega)]
/-- While a block is laid into row r. -/
structure LayAt (w : World) (r : Nat) (s : Blk) (a : Option Addr) (C : Nat) (b : Option Addr) (D p : Nat) (u : World) : Prop where
  row : IRow u r .u8 1024 (layF s p)
  box : Rec19 u w.heap.size 0 (blkC s a C b D)
  but : But r w u
theorem LayAt.step {w u v : World} {r : Nat} {s : Blk} {a b : Option Addr} {C D p p' : Nat} {f : Nat → Int} (h : LayAt w r s a C b D p u) (hr : r < w.heap.size) (hR : IRow v r .u8 1024 f) (hB : But r u v) (e : f = layF s p') : LayAt w r s a C b D p' v := by
  subst e
  exact ⟨hR, h.box.but hB (by omega), h.but.trans hB⟩
theorem LayAt.c0 {w u : World} {r : Nat} {s : Blk} {a b : Option Addr} {C D p : Nat} (h : LayAt w r s a C b D p u) : u.cell? ⟨w.heap.size, 0, none⟩ = some (.int .i64 (s.x 0)) := h.box.1 0 _ rfl
theorem LayAt.r1 {w u : World} {r : Nat} {s : Blk} {a b : Option Addr} {C D p : Nat} (h : LayAt w r s a C b D p u) : u.rangeAt w.heap.size 1 (twoC (s.x 1) (s.x 2)) := two_range (by have := h.box.1 1 _ rfl; exact this) (by have := h.box.1 2 _ rfl; exact this)
theorem LayAt.c3 {w u : World} {r : Nat} {s : Blk} {a b : Option Addr} {C D p : Nat} (h : LayAt w r s a C b D p u) : u.cell? ⟨w.heap.size, 3, none⟩ = some (.slice a s.k C) := h.box.1 3 _ rfl
theorem LayAt.c4 {w u : World} {r : Nat} {s : Blk} {a b : Option Addr} {C D p : Nat} (h : LayAt w r s a C b D p u) : u.cell? ⟨w.heap.size, 4, none⟩ = some (.slice b s.n D) := h.box.1 4 _ rfl
def LaidPost (w : World) (r : Nat) (s : Blk) (e : Ending) (w' : World) : Prop := e = .returned (.tuple #[]) ∧ IRow w' r .u8 1024 (layF s 1008) ∧ But r w w'
set_option maxRecDepth 100000 in
set_option maxHeartbeats 1000000 in
theorem laid_any (w0 w : World) (r : Nat) (s : Blk) (a b : Option Addr) (C D : Nat) (hA : BlkAt w0 s a C b D) (hB0 : Below w0.heap.size w0 w) (hr : w0.heap.size ≤ r) (hR : IRow w r .u8 1024 (fun _ => 0)) (hk : s.k ≤ 16) (hn : s.n ≤ 860) :
    Calls Tryz.prog 173 #[.slice (some ⟨r, 16, none⟩) 1008 1008, blkV s a C b D] w (LaidPost w r s) := by
  have HA := hidIt hA
  have HB0 := hidIt hB0
  have HR := hidIt hR
  have hrw : r < w.heap.size := hR.2.2
  clear hA hB0 hR
  have K1 : Hid True := trivial
  have K2 : Hid True := trivial
  have K3 : Hid True := trivial
  unfold blkV
  go_enter Tryz.func173, Tryz.ntmps173
  go_wp2_with (first
    | (refine wpList_box_rec rfl 107 (.tmp 1) rfl (blkC s a C b D) rfl w.heap.size rfl ?_; intro W0 R0 B0 z0
       have L0 := hidIt (LayAt.mk (s := s) (p := 0) (by rw [layF_0]; exact HR.out.below B0) R0 (But.of B0))
       have c0 := L0.out.c0
       clear R0 B0 z0)
    | (go_at_call 197; have _q := K1; clear K1; refine (lay_any _ r 1024 16 1008 (fun _ => 0) (s.x 0) (by rw [← layF_0 s]; exact L0.out.row) (by omega) (by omega) (by omega)).mono ?_; rintro e w1 ⟨q1, rfl, hq1, h1, b1, z1⟩; obtain rfl := hq1 (by omega); have L1 := hidIt (L0.out.step (p' := 4) hrw h1 b1 (layF_kind s)); clear hq1 h1 b1 z1 L0 c0)
    | (refine wpList_load_mid (P := Tryz.prog) rfl 57 (.tmp 9) rfl w.heap.size 1 (by first | rfl | simp) _ _ L1.out.r1 Tryz.underlying57 rfl (by kernel_rfl) ?_)
    | (go_at_call 198; refine (layref_any _ r 1024 20 1004 _ _ _ L1.out.row (by omega) (by omega) (by omega)).mono ?_; rintro e w2 ⟨q2, rfl, hq2, h2, b2⟩; obtain rfl := hq2 (by omega); have L2 := hidIt (L1.out.step (p' := 12) hrw h2 b2 (layF_ref s)); have c3 := L2.out.c3; clear hq2 h2 b2 L1)
    | (go_at_call 197; have _q := K2; have _p := L2.out; clear K2; refine (lay_any _ r 1024 28 996 (layF s 12) (s.k : Int) L2.out.row (by omega) (by omega) (by omega)).mono ?_; rintro e w3 ⟨q3, rfl, hq3, h3, b3, z3⟩; obtain rfl := hq3 (by omega); have L3 := hidIt (L2.out.step (p' := 16) hrw h3 b3 (layF_k s)); have c4 := L3.out.c4; clear hq3 h3 b3 z3 L2 c3)
    | (go_at_call 197; have _q := K3; have _p := L3.out; clear K3; refine (lay_any _ r 1024 32 992 (layF s 16) (s.n : Int) L3.out.row (by omega) (by omega) (by omega)).mono ?_; rintro e w4 ⟨q4, rfl, hq4, h4, b4, z4⟩; obtain rfl := hq4 (by omega); have L4 := hidIt (L3.out.step (p' := 20) hrw h4 b4 (layF_n s)); have c3 := L4.out.c3; clear hq4 h4 b4 z4 L3 c4)
    | (go_at_call 199; refine (layrefs_any w0 _ r 1024 36 988 s.k C a (layF s 20) s.h HA.out.refs (HB0.out.trans (L4.out.but.below hr HB0.out.size)) hr L4.out.row (by omega) (by omega) (by omega) hk).mono ?_; rintro e w5 ⟨rfl, h5, b5⟩; have L5 := hidIt (L4.out.step (p' := 148) hrw h5 b5 (layF_refs s hk)); have c4 := L5.out.c4; clear h5 b5 L4 c3
       obtain ⟨W6, g1, g2, g3, g4⟩ := copy_row w5 r 1024 164 860 860 s.n D s.n b s.F (layF s 148) L5.out.row (by omega) (by show s.n = min s.n 860; omega) (HA.out.body.below (HB0.out.trans (L5.out.but.below hr HB0.out.size)))
       have PP : Hid (LaidPost w r s (.returned (.tuple #[])) W6) := ⟨rfl, by rw [← layF_body s hn]; exact g2, L5.out.but.trans g3⟩
       clear g2 g3 g4)
    | (refine wpList_copy_go rfl (.tmp 26) (.tmp 28) 23 23 rfl _ _ rfl rfl g1 ?_))
  go_end0
  exact PP.out
/-- What Bytes answers of a block that may be. -/
def ByPost (w : World) (s : Blk) (e : Ending) (w' : World) : Prop := ∃ g, e = .returned (.tuple #[.slice (some ⟨g, 0, none⟩) 1024 1024, .int .i64 0]) ∧ w.heap.size ≤ g ∧ IRow w' g .u8 1024 s.img ∧ Below w.heap.size w w'
set_option maxRecDepth 100000 in
set_option maxHeartbeats 400000 in
theorem bytes_no (s : Blk) (a b : Option Addr) (C D : Nat) (w : World) (hA : HArg w a s.k s.h) (m : ¬ s.May) :
    Calls Tryz.prog 122 #[blkV s a C b D] w fun e w' => e = .returned (.tuple #[.slice none 0 0, .int .i64 2]) ∧ Below w.heap.size w w' := by
  have CK : Hid (∀ w', Below w.heap.size w w' → Calls Tryz.prog 97 #[blkV s a C b D] w' fun e w'' => e = .returned (.int .i64 2) ∧ Below w'.heap.size w' w'') := fun w' hB => by
    have := check_any s a b C D w' (hA.below hB)
    unfold ChkPost at this
    rwa [show chkE s = 2 from if_neg m] at this
  clear hA m
  unfold blkV
  unfold blkV at CK
  go_enter Tryz.func122, Tryz.ntmps122
  go_wp2_with (first
    | (refine wpList_box_rec rfl 107 (.tmp 0) rfl (blkC s a C b D) rfl w.heap.size rfl ?_; intro W0 R0 B0 z0)
    | (refine wpList_load_rec rfl 107 (.tmp 1) rfl w.heap.size 0 (blkC s a C b D) rfl _ Tryz.underlying107 rfl (by kernel_rfl) R0 ?_)
    | (go_at_call 97; refine (CK.out _ B0).mono ?_; rintro e w1 ⟨rfl, B1⟩))
  go_ret2
  exact ⟨rfl, B0.trans (B1.mono B0.size)⟩
end Go.Proofs.YtblphlcnbnklmaaGreatDoor
