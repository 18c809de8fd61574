/-
  Walks, not a claim by itself: block's mayBe and Check. By the verifier.
-/
import Derived.Test.YtblphlcnbnklmaaGreatDoorGVal
namespace Go.Proofs.YtblphlcnbnklmaaGreatDoor
open Go.RowKit
set_option maxRecDepth 100000 in
theorem maybe_any (p q : Int) (w : World) : Calls Tryz.prog 162 #[.agg (twoC p q).toArray] w fun e w' => e = .returned (.bool (decide (RefOk p q))) ∧ Below w.heap.size w w' := by
  have B0 : Hid (Below w.heap.size w (w.alloc (.cells #[.int .i64 p, .int .i64 q] 57))) := (Below.refl _ _).alloc (Nat.le_refl _) _
  unfold twoC
  by_cases h1 : 1 ≤ p
  · by_cases h2 : p ≤ 512
    · by_cases h3 : 0 ≤ q
      · have e : decide (RefOk p q) = decide (q ≤ 1073741824) := decide_eq_decide.2 ⟨fun h => h.2.2, fun h => ⟨⟨h1, h2⟩, h3, h⟩⟩
        rw [e]
        clear e
        go_enter Tryz.func162, Tryz.ntmps162
        go_wp2_with fail
        go_ret
        exact ⟨rfl, B0.out⟩
      · have e : decide (RefOk p q) = false := decide_eq_false (fun h => by have := h.1.1; have := h.1.2; have := h.2.1; omega)
        rw [e]
        clear e
        go_enter Tryz.func162, Tryz.ntmps162
        go_wp2_with fail
        go_ret
        exact ⟨rfl, B0.out⟩
    · have e : decide (RefOk p q) = false := decide_eq_false (fun h => by have := h.1.1; have := h.1.2; have := h.2.1; omega)
      rw [e]
      clear e
      go_enter Tryz.func162, Tryz.ntmps162
      go_wp2_with fail
      go_ret
      exact ⟨rfl, B0.out⟩
  · have e : decide (RefOk p q) = false := decide_eq_false (fun h => by have := h.1.1; have := h.1.2; have := h.2.1; omega)
    rw [e]
    clear e
    go_enter Tryz.func162, Tryz.ntmps162
    go_wp2_with fail
    go_ret
    exact ⟨rfl, B0.out⟩
/-- What Check answers. -/
def chkE (s : Blk) : Int := if s.May then 0 else 2
def chkRel (w : World) (s : Blk) (i : Value) (wr : World) : Prop := ∃ k : Nat, k ≤ s.k ∧ i = .int .i64 k ∧ RefsOk k s.h ∧ Below w.heap.size w wr
def ChkPost (w : World) (s : Blk) (e : Ending) (w' : World) : Prop := e = .returned (.int .i64 (chkE s)) ∧ Below w.heap.size w w'
theorem chk_no {w w' : World} {s : Blk} (h : ¬ s.May) (hB : Below w.heap.size w w') : ChkPost w s (.returned (.int .i64 2)) w' := ⟨by unfold chkE; rw [if_neg h], hB⟩
theorem chk_ok {w w' : World} {s : Blk} (h : s.May) (hB : Below w.heap.size w w') : ChkPost w s (.returned (.int .i64 0)) w' := ⟨by unfold chkE; rw [if_pos h], hB⟩
set_option maxRecDepth 100000 in
set_option maxHeartbeats 1000000 in
theorem check_any (s : Blk) (a b : Option Addr) (C D : Nat) (w : World) (hA : HArg w a s.k s.h) :
    Calls Tryz.prog 97 #[blkV s a C b D] w (ChkPost w s) := by
  have HA : Hid (HArg w a s.k s.h) := hA
  clear hA
  unfold blkV
  go_enter Tryz.func97, Tryz.ntmps97
  by_cases h1 : s.x 0 < 1
  · have NM : Hid (¬ s.May) := fun m => by have := m.1.1; omega
    go_wp2_with (refine wpList_box_rec rfl 107 (.tmp 0) rfl (blkC s a C b D) rfl w.heap.size rfl ?_; intro W0 R0 B0 z0; have c0 := R0.1 0 _ rfl; simp only [Nat.zero_add] at c0; have BB := hidIt B0; clear R0 B0 z0)
    go_ret
    exact chk_no NM.out BB.out
  by_cases h2 : 15 < s.x 0
  · have NM : Hid (¬ s.May) := fun m => by have := m.1.2; omega
    go_wp2_with (refine wpList_box_rec rfl 107 (.tmp 0) rfl (blkC s a C b D) rfl w.heap.size rfl ?_; intro W0 R0 B0 z0; have c0 := R0.1 0 _ rfl; simp only [Nat.zero_add] at c0; have BB := hidIt B0; clear R0 B0 z0)
    go_ret
    exact chk_no NM.out BB.out
  by_cases h3 : RefOk (s.x 1) (s.x 2)
  rotate_left
  · have NM : Hid (¬ s.May) := fun m => h3 m.2.1
    have H3 := hidIt h3
    clear h3
    go_wp2_with (first
      | (refine wpList_box_rec rfl 107 (.tmp 0) rfl (blkC s a C b D) rfl w.heap.size rfl ?_; intro W0 R0 B0 z0; have c0 := R0.1 0 _ rfl; have c1 := R0.1 1 _ rfl; have c2 := R0.1 2 _ rfl; simp only [Nat.zero_add] at c0 c1 c2; have r1 := hidIt (two_range c1 c2); clear c1 c2; have BB := hidIt B0; clear R0 B0 z0)
      | (refine wpList_load_g (by rfl) 57 (.tmp 14) rfl w.heap.size 1 (twoC (s.x 1) (s.x 2)) rfl _ Tryz.underlying57 rfl (by kernel_rfl) r1.out ?_)
      | (go_at_call 162; refine (maybe_any _ _ _).mono ?_; rintro e w1 ⟨rfl, hB1⟩; rw [decide_eq_false H3.out]; have B1 := hidIt (below_sh (Nat.le_refl _) BB.out hB1); clear hB1))
    go_ret
    exact chk_no NM.out B1.out
  have H3 := hidIt h3
  clear h3
  by_cases h4 : 16 < s.k
  · have NM : Hid (¬ s.May) := fun m => by have := m.2.2.1; omega
    have h4' : (16 : Int) < (s.k : Int) := by omega
    go_wp2_with (first
      | (refine wpList_box_rec rfl 107 (.tmp 0) rfl (blkC s a C b D) rfl w.heap.size rfl ?_; intro W0 R0 B0 z0; have c0 := R0.1 0 _ rfl; have c1 := R0.1 1 _ rfl; have c2 := R0.1 2 _ rfl; have c3 := hidIt (R0.1 3 _ rfl); simp only [Nat.zero_add] at c0 c1 c2 c3; have r1 := hidIt (two_range c1 c2); clear c1 c2; have BB := hidIt B0; clear R0 B0; have ZZ := hidIt z0; clear z0)
      | (refine wpList_load_g (by rfl) 57 (.tmp 14) rfl w.heap.size 1 (twoC (s.x 1) (s.x 2)) rfl _ Tryz.underlying57 rfl (by kernel_rfl) r1.out ?_)
      | (go_at_call 162; refine (maybe_any _ _ _).mono ?_; rintro e w1 ⟨rfl, hB1⟩; rw [decide_eq_true H3.out]; have B1 := hidIt (below_sh (Nat.le_refl _) BB.out hB1); have d3 := (hB1.cell (p := ⟨w.heap.size, 3, none⟩) (by rw [ZZ.out]; show w.heap.size < w.heap.size + 1; omega)).trans c3.out; clear hB1))
    go_ret
    exact chk_no NM.out B1.out
  by_cases h5 : 860 < s.n
  · have NM : Hid (¬ s.May) := fun m => by have := m.2.2.2.1; omega
    have h4' : ¬ (16 : Int) < (s.k : Int) := by omega
    have h5' : (860 : Int) < (s.n : Int) := by omega
    go_wp2_with (first
      | (refine wpList_box_rec rfl 107 (.tmp 0) rfl (blkC s a C b D) rfl w.heap.size rfl ?_; intro W0 R0 B0 z0; have c0 := R0.1 0 _ rfl; have c1 := R0.1 1 _ rfl; have c2 := R0.1 2 _ rfl; have c3 := hidIt (R0.1 3 _ rfl); have c4 := hidIt (R0.1 4 _ rfl); simp only [Nat.zero_add] at c0 c1 c2 c3 c4; have r1 := hidIt (two_range c1 c2); clear c1 c2; have BB := hidIt B0; clear R0 B0; have ZZ := hidIt z0; clear z0)
      | (refine wpList_load_g (by rfl) 57 (.tmp 14) rfl w.heap.size 1 (twoC (s.x 1) (s.x 2)) rfl _ Tryz.underlying57 rfl (by kernel_rfl) r1.out ?_)
      | (go_at_call 162; refine (maybe_any _ _ _).mono ?_; rintro e w1 ⟨rfl, hB1⟩; rw [decide_eq_true H3.out]; have B1 := hidIt (below_sh (Nat.le_refl _) BB.out hB1); have d3 := (hB1.cell (p := ⟨w.heap.size, 3, none⟩) (by rw [ZZ.out]; show w.heap.size < w.heap.size + 1; omega)).trans c3.out; have d4 := (hB1.cell (p := ⟨w.heap.size, 4, none⟩) (by rw [ZZ.out]; show w.heap.size < w.heap.size + 1; omega)).trans c4.out; clear hB1))
    go_ret
    exact chk_no NM.out B1.out
  have h4' : ¬ (16 : Int) < (s.k : Int) := by omega
  have h5' : ¬ (860 : Int) < (s.n : Int) := by omega
  go_wp2_with (first
    | (refine wpList_box_rec rfl 107 (.tmp 0) rfl (blkC s a C b D) rfl w.heap.size rfl ?_; intro W0 R0 B0 z0; have c0 := R0.1 0 _ rfl; have c1 := R0.1 1 _ rfl; have c2 := R0.1 2 _ rfl; have c3 := hidIt (R0.1 3 _ rfl); have c4 := hidIt (R0.1 4 _ rfl); simp only [Nat.zero_add] at c0 c1 c2 c3 c4; have r1 := hidIt (two_range c1 c2); clear c1 c2; have BB := hidIt B0; clear R0 B0; have ZZ := hidIt z0; clear z0)
    | (refine wpList_load_g (by rfl) 57 (.tmp 14) rfl w.heap.size 1 (twoC (s.x 1) (s.x 2)) rfl _ Tryz.underlying57 rfl (by kernel_rfl) r1.out ?_)
    | (go_at_call 162; refine (maybe_any _ _ _).mono ?_; rintro e w1 ⟨rfl, hB1⟩; rw [decide_eq_true H3.out]; have B1 := hidIt (below_sh (Nat.le_refl _) BB.out hB1); have d3 := (hB1.cell (p := ⟨w.heap.size, 3, none⟩) (by rw [ZZ.out]; show w.heap.size < w.heap.size + 1; omega)).trans c3.out; have d4 := (hB1.cell (p := ⟨w.heap.size, 4, none⟩) (by rw [ZZ.out]; show w.heap.size < w.heap.size + 1; omega)).trans c4.out; clear hB1))
  have ST : Hid (chkRel w s (.int .i64 0) w1) := ⟨0, by omega, rfl, fun i hi => by omega, B1.out⟩
  have MM : Hid (RefsOk s.k s.h → s.May) := fun m => ⟨⟨by omega, by omega⟩, H3.out, by omega, by omega, m⟩
  clear c0 d3 d4 h1 h2 h4 h5 h4' h5'
  go_loopw [32] (fun i wr => chkRel w s i wr) (fun i _ => s.k - (RowKit.intOf i).toNat)
  case atStart => exact ST.out
  case round =>
    obtain ⟨k, hk, rfl, hR, hB⟩ := hrel
    clear ST
    have RR := hidIt hR
    have BE := hidIt hB
    clear hR hB
    by_cases hlt : k < s.k
    · have i0 : (k : Int) < (s.k : Int) := by omega
      rcases HA.out.below BE.out with q | ⟨g, o, rfl, hc, hb⟩
      · omega
      have r2 := hidIt (HArg.two hc hlt)
      clear hc hb
      by_cases q : RefOk (s.h (2 * k)) (s.h (2 * k + 1))
      · have NX : Hid (∀ V, Below w.heap.size w V → chkRel w s (.int .i64 ((k : Int) + 1)) V) := fun V hV => ⟨k + 1, by omega, by go_num, fun i hi => by
          by_cases e : i = k
          · rw [e]; exact q
          · exact RR.out i (by omega), hV⟩
        have Q := hidIt q
        clear q
        go_wp2_with (first
          | (refine wpList_load_mid (P := Tryz.prog) rfl 57 (.tmp 34) rfl g (o + k * 2) (by first | rfl | simp) _ _ r2.out Tryz.underlying57 rfl (by kernel_rfl) ?_)
          | (refine wpList_alloc_rec rfl 57 rfl (twoC 0 0) wr.heap.size rfl zero_ref ?_; intro W1 R1 hB1 z1)
          | (refine wpList_store_rec rfl 57 (.tmp 4) (.tmp 35) rfl wr.heap.size 0 (twoC 0 0) (twoC (s.h (2 * k)) (s.h (2 * k + 1))) rfl rfl R1 rfl (by kernel_rfl) (twoC_one _ _) ?_; intro W2 R2 hB2; have R2' := hidIt R2; have B2 := hidIt (below_sh (Nat.le_refl _) BE.out (hB1.trans (hB2.below (Nat.le_refl _) hB1.size))); clear R1 hB1 z1 R2 hB2)
          | (refine wpList_load_rec rfl 57 (.tmp 4) rfl wr.heap.size 0 (twoC (s.h (2 * k)) (s.h (2 * k + 1))) rfl _ Tryz.underlying57 rfl (by kernel_rfl) R2'.out ?_)
          | (go_at_call 162; refine (maybe_any _ _ _).mono ?_; rintro e w5 ⟨rfl, hB5⟩; rw [decide_eq_true Q.out]; have B5 := hidIt (below_sh (Nat.le_refl _) B2.out hB5); clear hB5))
        go_roundw
        case rel => exact NX.out _ B5.out
        case measure => simp [RowKit.intOf]; omega
      · have NM : Hid (¬ s.May) := fun m => q (m.2.2.2.2 k hlt)
        have Q := hidIt q
        clear q
        go_wp2_with (first
          | (refine wpList_load_mid (P := Tryz.prog) rfl 57 (.tmp 34) rfl g (o + k * 2) (by first | rfl | simp) _ _ r2.out Tryz.underlying57 rfl (by kernel_rfl) ?_)
          | (refine wpList_alloc_rec rfl 57 rfl (twoC 0 0) wr.heap.size rfl zero_ref ?_; intro W1 R1 hB1 z1)
          | (refine wpList_store_rec rfl 57 (.tmp 4) (.tmp 35) rfl wr.heap.size 0 (twoC 0 0) (twoC (s.h (2 * k)) (s.h (2 * k + 1))) rfl rfl R1 rfl (by kernel_rfl) (twoC_one _ _) ?_; intro W2 R2 hB2; have R2' := hidIt R2; have B2 := hidIt (below_sh (Nat.le_refl _) BE.out (hB1.trans (hB2.below (Nat.le_refl _) hB1.size))); clear R1 hB1 z1 R2 hB2)
          | (refine wpList_load_rec rfl 57 (.tmp 4) rfl wr.heap.size 0 (twoC (s.h (2 * k)) (s.h (2 * k + 1))) rfl _ Tryz.underlying57 rfl (by kernel_rfl) R2'.out ?_)
          | (go_at_call 162; refine (maybe_any _ _ _).mono ?_; rintro e w5 ⟨rfl, hB5⟩; rw [decide_eq_false Q.out]; have B5 := hidIt (below_sh (Nat.le_refl _) B2.out hB5); clear hB5))
        go_ret
        exact chk_no NM.out B5.out
    · obtain rfl : k = s.k := by omega
      have PP := hidIt (chk_ok (MM.out RR.out) BE.out)
      go_wp2_with fail
      go_ret
      exact PP.out
end Go.Proofs.YtblphlcnbnklmaaGreatDoor
