/-
  Walks, not a claim by itself: the reference's named and Check. By the verifier.
-/
import Derived.Test.YtmlllglgjpmicaaGChk
namespace Go.Proofs.Ytmlllglgjpmicaa
open Go.RowKit
set_option maxRecDepth 100000 in
theorem named_any (p q : Int) (w : World) : Calls Try.prog 31 #[.agg (twoC p q).toArray] w fun e w' => e = .returned (.bool (decide (RefOk p q))) ∧ Below w.heap.size w w' := by
  have B0 : Hid (Below w.heap.size w (w.alloc (.cells #[.int .i64 p, .int .i64 q] 23))) := (Below.refl _ _).alloc (Nat.le_refl _) _
  unfold twoC
  by_cases h1 : 1 ≤ p
  · by_cases h2 : p ≤ 512
    · by_cases h3 : 0 ≤ q
      · have e : decide (RefOk p q) = decide (q ≤ 1073741824) := decide_eq_decide.2 ⟨fun h => h.2.2, fun h => ⟨⟨h1, h2⟩, h3, h⟩⟩
        rw [e]
        clear e
        go_enter Try.func31, Try.ntmps31
        go_wp2_with fail
        go_ret
        exact ⟨rfl, B0.out⟩
      · have e : decide (RefOk p q) = false := decide_eq_false (fun h => by have := h.1.1; have := h.1.2; have := h.2.1; omega)
        rw [e]
        clear e
        go_enter Try.func31, Try.ntmps31
        go_wp2_with fail
        go_ret
        exact ⟨rfl, B0.out⟩
    · have e : decide (RefOk p q) = false := decide_eq_false (fun h => by have := h.1.1; have := h.1.2; have := h.2.1; omega)
      rw [e]
      clear e
      go_enter Try.func31, Try.ntmps31
      go_wp2_with fail
      go_ret
      exact ⟨rfl, B0.out⟩
  · have e : decide (RefOk p q) = false := decide_eq_false (fun h => by have := h.1.1; have := h.1.2; have := h.2.1; omega)
    rw [e]
    clear e
    go_enter Try.func31, Try.ntmps31
    go_wp2_with fail
    go_ret
    exact ⟨rfl, B0.out⟩
def rcF (w : World) (s : Blk) (a b : Option Addr) (C D : Nat) (v i : Value) (wr : World) : Prop := ∃ k : Nat, k ≤ s.k ∧ v = .bool false ∧ i = .int .i64 k ∧ Rec19 wr w.heap.size 0 (blkC s a C b D) ∧ Below w.heap.size w wr
def rcT (w : World) (s : Blk) (a b : Option Addr) (C D : Nat) (v i : Value) (wr : World) : Prop := ∃ k : Nat, k ≤ s.k ∧ v = .bool (decide (RefsOk k s.h)) ∧ i = .int .i64 k ∧ Rec19 wr w.heap.size 0 (blkC s a C b D) ∧ Below w.heap.size w wr
theorem RefsOk.succ {k : Nat} {h : Nat → Int} (m : RefsOk k h) (r : RefOk (h (2 * k)) (h (2 * k + 1))) : RefsOk (k + 1) h := fun i hi => by
  by_cases e : i = k
  · rw [e]; exact r
  · exact m i (by omega)
theorem RefsOk.pred {k : Nat} {h : Nat → Int} (m : RefsOk (k + 1) h) : RefsOk k h := fun i hi => m i (by omega)
set_option maxRecDepth 100000 in
set_option maxHeartbeats 1000000 in
theorem rcheck_1 (s : Blk) (a b : Option Addr) (C D : Nat) (w : World) (hk0 : s.k ≤ 1000) (g1 : ¬ 1 ≤ s.x 0) : Calls Try.prog 14 #[blkV s a C b D] w (ChkPost w s) := by
  have NM : Hid (¬ s.May) := fun m => g1 m.1.1
  unfold blkV
  go_enter Try.func14, Try.ntmps14
  go_wp2_with (first
    | (refine wpList_box_rec rfl 27 (.tmp 0) rfl (blkC s a C b D) rfl w.heap.size rfl ?_; intro W0 R0 B0 z0; have c0 := R0.1 0 _ rfl; have c1 := R0.1 1 _ rfl; have c2 := R0.1 2 _ rfl; simp only [Nat.zero_add] at c0 c1 c2; have r1 := hidIt (two_range c1 c2); clear c1 c2; have RB := hidIt R0; have BB := hidIt B0; clear R0 B0 z0))
  clear c0
  have ST : Hid (rcF w s a b C D (.bool false) (.int .i64 0) W0) := ⟨0, by omega, rfl, rfl, RB.out, BB.out⟩
  go_loopw [3, 4] (fun v i wr => rcF w s a b C D v i wr) (fun _ i _ => s.k - (RowKit.intOf i).toNat)
  case atStart => exact ST.out
  case round =>
    obtain ⟨k, hk, rfl, rfl, hR, hB⟩ := hrel
    clear ST
    have RR := hidIt hR
    have BE := hidIt hB
    have d3 := hR.1 3 _ rfl
    simp only [Nat.zero_add] at d3
    clear hR hB
    by_cases hlt : k < s.k
    · have i0 : (k : Int) < (s.k : Int) := by omega
      go_wp2_with fail
      go_roundw
      case rel => exact ⟨k + 1, by omega, rfl, by go_num, RR.out, BE.out⟩
      case measure => simp [RowKit.intOf]; omega
    · have i0 : ¬ (k : Int) < (s.k : Int) := by omega
      go_wp2_with fail
      go_ret
      exact chk_no NM.out BE.out
set_option maxRecDepth 100000 in
set_option maxHeartbeats 1000000 in
theorem rcheck_2 (s : Blk) (a b : Option Addr) (C D : Nat) (w : World) (hk0 : s.k ≤ 1000) (g1 : 1 ≤ s.x 0) (g2 : ¬ s.x 0 ≤ 15) : Calls Try.prog 14 #[blkV s a C b D] w (ChkPost w s) := by
  have NM : Hid (¬ s.May) := fun m => g2 m.1.2
  unfold blkV
  go_enter Try.func14, Try.ntmps14
  go_wp2_with (first
    | (refine wpList_box_rec rfl 27 (.tmp 0) rfl (blkC s a C b D) rfl w.heap.size rfl ?_; intro W0 R0 B0 z0; have c0 := R0.1 0 _ rfl; have c1 := R0.1 1 _ rfl; have c2 := R0.1 2 _ rfl; simp only [Nat.zero_add] at c0 c1 c2; have r1 := hidIt (two_range c1 c2); clear c1 c2; have RB := hidIt R0; have BB := hidIt B0; clear R0 B0 z0))
  clear c0
  have ST : Hid (rcF w s a b C D (.bool false) (.int .i64 0) W0) := ⟨0, by omega, rfl, rfl, RB.out, BB.out⟩
  go_loopw [3, 4] (fun v i wr => rcF w s a b C D v i wr) (fun _ i _ => s.k - (RowKit.intOf i).toNat)
  case atStart => exact ST.out
  case round =>
    obtain ⟨k, hk, rfl, rfl, hR, hB⟩ := hrel
    clear ST
    have RR := hidIt hR
    have BE := hidIt hB
    have d3 := hR.1 3 _ rfl
    simp only [Nat.zero_add] at d3
    clear hR hB
    by_cases hlt : k < s.k
    · have i0 : (k : Int) < (s.k : Int) := by omega
      go_wp2_with fail
      go_roundw
      case rel => exact ⟨k + 1, by omega, rfl, by go_num, RR.out, BE.out⟩
      case measure => simp [RowKit.intOf]; omega
    · have i0 : ¬ (k : Int) < (s.k : Int) := by omega
      go_wp2_with fail
      go_ret
      exact chk_no NM.out BE.out
set_option maxRecDepth 100000 in
set_option maxHeartbeats 1000000 in
theorem rcheck_3 (s : Blk) (a b : Option Addr) (C D : Nat) (w : World) (hk0 : s.k ≤ 1000) (g1 : 1 ≤ s.x 0) (g2 : s.x 0 ≤ 15) (h3 : ¬ RefOk (s.x 1) (s.x 2)) : Calls Try.prog 14 #[blkV s a C b D] w (ChkPost w s) := by
  have NM : Hid (¬ s.May) := fun m => h3 m.2.1
  have H3 := hidIt h3
  clear h3
  unfold blkV
  go_enter Try.func14, Try.ntmps14
  go_wp2_with (first
    | (refine wpList_box_rec rfl 27 (.tmp 0) rfl (blkC s a C b D) rfl w.heap.size rfl ?_; intro W0 R0 B0 z0; have c0 := R0.1 0 _ rfl; have c1 := R0.1 1 _ rfl; have c2 := R0.1 2 _ rfl; simp only [Nat.zero_add] at c0 c1 c2; have r1 := hidIt (two_range c1 c2); clear c1 c2; have RB := hidIt R0; have BB := hidIt B0; clear R0 B0 z0)
    | (refine wpList_load_g (by rfl) 23 (.tmp 14) rfl w.heap.size 1 (twoC (s.x 1) (s.x 2)) rfl _ Try.underlying23 rfl (by kernel_rfl) r1.out ?_)
    | (go_at_call 31; refine (named_any _ _ _).mono ?_; rintro e w1 ⟨rfl, hB1⟩; rw [decide_eq_false H3.out]; have R1 := hidIt (RB.out.below hB1); have B1 := hidIt (below_sh (Nat.le_refl _) BB.out hB1); clear hB1))
  clear c0
  have ST : Hid (rcF w s a b C D (.bool false) (.int .i64 0) w1) := ⟨0, by omega, rfl, rfl, R1.out, B1.out⟩
  go_loopw [3, 4] (fun v i wr => rcF w s a b C D v i wr) (fun _ i _ => s.k - (RowKit.intOf i).toNat)
  case atStart => exact ST.out
  case round =>
    obtain ⟨k, hk, rfl, rfl, hR, hB⟩ := hrel
    clear ST
    have RR := hidIt hR
    have BE := hidIt hB
    have d3 := hR.1 3 _ rfl
    simp only [Nat.zero_add] at d3
    clear hR hB
    by_cases hlt : k < s.k
    · have i0 : (k : Int) < (s.k : Int) := by omega
      go_wp2_with fail
      go_roundw
      case rel => exact ⟨k + 1, by omega, rfl, by go_num, RR.out, BE.out⟩
      case measure => simp [RowKit.intOf]; omega
    · have i0 : ¬ (k : Int) < (s.k : Int) := by omega
      go_wp2_with fail
      go_ret
      exact chk_no NM.out BE.out
set_option maxRecDepth 100000 in
set_option maxHeartbeats 1000000 in
theorem rcheck_4 (s : Blk) (a b : Option Addr) (C D : Nat) (w : World) (hk0 : s.k ≤ 1000) (g1 : 1 ≤ s.x 0) (g2 : s.x 0 ≤ 15) (h3 : RefOk (s.x 1) (s.x 2)) (g3 : ¬ (s.k : Int) ≤ 16) : Calls Try.prog 14 #[blkV s a C b D] w (ChkPost w s) := by
  have NM : Hid (¬ s.May) := fun m => by have := m.2.2.1; omega
  have H3 := hidIt h3
  clear h3
  unfold blkV
  go_enter Try.func14, Try.ntmps14
  go_wp2_with (first
    | (refine wpList_box_rec rfl 27 (.tmp 0) rfl (blkC s a C b D) rfl w.heap.size rfl ?_; intro W0 R0 B0 z0; have c0 := R0.1 0 _ rfl; have c1 := R0.1 1 _ rfl; have c2 := R0.1 2 _ rfl; simp only [Nat.zero_add] at c0 c1 c2; have r1 := hidIt (two_range c1 c2); clear c1 c2; have RB := hidIt R0; have BB := hidIt B0; clear R0 B0 z0)
    | (refine wpList_load_g (by rfl) 23 (.tmp 14) rfl w.heap.size 1 (twoC (s.x 1) (s.x 2)) rfl _ Try.underlying23 rfl (by kernel_rfl) r1.out ?_)
    | (go_at_call 31; refine (named_any _ _ _).mono ?_; rintro e w1 ⟨rfl, hB1⟩; rw [decide_eq_true H3.out]; have R1 := hidIt (RB.out.below hB1); have B1 := hidIt (below_sh (Nat.le_refl _) BB.out hB1); have c3 := R1.out.1 3 _ rfl; have c4 := R1.out.1 4 _ rfl; simp only [Nat.zero_add] at c3 c4; clear hB1))
  clear c0
  have ST : Hid (rcF w s a b C D (.bool false) (.int .i64 0) w1) := ⟨0, by omega, rfl, rfl, R1.out, B1.out⟩
  go_loopw [3, 4] (fun v i wr => rcF w s a b C D v i wr) (fun _ i _ => s.k - (RowKit.intOf i).toNat)
  case atStart => exact ST.out
  case round =>
    obtain ⟨k, hk, rfl, rfl, hR, hB⟩ := hrel
    clear ST
    have RR := hidIt hR
    have BE := hidIt hB
    have d3 := hR.1 3 _ rfl
    simp only [Nat.zero_add] at d3
    clear hR hB
    by_cases hlt : k < s.k
    · have i0 : (k : Int) < (s.k : Int) := by omega
      go_wp2_with fail
      go_roundw
      case rel => exact ⟨k + 1, by omega, rfl, by go_num, RR.out, BE.out⟩
      case measure => simp [RowKit.intOf]; omega
    · have i0 : ¬ (k : Int) < (s.k : Int) := by omega
      go_wp2_with fail
      go_ret
      exact chk_no NM.out BE.out
set_option maxRecDepth 100000 in
set_option maxHeartbeats 1000000 in
theorem rcheck_5 (s : Blk) (a b : Option Addr) (C D : Nat) (w : World) (hk0 : s.k ≤ 1000) (g1 : 1 ≤ s.x 0) (g2 : s.x 0 ≤ 15) (h3 : RefOk (s.x 1) (s.x 2)) (g3 : (s.k : Int) ≤ 16) (g4 : ¬ (s.n : Int) ≤ 860) : Calls Try.prog 14 #[blkV s a C b D] w (ChkPost w s) := by
  have NM : Hid (¬ s.May) := fun m => by have := m.2.2.2.1; omega
  have H3 := hidIt h3
  clear h3
  unfold blkV
  go_enter Try.func14, Try.ntmps14
  go_wp2_with (first
    | (refine wpList_box_rec rfl 27 (.tmp 0) rfl (blkC s a C b D) rfl w.heap.size rfl ?_; intro W0 R0 B0 z0; have c0 := R0.1 0 _ rfl; have c1 := R0.1 1 _ rfl; have c2 := R0.1 2 _ rfl; simp only [Nat.zero_add] at c0 c1 c2; have r1 := hidIt (two_range c1 c2); clear c1 c2; have RB := hidIt R0; have BB := hidIt B0; clear R0 B0 z0)
    | (refine wpList_load_g (by rfl) 23 (.tmp 14) rfl w.heap.size 1 (twoC (s.x 1) (s.x 2)) rfl _ Try.underlying23 rfl (by kernel_rfl) r1.out ?_)
    | (go_at_call 31; refine (named_any _ _ _).mono ?_; rintro e w1 ⟨rfl, hB1⟩; rw [decide_eq_true H3.out]; have R1 := hidIt (RB.out.below hB1); have B1 := hidIt (below_sh (Nat.le_refl _) BB.out hB1); have c3 := R1.out.1 3 _ rfl; have c4 := R1.out.1 4 _ rfl; simp only [Nat.zero_add] at c3 c4; clear hB1))
  clear c0
  have ST : Hid (rcF w s a b C D (.bool false) (.int .i64 0) w1) := ⟨0, by omega, rfl, rfl, R1.out, B1.out⟩
  go_loopw [3, 4] (fun v i wr => rcF w s a b C D v i wr) (fun _ i _ => s.k - (RowKit.intOf i).toNat)
  case atStart => rw [decide_eq_false (show ¬ (s.n : Int) ≤ 860 by omega)]; exact ST.out
  case round =>
    obtain ⟨k, hk, rfl, rfl, hR, hB⟩ := hrel
    clear ST
    have RR := hidIt hR
    have BE := hidIt hB
    have d3 := hR.1 3 _ rfl
    simp only [Nat.zero_add] at d3
    clear hR hB
    by_cases hlt : k < s.k
    · have i0 : (k : Int) < (s.k : Int) := by omega
      go_wp2_with fail
      go_roundw
      case rel => exact ⟨k + 1, by omega, rfl, by go_num, RR.out, BE.out⟩
      case measure => simp [RowKit.intOf]; omega
    · have i0 : ¬ (k : Int) < (s.k : Int) := by omega
      go_wp2_with fail
      go_ret
      exact chk_no NM.out BE.out
set_option maxRecDepth 100000 in
set_option maxHeartbeats 1000000 in
theorem rcheck_6 (s : Blk) (a b : Option Addr) (C D : Nat) (w : World) (hA : HArg w a s.k s.h) (hk0 : s.k ≤ 1000) (g1 : 1 ≤ s.x 0) (g2 : s.x 0 ≤ 15) (h3 : RefOk (s.x 1) (s.x 2)) (g3 : (s.k : Int) ≤ 16) (g4 : (s.n : Int) ≤ 860) : Calls Try.prog 14 #[blkV s a C b D] w (ChkPost w s) := by
  have MM : Hid (RefsOk s.k s.h → s.May) := fun m => ⟨⟨g1, g2⟩, h3, by omega, by omega, m⟩
  have HA := hidIt hA
  have H3 := hidIt h3
  clear h3 hA
  unfold blkV
  go_enter Try.func14, Try.ntmps14
  go_wp2_with (first
    | (refine wpList_box_rec rfl 27 (.tmp 0) rfl (blkC s a C b D) rfl w.heap.size rfl ?_; intro W0 R0 B0 z0; have c0 := R0.1 0 _ rfl; have c1 := R0.1 1 _ rfl; have c2 := R0.1 2 _ rfl; simp only [Nat.zero_add] at c0 c1 c2; have r1 := hidIt (two_range c1 c2); clear c1 c2; have RB := hidIt R0; have BB := hidIt B0; clear R0 B0 z0)
    | (refine wpList_load_g (by rfl) 23 (.tmp 14) rfl w.heap.size 1 (twoC (s.x 1) (s.x 2)) rfl _ Try.underlying23 rfl (by kernel_rfl) r1.out ?_)
    | (go_at_call 31; refine (named_any _ _ _).mono ?_; rintro e w1 ⟨rfl, hB1⟩; rw [decide_eq_true H3.out]; have R1 := hidIt (RB.out.below hB1); have B1 := hidIt (below_sh (Nat.le_refl _) BB.out hB1); have c3 := R1.out.1 3 _ rfl; have c4 := R1.out.1 4 _ rfl; simp only [Nat.zero_add] at c3 c4; clear hB1))
  clear c0 c3 c4
  have ST : Hid (rcT w s a b C D (.bool true) (.int .i64 0) w1) := ⟨0, by omega, by rw [decide_eq_true (show RefsOk 0 s.h from fun i hi => by omega)], rfl, R1.out, B1.out⟩
  go_loopw [3, 4] (fun v i wr => rcT w s a b C D v i wr) (fun _ i _ => s.k - (RowKit.intOf i).toNat)
  case atStart => exact ST.out
  case round =>
    obtain ⟨k, hk, rfl, rfl, hR, hB⟩ := hrel
    clear ST
    have RR := hidIt hR
    have BE := hidIt hB
    have d3 := hR.1 3 _ rfl
    simp only [Nat.zero_add] at d3
    clear hR hB
    by_cases hlt : k < s.k
    · have i0 : (k : Int) < (s.k : Int) := by omega
      rcases HA.out.below BE.out with e | ⟨g, o, rfl, hc, hb⟩
      · omega
      have r2 := hidIt (HArg.two hc hlt)
      clear hc hb
      by_cases q : RefsOk k s.h
      · by_cases r : RefOk (s.h (2 * k)) (s.h (2 * k + 1))
        · have NX : Hid (∀ V, Rec19 V w.heap.size 0 (blkC s (some ⟨g, o, none⟩) C b D) → Below w.heap.size w V → rcT w s (some ⟨g, o, none⟩) b C D (.bool true) (.int .i64 ((k : Int) + 1)) V) := fun V hR hV => ⟨k + 1, by omega, by rw [decide_eq_true (q.succ r)], by go_num, hR, hV⟩
          have QR := hidIt r
          rw [decide_eq_true q]
          clear q r
          go_wp2_with (first
            | (refine wpList_load_g (by rfl) 23 (.tmp 42) rfl g (o + k * 2) _ (by first | rfl | simp) _ Try.underlying23 rfl (by kernel_rfl) r2.out ?_)
            | (go_at_call 31; refine (named_any _ _ _).mono ?_; rintro e w5 ⟨rfl, hB5⟩; rw [decide_eq_true QR.out]; have R5 := hidIt (RR.out.below hB5); have B5 := hidIt (below_sh (Nat.le_refl _) BE.out hB5); clear hB5))
          go_roundw
          case rel => exact NX.out _ R5.out B5.out
          case measure => simp [RowKit.intOf]; omega
        · have NX : Hid (∀ V, Rec19 V w.heap.size 0 (blkC s (some ⟨g, o, none⟩) C b D) → Below w.heap.size w V → rcT w s (some ⟨g, o, none⟩) b C D (.bool false) (.int .i64 ((k : Int) + 1)) V) := fun V hR hV => ⟨k + 1, by omega, by rw [decide_eq_false (fun m : RefsOk (k + 1) s.h => r (m k (by omega)))], by go_num, hR, hV⟩
          have QR := hidIt r
          rw [decide_eq_true q]
          clear q r
          go_wp2_with (first
            | (refine wpList_load_g (by rfl) 23 (.tmp 42) rfl g (o + k * 2) _ (by first | rfl | simp) _ Try.underlying23 rfl (by kernel_rfl) r2.out ?_)
            | (go_at_call 31; refine (named_any _ _ _).mono ?_; rintro e w5 ⟨rfl, hB5⟩; rw [decide_eq_false QR.out]; have R5 := hidIt (RR.out.below hB5); have B5 := hidIt (below_sh (Nat.le_refl _) BE.out hB5); clear hB5))
          go_roundw
          case rel => exact NX.out _ R5.out B5.out
          case measure => simp [RowKit.intOf]; omega
      · have NX : Hid (rcT w s (some ⟨g, o, none⟩) b C D (.bool false) (.int .i64 ((k : Int) + 1)) wr) := ⟨k + 1, by omega, by rw [decide_eq_false (fun m : RefsOk (k + 1) s.h => q m.pred)], by go_num, RR.out, BE.out⟩
        rw [decide_eq_false q]
        clear q
        go_wp2_with fail
        go_roundw
        case rel => exact NX.out
        case measure => simp [RowKit.intOf]; omega
    · obtain rfl : k = s.k := by omega
      by_cases q : RefsOk s.k s.h
      · have PP := hidIt (chk_ok (MM.out q) BE.out)
        rw [decide_eq_true q]
        clear q
        go_wp2_with fail
        go_ret
        exact PP.out
      · have PP := hidIt (chk_no (s := s) (fun m => q m.2.2.2.2) BE.out)
        rw [decide_eq_false q]
        clear q
        go_wp2_with fail
        go_ret
        exact PP.out
theorem rcheck_any (s : Blk) (a b : Option Addr) (C D : Nat) (w : World) (hA : HArg w a s.k s.h) (hk0 : s.k ≤ 1000) : Calls Try.prog 14 #[blkV s a C b D] w (ChkPost w s) := by
  by_cases h1 : 1 ≤ s.x 0
  · by_cases h2 : s.x 0 ≤ 15
    · by_cases h3 : RefOk (s.x 1) (s.x 2)
      · by_cases h4 : (s.k : Int) ≤ 16
        · by_cases h5 : (s.n : Int) ≤ 860
          · exact rcheck_6 s a b C D w hA hk0 h1 h2 h3 h4 h5
          · exact rcheck_5 s a b C D w hk0 h1 h2 h3 h4 h5
        · exact rcheck_4 s a b C D w hk0 h1 h2 h3 h4
      · exact rcheck_3 s a b C D w hk0 h1 h2 h3
    · exact rcheck_2 s a b C D w hk0 h1 h2
  · exact rcheck_1 s a b C D w hk0 h1
end Go.Proofs.Ytmlllglgjpmicaa
