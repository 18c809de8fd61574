/-
  Walks, not a claim by itself: slot.Prepare. By the verifier.
-/
import Derived.Test.YtijpoipcadhchaaDoorOSlo
import Derived.Test.YtijpoipcadhchaaDoorMSame
namespace Go.Proofs.YtijpoipcadhchaaDoor
open Go.RowKit
/-- Do bytes stand at the front that are those of a prepare of the slot k? -/
def prepOK (n : Nat) (f : Nat → Int) (k : Int) : Bool := decide (256 ≤ n) && (decide (headCode f = 0) && (isPrep (hdrF f) k && (decide (hdrF f 2 ≤ ((n - 256 : Nat) : Int)) && decide (openCode (256 + (hdrF f 2).toNat) f = 0))))
theorem prepOK_iff {n : Nat} {f : Nat → Int} {k : Int} : prepOK n f k = true ↔ 256 ≤ n ∧ headCode f = 0 ∧ isPrep (hdrF f) k = true ∧ hdrF f 2 ≤ ((n - 256 : Nat) : Int) ∧ openCode (256 + (hdrF f 2).toNat) f = 0 := by
  unfold prepOK; simp
theorem size_range {f : Nat → Int} (h : headCode f = 0) : 0 ≤ hdrF f 2 ∧ hdrF f 2 ≤ 1024 := by
  have := (okH_iff _).1 (headCode_zero h).2.2 2 (by omega)
  unfold within at this
  rw [Bool.and_eq_true, decide_eq_true_iff, decide_eq_true_iff] at this
  exact this
theorem prep_ar (n C s : Nat) (x : Int) (hn : 256 ≤ n) (hC : n ≤ C) (hm : n ≤ 1000000) (h0 : 0 ≤ x) (h1 : x ≤ 1024) (hs : x ≤ ((n - 256 : Nat) : Int)) (hse : x.toNat = s) :
    x = (s : Int) ∧ ∃ d : Nat, s ≤ d ∧ wrap64 ((n : Int) - 256) = (d : Int) ∧ ((n : Int) - 256 < (s : Int)) = False ∧ wrap64 (256 + (s : Int)) = 256 + (s : Int) ∧ 0 ≤ 256 + (s : Int) ∧ IntKind.i64.wrap (256 + (s : Int)) = 256 + (s : Int) ∧ 256 + (s : Int) ≤ C ∧ (256 + (s : Int)).toNat = 256 + s ∧ 256 + s ≤ n := by
  refine ⟨by omega, n - 256, by omega, ?_, eq_false (by omega), ?_, by omega, ?_, by omega, by omega, by omega⟩
  · unfold wrap64; omega
  · unfold wrap64; omega
  · rw [IntKind.wrap_i64]; omega
theorem prep_ar2 (n : Nat) (x : Int) (hn : 256 ≤ n) (hm : n ≤ 1000000) (hs : ((n - 256 : Nat) : Int) < x) : (n : Int) - 256 < x ∧ wrap64 ((n : Int) - 256) = (n : Int) - 256 := by
  refine ⟨by omega, ?_⟩
  unfold wrap64; omega
/-- The answer: a message, and whether it is one. -/
abbrev MB (h : Nat → Int) (a : Option Addr) (n : Nat) (b : Bool) : Value := .tuple #[.agg (msg h a n n).toArray, .bool b]
set_option maxRecDepth 100000 in
set_option maxHeartbeats 400000 in
theorem prep_few (a : Option Addr) (n C : Nat) (k : Int) (w : World) (hn : n < 256) :
    Calls Tryd.prog 23 #[.slice a n C, .int .i64 k] w fun e w' => e = .returned (MB (fun _ => 0) none 0 false) ∧ Below w.heap.size w w' := by
  have e1 : (n : Int) < 256 := by omega
  go_enter Tryd.func23, Tryd.ntmps23
  go_wp2_with (first
    | (refine wpList_alloc_rec rfl 29 rfl (msg (fun _ => 0) none 0 0) w.heap.size rfl zeroMsg ?_; intro W1 hR1 hB1 hz1)
    | (refine wpList_build_to rfl 29 _ rfl (msg (fun _ => 0) none 0 0).toArray (by kernel_rfl) ?_)
    | (refine wpList_store_rec rfl 29 (.tmp 4) (.tmp 12) rfl w.heap.size 0 _ (msg (fun _ => 0) none 0 0) rfl rfl hR1 rfl (by kernel_rfl) (msg_one _ _ _ _) ?_; intro W2 hR2 hB2))
  have hl := hR2.run_load 29 _ Tryd.underlying29 rfl (by kernel_rfl)
  refine bodyPost_ret (v := MB (fun _ => 0) none 0 false) (by simp [results, Tryd.results23, asAddr, hl]) rfl ⟨rfl, ?_⟩
  exact hB1.trans (hB2.below (Nat.le_refl _) (by omega))
set_option maxRecDepth 100000 in
set_option maxHeartbeats 600000 in
theorem prep_head (b off n C : Nat) (f : Nat → Int) (k : Int) (w : World) (hT : Tab w) (hL : Lies w b off n f) (hn : 256 ≤ n) (hC : n ≤ C) (c : Int) (hc : headCode f = c) (h0 : c ≠ 0) :
    Calls Tryd.prog 23 #[.slice (some ⟨b, off, none⟩) n C, .int .i64 k] w fun e w' => e = .returned (MB (fun _ => 0) none 0 false) ∧ Below w.heap.size w w' := by
  have hT0 := hT.2
  have TT : Hid (Tab w) := hT
  have LL : Hid (Lies w b off n f) := hL
  obtain ⟨h, hh⟩ : ∃ h, headVal f = h := ⟨_, rfl⟩
  have HV : Hid (headVal f = h) := hh
  have HC : Hid (headCode f = c) := hc
  have c0 : (c != 0) = true := by simpa using h0
  clear hc hh h0
  clear hT hL
  have k1 : ¬ (n : Int) < 256 := by omega
  have k2 : (256 : Int) ≤ n := by omega
  have k3 : (256 : Int) ≤ C := by omega
  go_enter Tryd.func23, Tryd.ntmps23
  go_wp2_with (first
    | (refine wpList_alloc_rec rfl 29 rfl (msg (fun _ => 0) none 0 0) w.heap.size rfl zeroMsg ?_; intro W1 hR1 hB1 hz1
       have L1 : Hid (Lies W1 b off n f) := LL.out.below hB1
       have L1' : Hid (Lies W1 b off 256 f) := (L1.out.part 0 256 (by omega)).zero
       have R1 : Hid (Rec19 W1 w.heap.size 0 (msg (fun _ => 0) none 0 0)) := hR1
       have B1 : Hid (Below w.heap.size w W1) := hB1
       clear hR1 hB1 hz1)
    | (go_at_call 43; refine (head_any b off C f _ (TT.out.below B1.out hT0) L1'.out (by omega)).mono ?_; rintro e W2 ⟨rfl, hB2⟩; rw [HV.out, HC.out]
       have R2 : Hid (Rec19 W2 w.heap.size 0 (msg (fun _ => 0) none 0 0)) := R1.out.below hB2
       have L2 : Hid (Lies W2 b off n f) := L1.out.below hB2
       have B2 : Hid (Below w.heap.size w W2) := B1.out.trans (hB2.mono B1.out.size)
       clear hB2)
    | (have _q := B2; clear _q; refine wpList_alloc_rec rfl 26 rfl (hcs fun _ => 0) W2.heap.size rfl zeroHdr ?_; intro W3 hR3 hB3 hz3)
    | (have _q := B2; clear _q; refine wpList_store_rec rfl 26 (.tmp 6) (.tmp 17) rfl W2.heap.size 0 _ (hcs h) rfl rfl hR3 rfl (by kernel_rfl) (hcs_one _) ?_; intro W4 hR4 hB4
       have F4 : Below W2.heap.size W2 W4 := hB3.trans (hB4.below (Nat.le_refl _) (by omega))
       have R4 : Hid (Rec19 W4 w.heap.size 0 (msg (fun _ => 0) none 0 0)) := R2.out.below F4
       have L4 : Hid (Lies W4 b off n f) := L2.out.below F4
       have B4 : Hid (Below w.heap.size w W4) := B2.out.trans (F4.mono B2.out.size)
       have H4 : Hid (Rec19 W4 W2.heap.size 0 (hcs h)) := hR4
       have N4 : Hid (w.heap.size < W2.heap.size) := R2.out.2.2
       clear F4 hR3 hB3 hz3 hB4 hR4 R2 L2 B2)
    | (have _q := R4; clear _q; refine wpList_build_to rfl 29 _ rfl (msg (fun _ => 0) none 0 0).toArray (by kernel_rfl) ?_)
    | (have _q := R4; clear _q; refine wpList_store_rec rfl 29 (.tmp 4) (.tmp 35) rfl w.heap.size 0 _ (msg (fun _ => 0) none 0 0) rfl rfl R4.out rfl (by kernel_rfl) (msg_one _ _ _ _) ?_; intro W9 hR9 hB9))
  have hl := hR9.run_load 29 _ Tryd.underlying29 rfl (by kernel_rfl)
  refine bodyPost_ret (v := MB (fun _ => 0) none 0 false) (by simp [results, Tryd.results23, asAddr, hl]) rfl ⟨rfl, ?_⟩
  exact B4.out.trans (hB9.below (Nat.le_refl _) B4.out.size)
set_option maxRecDepth 100000 in
set_option maxHeartbeats 600000 in
theorem prep_not (b off n C : Nat) (f : Nat → Int) (k : Int) (w : World) (hT : Tab w) (hL : Lies w b off n f) (hn : 256 ≤ n) (hC : n ≤ C) (hc : headCode f = 0) (hp : isPrep (hdrF f) k = false) :
    Calls Tryd.prog 23 #[.slice (some ⟨b, off, none⟩) n C, .int .i64 k] w fun e w' => e = .returned (MB (fun _ => 0) none 0 false) ∧ Below w.heap.size w w' := by
  have hT0 := hT.2
  have TT : Hid (Tab w) := hT
  have LL : Hid (Lies w b off n f) := hL
  have hv : headVal f = hdrF f := by unfold headVal; rw [if_pos hc]
  obtain ⟨h, hh⟩ : ∃ h, hdrF f = h := ⟨_, rfl⟩
  rw [hh] at hv
  rw [hh] at hp
  have HH : Hid (hdrF f = h) := hh
  have HV : Hid (headVal f = h) := hv
  have HC : Hid (headCode f = 0) := hc
  have HP : Hid (isPrep h k = false) := hp
  clear hc hv hp hh
  clear hT hL
  have k1 : ¬ (n : Int) < 256 := by omega
  have k2 : (256 : Int) ≤ n := by omega
  have k3 : (256 : Int) ≤ C := by omega
  go_enter Tryd.func23, Tryd.ntmps23
  go_wp2_with (first
    | (refine wpList_alloc_rec rfl 29 rfl (msg (fun _ => 0) none 0 0) w.heap.size rfl zeroMsg ?_; intro W1 hR1 hB1 hz1
       have L1 : Hid (Lies W1 b off n f) := LL.out.below hB1
       have L1' : Hid (Lies W1 b off 256 f) := (L1.out.part 0 256 (by omega)).zero
       have R1 : Hid (Rec19 W1 w.heap.size 0 (msg (fun _ => 0) none 0 0)) := hR1
       have B1 : Hid (Below w.heap.size w W1) := hB1
       clear hR1 hB1 hz1)
    | (go_at_call 43; refine (head_any b off C f _ (TT.out.below B1.out hT0) L1'.out (by omega)).mono ?_; rintro e W2 ⟨rfl, hB2⟩; rw [HV.out, HC.out]
       have R2 : Hid (Rec19 W2 w.heap.size 0 (msg (fun _ => 0) none 0 0)) := R1.out.below hB2
       have L2 : Hid (Lies W2 b off n f) := L1.out.below hB2
       have B2 : Hid (Below w.heap.size w W2) := B1.out.trans (hB2.mono B1.out.size)
       clear hB2)
    | (have _q := B2; clear _q; refine wpList_alloc_rec rfl 26 rfl (hcs fun _ => 0) W2.heap.size rfl zeroHdr ?_; intro W3 hR3 hB3 hz3)
    | (have _q := B2; clear _q; refine wpList_store_rec rfl 26 (.tmp 6) (.tmp 17) rfl W2.heap.size 0 _ (hcs h) rfl rfl hR3 rfl (by kernel_rfl) (hcs_one _) ?_; intro W4 hR4 hB4
       have F4 : Below W2.heap.size W2 W4 := hB3.trans (hB4.below (Nat.le_refl _) (by omega))
       have R4 : Hid (Rec19 W4 w.heap.size 0 (msg (fun _ => 0) none 0 0)) := R2.out.below F4
       have L4 : Hid (Lies W4 b off n f) := L2.out.below F4
       have B4 : Hid (Below w.heap.size w W4) := B2.out.trans (F4.mono B2.out.size)
       have H4 : Hid (Rec19 W4 W2.heap.size 0 (hcs h)) := hR4
       have N4 : Hid (w.heap.size < W2.heap.size) := R2.out.2.2
       clear F4 hR3 hB3 hz3 hB4 hR4 R2 L2 B2)
    | (have _q := R4; clear _q; refine wpList_load_w (by rfl) 26 (.tmp 6) rfl W2.heap.size 0 (hcs h) rfl _ Tryd.underlying26 rfl (by kernel_rfl) H4.out ?_)
    | (have _q := R4; clear _q; go_at_call 44; refine (isPrepare_any h k _).mono ?_; rintro e W5 ⟨rfl, hB5⟩; rw [HP.out]
       have R5 : Hid (Rec19 W5 w.heap.size 0 (msg (fun _ => 0) none 0 0)) := R4.out.below hB5
       have L5 : Hid (Lies W5 b off n f) := L4.out.below hB5
       have B5 : Hid (Below w.heap.size w W5) := B4.out.trans (hB5.mono B4.out.size)
       have H5 : Hid (Rec19 W5 W2.heap.size 0 (hcs h)) := H4.out.below hB5
       have c2 : W5.cell? ⟨W2.heap.size, 2, none⟩ = some (.int .i64 (h 2)) := (H5.out.at 2 _ rfl).1
       clear hB5 R4 L4 B4 H4)
    | (have _q := R5; clear _q; refine wpList_build_to rfl 29 _ rfl (msg (fun _ => 0) none 0 0).toArray (by kernel_rfl) ?_)
    | (have _q := R5; clear _q; refine wpList_store_rec rfl 29 (.tmp 4) (.tmp 35) rfl w.heap.size 0 _ (msg (fun _ => 0) none 0 0) rfl rfl R5.out rfl (by kernel_rfl) (msg_one _ _ _ _) ?_; intro W9 hR9 hB9))
  have hl := hR9.run_load 29 _ Tryd.underlying29 rfl (by kernel_rfl)
  refine bodyPost_ret (v := MB (fun _ => 0) none 0 false) (by simp [results, Tryd.results23, asAddr, hl]) rfl ⟨rfl, ?_⟩
  exact B5.out.trans (hB9.below (Nat.le_refl _) B5.out.size)
set_option maxRecDepth 100000 in
set_option maxHeartbeats 600000 in
theorem prep_long (b off n C : Nat) (f : Nat → Int) (k : Int) (w : World) (hT : Tab w) (hL : Lies w b off n f) (hn : 256 ≤ n) (hC : n ≤ C) (hC2 : n ≤ 1000000) (hc : headCode f = 0) (hp : isPrep (hdrF f) k = true) (hs : ((n - 256 : Nat) : Int) < hdrF f 2) :
    Calls Tryd.prog 23 #[.slice (some ⟨b, off, none⟩) n C, .int .i64 k] w fun e w' => e = .returned (MB (fun _ => 0) none 0 false) ∧ Below w.heap.size w w' := by
  have hT0 := hT.2
  have TT : Hid (Tab w) := hT
  have LL : Hid (Lies w b off n f) := hL
  have hv : headVal f = hdrF f := by unfold headVal; rw [if_pos hc]
  obtain ⟨h, hh⟩ : ∃ h, hdrF f = h := ⟨_, rfl⟩
  rw [hh] at hv
  rw [hh] at hp
  have HH : Hid (hdrF f = h) := hh
  have HV : Hid (headVal f = h) := hv
  have HC : Hid (headCode f = 0) := hc
  have HP : Hid (isPrep h k = true) := hp
  rw [hh] at hs
  obtain ⟨s0, s1⟩ := prep_ar2 n (h 2) hn hC2 hs
  clear hc hv hp hh hs
  clear hT hL
  have k1 : ¬ (n : Int) < 256 := by omega
  have k2 : (256 : Int) ≤ n := by omega
  have k3 : (256 : Int) ≤ C := by omega
  go_enter Tryd.func23, Tryd.ntmps23
  go_wp2_with (first
    | (refine wpList_alloc_rec rfl 29 rfl (msg (fun _ => 0) none 0 0) w.heap.size rfl zeroMsg ?_; intro W1 hR1 hB1 hz1
       have L1 : Hid (Lies W1 b off n f) := LL.out.below hB1
       have L1' : Hid (Lies W1 b off 256 f) := (L1.out.part 0 256 (by omega)).zero
       have R1 : Hid (Rec19 W1 w.heap.size 0 (msg (fun _ => 0) none 0 0)) := hR1
       have B1 : Hid (Below w.heap.size w W1) := hB1
       clear hR1 hB1 hz1)
    | (go_at_call 43; refine (head_any b off C f _ (TT.out.below B1.out hT0) L1'.out (by omega)).mono ?_; rintro e W2 ⟨rfl, hB2⟩; rw [HV.out, HC.out]
       have R2 : Hid (Rec19 W2 w.heap.size 0 (msg (fun _ => 0) none 0 0)) := R1.out.below hB2
       have L2 : Hid (Lies W2 b off n f) := L1.out.below hB2
       have B2 : Hid (Below w.heap.size w W2) := B1.out.trans (hB2.mono B1.out.size)
       clear hB2)
    | (have _q := B2; clear _q; refine wpList_alloc_rec rfl 26 rfl (hcs fun _ => 0) W2.heap.size rfl zeroHdr ?_; intro W3 hR3 hB3 hz3)
    | (have _q := B2; clear _q; refine wpList_store_rec rfl 26 (.tmp 6) (.tmp 17) rfl W2.heap.size 0 _ (hcs h) rfl rfl hR3 rfl (by kernel_rfl) (hcs_one _) ?_; intro W4 hR4 hB4
       have F4 : Below W2.heap.size W2 W4 := hB3.trans (hB4.below (Nat.le_refl _) (by omega))
       have R4 : Hid (Rec19 W4 w.heap.size 0 (msg (fun _ => 0) none 0 0)) := R2.out.below F4
       have L4 : Hid (Lies W4 b off n f) := L2.out.below F4
       have B4 : Hid (Below w.heap.size w W4) := B2.out.trans (F4.mono B2.out.size)
       have H4 : Hid (Rec19 W4 W2.heap.size 0 (hcs h)) := hR4
       have N4 : Hid (w.heap.size < W2.heap.size) := R2.out.2.2
       clear F4 hR3 hB3 hz3 hB4 hR4 R2 L2 B2)
    | (have _q := R4; clear _q; refine wpList_load_w (by rfl) 26 (.tmp 6) rfl W2.heap.size 0 (hcs h) rfl _ Tryd.underlying26 rfl (by kernel_rfl) H4.out ?_)
    | (have _q := R4; clear _q; go_at_call 44; refine (isPrepare_any h k _).mono ?_; rintro e W5 ⟨rfl, hB5⟩; rw [HP.out]
       have R5 : Hid (Rec19 W5 w.heap.size 0 (msg (fun _ => 0) none 0 0)) := R4.out.below hB5
       have L5 : Hid (Lies W5 b off n f) := L4.out.below hB5
       have B5 : Hid (Below w.heap.size w W5) := B4.out.trans (hB5.mono B4.out.size)
       have H5 : Hid (Rec19 W5 W2.heap.size 0 (hcs h)) := H4.out.below hB5
       have c2 : W5.cell? ⟨W2.heap.size, 2, none⟩ = some (.int .i64 (h 2)) := (H5.out.at 2 _ rfl).1
       clear hB5 R4 L4 B4 H4)
    | (have _q := R5; clear _q; refine wpList_build_to rfl 29 _ rfl (msg (fun _ => 0) none 0 0).toArray (by kernel_rfl) ?_)
    | (have _q := R5; clear _q; refine wpList_store_rec rfl 29 (.tmp 4) (.tmp 35) rfl w.heap.size 0 _ (msg (fun _ => 0) none 0 0) rfl rfl R5.out rfl (by kernel_rfl) (msg_one _ _ _ _) ?_; intro W9 hR9 hB9))
  have hl := hR9.run_load 29 _ Tryd.underlying29 rfl (by kernel_rfl)
  refine bodyPost_ret (v := MB (fun _ => 0) none 0 false) (by simp [results, Tryd.results23, asAddr, hl]) rfl ⟨rfl, ?_⟩
  exact B5.out.trans (hB9.below (Nat.le_refl _) B5.out.size)
set_option maxRecDepth 100000 in
set_option maxHeartbeats 600000 in
theorem prep_shut (b off n C : Nat) (f : Nat → Int) (k : Int) (w : World) (hT : Tab w) (hL : Lies w b off n f) (hn : 256 ≤ n) (hC : n ≤ C) (hC2 : n ≤ 1000000) (hc : headCode f = 0) (hp : isPrep (hdrF f) k = true) (hs : hdrF f 2 ≤ ((n - 256 : Nat) : Int)) (ho : openCode (256 + (hdrF f 2).toNat) f ≠ 0) :
    Calls Tryd.prog 23 #[.slice (some ⟨b, off, none⟩) n C, .int .i64 k] w fun e w' => e = .returned (MB (fun _ => 0) none 0 false) ∧ Below w.heap.size w w' := by
  have hT0 := hT.2
  have TT : Hid (Tab w) := hT
  have LL : Hid (Lies w b off n f) := hL
  obtain ⟨hz0, hz1⟩ := size_range hc
  obtain ⟨s, hse⟩ : ∃ s : Nat, (hdrF f 2).toNat = s := ⟨_, rfl⟩
  rw [hse] at ho
  have HO : Hid (openCode (256 + s) f ≠ 0) := ho
  have hv : headVal f = hdrF f := by unfold headVal; rw [if_pos hc]
  obtain ⟨h, hh⟩ : ∃ h, hdrF f = h := ⟨_, rfl⟩
  rw [hh] at hv
  rw [hh] at hp
  have HH : Hid (hdrF f = h) := hh
  have HV : Hid (headVal f = h) := hv
  have HC : Hid (headCode f = 0) := hc
  have HP : Hid (isPrep h k = true) := hp
  rw [hh] at hz0 hz1 hse
  rw [hh] at hs
  obtain ⟨e2, d, s0, s1, s8, s2, s3, s7, s4, s5, s6'⟩ := prep_ar n C s (h 2) hn hC hC2 hz0 hz1 hs hse
  have E2 : Hid (h 2 = (s : Int)) := e2
  have s6 : Hid (256 + s ≤ n) := s6'
  clear hc hv hp hh hs ho hz0 hz1 hse e2 s6'
  clear hT hL
  have k1 : ¬ (n : Int) < 256 := by omega
  have k2 : (256 : Int) ≤ n := by omega
  have k3 : (256 : Int) ≤ C := by omega
  go_enter Tryd.func23, Tryd.ntmps23
  go_wp2_with (first
    | (refine wpList_alloc_rec rfl 29 rfl (msg (fun _ => 0) none 0 0) w.heap.size rfl zeroMsg ?_; intro W1 hR1 hB1 hz1
       have L1 : Hid (Lies W1 b off n f) := LL.out.below hB1
       have L1' : Hid (Lies W1 b off 256 f) := (L1.out.part 0 256 (by omega)).zero
       have R1 : Hid (Rec19 W1 w.heap.size 0 (msg (fun _ => 0) none 0 0)) := hR1
       have B1 : Hid (Below w.heap.size w W1) := hB1
       clear hR1 hB1 hz1)
    | (go_at_call 43; refine (head_any b off C f _ (TT.out.below B1.out hT0) L1'.out (by omega)).mono ?_; rintro e W2 ⟨rfl, hB2⟩; rw [HV.out, HC.out]
       have R2 : Hid (Rec19 W2 w.heap.size 0 (msg (fun _ => 0) none 0 0)) := R1.out.below hB2
       have L2 : Hid (Lies W2 b off n f) := L1.out.below hB2
       have B2 : Hid (Below w.heap.size w W2) := B1.out.trans (hB2.mono B1.out.size)
       clear hB2)
    | (have _q := B2; clear _q; refine wpList_alloc_rec rfl 26 rfl (hcs fun _ => 0) W2.heap.size rfl zeroHdr ?_; intro W3 hR3 hB3 hz3)
    | (have _q := B2; clear _q; refine wpList_store_rec rfl 26 (.tmp 6) (.tmp 17) rfl W2.heap.size 0 _ (hcs h) rfl rfl hR3 rfl (by kernel_rfl) (hcs_one _) ?_; intro W4 hR4 hB4
       have F4 : Below W2.heap.size W2 W4 := hB3.trans (hB4.below (Nat.le_refl _) (by omega))
       have R4 : Hid (Rec19 W4 w.heap.size 0 (msg (fun _ => 0) none 0 0)) := R2.out.below F4
       have L4 : Hid (Lies W4 b off n f) := L2.out.below F4
       have B4 : Hid (Below w.heap.size w W4) := B2.out.trans (F4.mono B2.out.size)
       have H4 : Hid (Rec19 W4 W2.heap.size 0 (hcs h)) := hR4
       have N4 : Hid (w.heap.size < W2.heap.size) := R2.out.2.2
       clear F4 hR3 hB3 hz3 hB4 hR4 R2 L2 B2)
    | (have _q := R4; clear _q; refine wpList_load_w (by rfl) 26 (.tmp 6) rfl W2.heap.size 0 (hcs h) rfl _ Tryd.underlying26 rfl (by kernel_rfl) H4.out ?_)
    | (have _q := R4; clear _q; go_at_call 44; refine (isPrepare_any h k _).mono ?_; rintro e W5 ⟨rfl, hB5⟩; rw [HP.out]
       have R5 : Hid (Rec19 W5 w.heap.size 0 (msg (fun _ => 0) none 0 0)) := R4.out.below hB5
       have L5 : Hid (Lies W5 b off n f) := L4.out.below hB5
       have B5 : Hid (Below w.heap.size w W5) := B4.out.trans (hB5.mono B4.out.size)
       have H5 : Hid (Rec19 W5 W2.heap.size 0 (hcs h)) := H4.out.below hB5
       have c2 : W5.cell? ⟨W2.heap.size, 2, none⟩ = some (.int .i64 (s : Int)) := by rw [← E2.out]; exact (H5.out.at 2 _ rfl).1
       clear hB5 R4 L4 B4 H4)
    | (have _q := R5; clear _q; go_at_call 45; refine (mopen_no (some ⟨b, off, none⟩) (256 + s) C f _ (TT.out.below B5.out hT0) (Arg.of (L5.out.part 0 (256 + s) (by have := s6.out; omega)).zero) (by have := s6.out; omega) (by have := s6.out; omega) HO.out).mono ?_; rintro e W6 ⟨rfl, hB6⟩
       have R6 : Hid (Rec19 W6 w.heap.size 0 (msg (fun _ => 0) none 0 0)) := R5.out.below hB6
       have B6 : Hid (Below w.heap.size w W6) := B5.out.trans (hB6.mono B5.out.size)
       have c0 : (openCode (256 + s) f == 0) = false := by simpa using HO.out
       generalize openCode (256 + s) f = oc at c0 ⊢
       clear hB6 R5 B5 L5 H5 c2)
    | (have _q := R6; clear _q; refine wpList_alloc_rec rfl 29 rfl (msg (fun _ => 0) none 0 0) W6.heap.size rfl zeroMsg ?_; intro W7 hR7 hB7 hz7)
    | (have _q := R6; clear _q; refine wpList_store_rec rfl 29 (.tmp 8) (.tmp 43) rfl W6.heap.size 0 _ (msg (fun _ => 0) none 0 0) rfl rfl hR7 rfl (by kernel_rfl) (msg_one _ _ _ _) ?_; intro W8 hR8 hB8
       have F8 : Below W6.heap.size W6 W8 := hB7.trans (hB8.below (Nat.le_refl _) (by omega))
       have R8 : Hid (Rec19 W8 w.heap.size 0 (msg (fun _ => 0) none 0 0)) := R6.out.below F8
       have B8 : Hid (Below w.heap.size w W8) := B6.out.trans (F8.mono B6.out.size)
       have M8 : Hid (Rec19 W8 W6.heap.size 0 (msg (fun _ => 0) none 0 0)) := hR8
       clear F8 hR7 hB7 hz7 hR8 hB8 R6 B6)
    | (have _q := R8; clear _q; refine wpList_load_rec rfl 29 (.tmp 8) rfl W6.heap.size 0 (msg (fun _ => 0) none 0 0) rfl _ Tryd.underlying29 rfl (by kernel_rfl) M8.out ?_)
    | (have _q := R8; clear _q; refine wpList_store_rec rfl 29 (.tmp 4) (.tmp 45) rfl w.heap.size 0 _ (msg (fun _ => 0) none 0 0) rfl rfl R8.out rfl (by kernel_rfl) (msg_one _ _ _ _) ?_; intro W9 hR9 hB9))
  have hl := hR9.run_load 29 _ Tryd.underlying29 rfl (by kernel_rfl)
  refine bodyPost_ret (v := MB (fun _ => 0) none 0 false) (by simp [results, Tryd.results23, asAddr, hl]) rfl ⟨rfl, ?_⟩
  exact B8.out.trans (hB9.below (Nat.le_refl _) B8.out.size)
set_option maxRecDepth 100000 in
set_option maxHeartbeats 600000 in
theorem prep_go (b off n C : Nat) (f : Nat → Int) (k : Int) (w : World) (hT : Tab w) (hL : Lies w b off n f) (hn : 256 ≤ n) (hC : n ≤ C) (hC2 : n ≤ 1000000) (hc : headCode f = 0) (hp : isPrep (hdrF f) k = true) (hs : hdrF f 2 ≤ ((n - 256 : Nat) : Int)) (ho : openCode (256 + (hdrF f 2).toNat) f = 0) :
    Calls Tryd.prog 23 #[.slice (some ⟨b, off, none⟩) n C, .int .i64 k] w fun e w' => ∃ g, e = .returned (MB (hdrF f) (some ⟨g, 0, none⟩) (hdrF f 2).toNat true) ∧ w.heap.size ≤ g ∧ IRow w' g .u8 (hdrF f 2).toNat (fun j => f (256 + j)) ∧ Below w.heap.size w w' := by
  have hT0 := hT.2
  have TT : Hid (Tab w) := hT
  have LL : Hid (Lies w b off n f) := hL
  obtain ⟨hz0, hz1⟩ := size_range hc
  obtain ⟨s, hse⟩ : ∃ s : Nat, (hdrF f 2).toNat = s := ⟨_, rfl⟩
  rw [hse] at ho
  have HO : Hid (openCode (256 + s) f = 0) := ho
  have hv : headVal f = hdrF f := by unfold headVal; rw [if_pos hc]
  obtain ⟨h, hh⟩ : ∃ h, hdrF f = h := ⟨_, rfl⟩
  rw [hh] at hv
  rw [hh] at hp
  have HH : Hid (hdrF f = h) := hh
  have HV : Hid (headVal f = h) := hv
  have HC : Hid (headCode f = 0) := hc
  have HP : Hid (isPrep h k = true) := hp
  rw [hh] at hz0 hz1 hse
  rw [hh] at hs
  obtain ⟨e2, d, s0, s1, s8, s2, s3, s7, s4, s5, s6'⟩ := prep_ar n C s (h 2) hn hC hC2 hz0 hz1 hs hse
  have E2 : Hid (h 2 = (s : Int)) := e2
  have s6 : Hid (256 + s ≤ n) := s6'
  have HS : Hid (s = (h 2).toNat) := hse.symm
  clear hc hv hp hs ho hz0 hz1 hse e2 s6'
  rw [hh]
  clear hh
  clear hT hL
  have k1 : ¬ (n : Int) < 256 := by omega
  have k2 : (256 : Int) ≤ n := by omega
  have k3 : (256 : Int) ≤ C := by omega
  go_enter Tryd.func23, Tryd.ntmps23
  go_wp2_with (first
    | (refine wpList_alloc_rec rfl 29 rfl (msg (fun _ => 0) none 0 0) w.heap.size rfl zeroMsg ?_; intro W1 hR1 hB1 hz1
       have L1 : Hid (Lies W1 b off n f) := LL.out.below hB1
       have L1' : Hid (Lies W1 b off 256 f) := (L1.out.part 0 256 (by omega)).zero
       have R1 : Hid (Rec19 W1 w.heap.size 0 (msg (fun _ => 0) none 0 0)) := hR1
       have B1 : Hid (Below w.heap.size w W1) := hB1
       clear hR1 hB1 hz1)
    | (go_at_call 43; refine (head_any b off C f _ (TT.out.below B1.out hT0) L1'.out (by omega)).mono ?_; rintro e W2 ⟨rfl, hB2⟩; rw [HV.out, HC.out]
       have R2 : Hid (Rec19 W2 w.heap.size 0 (msg (fun _ => 0) none 0 0)) := R1.out.below hB2
       have L2 : Hid (Lies W2 b off n f) := L1.out.below hB2
       have B2 : Hid (Below w.heap.size w W2) := B1.out.trans (hB2.mono B1.out.size)
       clear hB2)
    | (have _q := B2; clear _q; refine wpList_alloc_rec rfl 26 rfl (hcs fun _ => 0) W2.heap.size rfl zeroHdr ?_; intro W3 hR3 hB3 hz3)
    | (have _q := B2; clear _q; refine wpList_store_rec rfl 26 (.tmp 6) (.tmp 17) rfl W2.heap.size 0 _ (hcs h) rfl rfl hR3 rfl (by kernel_rfl) (hcs_one _) ?_; intro W4 hR4 hB4
       have F4 : Below W2.heap.size W2 W4 := hB3.trans (hB4.below (Nat.le_refl _) (by omega))
       have R4 : Hid (Rec19 W4 w.heap.size 0 (msg (fun _ => 0) none 0 0)) := R2.out.below F4
       have L4 : Hid (Lies W4 b off n f) := L2.out.below F4
       have B4 : Hid (Below w.heap.size w W4) := B2.out.trans (F4.mono B2.out.size)
       have H4 : Hid (Rec19 W4 W2.heap.size 0 (hcs h)) := hR4
       have N4 : Hid (w.heap.size < W2.heap.size) := R2.out.2.2
       clear F4 hR3 hB3 hz3 hB4 hR4 R2 L2 B2)
    | (have _q := R4; clear _q; refine wpList_load_w (by rfl) 26 (.tmp 6) rfl W2.heap.size 0 (hcs h) rfl _ Tryd.underlying26 rfl (by kernel_rfl) H4.out ?_)
    | (have _q := R4; clear _q; go_at_call 44; refine (isPrepare_any h k _).mono ?_; rintro e W5 ⟨rfl, hB5⟩; rw [HP.out]
       have R5 : Hid (Rec19 W5 w.heap.size 0 (msg (fun _ => 0) none 0 0)) := R4.out.below hB5
       have L5 : Hid (Lies W5 b off n f) := L4.out.below hB5
       have B5 : Hid (Below w.heap.size w W5) := B4.out.trans (hB5.mono B4.out.size)
       have H5 : Hid (Rec19 W5 W2.heap.size 0 (hcs h)) := H4.out.below hB5
       have c2 : W5.cell? ⟨W2.heap.size, 2, none⟩ = some (.int .i64 (s : Int)) := by rw [← E2.out]; exact (H5.out.at 2 _ rfl).1
       clear hB5 R4 L4 B4 H4)
    | (have _q := R5; clear _q; go_at_call 45; refine (mopen_ok (some ⟨b, off, none⟩) (256 + s) C f _ (TT.out.below B5.out hT0) (Arg.of (L5.out.part 0 (256 + s) (by have := s6.out; omega)).zero) (by have := s6.out; omega) (by have := s6.out; omega) HO.out).mono ?_; rintro e W6 ⟨g, he, hg, hG, hB6⟩
       rw [Nat.add_sub_cancel_left] at he hG
       subst he
       rw [HH.out]
       have R6 : Hid (Rec19 W6 w.heap.size 0 (msg (fun _ => 0) none 0 0)) := R5.out.below hB6
       have B6 : Hid (Below w.heap.size w W6) := B5.out.trans (hB6.mono B5.out.size)
       have G6 : Hid (IRow W6 g .u8 s (fun j => f (256 + j))) := hG
       have N6 : Hid (W2.heap.size < g ∧ g < W6.heap.size) := ⟨Nat.lt_of_lt_of_le H5.out.2.2 hg, hG.2.2⟩
       clear hB6 R5 B5 L5 H5 c2 hG)
    | (have _q := R6; clear _q; refine wpList_alloc_rec rfl 29 rfl (msg (fun _ => 0) none 0 0) W6.heap.size rfl zeroMsg ?_; intro W7 hR7 hB7 hz7)
    | (have _q := R6; clear _q; refine wpList_store_rec rfl 29 (.tmp 8) (.tmp 43) rfl W6.heap.size 0 _ (msg h (some ⟨g, 0, none⟩) s s) rfl rfl hR7 rfl (by kernel_rfl) (msg_one _ _ _ _) ?_; intro W8 hR8 hB8
       have F8 : Below W6.heap.size W6 W8 := hB7.trans (hB8.below (Nat.le_refl _) (by omega))
       have R8 : Hid (Rec19 W8 w.heap.size 0 (msg (fun _ => 0) none 0 0)) := R6.out.below F8
       have B8 : Hid (Below w.heap.size w W8) := B6.out.trans (F8.mono B6.out.size)
       have G8 : Hid (IRow W8 g .u8 s (fun j => f (256 + j))) := G6.out.below F8
       have M8 : Hid (Rec19 W8 W6.heap.size 0 (msg h (some ⟨g, 0, none⟩) s s)) := hR8
       clear F8 hR7 hB7 hz7 hR8 hB8 R6 B6 G6)
    | (have _q := R8; clear _q; refine wpList_load_rec rfl 29 (.tmp 8) rfl W6.heap.size 0 (msg h (some ⟨g, 0, none⟩) s s) rfl _ Tryd.underlying29 rfl (by kernel_rfl) M8.out ?_)
    | (have _q := R8; clear _q; refine wpList_store_rec rfl 29 (.tmp 4) (.tmp 45) rfl w.heap.size 0 _ (msg h (some ⟨g, 0, none⟩) s s) rfl rfl R8.out rfl (by kernel_rfl) (msg_one _ _ _ _) ?_; intro W9 hR9 hB9))
  have hl := hR9.run_load 29 _ Tryd.underlying29 rfl (by kernel_rfl)
  have n4 := N4.out
  have n6 := N6.out
  refine bodyPost_ret (v := MB h (some ⟨g, 0, none⟩) s true) (by simp [results, Tryd.results23, asAddr, hl]) rfl ⟨g, by rw [HS.out], by omega, ?_, B8.out.trans (hB9.below (Nat.le_refl _) B8.out.size)⟩
  rw [← HS.out]
  exact G8.out.but hB9 (by omega)
/-- Prepare, whatever it is handed. -/
theorem prep_no (a : Option Addr) (n C : Nat) (f : Nat → Int) (k : Int) (w : World) (hT : Tab w) (hA : Arg w a n f) (hC : n ≤ C) (hm : n ≤ 1000000) (hk : prepOK n f k = false) :
    Calls Tryd.prog 23 #[.slice a n C, .int .i64 k] w fun e w' => e = .returned (MB (fun _ => 0) none 0 false) ∧ Below w.heap.size w w' := by
  by_cases h1 : n < 256
  · exact prep_few a n C k w h1
  rcases hA with ⟨h, _⟩ | ⟨_, b, off, rfl, hl⟩
  · omega
  by_cases h2 : headCode f = 0
  · by_cases h3 : isPrep (hdrF f) k = true
    · by_cases h4 : hdrF f 2 ≤ ((n - 256 : Nat) : Int)
      · by_cases h5 : openCode (256 + (hdrF f 2).toNat) f = 0
        · rw [prepOK_iff.2 ⟨by omega, h2, h3, h4, h5⟩] at hk
          cases hk
        · exact prep_shut b off n C f k w hT hl (by omega) hC hm h2 h3 h4 h5
      · exact prep_long b off n C f k w hT hl (by omega) hC hm h2 h3 (by omega)
    · exact prep_not b off n C f k w hT hl (by omega) hC h2 (by simpa using h3)
  · exact prep_head b off n C f k w hT hl (by omega) hC _ rfl h2
theorem prep_ok (a : Option Addr) (n C : Nat) (f : Nat → Int) (k : Int) (w : World) (hT : Tab w) (hA : Arg w a n f) (hC : n ≤ C) (hm : n ≤ 1000000) (hk : prepOK n f k = true) :
    Calls Tryd.prog 23 #[.slice a n C, .int .i64 k] w fun e w' => ∃ g, e = .returned (MB (hdrF f) (some ⟨g, 0, none⟩) (hdrF f 2).toNat true) ∧ w.heap.size ≤ g ∧ IRow w' g .u8 (hdrF f 2).toNat (fun j => f (256 + j)) ∧ Below w.heap.size w w' := by
  obtain ⟨h1, h2, h3, h4, h5⟩ := prepOK_iff.1 hk
  rcases hA with ⟨h, _⟩ | ⟨_, b, off, rfl, hl⟩
  · omega
  exact prep_go b off n C f k w hT hl h1 hC hm h2 h3 h4 h5
end Go.Proofs.YtijpoipcadhchaaDoor
