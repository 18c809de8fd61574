/-
  Walks, not a claim by itself: slot.findHead and findPrepare. By the verifier.
-/
import Derived.Test.YtijpoipcadhchaaDoorOFnd
import Derived.Test.YtijpoipcadhchaaDoorOPrp
import Derived.Test.YtijpoipcadhchaaDoorOUnw
namespace Go.Proofs.YtijpoipcadhchaaDoor
open Go.RowKit
/-- What Head answers of any bytes. -/
def headC (n : Nat) (f : Nat → Int) : Int := if n = 256 then headCode f else 4
def headV (n : Nat) (f : Nat → Int) : Nat → Int := if n = 256 then headVal f else fun _ => 0
theorem headC_zero {n : Nat} {f : Nat → Int} (h : headC n f = 0) : n = 256 ∧ headCode f = 0 := by
  unfold headC at h
  by_cases e : n = 256
  · rw [if_pos e] at h; exact ⟨e, h⟩
  · rw [if_neg e] at h; omega
theorem headV_zero {n : Nat} {f : Nat → Int} (h : headC n f = 0) : headV n f = hdrF f := by
  obtain ⟨e, h0⟩ := headC_zero h
  unfold headV
  rw [if_pos e]
  unfold headVal
  rw [if_pos h0]
theorem head_gen (a : Option Addr) (n C : Nat) (f : Nat → Int) (w : World) (hT : Tab w) (hA : Arg w a n f) (hC : n ≤ C) :
    Calls Tryd.prog 43 #[.slice a n C] w fun e w' => e = .returned (HE (headV n f) (headC n f)) ∧ Below w.heap.size w w' := by
  by_cases e : n = 256
  · subst e
    rcases hA with ⟨h, _⟩ | ⟨_, b, off, rfl, hl⟩
    · omega
    have := head_any b off C f w hT hl hC
    unfold headV headC
    rw [if_pos rfl, if_pos rfl]
    exact this
  · unfold headV headC
    rw [if_neg e, if_neg e]
    exact head_len a n C w e
/-- What is found as a slot's header. -/
def fhK (n : Nat) (f : Nat → Int) (k : Int) : Int := if headC n f = 0 then (if isPrep (hdrF f) k = true then 2 else if isUnw n f k = true then 1 else 0) else 0
def fhV (n : Nat) (f : Nat → Int) (k : Int) : List Value := if fhK n f k = 2 then fnd 2 (hdrF f 5) (hdrF f 3) f else fnd (fhK n f k) 0 0 (fun _ => 0)
/-- What is found as its prepare. -/
def fpV (n : Nat) (f : Nat → Int) (k : Int) : List Value := if prepOK n f k = true then fnd 2 (hdrF f 5) (hdrF f 3) f else fnd 0 0 0 (fun _ => 0)
set_option maxRecDepth 100000 in
set_option maxHeartbeats 1000000 in
theorem fh_not (a : Option Addr) (n C : Nat) (f : Nat → Int) (k : Int) (w : World) (hT : Tab w) (hA : Arg w a n f) (hC : n ≤ C) (hc : headC n f ≠ 0) :
    Calls Tryd.prog 68 #[.slice a n C, .int .i64 k] w fun e w' => e = .returned (.agg (fnd 0 0 0 (fun _ => 0)).toArray) ∧ Below w.heap.size w w' := by
  have hT0 := hT.2
  have TT : Hid (Tab w) := hT
  have HA : Hid (Arg w a n f) := hA
  clear hT hA
  obtain ⟨h, hh⟩ : ∃ h, headV n f = h := ⟨_, rfl⟩
  obtain ⟨c, hce⟩ : ∃ c, headC n f = c := ⟨_, rfl⟩
  rw [hce] at hc
  have HV : Hid (headV n f = h) := hh
  have HC : Hid (headC n f = c) := hce
  have c0 : (c != 0) = true := by simpa using hc
  clear hc hh hce
  have T0 : Hid True := trivial
  go_enter Tryd.func68, Tryd.ntmps68
  go_wp2_with (first
    | (have _q := T0; clear _q; refine wpList_alloc_rec rfl 114 rfl (fnd 0 0 0 (fun _ => 0)) w.heap.size rfl zeroFnd ?_; intro W1 hR1 hB1 hz1
       have R1 : Hid (Rec19 W1 w.heap.size 0 (fnd 0 0 0 (fun _ => 0))) := hR1
       have B1 : Hid (Below w.heap.size w W1) := hB1
       clear hR1 hB1 hz1 T0)
    | (have _q := R1; clear _q; go_at_call 43; refine (head_gen a n C f _ (TT.out.below B1.out hT0) (HA.out.below B1.out) hC).mono ?_; rintro e W2 ⟨rfl, hB2⟩; rw [HV.out, HC.out]
       have R2 : Hid (Rec19 W2 w.heap.size 0 (fnd 0 0 0 (fun _ => 0))) := R1.out.below hB2
       have B2 : Hid (Below w.heap.size w W2) := B1.out.trans (hB2.mono B1.out.size)
       clear hB2 R1 B1)
    | (have _q := R2; clear _q; refine wpList_alloc_rec rfl 26 rfl (hcs fun _ => 0) W2.heap.size rfl zeroHdr ?_; intro W3 hR3 hB3 hz3)
    | (have _q := R2; clear _q; refine wpList_store_rec rfl 26 (.tmp 5) (.tmp 10) rfl W2.heap.size 0 _ (hcs h) rfl rfl hR3 rfl (by kernel_rfl) (hcs_one _) ?_; intro W4 hR4 hB4
       have F4 : Below W2.heap.size W2 W4 := hB3.trans (hB4.below (Nat.le_refl _) (by omega))
       have R4 : Hid (Rec19 W4 w.heap.size 0 (fnd 0 0 0 (fun _ => 0))) := R2.out.below F4
       have B4 : Hid (Below w.heap.size w W4) := B2.out.trans (F4.mono B2.out.size)
       have H4 : Hid (Rec19 W4 W2.heap.size 0 (hcs h)) := hR4
       clear F4 hR3 hB3 hz3 hB4 hR4 R2 B2)
    | (have _q := R4; clear _q; refine wpList_build_to rfl 114 _ rfl (fnd 0 0 0 (fun _ => 0)).toArray (by kernel_rfl) ?_)
    | (have _q := R4; clear _q; refine wpList_store_rec rfl 114 (.tmp 4) (.tmp 16) rfl w.heap.size 0 _ (fnd 0 0 0 (fun _ => 0)) rfl rfl R4.out (by simp only [fnd_len]) (fnd_info _ _ _ _) (fnd_one _ _ _ _) ?_; intro W9 hR9 hB9
       have BZ : Hid (Below w.heap.size w W4) := B4.out))
  have hl := hR9.run_load 114 _ Tryd.underlying114 rfl (fnd_info _ _ _ _)
  refine bodyPost_ret (v := .agg (fnd 0 0 0 (fun _ => 0)).toArray) (by simp [results, Tryd.results68, asAddr, Act.put, hl]) rfl ⟨rfl, BZ.out.trans (hB9.below (Nat.le_refl _) BZ.out.size)⟩
set_option maxRecDepth 100000 in
set_option maxHeartbeats 1000000 in
theorem fh_prep (a : Option Addr) (n C : Nat) (f : Nat → Int) (k : Int) (w : World) (hT : Tab w) (hA : Arg w a n f) (hC : n ≤ C) (hc : headC n f = 0) (hp : isPrep (hdrF f) k = true) :
    Calls Tryd.prog 68 #[.slice a n C, .int .i64 k] w fun e w' => e = .returned (.agg (fnd 2 (hdrF f 5) (hdrF f 3) f).toArray) ∧ Below w.heap.size w w' := by
  have hT0 := hT.2
  have TT : Hid (Tab w) := hT
  have HA : Hid (Arg w a n f) := hA
  clear hT hA
  have hv := headV_zero hc
  have HN : Hid (n = 256) := (headC_zero hc).1
  obtain ⟨h, hh⟩ : ∃ h, hdrF f = h := ⟨_, rfl⟩
  rw [hh] at hv hp
  have HV : Hid (headV n f = h) := hv
  have HC : Hid (headC n f = 0) := hc
  have HP : Hid (isPrep h k = true) := hp
  rw [hh]
  clear hc hp hh hv
  have T0 : Hid True := trivial
  go_enter Tryd.func68, Tryd.ntmps68
  go_wp2_with (first
    | (have _q := T0; clear _q; refine wpList_alloc_rec rfl 114 rfl (fnd 0 0 0 (fun _ => 0)) w.heap.size rfl zeroFnd ?_; intro W1 hR1 hB1 hz1
       have R1 : Hid (Rec19 W1 w.heap.size 0 (fnd 0 0 0 (fun _ => 0))) := hR1
       have B1 : Hid (Below w.heap.size w W1) := hB1
       clear hR1 hB1 hz1 T0)
    | (have _q := R1; clear _q; go_at_call 43; refine (head_gen a n C f _ (TT.out.below B1.out hT0) (HA.out.below B1.out) hC).mono ?_; rintro e W2 ⟨rfl, hB2⟩; rw [HV.out, HC.out]
       have R2 : Hid (Rec19 W2 w.heap.size 0 (fnd 0 0 0 (fun _ => 0))) := R1.out.below hB2
       have B2 : Hid (Below w.heap.size w W2) := B1.out.trans (hB2.mono B1.out.size)
       clear hB2 R1 B1)
    | (have _q := R2; clear _q; refine wpList_alloc_rec rfl 26 rfl (hcs fun _ => 0) W2.heap.size rfl zeroHdr ?_; intro W3 hR3 hB3 hz3)
    | (have _q := R2; clear _q; refine wpList_store_rec rfl 26 (.tmp 5) (.tmp 10) rfl W2.heap.size 0 _ (hcs h) rfl rfl hR3 rfl (by kernel_rfl) (hcs_one _) ?_; intro W4 hR4 hB4
       have F4 : Below W2.heap.size W2 W4 := hB3.trans (hB4.below (Nat.le_refl _) (by omega))
       have R4 : Hid (Rec19 W4 w.heap.size 0 (fnd 0 0 0 (fun _ => 0))) := R2.out.below F4
       have B4 : Hid (Below w.heap.size w W4) := B2.out.trans (F4.mono B2.out.size)
       have H4 : Hid (Rec19 W4 W2.heap.size 0 (hcs h)) := hR4
       clear F4 hR3 hB3 hz3 hB4 hR4 R2 B2)
    | (have _q := R4; clear _q; refine wpList_load_rec rfl 26 (.tmp 5) rfl W2.heap.size 0 (hcs h) rfl _ Tryd.underlying26 rfl (by kernel_rfl) H4.out ?_)
    | (have _q := R4; clear _q; go_at_call 44; refine (isPrepare_any h k _).mono ?_; rintro e W5 ⟨rfl, hB5⟩; rw [HP.out]
       have R5 : Hid (Rec19 W5 w.heap.size 0 (fnd 0 0 0 (fun _ => 0))) := R4.out.below hB5
       have B5 : Hid (Below w.heap.size w W5) := B4.out.trans (hB5.mono B4.out.size)
       have H5 : Hid (Rec19 W5 W2.heap.size 0 (hcs h)) := H4.out.below hB5
       clear hB5 R4 B4 H4)
    | (have _q := R5; clear _q; refine wpList_load_rec rfl 26 (.tmp 5) rfl W2.heap.size 0 (hcs h) rfl _ Tryd.underlying26 rfl (by kernel_rfl) H5.out ?_)
    | (have _q := R5; clear _q; go_at_call 83; refine (foundOf_any h a n C f _ (by have := HN.out; omega) (HA.out.below B5.out)).mono ?_; rintro e W6 ⟨rfl, hB6⟩
       have R6 : Hid (Rec19 W6 w.heap.size 0 (fnd 0 0 0 (fun _ => 0))) := R5.out.below hB6
       have B6 : Hid (Below w.heap.size w W6) := B5.out.trans (hB6.mono B5.out.size)
       clear hB6 R5 B5 H5)
    | (have _q := R6; clear _q; refine wpList_store_rec rfl 114 (.tmp 4) (.tmp 23) rfl w.heap.size 0 _ (fnd 2 (h 5) (h 3) f) rfl rfl R6.out (by simp only [fnd_len]) (fnd_info _ _ _ _) (fnd_one _ _ _ _) ?_; intro W9 hR9 hB9
       have BZ : Hid (Below w.heap.size w W6) := B6.out))
  have hl := hR9.run_load 114 _ Tryd.underlying114 rfl (fnd_info _ _ _ _)
  refine bodyPost_ret (v := .agg (fnd 2 (h 5) (h 3) f).toArray) (by simp [results, Tryd.results68, asAddr, Act.put, hl]) rfl ⟨rfl, BZ.out.trans (hB9.below (Nat.le_refl _) BZ.out.size)⟩
set_option maxRecDepth 100000 in
set_option maxHeartbeats 1000000 in
theorem fh_unw (a : Option Addr) (n C : Nat) (f : Nat → Int) (k : Int) (w : World) (hT : Tab w) (hA : Arg w a n f) (hC : n ≤ C) (hc : headC n f = 0) (hp : isPrep (hdrF f) k = false) (hu : isUnw n f k = true) :
    Calls Tryd.prog 68 #[.slice a n C, .int .i64 k] w fun e w' => e = .returned (.agg (fnd 1 0 0 (fun _ => 0)).toArray) ∧ Below w.heap.size w w' := by
  have hT0 := hT.2
  have TT : Hid (Tab w) := hT
  have HA : Hid (Arg w a n f) := hA
  clear hT hA
  have hv := headV_zero hc
  have HN : Hid (n = 256) := (headC_zero hc).1
  obtain ⟨h, hh⟩ : ∃ h, hdrF f = h := ⟨_, rfl⟩
  rw [hh] at hv hp
  have HV : Hid (headV n f = h) := hv
  have HC : Hid (headC n f = 0) := hc
  have HP : Hid (isPrep h k = false) := hp
  have HU : Hid (isUnw n f k = true) := hu
  clear hc hp hh hv hu
  have T0 : Hid True := trivial
  go_enter Tryd.func68, Tryd.ntmps68
  go_wp2_with (first
    | (have _q := T0; clear _q; refine wpList_alloc_rec rfl 114 rfl (fnd 0 0 0 (fun _ => 0)) w.heap.size rfl zeroFnd ?_; intro W1 hR1 hB1 hz1
       have R1 : Hid (Rec19 W1 w.heap.size 0 (fnd 0 0 0 (fun _ => 0))) := hR1
       have B1 : Hid (Below w.heap.size w W1) := hB1
       clear hR1 hB1 hz1 T0)
    | (have _q := R1; clear _q; go_at_call 43; refine (head_gen a n C f _ (TT.out.below B1.out hT0) (HA.out.below B1.out) hC).mono ?_; rintro e W2 ⟨rfl, hB2⟩; rw [HV.out, HC.out]
       have R2 : Hid (Rec19 W2 w.heap.size 0 (fnd 0 0 0 (fun _ => 0))) := R1.out.below hB2
       have B2 : Hid (Below w.heap.size w W2) := B1.out.trans (hB2.mono B1.out.size)
       clear hB2 R1 B1)
    | (have _q := R2; clear _q; refine wpList_alloc_rec rfl 26 rfl (hcs fun _ => 0) W2.heap.size rfl zeroHdr ?_; intro W3 hR3 hB3 hz3)
    | (have _q := R2; clear _q; refine wpList_store_rec rfl 26 (.tmp 5) (.tmp 10) rfl W2.heap.size 0 _ (hcs h) rfl rfl hR3 rfl (by kernel_rfl) (hcs_one _) ?_; intro W4 hR4 hB4
       have F4 : Below W2.heap.size W2 W4 := hB3.trans (hB4.below (Nat.le_refl _) (by omega))
       have R4 : Hid (Rec19 W4 w.heap.size 0 (fnd 0 0 0 (fun _ => 0))) := R2.out.below F4
       have B4 : Hid (Below w.heap.size w W4) := B2.out.trans (F4.mono B2.out.size)
       have H4 : Hid (Rec19 W4 W2.heap.size 0 (hcs h)) := hR4
       clear F4 hR3 hB3 hz3 hB4 hR4 R2 B2)
    | (have _q := R4; clear _q; refine wpList_load_rec rfl 26 (.tmp 5) rfl W2.heap.size 0 (hcs h) rfl _ Tryd.underlying26 rfl (by kernel_rfl) H4.out ?_)
    | (have _q := R4; clear _q; go_at_call 44; refine (isPrepare_any h k _).mono ?_; rintro e W5 ⟨rfl, hB5⟩; rw [HP.out]
       have R5 : Hid (Rec19 W5 w.heap.size 0 (fnd 0 0 0 (fun _ => 0))) := R4.out.below hB5
       have B5 : Hid (Below w.heap.size w W5) := B4.out.trans (hB5.mono B4.out.size)
       have H5 : Hid (Rec19 W5 W2.heap.size 0 (hcs h)) := H4.out.below hB5
       clear hB5 R4 B4 H4)
    | (have _q := R5; clear _q; go_at_call 84; refine (isUnwritten_any a n C f k _ (TT.out.below B5.out hT0) (HA.out.below B5.out)).mono ?_; rintro e W6 ⟨rfl, hB6⟩; rw [HU.out]
       have R6 : Hid (Rec19 W6 w.heap.size 0 (fnd 0 0 0 (fun _ => 0))) := R5.out.below hB6
       have B6 : Hid (Below w.heap.size w W6) := B5.out.trans (hB6.mono B5.out.size)
       clear hB6 R5 B5 H5)
    | (have _q := R6; clear _q; refine wpList_build_to rfl 114 _ rfl (fnd 1 0 0 (fun _ => 0)).toArray (by kernel_rfl) ?_)
    | (have _q := R6; clear _q; refine wpList_store_rec rfl 114 (.tmp 4) (.tmp 28) rfl w.heap.size 0 _ (fnd 1 0 0 (fun _ => 0)) rfl rfl R6.out (by simp only [fnd_len]) (fnd_info _ _ _ _) (fnd_one _ _ _ _) ?_; intro W9 hR9 hB9
       have BZ : Hid (Below w.heap.size w W6) := B6.out))
  have hl := hR9.run_load 114 _ Tryd.underlying114 rfl (fnd_info _ _ _ _)
  refine bodyPost_ret (v := .agg (fnd 1 0 0 (fun _ => 0)).toArray) (by simp [results, Tryd.results68, asAddr, Act.put, hl]) rfl ⟨rfl, BZ.out.trans (hB9.below (Nat.le_refl _) BZ.out.size)⟩
set_option maxRecDepth 100000 in
set_option maxHeartbeats 1000000 in
theorem fh_none (a : Option Addr) (n C : Nat) (f : Nat → Int) (k : Int) (w : World) (hT : Tab w) (hA : Arg w a n f) (hC : n ≤ C) (hc : headC n f = 0) (hp : isPrep (hdrF f) k = false) (hu : isUnw n f k = false) :
    Calls Tryd.prog 68 #[.slice a n C, .int .i64 k] w fun e w' => e = .returned (.agg (fnd 0 0 0 (fun _ => 0)).toArray) ∧ Below w.heap.size w w' := by
  have hT0 := hT.2
  have TT : Hid (Tab w) := hT
  have HA : Hid (Arg w a n f) := hA
  clear hT hA
  have hv := headV_zero hc
  have HN : Hid (n = 256) := (headC_zero hc).1
  obtain ⟨h, hh⟩ : ∃ h, hdrF f = h := ⟨_, rfl⟩
  rw [hh] at hv hp
  have HV : Hid (headV n f = h) := hv
  have HC : Hid (headC n f = 0) := hc
  have HP : Hid (isPrep h k = false) := hp
  have HU : Hid (isUnw n f k = false) := hu
  clear hc hp hh hv hu
  have T0 : Hid True := trivial
  go_enter Tryd.func68, Tryd.ntmps68
  go_wp2_with (first
    | (have _q := T0; clear _q; refine wpList_alloc_rec rfl 114 rfl (fnd 0 0 0 (fun _ => 0)) w.heap.size rfl zeroFnd ?_; intro W1 hR1 hB1 hz1
       have R1 : Hid (Rec19 W1 w.heap.size 0 (fnd 0 0 0 (fun _ => 0))) := hR1
       have B1 : Hid (Below w.heap.size w W1) := hB1
       clear hR1 hB1 hz1 T0)
    | (have _q := R1; clear _q; go_at_call 43; refine (head_gen a n C f _ (TT.out.below B1.out hT0) (HA.out.below B1.out) hC).mono ?_; rintro e W2 ⟨rfl, hB2⟩; rw [HV.out, HC.out]
       have R2 : Hid (Rec19 W2 w.heap.size 0 (fnd 0 0 0 (fun _ => 0))) := R1.out.below hB2
       have B2 : Hid (Below w.heap.size w W2) := B1.out.trans (hB2.mono B1.out.size)
       clear hB2 R1 B1)
    | (have _q := R2; clear _q; refine wpList_alloc_rec rfl 26 rfl (hcs fun _ => 0) W2.heap.size rfl zeroHdr ?_; intro W3 hR3 hB3 hz3)
    | (have _q := R2; clear _q; refine wpList_store_rec rfl 26 (.tmp 5) (.tmp 10) rfl W2.heap.size 0 _ (hcs h) rfl rfl hR3 rfl (by kernel_rfl) (hcs_one _) ?_; intro W4 hR4 hB4
       have F4 : Below W2.heap.size W2 W4 := hB3.trans (hB4.below (Nat.le_refl _) (by omega))
       have R4 : Hid (Rec19 W4 w.heap.size 0 (fnd 0 0 0 (fun _ => 0))) := R2.out.below F4
       have B4 : Hid (Below w.heap.size w W4) := B2.out.trans (F4.mono B2.out.size)
       have H4 : Hid (Rec19 W4 W2.heap.size 0 (hcs h)) := hR4
       clear F4 hR3 hB3 hz3 hB4 hR4 R2 B2)
    | (have _q := R4; clear _q; refine wpList_load_rec rfl 26 (.tmp 5) rfl W2.heap.size 0 (hcs h) rfl _ Tryd.underlying26 rfl (by kernel_rfl) H4.out ?_)
    | (have _q := R4; clear _q; go_at_call 44; refine (isPrepare_any h k _).mono ?_; rintro e W5 ⟨rfl, hB5⟩; rw [HP.out]
       have R5 : Hid (Rec19 W5 w.heap.size 0 (fnd 0 0 0 (fun _ => 0))) := R4.out.below hB5
       have B5 : Hid (Below w.heap.size w W5) := B4.out.trans (hB5.mono B4.out.size)
       have H5 : Hid (Rec19 W5 W2.heap.size 0 (hcs h)) := H4.out.below hB5
       clear hB5 R4 B4 H4)
    | (have _q := R5; clear _q; go_at_call 84; refine (isUnwritten_any a n C f k _ (TT.out.below B5.out hT0) (HA.out.below B5.out)).mono ?_; rintro e W6 ⟨rfl, hB6⟩; rw [HU.out]
       have R6 : Hid (Rec19 W6 w.heap.size 0 (fnd 0 0 0 (fun _ => 0))) := R5.out.below hB6
       have B6 : Hid (Below w.heap.size w W6) := B5.out.trans (hB6.mono B5.out.size)
       clear hB6 R5 B5 H5)
    | (have _q := R6; clear _q; refine wpList_build_to rfl 114 _ rfl (fnd 0 0 0 (fun _ => 0)).toArray (by kernel_rfl) ?_)
    | (have _q := R6; clear _q; refine wpList_store_rec rfl 114 (.tmp 4) (.tmp 12) rfl w.heap.size 0 _ (fnd 0 0 0 (fun _ => 0)) rfl rfl R6.out (by simp only [fnd_len]) (fnd_info _ _ _ _) (fnd_one _ _ _ _) ?_; intro W9 hR9 hB9
       have BZ : Hid (Below w.heap.size w W6) := B6.out))
  have hl := hR9.run_load 114 _ Tryd.underlying114 rfl (fnd_info _ _ _ _)
  refine bodyPost_ret (v := .agg (fnd 0 0 0 (fun _ => 0)).toArray) (by simp [results, Tryd.results68, asAddr, Act.put, hl]) rfl ⟨rfl, BZ.out.trans (hB9.below (Nat.le_refl _) BZ.out.size)⟩
theorem findHead_any (a : Option Addr) (n C : Nat) (f : Nat → Int) (k : Int) (w : World) (hT : Tab w) (hA : Arg w a n f) (hC : n ≤ C) :
    Calls Tryd.prog 68 #[.slice a n C, .int .i64 k] w fun e w' => e = .returned (.agg (fhV n f k).toArray) ∧ Below w.heap.size w w' := by
  unfold fhV fhK
  by_cases h1 : headC n f = 0
  · by_cases h2 : isPrep (hdrF f) k = true
    · rw [if_pos h1, if_pos h2, if_pos rfl]
      exact fh_prep a n C f k w hT hA hC h1 h2
    · by_cases h3 : isUnw n f k = true
      · rw [if_pos h1, if_neg h2, if_pos h3, if_neg (by decide)]
        exact fh_unw a n C f k w hT hA hC h1 (by simpa using h2) h3
      · rw [if_pos h1, if_neg h2, if_neg h3, if_neg (by decide)]
        exact fh_none a n C f k w hT hA hC h1 (by simpa using h2) (by simpa using h3)
  · rw [if_neg h1, if_neg (by decide)]
    exact fh_not a n C f k w hT hA hC h1
set_option maxRecDepth 100000 in
set_option maxHeartbeats 1000000 in
theorem fp_no (a : Option Addr) (n C : Nat) (f : Nat → Int) (k : Int) (w : World) (hT : Tab w) (hA : Arg w a n f) (hC : n ≤ C) (hm : n ≤ 1000000) (hp : prepOK n f k = false) :
    Calls Tryd.prog 69 #[.slice a n C, .int .i64 k] w fun e w' => e = .returned (.agg (fnd 0 0 0 (fun _ => 0)).toArray) ∧ Below w.heap.size w w' := by
  have hT0 := hT.2
  have TT : Hid (Tab w) := hT
  have HA : Hid (Arg w a n f) := hA
  have HP := hp
  have HP' : Hid (prepOK n f k = false) := hp
  clear hT hA hp HP
  have T0 : Hid True := trivial
  go_enter Tryd.func69, Tryd.ntmps69
  go_wp2_with (first
    | (have _q := T0; clear _q; refine wpList_alloc_rec rfl 114 rfl (fnd 0 0 0 (fun _ => 0)) w.heap.size rfl zeroFnd ?_; intro W1 hR1 hB1 hz1
       have R1 : Hid (Rec19 W1 w.heap.size 0 (fnd 0 0 0 (fun _ => 0))) := hR1
       have B1 : Hid (Below w.heap.size w W1) := hB1
       clear hR1 hB1 hz1 T0)
    | (have _q := R1; clear _q; go_at_call 23; refine (prep_no a n C f k _ (TT.out.below B1.out hT0) (HA.out.below B1.out) hC hm HP'.out).mono ?_; rintro e W2 ⟨rfl, hB2⟩
       have R2 : Hid (Rec19 W2 w.heap.size 0 (fnd 0 0 0 (fun _ => 0))) := R1.out.below hB2
       have B2 : Hid (Below w.heap.size w W2) := B1.out.trans (hB2.mono B1.out.size)
       clear hB2 R1 B1)
    | (have _q := R2; clear _q; refine wpList_alloc_rec rfl 29 rfl (msg (fun _ => 0) none 0 0) W2.heap.size rfl zeroMsg ?_; intro W3 hR3 hB3 hz3)
    | (have _q := R2; clear _q; refine wpList_store_rec rfl 29 (.tmp 5) (.tmp 11) rfl W2.heap.size 0 _ (msg (fun _ => 0) none 0 0) rfl rfl hR3 rfl (by kernel_rfl) (msg_one _ _ _ _) ?_; intro W4 hR4 hB4
       have F4 : Below W2.heap.size W2 W4 := hB3.trans (hB4.below (Nat.le_refl _) (by omega))
       have R4 : Hid (Rec19 W4 w.heap.size 0 (fnd 0 0 0 (fun _ => 0))) := R2.out.below F4
       have B4 : Hid (Below w.heap.size w W4) := B2.out.trans (F4.mono B2.out.size)
       have H4 : Hid (Rec19 W4 W2.heap.size 0 (msg (fun _ => 0) none 0 0)) := hR4
       clear F4 hR3 hB3 hz3 hB4 hR4 R2 B2)
    | (have _q := R4; clear _q; refine wpList_build_to rfl 114 _ rfl (fnd 0 0 0 (fun _ => 0)).toArray (by kernel_rfl) ?_)
    | (have _q := R4; clear _q; refine wpList_store_rec rfl 114 (.tmp 4) (.tmp 15) rfl w.heap.size 0 _ (fnd 0 0 0 (fun _ => 0)) rfl rfl R4.out (by simp only [fnd_len]) (fnd_info _ _ _ _) (fnd_one _ _ _ _) ?_; intro W9 hR9 hB9
       have BZ : Hid (Below w.heap.size w W4) := B4.out))
  have hl := hR9.run_load 114 _ Tryd.underlying114 rfl (fnd_info _ _ _ _)
  refine bodyPost_ret (v := .agg (fnd 0 0 0 (fun _ => 0)).toArray) (by simp [results, Tryd.results69, asAddr, Act.put, hl]) rfl ⟨rfl, BZ.out.trans (hB9.below (Nat.le_refl _) BZ.out.size)⟩
set_option maxRecDepth 100000 in
set_option maxHeartbeats 1000000 in
theorem fp_ok (a : Option Addr) (n C : Nat) (f : Nat → Int) (k : Int) (w : World) (hT : Tab w) (hA : Arg w a n f) (hC : n ≤ C) (hm : n ≤ 1000000) (hp : prepOK n f k = true) :
    Calls Tryd.prog 69 #[.slice a n C, .int .i64 k] w fun e w' => e = .returned (.agg (fnd 2 (hdrF f 5) (hdrF f 3) f).toArray) ∧ Below w.heap.size w w' := by
  have hT0 := hT.2
  have TT : Hid (Tab w) := hT
  have HA : Hid (Arg w a n f) := hA
  have HP := hp
  have HP' : Hid (prepOK n f k = true) := hp
  clear hT hA hp HP
  have HN : Hid (256 ≤ n) := (prepOK_iff.1 HP'.out).1
  obtain ⟨h, hh⟩ : ∃ h, hdrF f = h := ⟨_, rfl⟩
  have HH : Hid (hdrF f = h) := hh
  rw [hh]
  clear hh
  obtain ⟨s, hs⟩ : ∃ s, (h 2).toNat = s := ⟨_, rfl⟩
  have HS : Hid ((h 2).toNat = s) := hs
  clear hs
  have T0 : Hid True := trivial
  go_enter Tryd.func69, Tryd.ntmps69
  go_wp2_with (first
    | (have _q := T0; clear _q; refine wpList_alloc_rec rfl 114 rfl (fnd 0 0 0 (fun _ => 0)) w.heap.size rfl zeroFnd ?_; intro W1 hR1 hB1 hz1
       have R1 : Hid (Rec19 W1 w.heap.size 0 (fnd 0 0 0 (fun _ => 0))) := hR1
       have B1 : Hid (Below w.heap.size w W1) := hB1
       clear hR1 hB1 hz1 T0)
    | (have _q := R1; clear _q; go_at_call 23; refine (prep_ok a n C f k _ (TT.out.below B1.out hT0) (HA.out.below B1.out) hC hm HP'.out).mono ?_; rintro e W2 ⟨g, rfl, hg, hG, hB2⟩; rw [HH.out, HS.out]; clear hg hG
       have R2 : Hid (Rec19 W2 w.heap.size 0 (fnd 0 0 0 (fun _ => 0))) := R1.out.below hB2
       have B2 : Hid (Below w.heap.size w W2) := B1.out.trans (hB2.mono B1.out.size)
       clear hB2 R1 B1)
    | (have _q := R2; clear _q; refine wpList_alloc_rec rfl 29 rfl (msg (fun _ => 0) none 0 0) W2.heap.size rfl zeroMsg ?_; intro W3 hR3 hB3 hz3)
    | (have _q := R2; clear _q; refine wpList_store_rec rfl 29 (.tmp 5) (.tmp 11) rfl W2.heap.size 0 _ (msg h (some ⟨g, 0, none⟩) s s) rfl rfl hR3 rfl (by kernel_rfl) (msg_one _ _ _ _) ?_; intro W4 hR4 hB4
       have F4 : Below W2.heap.size W2 W4 := hB3.trans (hB4.below (Nat.le_refl _) (by omega))
       have R4 : Hid (Rec19 W4 w.heap.size 0 (fnd 0 0 0 (fun _ => 0))) := R2.out.below F4
       have B4 : Hid (Below w.heap.size w W4) := B2.out.trans (F4.mono B2.out.size)
       have H4 : Hid (Rec19 W4 W2.heap.size 0 (msg h (some ⟨g, 0, none⟩) s s)) := hR4
       clear F4 hR3 hB3 hz3 hB4 hR4 R2 B2)
    | (have _q := R4; clear _q; refine wpList_load_rec rfl 26 (.tmp 16) rfl W2.heap.size 0 (hcs h) rfl _ Tryd.underlying26 rfl (by kernel_rfl) H4.out.head ?_)
    | (have _q := R4; clear _q; go_at_call 83; refine (foundOf_any h a n C f _ HN.out (HA.out.below B4.out)).mono ?_; rintro e W6 ⟨rfl, hB6⟩
       have R6 : Hid (Rec19 W6 w.heap.size 0 (fnd 0 0 0 (fun _ => 0))) := R4.out.below hB6
       have B6 : Hid (Below w.heap.size w W6) := B4.out.trans (hB6.mono B4.out.size)
       clear hB6 R4 B4 H4)
    | (have _q := R6; clear _q; refine wpList_store_rec rfl 114 (.tmp 4) (.tmp 19) rfl w.heap.size 0 _ (fnd 2 (h 5) (h 3) f) rfl rfl R6.out (by simp only [fnd_len]) (fnd_info _ _ _ _) (fnd_one _ _ _ _) ?_; intro W9 hR9 hB9
       have BZ : Hid (Below w.heap.size w W6) := B6.out))
  have hl := hR9.run_load 114 _ Tryd.underlying114 rfl (fnd_info _ _ _ _)
  refine bodyPost_ret (v := .agg (fnd 2 (h 5) (h 3) f).toArray) (by simp [results, Tryd.results69, asAddr, Act.put, hl]) rfl ⟨rfl, BZ.out.trans (hB9.below (Nat.le_refl _) BZ.out.size)⟩
theorem findPrepare_any (a : Option Addr) (n C : Nat) (f : Nat → Int) (k : Int) (w : World) (hT : Tab w) (hA : Arg w a n f) (hC : n ≤ C) (hm : n ≤ 1000000) :
    Calls Tryd.prog 69 #[.slice a n C, .int .i64 k] w fun e w' => e = .returned (.agg (fpV n f k).toArray) ∧ Below w.heap.size w w' := by
  unfold fpV
  by_cases h : prepOK n f k = true
  · rw [if_pos h]; exact fp_ok a n C f k w hT hA hC hm h
  · rw [if_neg h]; exact fp_no a n C f k w hT hA hC hm (by simpa using h)
end Go.Proofs.YtijpoipcadhchaaDoor
