/-
  Walks, not a claim by itself: header.Open. By the verifier.
-/
import Derived.Test.YtijpoipcadhchaaDoorMHead
namespace Go.Proofs.YtijpoipcadhchaaDoor
open Go.RowKit
theorem zeroMsg : (Tryd.prog.info? 29).bind (·.zero) = some (.agg (msg (fun _ => 0) none 0 0).toArray) := by kernel_rfl
theorem msg_one (h : Nat → Int) (a : Option Addr) (n C : Nat) : ∀ v ∈ msg h a n C, v.oneCell' = true := by
  intro v hv
  unfold msg at hv
  rw [List.mem_append] at hv
  rcases hv with hv | hv
  · exact hcs_one h v hv
  · rw [List.mem_singleton] at hv; rw [hv]; rfl
/-- The answer: a message and a number. -/
abbrev ME (h : Nat → Int) (a : Option Addr) (n : Nat) (e : Int) : Value := .tuple #[.agg (msg h a n n).toArray, .int .i64 e]
/-- Whether the body's seal is right. -/
def bodySeal (n : Nat) (f : Nat → Int) : Bool := eqN 16 (sealF (n - 256) (fun j => f (256 + j))) (fun j => f (16 + j))
set_option maxRecDepth 100000 in
set_option maxHeartbeats 400000 in
theorem mopen_few (a : Option Addr) (n C : Nat) (w : World) (hn : n < 256) :
    Calls Tryd.prog 45 #[.slice a n C] w fun e w' => e = .returned (ME (fun _ => 0) none 0 4) ∧ Below w.heap.size w w' := by
  have e1 : (n : Int) < 256 := by omega
  go_enter Tryd.func45, Tryd.ntmps45
  go_wp2_with (first
    | (refine wpList_alloc_rec rfl 29 rfl (msg (fun _ => 0) none 0 0) w.heap.size rfl zeroMsg ?_; intro W1 hR1 hB1 hz1)
    | (refine wpList_build_to rfl 29 _ rfl (msg (fun _ => 0) none 0 0).toArray (by kernel_rfl) ?_)
    | (refine wpList_store_rec rfl 29 (.tmp 2) (.tmp 11) rfl w.heap.size 0 _ (msg (fun _ => 0) none 0 0) rfl rfl hR1 rfl (by kernel_rfl) (msg_one _ _ _ _) ?_; intro W2 hR2 hB2))
  have hl := hR2.run_load 29 _ Tryd.underlying29 rfl (by kernel_rfl)
  refine bodyPost_ret (v := ME (fun _ => 0) none 0 4) (by simp [results, Tryd.results45, asAddr, hl]) rfl ⟨rfl, ?_⟩
  exact hB1.trans (hB2.below (Nat.le_refl _) (by omega))
theorem Lies.zero {u : World} {b off n : Nat} {f : Nat → Int} (h : Lies u b (off + 0) n (fun j => f (0 + j))) : Lies u b off n f := by
  simpa using h
set_option maxRecDepth 100000 in
set_option maxHeartbeats 400000 in
theorem mopen_head (b off n C : Nat) (f : Nat → Int) (w : World) (hT : Tab w) (hL : Lies w b off n f) (hn : 256 ≤ n) (hC : n ≤ C) (c : Int) (hc : headCode f = c) (h0 : c ≠ 0) :
    Calls Tryd.prog 45 #[.slice (some ⟨b, off, none⟩) n C] w fun e w' => e = .returned (ME (fun _ => 0) none 0 c) ∧ Below w.heap.size w w' := by
  have hT0 := hT.2
  have TT : Hid (Tab w) := hT
  have LL : Hid (Lies w b off n f) := hL
  have HC : Hid (headCode f = c) := hc
  obtain ⟨h, hh⟩ : ∃ h, headVal f = h := ⟨_, rfl⟩
  have HV : Hid (headVal f = h) := hh
  have c0 : (c != 0) = true := by simpa using h0
  clear hc hh h0
  clear hT hL
  have k1 : ¬ (n : Int) < 256 := by omega
  have k2 : (256 : Int) ≤ n := by omega
  have k3 : (256 : Int) ≤ C := by omega
  go_enter Tryd.func45, Tryd.ntmps45
  go_wp2_with (first
    | (refine wpList_alloc_rec rfl 29 rfl (msg (fun _ => 0) none 0 0) w.heap.size rfl zeroMsg ?_; intro W1 hR1 hB1 hz1
       have L1 : Hid (Lies W1 b off n f) := LL.out.below hB1
       have L1' : Hid (Lies W1 b off 256 f) := (L1.out.part 0 256 (by omega)).zero
       have R1 : Hid (Rec19 W1 w.heap.size 0 (msg (fun _ => 0) none 0 0)) := hR1
       have B1 : Hid (Below w.heap.size w W1) := hB1
       clear hR1 hB1 hz1)
    | (go_at_call 43; refine (head_any b off C f _ (TT.out.below B1.out hT0) L1'.out (by omega)).mono ?_; rintro e W2 ⟨rfl, hB2⟩; rw [HV.out, HC.out]
       have R2 : Hid (Rec19 W2 w.heap.size 0 (msg (fun _ => 0) none 0 0)) := R1.out.below hB2
       have L2 : Hid (Lies W2 b off n f) := L1.out.below hB2
       have B2 : Hid (Below w.heap.size w W2) := B1.out.trans (hB2.mono B1.out.size)
       clear hB2)
    | (refine wpList_alloc_rec rfl 26 rfl (hcs fun _ => 0) W2.heap.size rfl zeroHdr ?_; intro W3 hR3 hB3 hz3)
    | (refine wpList_store_rec rfl 26 (.tmp 4) (.tmp 16) rfl W2.heap.size 0 _ (hcs h) rfl rfl hR3 rfl (by kernel_rfl) (hcs_one _) ?_; intro W4 hR4 hB4
       have F4 : Below W2.heap.size W2 W4 := hB3.trans (hB4.below (Nat.le_refl _) (by omega))
       have R4 : Hid (Rec19 W4 w.heap.size 0 (msg (fun _ => 0) none 0 0)) := R2.out.below F4
       have L4 : Hid (Lies W4 b off n f) := L2.out.below F4
       have B4 : Hid (Below w.heap.size w W4) := B2.out.trans (F4.mono B2.out.size)
       have H4 : Hid (Rec19 W4 W2.heap.size 0 (hcs h)) := hR4
       have c2 : W4.cell? ⟨W2.heap.size, 2, none⟩ = some (.int .i64 (h 2)) := (hR4.at 2 _ rfl).1
       have N4 : Hid (w.heap.size < W2.heap.size) := R2.out.2.2
       clear F4 hR3 hB3 hz3 hB4 hR4 R2 L2 B2)
    | (refine wpList_build_to rfl 29 _ rfl (msg (fun _ => 0) none 0 0).toArray (by kernel_rfl) ?_)
    | (refine wpList_store_rec rfl 29 (.tmp 2) (.tmp 20) rfl w.heap.size 0 _ (msg (fun _ => 0) none 0 0) rfl rfl R4.out rfl (by kernel_rfl) (msg_one _ _ _ _) ?_; intro W9 hR9 hB9))
  have hl := hR9.run_load 29 _ Tryd.underlying29 rfl (by kernel_rfl)
  refine bodyPost_ret (v := ME (fun _ => 0) none 0 c) (by simp [results, Tryd.results45, asAddr, hl]) rfl ⟨rfl, ?_⟩
  exact B4.out.trans (hB9.below (Nat.le_refl _) B4.out.size)
set_option maxRecDepth 100000 in
set_option maxHeartbeats 400000 in
theorem mopen_size_mid (b off n C : Nat) (f : Nat → Int) (w : World) (hT : Tab w) (hL : Lies w b off n f) (hn : 256 ≤ n) (hC : n ≤ C) (hC2 : ¬ C = 256) (hm : n ≤ 1000000) (hc : headCode f = 0) (hs : hdrF f 2 ≠ ((n - 256 : Nat) : Int)) :
    Calls Tryd.prog 45 #[.slice (some ⟨b, off, none⟩) n C] w fun e w' => e = .returned (ME (fun _ => 0) none 0 4) ∧ Below w.heap.size w w' := by
  have hT0 := hT.2
  have TT : Hid (Tab w) := hT
  have LL : Hid (Lies w b off n f) := hL
  have HC : Hid (headCode f = 0) := hc
  have hv : headVal f = hdrF f := by unfold headVal; rw [if_pos hc]
  generalize hdrF f = h at hv hs
  have HV : Hid (headVal f = h) := hv
  clear hc hv
  have s0 : (((n - 256 : Nat) : Int) != h 2) = true := by simp; intro e; exact hs (by rw [← e])
  clear hs
  clear hT hL
  have k1 : ¬ (n : Int) < 256 := by omega
  have k2 : (256 : Int) ≤ n := by omega
  have k3 : (256 : Int) ≤ C := by omega
  go_enter Tryd.func45, Tryd.ntmps45
  go_wp2_with (first
    | (refine wpList_alloc_rec rfl 29 rfl (msg (fun _ => 0) none 0 0) w.heap.size rfl zeroMsg ?_; intro W1 hR1 hB1 hz1
       have L1 : Hid (Lies W1 b off n f) := LL.out.below hB1
       have L1' : Hid (Lies W1 b off 256 f) := (L1.out.part 0 256 (by omega)).zero
       have R1 : Hid (Rec19 W1 w.heap.size 0 (msg (fun _ => 0) none 0 0)) := hR1
       have B1 : Hid (Below w.heap.size w W1) := hB1
       clear hR1 hB1 hz1)
    | (go_at_call 43; refine (head_any b off C f _ (TT.out.below B1.out hT0) L1'.out (by omega)).mono ?_; rintro e W2 ⟨rfl, hB2⟩; rw [HV.out, HC.out]
       have R2 : Hid (Rec19 W2 w.heap.size 0 (msg (fun _ => 0) none 0 0)) := R1.out.below hB2
       have L2 : Hid (Lies W2 b off n f) := L1.out.below hB2
       have B2 : Hid (Below w.heap.size w W2) := B1.out.trans (hB2.mono B1.out.size)
       clear hB2)
    | (refine wpList_alloc_rec rfl 26 rfl (hcs fun _ => 0) W2.heap.size rfl zeroHdr ?_; intro W3 hR3 hB3 hz3)
    | (refine wpList_store_rec rfl 26 (.tmp 4) (.tmp 16) rfl W2.heap.size 0 _ (hcs h) rfl rfl hR3 rfl (by kernel_rfl) (hcs_one _) ?_; intro W4 hR4 hB4
       have F4 : Below W2.heap.size W2 W4 := hB3.trans (hB4.below (Nat.le_refl _) (by omega))
       have R4 : Hid (Rec19 W4 w.heap.size 0 (msg (fun _ => 0) none 0 0)) := R2.out.below F4
       have L4 : Hid (Lies W4 b off n f) := L2.out.below F4
       have B4 : Hid (Below w.heap.size w W4) := B2.out.trans (F4.mono B2.out.size)
       have H4 : Hid (Rec19 W4 W2.heap.size 0 (hcs h)) := hR4
       have c2 : W4.cell? ⟨W2.heap.size, 2, none⟩ = some (.int .i64 (h 2)) := (hR4.at 2 _ rfl).1
       have N4 : Hid (w.heap.size < W2.heap.size) := R2.out.2.2
       clear F4 hR3 hB3 hz3 hB4 hR4 R2 L2 B2)
    | (refine wpList_build_to rfl 29 _ rfl (msg (fun _ => 0) none 0 0).toArray (by kernel_rfl) ?_)
    | (refine wpList_store_rec rfl 29 (.tmp 2) (.tmp 29) rfl w.heap.size 0 _ (msg (fun _ => 0) none 0 0) rfl rfl R4.out rfl (by kernel_rfl) (msg_one _ _ _ _) ?_; intro W9 hR9 hB9))
  have hl := hR9.run_load 29 _ Tryd.underlying29 rfl (by kernel_rfl)
  refine bodyPost_ret (v := ME (fun _ => 0) none 0 4) (by simp [results, Tryd.results45, asAddr, hl]) rfl ⟨rfl, ?_⟩
  exact B4.out.trans (hB9.below (Nat.le_refl _) B4.out.size)
set_option maxRecDepth 100000 in
set_option maxHeartbeats 400000 in
theorem mopen_seal_mid (b off n C : Nat) (f : Nat → Int) (w : World) (hT : Tab w) (hL : Lies w b off n f) (hn : 256 ≤ n) (hC : n ≤ C) (hC2 : ¬ C = 256) (hm : n ≤ 1000000) (hc : headCode f = 0) (hs : hdrF f 2 = ((n - 256 : Nat) : Int)) (hb : bodySeal n f = false) :
    Calls Tryd.prog 45 #[.slice (some ⟨b, off, none⟩) n C] w fun e w' => e = .returned (ME (fun _ => 0) none 0 12) ∧ Below w.heap.size w w' := by
  have hT0 := hT.2
  have TT : Hid (Tab w) := hT
  have LL : Hid (Lies w b off n f) := hL
  have HC : Hid (headCode f = 0) := hc
  have hv : headVal f = hdrF f := by unfold headVal; rw [if_pos hc]
  generalize hdrF f = h at hv hs
  have HV : Hid (headVal f = h) := hv
  clear hc hv
  have s0 : h 2 = ((n - 256 : Nat) : Int) := by rw [hs]
  clear hs
  have BS : Hid (eqN 16 (sealF (n - 256) (fun j => f (256 + j))) (fun j => f (16 + j)) = false) := hb
  clear hb
  clear hT hL
  have k1 : ¬ (n : Int) < 256 := by omega
  have k2 : (256 : Int) ≤ n := by omega
  have k3 : (256 : Int) ≤ C := by omega
  go_enter Tryd.func45, Tryd.ntmps45
  go_wp2_with (first
    | (refine wpList_alloc_rec rfl 29 rfl (msg (fun _ => 0) none 0 0) w.heap.size rfl zeroMsg ?_; intro W1 hR1 hB1 hz1
       have L1 : Hid (Lies W1 b off n f) := LL.out.below hB1
       have L1' : Hid (Lies W1 b off 256 f) := (L1.out.part 0 256 (by omega)).zero
       have R1 : Hid (Rec19 W1 w.heap.size 0 (msg (fun _ => 0) none 0 0)) := hR1
       have B1 : Hid (Below w.heap.size w W1) := hB1
       clear hR1 hB1 hz1)
    | (go_at_call 43; refine (head_any b off C f _ (TT.out.below B1.out hT0) L1'.out (by omega)).mono ?_; rintro e W2 ⟨rfl, hB2⟩; rw [HV.out, HC.out]
       have R2 : Hid (Rec19 W2 w.heap.size 0 (msg (fun _ => 0) none 0 0)) := R1.out.below hB2
       have L2 : Hid (Lies W2 b off n f) := L1.out.below hB2
       have B2 : Hid (Below w.heap.size w W2) := B1.out.trans (hB2.mono B1.out.size)
       clear hB2)
    | (refine wpList_alloc_rec rfl 26 rfl (hcs fun _ => 0) W2.heap.size rfl zeroHdr ?_; intro W3 hR3 hB3 hz3)
    | (refine wpList_store_rec rfl 26 (.tmp 4) (.tmp 16) rfl W2.heap.size 0 _ (hcs h) rfl rfl hR3 rfl (by kernel_rfl) (hcs_one _) ?_; intro W4 hR4 hB4
       have F4 : Below W2.heap.size W2 W4 := hB3.trans (hB4.below (Nat.le_refl _) (by omega))
       have R4 : Hid (Rec19 W4 w.heap.size 0 (msg (fun _ => 0) none 0 0)) := R2.out.below F4
       have L4 : Hid (Lies W4 b off n f) := L2.out.below F4
       have B4 : Hid (Below w.heap.size w W4) := B2.out.trans (F4.mono B2.out.size)
       have H4 : Hid (Rec19 W4 W2.heap.size 0 (hcs h)) := hR4
       have c2 : W4.cell? ⟨W2.heap.size, 2, none⟩ = some (.int .i64 (h 2)) := (hR4.at 2 _ rfl).1
       have N4 : Hid (w.heap.size < W2.heap.size) := R2.out.2.2
       clear F4 hR3 hB3 hz3 hB4 hR4 R2 L2 B2)
    | (go_at_call 63; refine (sealAt16 b off n C f _ L4.out (by omega) (by omega)).mono ?_; rintro e W5 ⟨rfl, hB5⟩)
    | (go_at_call 62; refine (right16 (some ⟨b, off + 256, none⟩) (n - 256) (C - 256) (fun j => f (256 + j)) (fun j => f (16 + j)) _ (Arg.part (L4.out.below hB5) 256 (n - 256) (by omega)) (by omega) (by omega)).mono ?_; rintro e W6 ⟨rfl, hB6⟩; rw [BS.out]
       have F6 : Below W4.heap.size W4 W6 := hB5.trans (hB6.mono hB5.size)
       have R6 : Hid (Rec19 W6 w.heap.size 0 (msg (fun _ => 0) none 0 0)) := R4.out.below F6
       have L6 : Hid (Lies W6 b off n f) := L4.out.below F6
       have B6 : Hid (Below w.heap.size w W6) := B4.out.trans (F6.mono B4.out.size)
       have H6 : Hid (Rec19 W6 W2.heap.size 0 (hcs h)) := H4.out.below F6
       clear F6 hB5 hB6 R4 L4 B4 H4 c2)
    | (refine wpList_build_to rfl 29 _ rfl (msg (fun _ => 0) none 0 0).toArray (by kernel_rfl) ?_)
    | (refine wpList_store_rec rfl 29 (.tmp 2) (.tmp 35) rfl w.heap.size 0 _ (msg (fun _ => 0) none 0 0) rfl rfl R6.out rfl (by kernel_rfl) (msg_one _ _ _ _) ?_; intro W9 hR9 hB9))
  have hl := hR9.run_load 29 _ Tryd.underlying29 rfl (by kernel_rfl)
  refine bodyPost_ret (v := ME (fun _ => 0) none 0 12) (by simp [results, Tryd.results45, asAddr, hl]) rfl ⟨rfl, ?_⟩
  exact B6.out.trans (hB9.below (Nat.le_refl _) B6.out.size)
set_option maxRecDepth 100000 in
set_option maxHeartbeats 400000 in
theorem mopen_ok_mid (b off n C : Nat) (f : Nat → Int) (w : World) (hT : Tab w) (hL : Lies w b off n f) (hn : 256 ≤ n) (hC : n ≤ C) (hC2 : ¬ C = 256) (hm : n ≤ 1000000) (hc : headCode f = 0) (hs : hdrF f 2 = ((n - 256 : Nat) : Int)) (hb : bodySeal n f = true) :
    Calls Tryd.prog 45 #[.slice (some ⟨b, off, none⟩) n C] w fun e w' => ∃ g, e = .returned (ME (hdrF f) (some ⟨g, 0, none⟩) (n - 256) 0) ∧ w.heap.size ≤ g ∧ IRow w' g .u8 (n - 256) (fun j => f (256 + j)) ∧ Below w.heap.size w w' := by
  have hT0 := hT.2
  have TT : Hid (Tab w) := hT
  have LL : Hid (Lies w b off n f) := hL
  have HC : Hid (headCode f = 0) := hc
  have hv : headVal f = hdrF f := by unfold headVal; rw [if_pos hc]
  generalize hdrF f = h at hv hs ⊢
  have HV : Hid (headVal f = h) := hv
  clear hc hv
  have s0 : h 2 = ((n - 256 : Nat) : Int) := by rw [hs]
  clear hs
  have BS : Hid (eqN 16 (sealF (n - 256) (fun j => f (256 + j))) (fun j => f (16 + j)) = true) := hb
  clear hb
  clear hT hL
  have k1 : ¬ (n : Int) < 256 := by omega
  have k2 : (256 : Int) ≤ n := by omega
  have k3 : (256 : Int) ≤ C := by omega
  go_enter Tryd.func45, Tryd.ntmps45
  go_wp2_with (first
    | (refine wpList_alloc_rec rfl 29 rfl (msg (fun _ => 0) none 0 0) w.heap.size rfl zeroMsg ?_; intro W1 hR1 hB1 hz1
       have L1 : Hid (Lies W1 b off n f) := LL.out.below hB1
       have L1' : Hid (Lies W1 b off 256 f) := (L1.out.part 0 256 (by omega)).zero
       have R1 : Hid (Rec19 W1 w.heap.size 0 (msg (fun _ => 0) none 0 0)) := hR1
       have B1 : Hid (Below w.heap.size w W1) := hB1
       clear hR1 hB1 hz1)
    | (go_at_call 43; refine (head_any b off C f _ (TT.out.below B1.out hT0) L1'.out (by omega)).mono ?_; rintro e W2 ⟨rfl, hB2⟩; rw [HV.out, HC.out]
       have R2 : Hid (Rec19 W2 w.heap.size 0 (msg (fun _ => 0) none 0 0)) := R1.out.below hB2
       have L2 : Hid (Lies W2 b off n f) := L1.out.below hB2
       have B2 : Hid (Below w.heap.size w W2) := B1.out.trans (hB2.mono B1.out.size)
       clear hB2)
    | (refine wpList_alloc_rec rfl 26 rfl (hcs fun _ => 0) W2.heap.size rfl zeroHdr ?_; intro W3 hR3 hB3 hz3)
    | (refine wpList_store_rec rfl 26 (.tmp 4) (.tmp 16) rfl W2.heap.size 0 _ (hcs h) rfl rfl hR3 rfl (by kernel_rfl) (hcs_one _) ?_; intro W4 hR4 hB4
       have F4 : Below W2.heap.size W2 W4 := hB3.trans (hB4.below (Nat.le_refl _) (by omega))
       have R4 : Hid (Rec19 W4 w.heap.size 0 (msg (fun _ => 0) none 0 0)) := R2.out.below F4
       have L4 : Hid (Lies W4 b off n f) := L2.out.below F4
       have B4 : Hid (Below w.heap.size w W4) := B2.out.trans (F4.mono B2.out.size)
       have H4 : Hid (Rec19 W4 W2.heap.size 0 (hcs h)) := hR4
       have c2 : W4.cell? ⟨W2.heap.size, 2, none⟩ = some (.int .i64 (h 2)) := (hR4.at 2 _ rfl).1
       have N4 : Hid (w.heap.size < W2.heap.size) := R2.out.2.2
       clear F4 hR3 hB3 hz3 hB4 hR4 R2 L2 B2)
    | (go_at_call 63; refine (sealAt16 b off n C f _ L4.out (by omega) (by omega)).mono ?_; rintro e W5 ⟨rfl, hB5⟩)
    | (go_at_call 62; refine (right16 (some ⟨b, off + 256, none⟩) (n - 256) (C - 256) (fun j => f (256 + j)) (fun j => f (16 + j)) _ (Arg.part (L4.out.below hB5) 256 (n - 256) (by omega)) (by omega) (by omega)).mono ?_; rintro e W6 ⟨rfl, hB6⟩; rw [BS.out]
       have F6 : Below W4.heap.size W4 W6 := hB5.trans (hB6.mono hB5.size)
       have R6 : Hid (Rec19 W6 w.heap.size 0 (msg (fun _ => 0) none 0 0)) := R4.out.below F6
       have L6 : Hid (Lies W6 b off n f) := L4.out.below F6
       have B6 : Hid (Below w.heap.size w W6) := B4.out.trans (F6.mono B4.out.size)
       have H6 : Hid (Rec19 W6 W2.heap.size 0 (hcs h)) := H4.out.below F6
       clear F6 hB5 hB6 R4 L4 B4 H4 c2)
    | (refine wpList_make rfl (.tmp 37) (.tmp 37) rfl (n - 256) W6.heap.size rfl _ rfl rfl (by rfl) (by omega) ?_; intro X hRX hBX hzX
       obtain ⟨Y, hcY, hRY, hBY, hzY⟩ := copy_row X W6.heap.size (n - 256) 0 (n - 256) (n - 256) (n - 256) (C - 256) (n - 256) (some ⟨b, off + 256, none⟩) (fun j => f (256 + j)) (fun _ => 0) hRX (by omega) (Nat.min_self _).symm (Arg.part (L6.out.below hBX) 256 (n - 256) (by omega))
       have N6 : Hid (w.heap.size < W6.heap.size ∧ W2.heap.size < W6.heap.size) := ⟨R6.out.2.2, H6.out.2.2⟩
       have RY : Hid (Rec19 Y w.heap.size 0 (msg (fun _ => 0) none 0 0)) := (R6.out.below hBX).but hBY (by have := N6.out; omega)
       have HY : Hid (Rec19 Y W2.heap.size 0 (hcs h)) := (H6.out.below hBX).but hBY (by have := N6.out; omega)
       have BY : Hid (Below w.heap.size w Y) := (B6.out.trans (hBX.mono B6.out.size)).trans (hBY.below B6.out.size (by have := B6.out.size; omega))
       have QY : Hid (IRow Y W6.heap.size .u8 (n - 256) (over (fun _ => 0) 0 (n - 256) (fun j => f (256 + j)))) := hRY
       clear hRX hBX hzX hRY hBY hzY)
    | (at_builtin; refine wpList_copy_go rfl (.tmp 39) (.tmp 40) 27 27 rfl _ _ rfl rfl hcY ?_)
    | (refine wpList_load_rec rfl 26 (.tmp 4) rfl W2.heap.size 0 (hcs h) rfl _ Tryd.underlying26 rfl (by kernel_rfl) HY.out ?_)
    | (refine wpList_build_to rfl 29 _ rfl (msg h (some ⟨W6.heap.size, 0, none⟩) (n - 256) (n - 256)).toArray (by kernel_rfl) ?_)
    | (refine wpList_store_rec rfl 29 (.tmp 2) (.tmp 44) rfl w.heap.size 0 _ (msg h (some ⟨W6.heap.size, 0, none⟩) (n - 256) (n - 256)) rfl rfl RY.out rfl (by kernel_rfl) (msg_one _ _ _ _) ?_; intro W9 hR9 hB9))
  have hl := hR9.run_load 29 _ Tryd.underlying29 rfl (by kernel_rfl)
  refine bodyPost_ret (v := ME h (some ⟨W6.heap.size, 0, none⟩) (n - 256) 0) (by simp [results, Tryd.results45, asAddr, hl]) rfl ⟨W6.heap.size, rfl, B6.out.size, ?_, BY.out.trans (hB9.below (Nat.le_refl _) BY.out.size)⟩
  refine (QY.out.but hB9 (by have := N6.out; omega)).congr (fun j hj => ?_)
  unfold over
  rw [if_pos (by omega), Nat.sub_zero]
set_option maxRecDepth 100000 in
set_option maxHeartbeats 400000 in
theorem mopen_size_end (b off : Nat) (f : Nat → Int) (w : World) (hT : Tab w) (hL : Lies w b off 256 f) (hc : headCode f = 0) (hs : hdrF f 2 ≠ ((256 - 256 : Nat) : Int)) :
    Calls Tryd.prog 45 #[.slice (some ⟨b, off, none⟩) 256 256] w fun e w' => e = .returned (ME (fun _ => 0) none 0 4) ∧ Below w.heap.size w w' := by
  have hT0 := hT.2
  have TT : Hid (Tab w) := hT
  have LL : Hid (Lies w b off 256 f) := hL
  have HC : Hid (headCode f = 0) := hc
  have hv : headVal f = hdrF f := by unfold headVal; rw [if_pos hc]
  generalize hdrF f = h at hv hs
  have HV : Hid (headVal f = h) := hv
  clear hc hv
  have s0 : ((0 : Int) != h 2) = true := by simp; intro e; exact hs (by rw [← e]; rfl)
  clear hs
  clear hT hL
  go_enter Tryd.func45, Tryd.ntmps45
  go_wp2_with (first
    | (refine wpList_alloc_rec rfl 29 rfl (msg (fun _ => 0) none 0 0) w.heap.size rfl zeroMsg ?_; intro W1 hR1 hB1 hz1
       have L1 : Hid (Lies W1 b off 256 f) := LL.out.below hB1
       have L1' : Hid (Lies W1 b off 256 f) := (L1.out.part 0 256 (by omega)).zero
       have R1 : Hid (Rec19 W1 w.heap.size 0 (msg (fun _ => 0) none 0 0)) := hR1
       have B1 : Hid (Below w.heap.size w W1) := hB1
       clear hR1 hB1 hz1)
    | (go_at_call 43; refine (head_any b off 256 f _ (TT.out.below B1.out hT0) L1'.out (by omega)).mono ?_; rintro e W2 ⟨rfl, hB2⟩; rw [HV.out, HC.out]
       have R2 : Hid (Rec19 W2 w.heap.size 0 (msg (fun _ => 0) none 0 0)) := R1.out.below hB2
       have L2 : Hid (Lies W2 b off 256 f) := L1.out.below hB2
       have B2 : Hid (Below w.heap.size w W2) := B1.out.trans (hB2.mono B1.out.size)
       clear hB2)
    | (refine wpList_alloc_rec rfl 26 rfl (hcs fun _ => 0) W2.heap.size rfl zeroHdr ?_; intro W3 hR3 hB3 hz3)
    | (refine wpList_store_rec rfl 26 (.tmp 4) (.tmp 16) rfl W2.heap.size 0 _ (hcs h) rfl rfl hR3 rfl (by kernel_rfl) (hcs_one _) ?_; intro W4 hR4 hB4
       have F4 : Below W2.heap.size W2 W4 := hB3.trans (hB4.below (Nat.le_refl _) (by omega))
       have R4 : Hid (Rec19 W4 w.heap.size 0 (msg (fun _ => 0) none 0 0)) := R2.out.below F4
       have L4 : Hid (Lies W4 b off 256 f) := L2.out.below F4
       have B4 : Hid (Below w.heap.size w W4) := B2.out.trans (F4.mono B2.out.size)
       have H4 : Hid (Rec19 W4 W2.heap.size 0 (hcs h)) := hR4
       have c2 : W4.cell? ⟨W2.heap.size, 2, none⟩ = some (.int .i64 (h 2)) := (hR4.at 2 _ rfl).1
       have N4 : Hid (w.heap.size < W2.heap.size) := R2.out.2.2
       clear F4 hR3 hB3 hz3 hB4 hR4 R2 L2 B2)
    | (refine wpList_build_to rfl 29 _ rfl (msg (fun _ => 0) none 0 0).toArray (by kernel_rfl) ?_)
    | (refine wpList_store_rec rfl 29 (.tmp 2) (.tmp 29) rfl w.heap.size 0 _ (msg (fun _ => 0) none 0 0) rfl rfl R4.out rfl (by kernel_rfl) (msg_one _ _ _ _) ?_; intro W9 hR9 hB9))
  have hl := hR9.run_load 29 _ Tryd.underlying29 rfl (by kernel_rfl)
  refine bodyPost_ret (v := ME (fun _ => 0) none 0 4) (by simp [results, Tryd.results45, asAddr, hl]) rfl ⟨rfl, ?_⟩
  exact B4.out.trans (hB9.below (Nat.le_refl _) B4.out.size)
set_option maxRecDepth 100000 in
set_option maxHeartbeats 400000 in
theorem mopen_seal_end (b off : Nat) (f : Nat → Int) (w : World) (hT : Tab w) (hL : Lies w b off 256 f) (hc : headCode f = 0) (hs : hdrF f 2 = ((256 - 256 : Nat) : Int)) (hb : bodySeal 256 f = false) :
    Calls Tryd.prog 45 #[.slice (some ⟨b, off, none⟩) 256 256] w fun e w' => e = .returned (ME (fun _ => 0) none 0 12) ∧ Below w.heap.size w w' := by
  have hT0 := hT.2
  have TT : Hid (Tab w) := hT
  have LL : Hid (Lies w b off 256 f) := hL
  have HC : Hid (headCode f = 0) := hc
  have hv : headVal f = hdrF f := by unfold headVal; rw [if_pos hc]
  generalize hdrF f = h at hv hs
  have HV : Hid (headVal f = h) := hv
  clear hc hv
  have s0 : h 2 = 0 := by rw [hs]; rfl
  clear hs
  have BS : Hid (eqN 16 (sealF 0 (fun j => f (256 + j))) (fun j => f (16 + j)) = false) := hb
  clear hb
  clear hT hL
  go_enter Tryd.func45, Tryd.ntmps45
  go_wp2_with (first
    | (refine wpList_alloc_rec rfl 29 rfl (msg (fun _ => 0) none 0 0) w.heap.size rfl zeroMsg ?_; intro W1 hR1 hB1 hz1
       have L1 : Hid (Lies W1 b off 256 f) := LL.out.below hB1
       have L1' : Hid (Lies W1 b off 256 f) := (L1.out.part 0 256 (by omega)).zero
       have R1 : Hid (Rec19 W1 w.heap.size 0 (msg (fun _ => 0) none 0 0)) := hR1
       have B1 : Hid (Below w.heap.size w W1) := hB1
       clear hR1 hB1 hz1)
    | (go_at_call 43; refine (head_any b off 256 f _ (TT.out.below B1.out hT0) L1'.out (by omega)).mono ?_; rintro e W2 ⟨rfl, hB2⟩; rw [HV.out, HC.out]
       have R2 : Hid (Rec19 W2 w.heap.size 0 (msg (fun _ => 0) none 0 0)) := R1.out.below hB2
       have L2 : Hid (Lies W2 b off 256 f) := L1.out.below hB2
       have B2 : Hid (Below w.heap.size w W2) := B1.out.trans (hB2.mono B1.out.size)
       clear hB2)
    | (refine wpList_alloc_rec rfl 26 rfl (hcs fun _ => 0) W2.heap.size rfl zeroHdr ?_; intro W3 hR3 hB3 hz3)
    | (refine wpList_store_rec rfl 26 (.tmp 4) (.tmp 16) rfl W2.heap.size 0 _ (hcs h) rfl rfl hR3 rfl (by kernel_rfl) (hcs_one _) ?_; intro W4 hR4 hB4
       have F4 : Below W2.heap.size W2 W4 := hB3.trans (hB4.below (Nat.le_refl _) (by omega))
       have R4 : Hid (Rec19 W4 w.heap.size 0 (msg (fun _ => 0) none 0 0)) := R2.out.below F4
       have L4 : Hid (Lies W4 b off 256 f) := L2.out.below F4
       have B4 : Hid (Below w.heap.size w W4) := B2.out.trans (F4.mono B2.out.size)
       have H4 : Hid (Rec19 W4 W2.heap.size 0 (hcs h)) := hR4
       have c2 : W4.cell? ⟨W2.heap.size, 2, none⟩ = some (.int .i64 (h 2)) := (hR4.at 2 _ rfl).1
       have N4 : Hid (w.heap.size < W2.heap.size) := R2.out.2.2
       clear F4 hR3 hB3 hz3 hB4 hR4 R2 L2 B2)
    | (go_at_call 63; refine (sealAt16 b off 256 256 f _ L4.out (by omega) (by omega)).mono ?_; rintro e W5 ⟨rfl, hB5⟩)
    | (go_at_call 62; refine (right16 (some ⟨b, off, none⟩) 0 0 (fun j => f (256 + j)) (fun j => f (16 + j)) _ (.inl ⟨rfl, .inr ⟨_, rfl⟩⟩ : Arg _ _ 0 _) (by omega) (by omega)).mono ?_; rintro e W6 ⟨rfl, hB6⟩; rw [BS.out]
       have F6 : Below W4.heap.size W4 W6 := hB5.trans (hB6.mono hB5.size)
       have R6 : Hid (Rec19 W6 w.heap.size 0 (msg (fun _ => 0) none 0 0)) := R4.out.below F6
       have L6 : Hid (Lies W6 b off 256 f) := L4.out.below F6
       have B6 : Hid (Below w.heap.size w W6) := B4.out.trans (F6.mono B4.out.size)
       have H6 : Hid (Rec19 W6 W2.heap.size 0 (hcs h)) := H4.out.below F6
       clear F6 hB5 hB6 R4 L4 B4 H4 c2)
    | (refine wpList_build_to rfl 29 _ rfl (msg (fun _ => 0) none 0 0).toArray (by kernel_rfl) ?_)
    | (refine wpList_store_rec rfl 29 (.tmp 2) (.tmp 35) rfl w.heap.size 0 _ (msg (fun _ => 0) none 0 0) rfl rfl R6.out rfl (by kernel_rfl) (msg_one _ _ _ _) ?_; intro W9 hR9 hB9))
  have hl := hR9.run_load 29 _ Tryd.underlying29 rfl (by kernel_rfl)
  refine bodyPost_ret (v := ME (fun _ => 0) none 0 12) (by simp [results, Tryd.results45, asAddr, hl]) rfl ⟨rfl, ?_⟩
  exact B6.out.trans (hB9.below (Nat.le_refl _) B6.out.size)
set_option maxRecDepth 100000 in
set_option maxHeartbeats 400000 in
theorem mopen_ok_end (b off : Nat) (f : Nat → Int) (w : World) (hT : Tab w) (hL : Lies w b off 256 f) (hc : headCode f = 0) (hs : hdrF f 2 = ((256 - 256 : Nat) : Int)) (hb : bodySeal 256 f = true) :
    Calls Tryd.prog 45 #[.slice (some ⟨b, off, none⟩) 256 256] w fun e w' => ∃ g, e = .returned (ME (hdrF f) (some ⟨g, 0, none⟩) (256 - 256) 0) ∧ w.heap.size ≤ g ∧ IRow w' g .u8 (256 - 256) (fun j => f (256 + j)) ∧ Below w.heap.size w w' := by
  have hT0 := hT.2
  have TT : Hid (Tab w) := hT
  have LL : Hid (Lies w b off 256 f) := hL
  have HC : Hid (headCode f = 0) := hc
  have hv : headVal f = hdrF f := by unfold headVal; rw [if_pos hc]
  generalize hdrF f = h at hv hs ⊢
  have HV : Hid (headVal f = h) := hv
  clear hc hv
  have s0 : h 2 = 0 := by rw [hs]; rfl
  clear hs
  have BS : Hid (eqN 16 (sealF 0 (fun j => f (256 + j))) (fun j => f (16 + j)) = true) := hb
  clear hb
  clear hT hL
  go_enter Tryd.func45, Tryd.ntmps45
  go_wp2_with (first
    | (refine wpList_alloc_rec rfl 29 rfl (msg (fun _ => 0) none 0 0) w.heap.size rfl zeroMsg ?_; intro W1 hR1 hB1 hz1
       have L1 : Hid (Lies W1 b off 256 f) := LL.out.below hB1
       have L1' : Hid (Lies W1 b off 256 f) := (L1.out.part 0 256 (by omega)).zero
       have R1 : Hid (Rec19 W1 w.heap.size 0 (msg (fun _ => 0) none 0 0)) := hR1
       have B1 : Hid (Below w.heap.size w W1) := hB1
       clear hR1 hB1 hz1)
    | (go_at_call 43; refine (head_any b off 256 f _ (TT.out.below B1.out hT0) L1'.out (by omega)).mono ?_; rintro e W2 ⟨rfl, hB2⟩; rw [HV.out, HC.out]
       have R2 : Hid (Rec19 W2 w.heap.size 0 (msg (fun _ => 0) none 0 0)) := R1.out.below hB2
       have L2 : Hid (Lies W2 b off 256 f) := L1.out.below hB2
       have B2 : Hid (Below w.heap.size w W2) := B1.out.trans (hB2.mono B1.out.size)
       clear hB2)
    | (refine wpList_alloc_rec rfl 26 rfl (hcs fun _ => 0) W2.heap.size rfl zeroHdr ?_; intro W3 hR3 hB3 hz3)
    | (refine wpList_store_rec rfl 26 (.tmp 4) (.tmp 16) rfl W2.heap.size 0 _ (hcs h) rfl rfl hR3 rfl (by kernel_rfl) (hcs_one _) ?_; intro W4 hR4 hB4
       have F4 : Below W2.heap.size W2 W4 := hB3.trans (hB4.below (Nat.le_refl _) (by omega))
       have R4 : Hid (Rec19 W4 w.heap.size 0 (msg (fun _ => 0) none 0 0)) := R2.out.below F4
       have L4 : Hid (Lies W4 b off 256 f) := L2.out.below F4
       have B4 : Hid (Below w.heap.size w W4) := B2.out.trans (F4.mono B2.out.size)
       have H4 : Hid (Rec19 W4 W2.heap.size 0 (hcs h)) := hR4
       have c2 : W4.cell? ⟨W2.heap.size, 2, none⟩ = some (.int .i64 (h 2)) := (hR4.at 2 _ rfl).1
       have N4 : Hid (w.heap.size < W2.heap.size) := R2.out.2.2
       clear F4 hR3 hB3 hz3 hB4 hR4 R2 L2 B2)
    | (go_at_call 63; refine (sealAt16 b off 256 256 f _ L4.out (by omega) (by omega)).mono ?_; rintro e W5 ⟨rfl, hB5⟩)
    | (go_at_call 62; refine (right16 (some ⟨b, off, none⟩) 0 0 (fun j => f (256 + j)) (fun j => f (16 + j)) _ (.inl ⟨rfl, .inr ⟨_, rfl⟩⟩ : Arg _ _ 0 _) (by omega) (by omega)).mono ?_; rintro e W6 ⟨rfl, hB6⟩; rw [BS.out]
       have F6 : Below W4.heap.size W4 W6 := hB5.trans (hB6.mono hB5.size)
       have R6 : Hid (Rec19 W6 w.heap.size 0 (msg (fun _ => 0) none 0 0)) := R4.out.below F6
       have L6 : Hid (Lies W6 b off 256 f) := L4.out.below F6
       have B6 : Hid (Below w.heap.size w W6) := B4.out.trans (F6.mono B4.out.size)
       have H6 : Hid (Rec19 W6 W2.heap.size 0 (hcs h)) := H4.out.below F6
       clear F6 hB5 hB6 R4 L4 B4 H4 c2)
    | (refine wpList_make rfl (.tmp 37) (.tmp 37) rfl 0 W6.heap.size rfl _ rfl rfl (by rfl) (by omega) ?_; intro X hRX hBX hzX
       obtain ⟨Y, hcY, hRY, hBY, hzY⟩ := copy_row X W6.heap.size 0 0 0 0 0 0 0 (some ⟨b, off, none⟩) (fun j => f (256 + j)) (fun _ => 0) hRX (by omega) (Nat.min_self _).symm (.inl ⟨rfl, .inr ⟨_, rfl⟩⟩ : Arg _ _ 0 _)
       have N6 : Hid (w.heap.size < W6.heap.size ∧ W2.heap.size < W6.heap.size) := ⟨R6.out.2.2, H6.out.2.2⟩
       have RY : Hid (Rec19 Y w.heap.size 0 (msg (fun _ => 0) none 0 0)) := (R6.out.below hBX).but hBY (by have := N6.out; omega)
       have HY : Hid (Rec19 Y W2.heap.size 0 (hcs h)) := (H6.out.below hBX).but hBY (by have := N6.out; omega)
       have BY : Hid (Below w.heap.size w Y) := (B6.out.trans (hBX.mono B6.out.size)).trans (hBY.below B6.out.size (by have := B6.out.size; omega))
       have QY : Hid (IRow Y W6.heap.size .u8 0 (over (fun _ => 0) 0 0 (fun j => f (256 + j)))) := hRY
       clear hRX hBX hzX hRY hBY hzY)
    | (at_builtin; refine wpList_copy_go rfl (.tmp 39) (.tmp 40) 27 27 rfl _ _ rfl rfl hcY ?_)
    | (refine wpList_load_rec rfl 26 (.tmp 4) rfl W2.heap.size 0 (hcs h) rfl _ Tryd.underlying26 rfl (by kernel_rfl) HY.out ?_)
    | (refine wpList_build_to rfl 29 _ rfl (msg h (some ⟨W6.heap.size, 0, none⟩) 0 0).toArray (by kernel_rfl) ?_)
    | (refine wpList_store_rec rfl 29 (.tmp 2) (.tmp 44) rfl w.heap.size 0 _ (msg h (some ⟨W6.heap.size, 0, none⟩) 0 0) rfl rfl RY.out rfl (by kernel_rfl) (msg_one _ _ _ _) ?_; intro W9 hR9 hB9))
  have hl := hR9.run_load 29 _ Tryd.underlying29 rfl (by kernel_rfl)
  refine bodyPost_ret (v := ME h (some ⟨W6.heap.size, 0, none⟩) 0 0) (by simp [results, Tryd.results45, asAddr, hl]) rfl ⟨W6.heap.size, rfl, B6.out.size, ?_, BY.out.trans (hB9.below (Nat.le_refl _) BY.out.size)⟩
  refine (QY.out.but hB9 (by have := N6.out; omega)).congr (fun j hj => ?_)
  unfold over
  rw [if_pos (by omega), Nat.sub_zero]
end Go.Proofs.YtijpoipcadhchaaDoor
