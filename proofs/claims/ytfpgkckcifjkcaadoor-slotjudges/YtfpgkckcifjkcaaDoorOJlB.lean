/-
  Proved: SlotJudges: for all bytes of a header's sector and of a slot and every slot, in whatever memory in which the program's table of fields is as its text lays it, on every schedule, the statement's function returns true: Prepare and Judge answer as the document's answer does, in new memory, and leave the bytes and what lies behind them as they were. The table is tied to the program's text (the card).
-/
import Derived.Test.YtfpgkckcifjkcaaDoorCBeh
import Derived.Test.YtfpgkckcifjkcaaDoorNHead
import Derived.Test.YtfpgkckcifjkcaaDoorNGate
import Derived.Test.YtfpgkckcifjkcaaDoorOJlA
import Derived.Test.YtfpgkckcifjkcaaDoorBArg
import Derived.Test.YtfpgkckcifjkcaaDoorMFrame
import Derived.Test.YtfpgkckcifjkcaaDoorBFrame
import Derived.Test.YtfpgkckcifjkcaaDoorTie
import Derived.Test.YtfpgkckcifjkcaaDoorCards
namespace Go.Proofs.YtfpgkckcifjkcaaDoor
open Go.RowKit
theorem build_run {a : Act} {w : World} {o : Oper} (t : TypeId) (parts : Array (Nat × Operand)) (ho : o.op = .build t parts) (cells : Array Value) (hf : Tryd.prog.built t (parts.map fun (i, x) => (i, a.eval x)).toList = some cells) :
    (execOp a.eval o).run Tryd.prog w = .ok (.value (.agg cells)) w := by
  unfold execOp
  simp only [ho, Sem.run_bind, run_build w t _ cells hf, Result.andThen_ok]
  rfl
end Go.Proofs.YtfpgkckcifjkcaaDoor
namespace Go.Proofs.YtfpgkckcifjkcaaDoor
open Go.RowKit
set_option maxRecDepth 100000 in
/-- An empty slice's run. -/
theorem bslice_run {a : Act} {w : World} {o : Oper} (hop : o.op = .buildSlice 27 0 #[]) : (execOp a.eval o).run Tryd.prog w = .ok (.value (.slice (some ⟨w.heap.size, 0, none⟩) 0 0)) (w.alloc (.cells #[] 5)) := by
  obtain ⟨ie, hie, _, _, _⟩ := info_parts info_u8
  have hu : Tryd.prog.underlying 27 = some (.slice 5) := Tryd.underlying27
  unfold execOp
  simp [hop, Instr.buildSlice, run_underlying hu, sizeOf, typeInfo, hie, newRow, Instr.fill, Result.andThen]
  congr 2
  exact Array.eq_empty_of_size_eq_zero (by simp)
/-- What the last region must keep. -/
def noS (w : World) (q : Nat) (h : Nat → Int) (a : Option Addr) (L : Nat) (F : Nat → Int) (W : World) : Prop := Rec19 W q 0 (hcs h) ∧ Rec19 W w.heap.size 0 (msg (fun _ => 0) none 0 0) ∧ Arg W a L F ∧ Below w.heap.size w W
theorem noS.below {w : World} {q : Nat} {h : Nat → Int} {a : Option Addr} {L : Nat} {F : Nat → Int} {W W' : World} (s : noS w q h a L F W) (hB : Below W.heap.size W W') : noS w q h a L F W' :=
  ⟨s.1.below hB, s.2.1.below hB, s.2.2.1.below hB, s.2.2.2.trans (hB.mono s.2.2.2.size)⟩
/-- The reference's answer: a message and a number. -/
abbrev MC (h : Nat → Int) (a : Option Addr) (n cap : Nat) (e : Int) : Value := .tuple #[.agg (msg h a n cap).toArray, .int .i64 e]
set_option maxRecDepth 100000 in
set_option maxHeartbeats 400000 in
theorem nopen_few (a : Option Addr) (n C : Nat) (w : World) (hn : n < 256) :
    Calls Tryd.prog 39 #[.slice a n C] w fun e w' => e = .returned (MC (fun _ => 0) none 0 0 4) ∧ Below w.heap.size w w' := by
  have e1 : (n : Int) < 256 := by omega
  go_enter Tryd.func39, Tryd.ntmps39
  go_wp2_with (first
    | (refine wpList_alloc_rec rfl 29 rfl (msg (fun _ => 0) none 0 0) w.heap.size rfl zeroMsg ?_; intro W1 hR1 hB1 hz1)
    | (refine wpList_build_to rfl 29 _ rfl (msg (fun _ => 0) none 0 0).toArray (by kernel_rfl) ?_)
    | (refine wpList_store_rec rfl 29 (.tmp 2) (.tmp 11) rfl w.heap.size 0 _ (msg (fun _ => 0) none 0 0) rfl rfl hR1 rfl (by kernel_rfl) (msg_one _ _ _ _) ?_; intro W2 hR2 hB2))
  have hl := hR2.run_load 29 _ Tryd.underlying29 rfl (by kernel_rfl)
  refine bodyPost_ret (v := MC (fun _ => 0) none 0 0 4) (by simp [results, Tryd.results39, asAddr, hl]) rfl ⟨rfl, ?_⟩
  exact hB1.trans (hB2.below (Nat.le_refl _) (by omega))
set_option maxRecDepth 100000 in
set_option maxHeartbeats 400000 in
theorem nopen_head (b off n C : Nat) (f : Nat → Int) (w : World) (hL : Lies w b off n f) (hn : 256 ≤ n) (hC : n ≤ C) (c : Int) (hc : headCode f = c) (h0 : c ≠ 0) :
    Calls Tryd.prog 39 #[.slice (some ⟨b, off, none⟩) n C] w fun e w' => e = .returned (MC (fun _ => 0) none 0 0 c) ∧ Below w.heap.size w w' := by
  have LL : Hid (Lies w b off n f) := hL
  have HC : Hid (headCode f = c) := hc
  obtain ⟨h, hh⟩ : ∃ h, headVal f = h := ⟨_, rfl⟩
  have HV : Hid (headVal f = h) := hh
  have c0 : (c != 0) = true := by simpa using h0
  clear hc hh h0
  clear hL
  have k1 : ¬ (n : Int) < 256 := by omega
  have k2 : (256 : Int) ≤ n := by omega
  have k3 : (256 : Int) ≤ C := by omega
  have k4 : (16 : Int) ≤ C := by omega
  have k5 : (32 : Int) ≤ C := by omega
  have k6 : ¬ C = 16 := by omega
  go_enter Tryd.func39, Tryd.ntmps39
  go_wp2_with (first
    | (refine wpList_alloc_rec rfl 29 rfl (msg (fun _ => 0) none 0 0) w.heap.size rfl zeroMsg ?_; intro W1 hR1 hB1 hz1
       have L1 : Hid (Lies W1 b off n f) := LL.out.below hB1
       have L1' : Hid (Lies W1 b off 256 f) := (L1.out.part 0 256 (by omega)).zero
       have R1 : Hid (Rec19 W1 w.heap.size 0 (msg (fun _ => 0) none 0 0)) := hR1
       have B1 : Hid (Below w.heap.size w W1) := hB1
       clear hR1 hB1 hz1)
    | (go_at_call 38; refine (nhead_any b off C f _ L1'.out (by omega)).mono ?_; rintro e W2 ⟨rfl, hB2⟩; rw [HV.out, HC.out]
       have R2 : Hid (Rec19 W2 w.heap.size 0 (msg (fun _ => 0) none 0 0)) := R1.out.below hB2
       have L2 : Hid (Lies W2 b off n f) := L1.out.below hB2
       have B2 : Hid (Below w.heap.size w W2) := B1.out.trans (hB2.mono B1.out.size)
       clear hB2)
    | (refine wpList_alloc_rec rfl 26 rfl (hcs fun _ => 0) W2.heap.size rfl zeroHdr ?_; intro W3 hR3 hB3 hz3)
    | (refine wpList_store_rec rfl 26 (.tmp 4) (.tmp 16) rfl W2.heap.size 0 _ (hcs h) rfl rfl hR3 rfl (by kernel_rfl) (hcs_one _) ?_; intro W4 hR4 hB4
       have F4 : Below W2.heap.size W2 W4 := hB3.trans (hB4.below (Nat.le_refl _) (by omega))
       have R4 : Hid (Rec19 W4 w.heap.size 0 (msg (fun _ => 0) none 0 0)) := R2.out.below F4
       have L4 : Hid (Lies W4 b off n f) := L2.out.below F4
       have B4 : Hid (Below w.heap.size w W4) := B2.out.trans (F4.mono B2.out.size)
       have H4 : Hid (Rec19 W4 W2.heap.size 0 (hcs h)) := hR4
       have c2 : W4.cell? ⟨W2.heap.size, 2, none⟩ = some (.int .i64 (h 2)) := (hR4.at 2 _ rfl).1
       have N4 : Hid (w.heap.size < W2.heap.size) := R2.out.2.2
       clear F4 hR3 hB3 hz3 hB4 hR4 R2 L2 B2)
    | (refine wpList_build_to rfl 29 _ rfl (msg (fun _ => 0) none 0 0).toArray (by kernel_rfl) ?_)
    | (refine wpList_store_rec rfl 29 (.tmp 2) (.tmp 20) rfl w.heap.size 0 _ (msg (fun _ => 0) none 0 0) rfl rfl R4.out rfl (by kernel_rfl) (msg_one _ _ _ _) ?_; intro W9 hR9 hB9))
  have hl := hR9.run_load 29 _ Tryd.underlying29 rfl (by kernel_rfl)
  refine bodyPost_ret (v := MC (fun _ => 0) none 0 0 c) (by simp [results, Tryd.results39, asAddr, hl]) rfl ⟨rfl, ?_⟩
  exact B4.out.trans (hB9.below (Nat.le_refl _) B4.out.size)
set_option maxRecDepth 100000 in
set_option maxHeartbeats 400000 in
theorem nopen_size_mid (b off n C : Nat) (f : Nat → Int) (w : World) (hL : Lies w b off n f) (hn : 256 ≤ n) (hC : n ≤ C) (hC2 : ¬ C = 256) (hm : n ≤ 900000) (hc : headCode f = 0) (hs : hdrF f 2 ≠ ((n - 256 : Nat) : Int)) :
    Calls Tryd.prog 39 #[.slice (some ⟨b, off, none⟩) n C] w fun e w' => e = .returned (MC (fun _ => 0) none 0 0 4) ∧ Below w.heap.size w w' := by
  have LL : Hid (Lies w b off n f) := hL
  have HC : Hid (headCode f = 0) := hc
  have hv : headVal f = hdrF f := by unfold headVal; rw [if_pos hc]
  generalize hdrF f = h at hv hs
  have HV : Hid (headVal f = h) := hv
  clear hc hv
  have s0 : (((n - 256 : Nat) : Int) != h 2) = true := by simp; intro e; exact hs (by rw [← e])
  clear hs
  clear hL
  have k1 : ¬ (n : Int) < 256 := by omega
  have k2 : (256 : Int) ≤ n := by omega
  have k3 : (256 : Int) ≤ C := by omega
  have k4 : (16 : Int) ≤ C := by omega
  have k5 : (32 : Int) ≤ C := by omega
  have k6 : ¬ C = 16 := by omega
  go_enter Tryd.func39, Tryd.ntmps39
  go_wp2_with (first
    | (refine wpList_alloc_rec rfl 29 rfl (msg (fun _ => 0) none 0 0) w.heap.size rfl zeroMsg ?_; intro W1 hR1 hB1 hz1
       have L1 : Hid (Lies W1 b off n f) := LL.out.below hB1
       have L1' : Hid (Lies W1 b off 256 f) := (L1.out.part 0 256 (by omega)).zero
       have R1 : Hid (Rec19 W1 w.heap.size 0 (msg (fun _ => 0) none 0 0)) := hR1
       have B1 : Hid (Below w.heap.size w W1) := hB1
       clear hR1 hB1 hz1)
    | (go_at_call 38; refine (nhead_any b off C f _ L1'.out (by omega)).mono ?_; rintro e W2 ⟨rfl, hB2⟩; rw [HV.out, HC.out]
       have R2 : Hid (Rec19 W2 w.heap.size 0 (msg (fun _ => 0) none 0 0)) := R1.out.below hB2
       have L2 : Hid (Lies W2 b off n f) := L1.out.below hB2
       have B2 : Hid (Below w.heap.size w W2) := B1.out.trans (hB2.mono B1.out.size)
       clear hB2)
    | (refine wpList_alloc_rec rfl 26 rfl (hcs fun _ => 0) W2.heap.size rfl zeroHdr ?_; intro W3 hR3 hB3 hz3)
    | (refine wpList_store_rec rfl 26 (.tmp 4) (.tmp 16) rfl W2.heap.size 0 _ (hcs h) rfl rfl hR3 rfl (by kernel_rfl) (hcs_one _) ?_; intro W4 hR4 hB4
       have F4 : Below W2.heap.size W2 W4 := hB3.trans (hB4.below (Nat.le_refl _) (by omega))
       have R4 : Hid (Rec19 W4 w.heap.size 0 (msg (fun _ => 0) none 0 0)) := R2.out.below F4
       have L4 : Hid (Lies W4 b off n f) := L2.out.below F4
       have B4 : Hid (Below w.heap.size w W4) := B2.out.trans (F4.mono B2.out.size)
       have H4 : Hid (Rec19 W4 W2.heap.size 0 (hcs h)) := hR4
       have c2 : W4.cell? ⟨W2.heap.size, 2, none⟩ = some (.int .i64 (h 2)) := (hR4.at 2 _ rfl).1
       have N4 : Hid (w.heap.size < W2.heap.size) := R2.out.2.2
       clear F4 hR3 hB3 hz3 hB4 hR4 R2 L2 B2)
    | (refine wpList_build_to rfl 29 _ rfl (msg (fun _ => 0) none 0 0).toArray (by kernel_rfl) ?_)
    | (refine wpList_store_rec rfl 29 (.tmp 2) (.tmp 29) rfl w.heap.size 0 _ (msg (fun _ => 0) none 0 0) rfl rfl R4.out rfl (by kernel_rfl) (msg_one _ _ _ _) ?_; intro W9 hR9 hB9))
  have hl := hR9.run_load 29 _ Tryd.underlying29 rfl (by kernel_rfl)
  refine bodyPost_ret (v := MC (fun _ => 0) none 0 0 4) (by simp [results, Tryd.results39, asAddr, hl]) rfl ⟨rfl, ?_⟩
  exact B4.out.trans (hB9.below (Nat.le_refl _) B4.out.size)
set_option maxRecDepth 100000 in
set_option maxHeartbeats 400000 in
theorem nopen_seal_mid (b off n C : Nat) (f : Nat → Int) (w : World) (hL : Lies w b off n f) (hn : 256 ≤ n) (hC : n ≤ C) (hC2 : ¬ C = 256) (hm : n ≤ 900000) (hc : headCode f = 0) (hs : hdrF f 2 = ((n - 256 : Nat) : Int)) (hb : bodySeal n f = false) :
    Calls Tryd.prog 39 #[.slice (some ⟨b, off, none⟩) n C] w fun e w' => e = .returned (MC (fun _ => 0) none 0 0 12) ∧ Below w.heap.size w w' := by
  have LL : Hid (Lies w b off n f) := hL
  have HC : Hid (headCode f = 0) := hc
  have hv : headVal f = hdrF f := by unfold headVal; rw [if_pos hc]
  generalize hdrF f = h at hv hs
  have HV : Hid (headVal f = h) := hv
  clear hc hv
  have s0 : h 2 = ((n - 256 : Nat) : Int) := by rw [hs]
  clear hs
  have HTX : Hid (((txtN 16 (sealF (n - 256) (fun j => f (256 + j)))).toList == (txtN 16 (fun j => f (16 + j))).toList) = false) := by
    show _ = false
    rw [bytes_beq]
    exact txt_ne (fun j hj => LL.out.2.1 (16 + j) (by omega)) hb
  clear hb
  clear hL
  have k1 : ¬ (n : Int) < 256 := by omega
  have k2 : (256 : Int) ≤ n := by omega
  have k3 : (256 : Int) ≤ C := by omega
  have k4 : (16 : Int) ≤ C := by omega
  have k5 : (32 : Int) ≤ C := by omega
  have k6 : ¬ C = 16 := by omega
  go_enter Tryd.func39, Tryd.ntmps39
  go_wp2_with (first
    | (refine wpList_alloc_rec rfl 29 rfl (msg (fun _ => 0) none 0 0) w.heap.size rfl zeroMsg ?_; intro W1 hR1 hB1 hz1
       have L1 : Hid (Lies W1 b off n f) := LL.out.below hB1
       have L1' : Hid (Lies W1 b off 256 f) := (L1.out.part 0 256 (by omega)).zero
       have R1 : Hid (Rec19 W1 w.heap.size 0 (msg (fun _ => 0) none 0 0)) := hR1
       have B1 : Hid (Below w.heap.size w W1) := hB1
       clear hR1 hB1 hz1)
    | (go_at_call 38; refine (nhead_any b off C f _ L1'.out (by omega)).mono ?_; rintro e W2 ⟨rfl, hB2⟩; rw [HV.out, HC.out]
       have R2 : Hid (Rec19 W2 w.heap.size 0 (msg (fun _ => 0) none 0 0)) := R1.out.below hB2
       have L2 : Hid (Lies W2 b off n f) := L1.out.below hB2
       have B2 : Hid (Below w.heap.size w W2) := B1.out.trans (hB2.mono B1.out.size)
       clear hB2)
    | (refine wpList_alloc_rec rfl 26 rfl (hcs fun _ => 0) W2.heap.size rfl zeroHdr ?_; intro W3 hR3 hB3 hz3)
    | (refine wpList_store_rec rfl 26 (.tmp 4) (.tmp 16) rfl W2.heap.size 0 _ (hcs h) rfl rfl hR3 rfl (by kernel_rfl) (hcs_one _) ?_; intro W4 hR4 hB4
       have F4 : Below W2.heap.size W2 W4 := hB3.trans (hB4.below (Nat.le_refl _) (by omega))
       have R4 : Hid (Rec19 W4 w.heap.size 0 (msg (fun _ => 0) none 0 0)) := R2.out.below F4
       have L4 : Hid (Lies W4 b off n f) := L2.out.below F4
       have B4 : Hid (Below w.heap.size w W4) := B2.out.trans (F4.mono B2.out.size)
       have H4 : Hid (Rec19 W4 W2.heap.size 0 (hcs h)) := hR4
       have c2 : W4.cell? ⟨W2.heap.size, 2, none⟩ = some (.int .i64 (h 2)) := (hR4.at 2 _ rfl).1
       have N4 : Hid (w.heap.size < W2.heap.size) := R2.out.2.2
       clear F4 hR3 hB3 hz3 hB4 hR4 R2 L2 B2)
    | (go_at_call 57; refine (hsum_any (some ⟨b, off + 256, none⟩) (n - 256) (C - 256) (fun j => f (256 + j)) _ (Arg.part L4.out 256 (n - 256) (by omega)) (by omega)).mono ?_; rintro e W5 ⟨rfl, hB5⟩
       have R5 : Hid (Rec19 W5 w.heap.size 0 (msg (fun _ => 0) none 0 0)) := R4.out.below hB5
       have L5 : Hid (Lies W5 b off n f) := L4.out.below hB5
       have B5 : Hid (Below w.heap.size w W5) := B4.out.trans (hB5.mono B4.out.size)
       have H5 : Hid (Rec19 W5 W2.heap.size 0 (hcs h)) := H4.out.below hB5
       clear hB5 R4 L4 B4 H4 c2)
    | (refine wpList_alloc_row rfl 75 rfl .u8 16 W5.heap.size rfl zero8_16 ?_; intro X1 QX BX zX)
    | (refine wpList_store_row rfl 75 (.tmp 7) (.tmp 31) rfl W5.heap.size .u8 16 (sealF (n - 256) (fun j => f (256 + j))) (fun _ => 0) rfl rfl QX (by kernel_rfl) ?_; intro X2 QY BY zY))
  have K2 : Below W5.heap.size W5 X2 := BX.trans (BY.below (Nat.le_refl _) (by omega))
  have R6 : Hid (Rec19 X2.drew w.heap.size 0 (msg (fun _ => 0) none 0 0)) := R5.out.below K2.drew
  have L6 : Hid (Lies X2.drew b off n f) := L5.out.below K2.drew
  have B6 : Hid (Below w.heap.size w X2.drew) := B5.out.trans (K2.drew.mono B5.out.size)
  have H6 : Hid (Rec19 X2.drew W2.heap.size 0 (hcs h)) := H5.out.below K2.drew
  obtain ⟨S, hS⟩ : ∃ S, sealF (n - 256) (fun j => f (256 + j)) = S := ⟨_, rfl⟩
  have SB : ∀ j, j < 16 → 0 ≤ S j ∧ S j < 256 := fun j _ => by rw [← hS]; exact sealF_byte _ _ j
  rw [hS] at QY
  have htx : ((txtN 16 S).toList == (txtN 16 (fun j => f (16 + j))).toList) = false := by
    rw [← hS]
    exact HTX.out
  have hh' : (convert 27 9 (.slice (some ⟨W5.heap.size, 0, none⟩) 16 16)).run Tryd.prog X2.drew = .ok (.string (txtN 16 S)) X2.drew ∧ (convert 27 9 (.slice (some ⟨b, off + 16, none⟩) 16 (C - 16))).run Tryd.prog X2.drew = .ok (.string (txtN 16 (fun j => f (16 + j)))) X2.drew :=
    ⟨conv_arg _ _ 16 16 S (Arg.of (QY.drew.lies SB)), conv_arg _ _ 16 (C - 16) _ (Arg.part L6.out 16 16 (by omega))⟩
  clear QX BX zX QY BY zY K2 SB R5 L5 B5 H5
  rw [hS]
  clear hS
  refine wp_region_noPanic ?_
  refine wp_region_held_drew (S := fun W' => (convert 27 9 (.slice (some ⟨W5.heap.size, 0, none⟩) 16 16)).run Tryd.prog W' = .ok (.string (txtN 16 S)) W' ∧ (convert 27 9 (.slice (some ⟨b, off + 16, none⟩) 16 (C - 16))).run Tryd.prog W' = .ok (.string (txtN 16 (fun j => f (16 + j)))) W') (by kernel_rfl) ?_ (fun hHeld => ?_)
  · exact hh'
  refine take_at (i := 0) (v := ?_) (some 32) rfl rfl (by kernel_rfl) (by kernel_rfl) (by kernel_rfl) (fun _ _ _ h => h) (Or.inl ⟨by rfl, ?_⟩) (by assumption) ?_
  rotate_left
  · (intro w hSw; (try dsimp only at hSw); go_simp; try with_reducible rfl)
  simp only [Act.put, List.setIfInBounds_toArray, List.set_cons_zero, List.set_cons_succ]
  refine take_at (i := 1) (v := ?_) (some 33) rfl rfl (by kernel_rfl) (by kernel_rfl) (by kernel_rfl) (fun _ _ _ h => h) (Or.inl ⟨by rfl, ?_⟩) (by assumption) ?_
  rotate_left
  · (intro w hSw; (try dsimp only at hSw); go_simp; try with_reducible rfl)
  simp only [Act.put, List.setIfInBounds_toArray, List.set_cons_zero, List.set_cons_succ]
  refine take_at (i := 2) (v := ?_) (some 34) rfl rfl (by kernel_rfl) (by kernel_rfl) (by kernel_rfl) (fun _ _ _ h => h) (Or.inl ⟨by rfl, ?_⟩) (by assumption) ?_
  rotate_left
  · (intro w hSw; (try dsimp only at hSw); go_simp; try with_reducible rfl)
  simp only [Act.put, List.setIfInBounds_toArray, List.set_cons_zero, List.set_cons_succ]
  refine take_at (i := 3) (v := ?_) (some 35) rfl rfl (by kernel_rfl) (by kernel_rfl) (by kernel_rfl) (fun _ _ _ h => h) (Or.inl ⟨by rfl, ?_⟩) (by assumption) ?_
  rotate_left
  · (intro w hSw; (try dsimp only at hSw); go_simp; try with_reducible rfl)
  simp only [Act.put, List.setIfInBounds_toArray, List.set_cons_zero, List.set_cons_succ]
  refine take_at (i := 4) (v := ?_) (some 36) rfl rfl (by kernel_rfl) (by kernel_rfl) (by kernel_rfl) (fun _ _ _ h => h) (Or.inl ⟨by rfl, ?_⟩) (by assumption) ?_
  rotate_left
  · (intro w hSw; (try dsimp only at hSw); go_simp; try with_reducible rfl)
  simp only [Act.put, List.setIfInBounds_toArray, List.set_cons_zero, List.set_cons_succ]
  refine take_at (i := 5) (v := ?_) (some 37) rfl rfl (by kernel_rfl) (by kernel_rfl) (by kernel_rfl) (fun _ _ _ h => h) (Or.inl ⟨by rfl, ?_⟩) (by assumption) ?_
  rotate_left
  · (intro w hSw; (try dsimp only at hSw); go_simp; try with_reducible rfl)
  simp only [Act.put, List.setIfInBounds_toArray, List.set_cons_zero, List.set_cons_succ]
  refine wpAnyH_done (by kernel_rfl) ?_ _
  refine NoPanic.normal ?_
  clear hHeld hh'
  generalize X2.drew = X3 at R6 L6 B6 H6 ⊢
  go_wp2_with (first
    | (refine wpList_build_to rfl 29 _ rfl (msg (fun _ => 0) none 0 0).toArray (by kernel_rfl) ?_)
    | (refine wpList_store_rec rfl 29 (.tmp 2) (.tmp 38) rfl w.heap.size 0 _ (msg (fun _ => 0) none 0 0) rfl rfl R6.out rfl (by kernel_rfl) (msg_one _ _ _ _) ?_; intro W9 hR9 hB9))
  have hl := hR9.run_load 29 _ Tryd.underlying29 rfl (by kernel_rfl)
  refine bodyPost_ret (v := MC (fun _ => 0) none 0 0 12) (by simp [results, Tryd.results39, asAddr, hl]) rfl ⟨rfl, ?_⟩
  exact B6.out.trans (hB9.below (Nat.le_refl _) B6.out.size)
set_option maxRecDepth 100000 in
set_option maxHeartbeats 400000 in
theorem nopen_ok_mid (b off n C : Nat) (f : Nat → Int) (w : World) (hL : Lies w b off n f) (hn : 256 ≤ n) (hC : n ≤ C) (hC2 : ¬ C = 256) (hm : n ≤ 900000) (hc : headCode f = 0) (hs : hdrF f 2 = ((n - 256 : Nat) : Int)) (hb : bodySeal n f = true) :
    Calls Tryd.prog 39 #[.slice (some ⟨b, off, none⟩) n C] w fun e w' => ∃ a' cap, e = .returned (MC (hdrF f) a' (n - 256) cap 0) ∧ Arg w' a' (n - 256) (fun j => f (256 + j)) ∧ (∀ p, a' = some p → w.heap.size ≤ p.block) ∧ Below w.heap.size w w' := by
  have LL : Hid (Lies w b off n f) := hL
  have HC : Hid (headCode f = 0) := hc
  have hv : headVal f = hdrF f := by unfold headVal; rw [if_pos hc]
  generalize hdrF f = h at hv hs ⊢
  have HV : Hid (headVal f = h) := hv
  clear hc hv
  have s0 : h 2 = ((n - 256 : Nat) : Int) := by rw [hs]
  clear hs
  have HTX : Hid (((txtN 16 (sealF (n - 256) (fun j => f (256 + j)))).toList == (txtN 16 (fun j => f (16 + j))).toList) = true) := by
    show _ = true
    rw [bytes_beq]
    exact decide_eq_true (txtN_congr 16 _ _ ((eqN_iff _ _ _).1 hb))
  clear hb
  clear hL
  have k1 : ¬ (n : Int) < 256 := by omega
  have k2 : (256 : Int) ≤ n := by omega
  have k3 : (256 : Int) ≤ C := by omega
  have k4 : (16 : Int) ≤ C := by omega
  have k5 : (32 : Int) ≤ C := by omega
  have k6 : ¬ C = 16 := by omega
  go_enter Tryd.func39, Tryd.ntmps39
  go_wp2_with (first
    | (refine wpList_alloc_rec rfl 29 rfl (msg (fun _ => 0) none 0 0) w.heap.size rfl zeroMsg ?_; intro W1 hR1 hB1 hz1
       have L1 : Hid (Lies W1 b off n f) := LL.out.below hB1
       have L1' : Hid (Lies W1 b off 256 f) := (L1.out.part 0 256 (by omega)).zero
       have R1 : Hid (Rec19 W1 w.heap.size 0 (msg (fun _ => 0) none 0 0)) := hR1
       have B1 : Hid (Below w.heap.size w W1) := hB1
       clear hR1 hB1 hz1)
    | (go_at_call 38; refine (nhead_any b off C f _ L1'.out (by omega)).mono ?_; rintro e W2 ⟨rfl, hB2⟩; rw [HV.out, HC.out]
       have R2 : Hid (Rec19 W2 w.heap.size 0 (msg (fun _ => 0) none 0 0)) := R1.out.below hB2
       have L2 : Hid (Lies W2 b off n f) := L1.out.below hB2
       have B2 : Hid (Below w.heap.size w W2) := B1.out.trans (hB2.mono B1.out.size)
       clear hB2)
    | (refine wpList_alloc_rec rfl 26 rfl (hcs fun _ => 0) W2.heap.size rfl zeroHdr ?_; intro W3 hR3 hB3 hz3)
    | (refine wpList_store_rec rfl 26 (.tmp 4) (.tmp 16) rfl W2.heap.size 0 _ (hcs h) rfl rfl hR3 rfl (by kernel_rfl) (hcs_one _) ?_; intro W4 hR4 hB4
       have F4 : Below W2.heap.size W2 W4 := hB3.trans (hB4.below (Nat.le_refl _) (by omega))
       have R4 : Hid (Rec19 W4 w.heap.size 0 (msg (fun _ => 0) none 0 0)) := R2.out.below F4
       have L4 : Hid (Lies W4 b off n f) := L2.out.below F4
       have B4 : Hid (Below w.heap.size w W4) := B2.out.trans (F4.mono B2.out.size)
       have H4 : Hid (Rec19 W4 W2.heap.size 0 (hcs h)) := hR4
       have c2 : W4.cell? ⟨W2.heap.size, 2, none⟩ = some (.int .i64 (h 2)) := (hR4.at 2 _ rfl).1
       have N4 : Hid (w.heap.size < W2.heap.size) := R2.out.2.2
       clear F4 hR3 hB3 hz3 hB4 hR4 R2 L2 B2)
    | (go_at_call 57; refine (hsum_any (some ⟨b, off + 256, none⟩) (n - 256) (C - 256) (fun j => f (256 + j)) _ (Arg.part L4.out 256 (n - 256) (by omega)) (by omega)).mono ?_; rintro e W5 ⟨rfl, hB5⟩
       have R5 : Hid (Rec19 W5 w.heap.size 0 (msg (fun _ => 0) none 0 0)) := R4.out.below hB5
       have L5 : Hid (Lies W5 b off n f) := L4.out.below hB5
       have B5 : Hid (Below w.heap.size w W5) := B4.out.trans (hB5.mono B4.out.size)
       have H5 : Hid (Rec19 W5 W2.heap.size 0 (hcs h)) := H4.out.below hB5
       clear hB5 R4 L4 B4 H4 c2)
    | (refine wpList_alloc_row rfl 75 rfl .u8 16 W5.heap.size rfl zero8_16 ?_; intro X1 QX BX zX)
    | (refine wpList_store_row rfl 75 (.tmp 7) (.tmp 31) rfl W5.heap.size .u8 16 (sealF (n - 256) (fun j => f (256 + j))) (fun _ => 0) rfl rfl QX (by kernel_rfl) ?_; intro X2 QY BY zY))
  have K2 : Below W5.heap.size W5 X2 := BX.trans (BY.below (Nat.le_refl _) (by omega))
  have R6 : Hid (Rec19 X2.drew w.heap.size 0 (msg (fun _ => 0) none 0 0)) := R5.out.below K2.drew
  have L6 : Hid (Lies X2.drew b off n f) := L5.out.below K2.drew
  have B6 : Hid (Below w.heap.size w X2.drew) := B5.out.trans (K2.drew.mono B5.out.size)
  have H6 : Hid (Rec19 X2.drew W2.heap.size 0 (hcs h)) := H5.out.below K2.drew
  obtain ⟨S, hS⟩ : ∃ S, sealF (n - 256) (fun j => f (256 + j)) = S := ⟨_, rfl⟩
  have SB : ∀ j, j < 16 → 0 ≤ S j ∧ S j < 256 := fun j _ => by rw [← hS]; exact sealF_byte _ _ j
  rw [hS] at QY
  have htx : ((txtN 16 S).toList == (txtN 16 (fun j => f (16 + j))).toList) = true := by
    rw [← hS]
    exact HTX.out
  have hh' : (convert 27 9 (.slice (some ⟨W5.heap.size, 0, none⟩) 16 16)).run Tryd.prog X2.drew = .ok (.string (txtN 16 S)) X2.drew ∧ (convert 27 9 (.slice (some ⟨b, off + 16, none⟩) 16 (C - 16))).run Tryd.prog X2.drew = .ok (.string (txtN 16 (fun j => f (16 + j)))) X2.drew :=
    ⟨conv_arg _ _ 16 16 S (Arg.of (QY.drew.lies SB)), conv_arg _ _ 16 (C - 16) _ (Arg.part L6.out 16 16 (by omega))⟩
  clear QX BX zX QY BY zY K2 SB R5 L5 B5 H5
  rw [hS]
  clear hS
  refine wp_region_noPanic ?_
  refine wp_region_held_drew (S := fun W' => (convert 27 9 (.slice (some ⟨W5.heap.size, 0, none⟩) 16 16)).run Tryd.prog W' = .ok (.string (txtN 16 S)) W' ∧ (convert 27 9 (.slice (some ⟨b, off + 16, none⟩) 16 (C - 16))).run Tryd.prog W' = .ok (.string (txtN 16 (fun j => f (16 + j)))) W') (by kernel_rfl) ?_ (fun hHeld => ?_)
  · exact hh'
  refine take_at (i := 0) (v := ?_) (some 32) rfl rfl (by kernel_rfl) (by kernel_rfl) (by kernel_rfl) (fun _ _ _ h => h) (Or.inl ⟨by rfl, ?_⟩) (by assumption) ?_
  rotate_left
  · (intro w hSw; (try dsimp only at hSw); go_simp; try with_reducible rfl)
  simp only [Act.put, List.setIfInBounds_toArray, List.set_cons_zero, List.set_cons_succ]
  refine take_at (i := 1) (v := ?_) (some 33) rfl rfl (by kernel_rfl) (by kernel_rfl) (by kernel_rfl) (fun _ _ _ h => h) (Or.inl ⟨by rfl, ?_⟩) (by assumption) ?_
  rotate_left
  · (intro w hSw; (try dsimp only at hSw); go_simp; try with_reducible rfl)
  simp only [Act.put, List.setIfInBounds_toArray, List.set_cons_zero, List.set_cons_succ]
  refine take_at (i := 2) (v := ?_) (some 34) rfl rfl (by kernel_rfl) (by kernel_rfl) (by kernel_rfl) (fun _ _ _ h => h) (Or.inl ⟨by rfl, ?_⟩) (by assumption) ?_
  rotate_left
  · (intro w hSw; (try dsimp only at hSw); go_simp; try with_reducible rfl)
  simp only [Act.put, List.setIfInBounds_toArray, List.set_cons_zero, List.set_cons_succ]
  refine take_at (i := 3) (v := ?_) (some 35) rfl rfl (by kernel_rfl) (by kernel_rfl) (by kernel_rfl) (fun _ _ _ h => h) (Or.inl ⟨by rfl, ?_⟩) (by assumption) ?_
  rotate_left
  · (intro w hSw; (try dsimp only at hSw); go_simp; try with_reducible rfl)
  simp only [Act.put, List.setIfInBounds_toArray, List.set_cons_zero, List.set_cons_succ]
  refine take_at (i := 4) (v := ?_) (some 36) rfl rfl (by kernel_rfl) (by kernel_rfl) (by kernel_rfl) (fun _ _ _ h => h) (Or.inl ⟨by rfl, ?_⟩) (by assumption) ?_
  rotate_left
  · (intro w hSw; (try dsimp only at hSw); go_simp; try with_reducible rfl)
  simp only [Act.put, List.setIfInBounds_toArray, List.set_cons_zero, List.set_cons_succ]
  refine take_at (i := 5) (v := ?_) (some 37) rfl rfl (by kernel_rfl) (by kernel_rfl) (by kernel_rfl) (fun _ _ _ h => h) (Or.inl ⟨by rfl, ?_⟩) (by assumption) ?_
  rotate_left
  · (intro w hSw; (try dsimp only at hSw); go_simp; try with_reducible rfl)
  simp only [Act.put, List.setIfInBounds_toArray, List.set_cons_zero, List.set_cons_succ]
  refine wpAnyH_done (by kernel_rfl) ?_ _
  refine NoPanic.normal ?_
  clear hHeld hh'
  generalize X2.drew = X3 at R6 L6 B6 H6 ⊢
  go_wp2_with fail
  have S3 : noS w W2.heap.size h (some ⟨b, off + 256, none⟩) (n - 256) (fun j => f (256 + j)) X3.drew := ⟨H6.out, R6.out, (Arg.part (L6.out.below (Below.refl _ _).drew) 256 (n - 256) (by omega)), B6.out.drew⟩
  refine wp_region_noPanic ?_
  refine wp_region_held_drew (S := fun W => W.rangeAt W2.heap.size 0 (hcs h) ∧ True) (by kernel_rfl) ?_ (fun hHeld => ?_)
  · exact ⟨S3.1.1, trivial⟩
  refine take_at (i := 0) (v := _) (some 39) rfl rfl (by kernel_rfl) (by kernel_rfl) (by kernel_rfl) (fun _ _ _ h => h) (yieldsIf_load_mid (by rfl) _ _ rfl _ _ rfl _ _ (fun _ h => h.1) Tryd.underlying26 rfl (by kernel_rfl)) (by assumption) ?_
  simp only [Act.put, List.setIfInBounds_toArray, List.set_cons_zero, List.set_cons_succ]
  refine take_at (i := 2) (v := ?_) (some 41) rfl rfl (by kernel_rfl) (by kernel_rfl) (by kernel_rfl) (fun _ _ _ h => h) (Or.inl ⟨by rfl, ?_⟩) (by assumption) ?_
  rotate_left
  · (intro w hSw; (try dsimp only at hSw); go_simp; try with_reducible rfl)
  simp only [Act.put, List.setIfInBounds_toArray, List.set_cons_zero, List.set_cons_succ]
  have S4 := S3.below ((Below.refl X3.drew.heap.size X3.drew).alloc (Nat.le_refl _) (.cells #[] 5))
  refine step_at (i := 1) (some 40) rfl rfl (by rfl) (by kernel_rfl) _ _ (bslice_run rfl) ⟨S4.1.1, trivial⟩ (fun hHeld => ?_)
  simp only [Act.put, List.setIfInBounds_toArray, List.set_cons_zero, List.set_cons_succ]
  obtain ⟨v8, W8, hr8, hO8, hB8⟩ := app_arg 27 (X3.drew.alloc (.cells #[] 5)) X3.drew.heap.size 0 (n - 256) (C - 256) _ (some ⟨b, off + 256, none⟩) (fun _ => 0) (fun j => f (256 + j)) (own0 X3.drew _ (Nat.le_refl _)) S4.2.2.1 (by omega) (by simp)
  rw [Nat.zero_add] at hO8
  obtain ⟨a8, cap8, rfl, hA8, hP8⟩ := (hO8.congr (G := fun j => f (256 + j)) (fun j _ => by unfold cat; rw [if_neg (by omega), Nat.sub_zero])).slice S4.2.2.1.bytes
  have S8 := S3.below (((Below.refl X3.drew.heap.size X3.drew).alloc (Nat.le_refl _) _).trans hB8)
  refine step_at (i := 3) (some 42) rfl rfl (by rfl) (by kernel_rfl) (.slice a8 (n - 256) cap8) W8 (append_run (.tmp 40) (.tmp 41) 27 27 rfl _ _ rfl rfl hr8) ⟨S8.1.1, trivial⟩ (fun hHeld => ?_)
  simp only [Act.put, List.setIfInBounds_toArray, List.set_cons_zero, List.set_cons_succ]
  refine take_at (i := 4) (v := (.agg (msg h a8 (n - 256) cap8).toArray)) (some 43) rfl rfl (by kernel_rfl) (by kernel_rfl) (by kernel_rfl) (fun _ _ _ h => h) (Or.inl ⟨by rfl, fun w _ => (build_run 29 _ rfl (msg h a8 (n - 256) cap8).toArray (by kernel_rfl))⟩) (by assumption) ?_
  simp only [Act.put, List.setIfInBounds_toArray, List.set_cons_zero, List.set_cons_succ]
  refine wpAnyH_ready (rs := [5]) (by kernel_rfl) (by simp) ?_
  refine all_store_rec (i := 5) none 29 (.tmp 2) (.tmp 43) rfl rfl rfl (by rfl) w.heap.size (msg (fun _ => 0) none 0 0) (msg h a8 (n - 256) cap8) rfl rfl S8.2.1 rfl (by kernel_rfl) (msg_one _ _ _ _) ?_ AllReadyH.nil
  intro W9 R9 B9
  have A9 : Arg W9 a8 (n - 256) (fun j => f (256 + j)) := hA8.but B9 (fun p hp => by have := hP8 p hp; have := S3.2.1.2.2; omega)
  have E9 : Below w.heap.size w W9 := S8.2.2.2.trans (B9.below (Nat.le_refl _) S8.2.2.2.size)
  refine ⟨?_, fun hHeld => ?_⟩
  · exact ⟨(S8.1.but B9 (by have := N4.out; omega)).1, trivial⟩
  simp only [Act.put]
  refine take_at (i := 6) (v := ?_) (some 3) rfl rfl (by kernel_rfl) (by kernel_rfl) (by kernel_rfl) (fun _ _ _ h => h) (Or.inl ⟨by rfl, ?_⟩) (by assumption) ?_
  rotate_left
  · (intro w hSw; (try dsimp only at hSw); go_simp; try with_reducible rfl)
  simp only [Act.put, List.setIfInBounds_toArray, List.set_cons_zero, List.set_cons_succ]
  refine wpAnyH_done (by kernel_rfl) ?_ _
  refine NoPanic.normal ?_
  go_wp2_with fail
  have hl := R9.run_load 29 _ Tryd.underlying29 rfl (by kernel_rfl)
  refine bodyPost_ret (v := MC h a8 (n - 256) cap8 0) (by simp [results, Tryd.results39, asAddr, hl]) rfl ⟨a8, cap8, rfl, A9, fun p hp => Nat.le_trans S3.2.2.2.size (hP8 p hp), E9⟩
set_option maxRecDepth 100000 in
set_option maxHeartbeats 400000 in
theorem nopen_size_end (b off : Nat) (f : Nat → Int) (w : World) (hL : Lies w b off 256 f) (hc : headCode f = 0) (hs : hdrF f 2 ≠ ((256 - 256 : Nat) : Int)) :
    Calls Tryd.prog 39 #[.slice (some ⟨b, off, none⟩) 256 256] w fun e w' => e = .returned (MC (fun _ => 0) none 0 0 4) ∧ Below w.heap.size w w' := by
  have LL : Hid (Lies w b off 256 f) := hL
  have HC : Hid (headCode f = 0) := hc
  have hv : headVal f = hdrF f := by unfold headVal; rw [if_pos hc]
  generalize hdrF f = h at hv hs
  have HV : Hid (headVal f = h) := hv
  clear hc hv
  have s0 : ((0 : Int) != h 2) = true := by simp; intro e; exact hs (by rw [← e]; rfl)
  clear hs
  clear hL
  go_enter Tryd.func39, Tryd.ntmps39
  go_wp2_with (first
    | (refine wpList_alloc_rec rfl 29 rfl (msg (fun _ => 0) none 0 0) w.heap.size rfl zeroMsg ?_; intro W1 hR1 hB1 hz1
       have L1 : Hid (Lies W1 b off 256 f) := LL.out.below hB1
       have L1' : Hid (Lies W1 b off 256 f) := (L1.out.part 0 256 (by omega)).zero
       have R1 : Hid (Rec19 W1 w.heap.size 0 (msg (fun _ => 0) none 0 0)) := hR1
       have B1 : Hid (Below w.heap.size w W1) := hB1
       clear hR1 hB1 hz1)
    | (go_at_call 38; refine (nhead_any b off 256 f _ L1'.out (by omega)).mono ?_; rintro e W2 ⟨rfl, hB2⟩; rw [HV.out, HC.out]
       have R2 : Hid (Rec19 W2 w.heap.size 0 (msg (fun _ => 0) none 0 0)) := R1.out.below hB2
       have L2 : Hid (Lies W2 b off 256 f) := L1.out.below hB2
       have B2 : Hid (Below w.heap.size w W2) := B1.out.trans (hB2.mono B1.out.size)
       clear hB2)
    | (refine wpList_alloc_rec rfl 26 rfl (hcs fun _ => 0) W2.heap.size rfl zeroHdr ?_; intro W3 hR3 hB3 hz3)
    | (refine wpList_store_rec rfl 26 (.tmp 4) (.tmp 16) rfl W2.heap.size 0 _ (hcs h) rfl rfl hR3 rfl (by kernel_rfl) (hcs_one _) ?_; intro W4 hR4 hB4
       have F4 : Below W2.heap.size W2 W4 := hB3.trans (hB4.below (Nat.le_refl _) (by omega))
       have R4 : Hid (Rec19 W4 w.heap.size 0 (msg (fun _ => 0) none 0 0)) := R2.out.below F4
       have L4 : Hid (Lies W4 b off 256 f) := L2.out.below F4
       have B4 : Hid (Below w.heap.size w W4) := B2.out.trans (F4.mono B2.out.size)
       have H4 : Hid (Rec19 W4 W2.heap.size 0 (hcs h)) := hR4
       have c2 : W4.cell? ⟨W2.heap.size, 2, none⟩ = some (.int .i64 (h 2)) := (hR4.at 2 _ rfl).1
       have N4 : Hid (w.heap.size < W2.heap.size) := R2.out.2.2
       clear F4 hR3 hB3 hz3 hB4 hR4 R2 L2 B2)
    | (refine wpList_build_to rfl 29 _ rfl (msg (fun _ => 0) none 0 0).toArray (by kernel_rfl) ?_)
    | (refine wpList_store_rec rfl 29 (.tmp 2) (.tmp 29) rfl w.heap.size 0 _ (msg (fun _ => 0) none 0 0) rfl rfl R4.out rfl (by kernel_rfl) (msg_one _ _ _ _) ?_; intro W9 hR9 hB9))
  have hl := hR9.run_load 29 _ Tryd.underlying29 rfl (by kernel_rfl)
  refine bodyPost_ret (v := MC (fun _ => 0) none 0 0 4) (by simp [results, Tryd.results39, asAddr, hl]) rfl ⟨rfl, ?_⟩
  exact B4.out.trans (hB9.below (Nat.le_refl _) B4.out.size)
set_option maxRecDepth 100000 in
set_option maxHeartbeats 400000 in
theorem nopen_seal_end (b off : Nat) (f : Nat → Int) (w : World) (hL : Lies w b off 256 f) (hc : headCode f = 0) (hs : hdrF f 2 = ((256 - 256 : Nat) : Int)) (hb : bodySeal 256 f = false) :
    Calls Tryd.prog 39 #[.slice (some ⟨b, off, none⟩) 256 256] w fun e w' => e = .returned (MC (fun _ => 0) none 0 0 12) ∧ Below w.heap.size w w' := by
  have LL : Hid (Lies w b off 256 f) := hL
  have HC : Hid (headCode f = 0) := hc
  have hv : headVal f = hdrF f := by unfold headVal; rw [if_pos hc]
  generalize hdrF f = h at hv hs
  have HV : Hid (headVal f = h) := hv
  clear hc hv
  have s0 : h 2 = 0 := by rw [hs]; rfl
  clear hs
  have HTX : Hid (((txtN 16 (sealF 0 (fun j => f (256 + j)))).toList == (txtN 16 (fun j => f (16 + j))).toList) = false) := by
    show _ = false
    rw [bytes_beq]
    exact txt_ne (fun j hj => LL.out.2.1 (16 + j) (by omega)) hb
  clear hb
  clear hL
  go_enter Tryd.func39, Tryd.ntmps39
  go_wp2_with (first
    | (refine wpList_alloc_rec rfl 29 rfl (msg (fun _ => 0) none 0 0) w.heap.size rfl zeroMsg ?_; intro W1 hR1 hB1 hz1
       have L1 : Hid (Lies W1 b off 256 f) := LL.out.below hB1
       have L1' : Hid (Lies W1 b off 256 f) := (L1.out.part 0 256 (by omega)).zero
       have R1 : Hid (Rec19 W1 w.heap.size 0 (msg (fun _ => 0) none 0 0)) := hR1
       have B1 : Hid (Below w.heap.size w W1) := hB1
       clear hR1 hB1 hz1)
    | (go_at_call 38; refine (nhead_any b off 256 f _ L1'.out (by omega)).mono ?_; rintro e W2 ⟨rfl, hB2⟩; rw [HV.out, HC.out]
       have R2 : Hid (Rec19 W2 w.heap.size 0 (msg (fun _ => 0) none 0 0)) := R1.out.below hB2
       have L2 : Hid (Lies W2 b off 256 f) := L1.out.below hB2
       have B2 : Hid (Below w.heap.size w W2) := B1.out.trans (hB2.mono B1.out.size)
       clear hB2)
    | (refine wpList_alloc_rec rfl 26 rfl (hcs fun _ => 0) W2.heap.size rfl zeroHdr ?_; intro W3 hR3 hB3 hz3)
    | (refine wpList_store_rec rfl 26 (.tmp 4) (.tmp 16) rfl W2.heap.size 0 _ (hcs h) rfl rfl hR3 rfl (by kernel_rfl) (hcs_one _) ?_; intro W4 hR4 hB4
       have F4 : Below W2.heap.size W2 W4 := hB3.trans (hB4.below (Nat.le_refl _) (by omega))
       have R4 : Hid (Rec19 W4 w.heap.size 0 (msg (fun _ => 0) none 0 0)) := R2.out.below F4
       have L4 : Hid (Lies W4 b off 256 f) := L2.out.below F4
       have B4 : Hid (Below w.heap.size w W4) := B2.out.trans (F4.mono B2.out.size)
       have H4 : Hid (Rec19 W4 W2.heap.size 0 (hcs h)) := hR4
       have c2 : W4.cell? ⟨W2.heap.size, 2, none⟩ = some (.int .i64 (h 2)) := (hR4.at 2 _ rfl).1
       have N4 : Hid (w.heap.size < W2.heap.size) := R2.out.2.2
       clear F4 hR3 hB3 hz3 hB4 hR4 R2 L2 B2)
    | (go_at_call 57; refine (hsum_any (some ⟨b, off, none⟩) 0 0 (fun j => f (256 + j)) _ (.inl ⟨rfl, .inr ⟨_, rfl⟩⟩ : Arg _ _ 0 _) (by omega)).mono ?_; rintro e W5 ⟨rfl, hB5⟩
       have R5 : Hid (Rec19 W5 w.heap.size 0 (msg (fun _ => 0) none 0 0)) := R4.out.below hB5
       have L5 : Hid (Lies W5 b off 256 f) := L4.out.below hB5
       have B5 : Hid (Below w.heap.size w W5) := B4.out.trans (hB5.mono B4.out.size)
       have H5 : Hid (Rec19 W5 W2.heap.size 0 (hcs h)) := H4.out.below hB5
       clear hB5 R4 L4 B4 H4 c2)
    | (refine wpList_alloc_row rfl 75 rfl .u8 16 W5.heap.size rfl zero8_16 ?_; intro X1 QX BX zX)
    | (refine wpList_store_row rfl 75 (.tmp 7) (.tmp 31) rfl W5.heap.size .u8 16 (sealF 0 (fun j => f (256 + j))) (fun _ => 0) rfl rfl QX (by kernel_rfl) ?_; intro X2 QY BY zY))
  have K2 : Below W5.heap.size W5 X2 := BX.trans (BY.below (Nat.le_refl _) (by omega))
  have R6 : Hid (Rec19 X2.drew w.heap.size 0 (msg (fun _ => 0) none 0 0)) := R5.out.below K2.drew
  have L6 : Hid (Lies X2.drew b off 256 f) := L5.out.below K2.drew
  have B6 : Hid (Below w.heap.size w X2.drew) := B5.out.trans (K2.drew.mono B5.out.size)
  have H6 : Hid (Rec19 X2.drew W2.heap.size 0 (hcs h)) := H5.out.below K2.drew
  obtain ⟨S, hS⟩ : ∃ S, sealF 0 (fun j => f (256 + j)) = S := ⟨_, rfl⟩
  have SB : ∀ j, j < 16 → 0 ≤ S j ∧ S j < 256 := fun j _ => by rw [← hS]; exact sealF_byte _ _ j
  rw [hS] at QY
  have htx : ((txtN 16 S).toList == (txtN 16 (fun j => f (16 + j))).toList) = false := by
    rw [← hS]
    exact HTX.out
  have hh' : (convert 27 9 (.slice (some ⟨W5.heap.size, 0, none⟩) 16 16)).run Tryd.prog X2.drew = .ok (.string (txtN 16 S)) X2.drew ∧ (convert 27 9 (.slice (some ⟨b, off + 16, none⟩) 16 240)).run Tryd.prog X2.drew = .ok (.string (txtN 16 (fun j => f (16 + j)))) X2.drew :=
    ⟨conv_arg _ _ 16 16 S (Arg.of (QY.drew.lies SB)), conv_arg _ _ 16 240 _ (Arg.part L6.out 16 16 (by omega))⟩
  clear QX BX zX QY BY zY K2 SB R5 L5 B5 H5
  rw [hS]
  clear hS
  refine wp_region_noPanic ?_
  refine wp_region_held_drew (S := fun W' => (convert 27 9 (.slice (some ⟨W5.heap.size, 0, none⟩) 16 16)).run Tryd.prog W' = .ok (.string (txtN 16 S)) W' ∧ (convert 27 9 (.slice (some ⟨b, off + 16, none⟩) 16 240)).run Tryd.prog W' = .ok (.string (txtN 16 (fun j => f (16 + j)))) W') (by kernel_rfl) ?_ (fun hHeld => ?_)
  · exact hh'
  refine take_at (i := 0) (v := ?_) (some 32) rfl rfl (by kernel_rfl) (by kernel_rfl) (by kernel_rfl) (fun _ _ _ h => h) (Or.inl ⟨by rfl, ?_⟩) (by assumption) ?_
  rotate_left
  · (intro w hSw; (try dsimp only at hSw); go_simp; try with_reducible rfl)
  simp only [Act.put, List.setIfInBounds_toArray, List.set_cons_zero, List.set_cons_succ]
  refine take_at (i := 1) (v := ?_) (some 33) rfl rfl (by kernel_rfl) (by kernel_rfl) (by kernel_rfl) (fun _ _ _ h => h) (Or.inl ⟨by rfl, ?_⟩) (by assumption) ?_
  rotate_left
  · (intro w hSw; (try dsimp only at hSw); go_simp; try with_reducible rfl)
  simp only [Act.put, List.setIfInBounds_toArray, List.set_cons_zero, List.set_cons_succ]
  refine take_at (i := 2) (v := ?_) (some 34) rfl rfl (by kernel_rfl) (by kernel_rfl) (by kernel_rfl) (fun _ _ _ h => h) (Or.inl ⟨by rfl, ?_⟩) (by assumption) ?_
  rotate_left
  · (intro w hSw; (try dsimp only at hSw); go_simp; try with_reducible rfl)
  simp only [Act.put, List.setIfInBounds_toArray, List.set_cons_zero, List.set_cons_succ]
  refine take_at (i := 3) (v := ?_) (some 35) rfl rfl (by kernel_rfl) (by kernel_rfl) (by kernel_rfl) (fun _ _ _ h => h) (Or.inl ⟨by rfl, ?_⟩) (by assumption) ?_
  rotate_left
  · (intro w hSw; (try dsimp only at hSw); go_simp; try with_reducible rfl)
  simp only [Act.put, List.setIfInBounds_toArray, List.set_cons_zero, List.set_cons_succ]
  refine take_at (i := 4) (v := ?_) (some 36) rfl rfl (by kernel_rfl) (by kernel_rfl) (by kernel_rfl) (fun _ _ _ h => h) (Or.inl ⟨by rfl, ?_⟩) (by assumption) ?_
  rotate_left
  · (intro w hSw; (try dsimp only at hSw); go_simp; try with_reducible rfl)
  simp only [Act.put, List.setIfInBounds_toArray, List.set_cons_zero, List.set_cons_succ]
  refine take_at (i := 5) (v := ?_) (some 37) rfl rfl (by kernel_rfl) (by kernel_rfl) (by kernel_rfl) (fun _ _ _ h => h) (Or.inl ⟨by rfl, ?_⟩) (by assumption) ?_
  rotate_left
  · (intro w hSw; (try dsimp only at hSw); go_simp; try with_reducible rfl)
  simp only [Act.put, List.setIfInBounds_toArray, List.set_cons_zero, List.set_cons_succ]
  refine wpAnyH_done (by kernel_rfl) ?_ _
  refine NoPanic.normal ?_
  clear hHeld hh'
  generalize X2.drew = X3 at R6 L6 B6 H6 ⊢
  go_wp2_with (first
    | (refine wpList_build_to rfl 29 _ rfl (msg (fun _ => 0) none 0 0).toArray (by kernel_rfl) ?_)
    | (refine wpList_store_rec rfl 29 (.tmp 2) (.tmp 38) rfl w.heap.size 0 _ (msg (fun _ => 0) none 0 0) rfl rfl R6.out rfl (by kernel_rfl) (msg_one _ _ _ _) ?_; intro W9 hR9 hB9))
  have hl := hR9.run_load 29 _ Tryd.underlying29 rfl (by kernel_rfl)
  refine bodyPost_ret (v := MC (fun _ => 0) none 0 0 12) (by simp [results, Tryd.results39, asAddr, hl]) rfl ⟨rfl, ?_⟩
  exact B6.out.trans (hB9.below (Nat.le_refl _) B6.out.size)
set_option maxRecDepth 100000 in
set_option maxHeartbeats 400000 in
theorem nopen_ok_end (b off : Nat) (f : Nat → Int) (w : World) (hL : Lies w b off 256 f) (hc : headCode f = 0) (hs : hdrF f 2 = ((256 - 256 : Nat) : Int)) (hb : bodySeal 256 f = true) :
    Calls Tryd.prog 39 #[.slice (some ⟨b, off, none⟩) 256 256] w fun e w' => ∃ a' cap, e = .returned (MC (hdrF f) a' (256 - 256) cap 0) ∧ Arg w' a' (256 - 256) (fun j => f (256 + j)) ∧ (∀ p, a' = some p → w.heap.size ≤ p.block) ∧ Below w.heap.size w w' := by
  have LL : Hid (Lies w b off 256 f) := hL
  have HC : Hid (headCode f = 0) := hc
  have hv : headVal f = hdrF f := by unfold headVal; rw [if_pos hc]
  generalize hdrF f = h at hv hs ⊢
  have HV : Hid (headVal f = h) := hv
  clear hc hv
  have s0 : h 2 = 0 := by rw [hs]; rfl
  clear hs
  have HTX : Hid (((txtN 16 (sealF 0 (fun j => f (256 + j)))).toList == (txtN 16 (fun j => f (16 + j))).toList) = true) := by
    show _ = true
    rw [bytes_beq]
    exact decide_eq_true (txtN_congr 16 _ _ ((eqN_iff _ _ _).1 hb))
  clear hb
  clear hL
  go_enter Tryd.func39, Tryd.ntmps39
  go_wp2_with (first
    | (refine wpList_alloc_rec rfl 29 rfl (msg (fun _ => 0) none 0 0) w.heap.size rfl zeroMsg ?_; intro W1 hR1 hB1 hz1
       have L1 : Hid (Lies W1 b off 256 f) := LL.out.below hB1
       have L1' : Hid (Lies W1 b off 256 f) := (L1.out.part 0 256 (by omega)).zero
       have R1 : Hid (Rec19 W1 w.heap.size 0 (msg (fun _ => 0) none 0 0)) := hR1
       have B1 : Hid (Below w.heap.size w W1) := hB1
       clear hR1 hB1 hz1)
    | (go_at_call 38; refine (nhead_any b off 256 f _ L1'.out (by omega)).mono ?_; rintro e W2 ⟨rfl, hB2⟩; rw [HV.out, HC.out]
       have R2 : Hid (Rec19 W2 w.heap.size 0 (msg (fun _ => 0) none 0 0)) := R1.out.below hB2
       have L2 : Hid (Lies W2 b off 256 f) := L1.out.below hB2
       have B2 : Hid (Below w.heap.size w W2) := B1.out.trans (hB2.mono B1.out.size)
       clear hB2)
    | (refine wpList_alloc_rec rfl 26 rfl (hcs fun _ => 0) W2.heap.size rfl zeroHdr ?_; intro W3 hR3 hB3 hz3)
    | (refine wpList_store_rec rfl 26 (.tmp 4) (.tmp 16) rfl W2.heap.size 0 _ (hcs h) rfl rfl hR3 rfl (by kernel_rfl) (hcs_one _) ?_; intro W4 hR4 hB4
       have F4 : Below W2.heap.size W2 W4 := hB3.trans (hB4.below (Nat.le_refl _) (by omega))
       have R4 : Hid (Rec19 W4 w.heap.size 0 (msg (fun _ => 0) none 0 0)) := R2.out.below F4
       have L4 : Hid (Lies W4 b off 256 f) := L2.out.below F4
       have B4 : Hid (Below w.heap.size w W4) := B2.out.trans (F4.mono B2.out.size)
       have H4 : Hid (Rec19 W4 W2.heap.size 0 (hcs h)) := hR4
       have c2 : W4.cell? ⟨W2.heap.size, 2, none⟩ = some (.int .i64 (h 2)) := (hR4.at 2 _ rfl).1
       have N4 : Hid (w.heap.size < W2.heap.size) := R2.out.2.2
       clear F4 hR3 hB3 hz3 hB4 hR4 R2 L2 B2)
    | (go_at_call 57; refine (hsum_any (some ⟨b, off, none⟩) 0 0 (fun j => f (256 + j)) _ (.inl ⟨rfl, .inr ⟨_, rfl⟩⟩ : Arg _ _ 0 _) (by omega)).mono ?_; rintro e W5 ⟨rfl, hB5⟩
       have R5 : Hid (Rec19 W5 w.heap.size 0 (msg (fun _ => 0) none 0 0)) := R4.out.below hB5
       have L5 : Hid (Lies W5 b off 256 f) := L4.out.below hB5
       have B5 : Hid (Below w.heap.size w W5) := B4.out.trans (hB5.mono B4.out.size)
       have H5 : Hid (Rec19 W5 W2.heap.size 0 (hcs h)) := H4.out.below hB5
       clear hB5 R4 L4 B4 H4 c2)
    | (refine wpList_alloc_row rfl 75 rfl .u8 16 W5.heap.size rfl zero8_16 ?_; intro X1 QX BX zX)
    | (refine wpList_store_row rfl 75 (.tmp 7) (.tmp 31) rfl W5.heap.size .u8 16 (sealF 0 (fun j => f (256 + j))) (fun _ => 0) rfl rfl QX (by kernel_rfl) ?_; intro X2 QY BY zY))
  have K2 : Below W5.heap.size W5 X2 := BX.trans (BY.below (Nat.le_refl _) (by omega))
  have R6 : Hid (Rec19 X2.drew w.heap.size 0 (msg (fun _ => 0) none 0 0)) := R5.out.below K2.drew
  have L6 : Hid (Lies X2.drew b off 256 f) := L5.out.below K2.drew
  have B6 : Hid (Below w.heap.size w X2.drew) := B5.out.trans (K2.drew.mono B5.out.size)
  have H6 : Hid (Rec19 X2.drew W2.heap.size 0 (hcs h)) := H5.out.below K2.drew
  obtain ⟨S, hS⟩ : ∃ S, sealF 0 (fun j => f (256 + j)) = S := ⟨_, rfl⟩
  have SB : ∀ j, j < 16 → 0 ≤ S j ∧ S j < 256 := fun j _ => by rw [← hS]; exact sealF_byte _ _ j
  rw [hS] at QY
  have htx : ((txtN 16 S).toList == (txtN 16 (fun j => f (16 + j))).toList) = true := by
    rw [← hS]
    exact HTX.out
  have hh' : (convert 27 9 (.slice (some ⟨W5.heap.size, 0, none⟩) 16 16)).run Tryd.prog X2.drew = .ok (.string (txtN 16 S)) X2.drew ∧ (convert 27 9 (.slice (some ⟨b, off + 16, none⟩) 16 240)).run Tryd.prog X2.drew = .ok (.string (txtN 16 (fun j => f (16 + j)))) X2.drew :=
    ⟨conv_arg _ _ 16 16 S (Arg.of (QY.drew.lies SB)), conv_arg _ _ 16 240 _ (Arg.part L6.out 16 16 (by omega))⟩
  clear QX BX zX QY BY zY K2 SB R5 L5 B5 H5
  rw [hS]
  clear hS
  refine wp_region_noPanic ?_
  refine wp_region_held_drew (S := fun W' => (convert 27 9 (.slice (some ⟨W5.heap.size, 0, none⟩) 16 16)).run Tryd.prog W' = .ok (.string (txtN 16 S)) W' ∧ (convert 27 9 (.slice (some ⟨b, off + 16, none⟩) 16 240)).run Tryd.prog W' = .ok (.string (txtN 16 (fun j => f (16 + j)))) W') (by kernel_rfl) ?_ (fun hHeld => ?_)
  · exact hh'
  refine take_at (i := 0) (v := ?_) (some 32) rfl rfl (by kernel_rfl) (by kernel_rfl) (by kernel_rfl) (fun _ _ _ h => h) (Or.inl ⟨by rfl, ?_⟩) (by assumption) ?_
  rotate_left
  · (intro w hSw; (try dsimp only at hSw); go_simp; try with_reducible rfl)
  simp only [Act.put, List.setIfInBounds_toArray, List.set_cons_zero, List.set_cons_succ]
  refine take_at (i := 1) (v := ?_) (some 33) rfl rfl (by kernel_rfl) (by kernel_rfl) (by kernel_rfl) (fun _ _ _ h => h) (Or.inl ⟨by rfl, ?_⟩) (by assumption) ?_
  rotate_left
  · (intro w hSw; (try dsimp only at hSw); go_simp; try with_reducible rfl)
  simp only [Act.put, List.setIfInBounds_toArray, List.set_cons_zero, List.set_cons_succ]
  refine take_at (i := 2) (v := ?_) (some 34) rfl rfl (by kernel_rfl) (by kernel_rfl) (by kernel_rfl) (fun _ _ _ h => h) (Or.inl ⟨by rfl, ?_⟩) (by assumption) ?_
  rotate_left
  · (intro w hSw; (try dsimp only at hSw); go_simp; try with_reducible rfl)
  simp only [Act.put, List.setIfInBounds_toArray, List.set_cons_zero, List.set_cons_succ]
  refine take_at (i := 3) (v := ?_) (some 35) rfl rfl (by kernel_rfl) (by kernel_rfl) (by kernel_rfl) (fun _ _ _ h => h) (Or.inl ⟨by rfl, ?_⟩) (by assumption) ?_
  rotate_left
  · (intro w hSw; (try dsimp only at hSw); go_simp; try with_reducible rfl)
  simp only [Act.put, List.setIfInBounds_toArray, List.set_cons_zero, List.set_cons_succ]
  refine take_at (i := 4) (v := ?_) (some 36) rfl rfl (by kernel_rfl) (by kernel_rfl) (by kernel_rfl) (fun _ _ _ h => h) (Or.inl ⟨by rfl, ?_⟩) (by assumption) ?_
  rotate_left
  · (intro w hSw; (try dsimp only at hSw); go_simp; try with_reducible rfl)
  simp only [Act.put, List.setIfInBounds_toArray, List.set_cons_zero, List.set_cons_succ]
  refine take_at (i := 5) (v := ?_) (some 37) rfl rfl (by kernel_rfl) (by kernel_rfl) (by kernel_rfl) (fun _ _ _ h => h) (Or.inl ⟨by rfl, ?_⟩) (by assumption) ?_
  rotate_left
  · (intro w hSw; (try dsimp only at hSw); go_simp; try with_reducible rfl)
  simp only [Act.put, List.setIfInBounds_toArray, List.set_cons_zero, List.set_cons_succ]
  refine wpAnyH_done (by kernel_rfl) ?_ _
  refine NoPanic.normal ?_
  clear hHeld hh'
  generalize X2.drew = X3 at R6 L6 B6 H6 ⊢
  go_wp2_with fail
  have S3 : noS w W2.heap.size h (some ⟨b, off, none⟩) 0 (fun j => f (256 + j)) X3.drew := ⟨H6.out, R6.out, (.inl ⟨rfl, .inr ⟨_, rfl⟩⟩ : Arg _ _ 0 _), B6.out.drew⟩
  refine wp_region_noPanic ?_
  refine wp_region_held_drew (S := fun W => W.rangeAt W2.heap.size 0 (hcs h) ∧ True) (by kernel_rfl) ?_ (fun hHeld => ?_)
  · exact ⟨S3.1.1, trivial⟩
  refine take_at (i := 0) (v := _) (some 39) rfl rfl (by kernel_rfl) (by kernel_rfl) (by kernel_rfl) (fun _ _ _ h => h) (yieldsIf_load_mid (by rfl) _ _ rfl _ _ rfl _ _ (fun _ h => h.1) Tryd.underlying26 rfl (by kernel_rfl)) (by assumption) ?_
  simp only [Act.put, List.setIfInBounds_toArray, List.set_cons_zero, List.set_cons_succ]
  refine take_at (i := 2) (v := ?_) (some 41) rfl rfl (by kernel_rfl) (by kernel_rfl) (by kernel_rfl) (fun _ _ _ h => h) (Or.inl ⟨by rfl, ?_⟩) (by assumption) ?_
  rotate_left
  · (intro w hSw; (try dsimp only at hSw); go_simp; try with_reducible rfl)
  simp only [Act.put, List.setIfInBounds_toArray, List.set_cons_zero, List.set_cons_succ]
  have S4 := S3.below ((Below.refl X3.drew.heap.size X3.drew).alloc (Nat.le_refl _) (.cells #[] 5))
  refine step_at (i := 1) (some 40) rfl rfl (by rfl) (by kernel_rfl) _ _ (bslice_run rfl) ⟨S4.1.1, trivial⟩ (fun hHeld => ?_)
  simp only [Act.put, List.setIfInBounds_toArray, List.set_cons_zero, List.set_cons_succ]
  obtain ⟨v8, W8, hr8, hO8, hB8⟩ := app_arg 27 (X3.drew.alloc (.cells #[] 5)) X3.drew.heap.size 0 0 0 _ (some ⟨b, off, none⟩) (fun _ => 0) (fun j => f (256 + j)) (own0 X3.drew _ (Nat.le_refl _)) S4.2.2.1 (by omega) (by simp)
  rw [Nat.zero_add] at hO8
  obtain ⟨a8, cap8, rfl, hA8, hP8⟩ := (hO8.congr (G := fun j => f (256 + j)) (fun j _ => by unfold cat; rw [if_neg (by omega), Nat.sub_zero])).slice S4.2.2.1.bytes
  have S8 := S3.below (((Below.refl X3.drew.heap.size X3.drew).alloc (Nat.le_refl _) _).trans hB8)
  refine step_at (i := 3) (some 42) rfl rfl (by rfl) (by kernel_rfl) (.slice a8 0 cap8) W8 (append_run (.tmp 40) (.tmp 41) 27 27 rfl _ _ rfl rfl hr8) ⟨S8.1.1, trivial⟩ (fun hHeld => ?_)
  simp only [Act.put, List.setIfInBounds_toArray, List.set_cons_zero, List.set_cons_succ]
  refine take_at (i := 4) (v := (.agg (msg h a8 0 cap8).toArray)) (some 43) rfl rfl (by kernel_rfl) (by kernel_rfl) (by kernel_rfl) (fun _ _ _ h => h) (Or.inl ⟨by rfl, fun w _ => (build_run 29 _ rfl (msg h a8 0 cap8).toArray (by kernel_rfl))⟩) (by assumption) ?_
  simp only [Act.put, List.setIfInBounds_toArray, List.set_cons_zero, List.set_cons_succ]
  refine wpAnyH_ready (rs := [5]) (by kernel_rfl) (by simp) ?_
  refine all_store_rec (i := 5) none 29 (.tmp 2) (.tmp 43) rfl rfl rfl (by rfl) w.heap.size (msg (fun _ => 0) none 0 0) (msg h a8 0 cap8) rfl rfl S8.2.1 rfl (by kernel_rfl) (msg_one _ _ _ _) ?_ AllReadyH.nil
  intro W9 R9 B9
  have A9 : Arg W9 a8 0 (fun j => f (256 + j)) := hA8.but B9 (fun p hp => by have := hP8 p hp; have := S3.2.1.2.2; omega)
  have E9 : Below w.heap.size w W9 := S8.2.2.2.trans (B9.below (Nat.le_refl _) S8.2.2.2.size)
  refine ⟨?_, fun hHeld => ?_⟩
  · exact ⟨(S8.1.but B9 (by have := N4.out; omega)).1, trivial⟩
  simp only [Act.put]
  refine take_at (i := 6) (v := ?_) (some 3) rfl rfl (by kernel_rfl) (by kernel_rfl) (by kernel_rfl) (fun _ _ _ h => h) (Or.inl ⟨by rfl, ?_⟩) (by assumption) ?_
  rotate_left
  · (intro w hSw; (try dsimp only at hSw); go_simp; try with_reducible rfl)
  simp only [Act.put, List.setIfInBounds_toArray, List.set_cons_zero, List.set_cons_succ]
  refine wpAnyH_done (by kernel_rfl) ?_ _
  refine NoPanic.normal ?_
  go_wp2_with fail
  have hl := R9.run_load 29 _ Tryd.underlying29 rfl (by kernel_rfl)
  refine bodyPost_ret (v := MC h a8 0 cap8 0) (by simp [results, Tryd.results39, asAddr, hl]) rfl ⟨a8, cap8, rfl, A9, fun p hp => Nat.le_trans S3.2.2.2.size (hP8 p hp), E9⟩
theorem nopen_ok (a : Option Addr) (n C : Nat) (f : Nat → Int) (w : World) (hA : Arg w a n f) (hC : n ≤ C) (hm : n ≤ 900000) (hc : openCode n f = 0) :
    Calls Tryd.prog 39 #[.slice a n C] w fun e w' => ∃ a' cap, e = .returned (MC (hdrF f) a' (n - 256) cap 0) ∧ Arg w' a' (n - 256) (fun j => f (256 + j)) ∧ (∀ p, a' = some p → w.heap.size ≤ p.block) ∧ Below w.heap.size w w' := by
  obtain ⟨hn, h1, h2, h3⟩ := openCode_zero hc
  rcases hA with ⟨h, _⟩ | ⟨_, b, off, rfl, hl⟩
  · omega
  by_cases e : C = 256
  · subst e
    obtain rfl : n = 256 := by omega
    exact nopen_ok_end b off f w hl h1 h2 h3
  · exact nopen_ok_mid b off n C f w hl hn hC e hm h1 h2 h3
theorem nopen_no (a : Option Addr) (n C : Nat) (f : Nat → Int) (w : World) (hA : Arg w a n f) (hC : n ≤ C) (hm : n ≤ 900000) (hc : openCode n f ≠ 0) :
    Calls Tryd.prog 39 #[.slice a n C] w fun e w' => e = .returned (MC (fun _ => 0) none 0 0 (openCode n f)) ∧ Below w.heap.size w w' := by
  by_cases hn : n < 256
  · rw [show openCode n f = 4 from by unfold openCode; rw [if_pos hn]]
    exact nopen_few a n C w hn
  rcases hA with ⟨h, _⟩ | ⟨_, b, off, rfl, hl⟩
  · omega
  by_cases h1 : headCode f = 0
  · by_cases h2 : hdrF f 2 = ((n - 256 : Nat) : Int)
    · have h3 : bodySeal n f = false := by
        cases h3 : bodySeal n f with
        | false => rfl
        | true => exact absurd (by unfold openCode; rw [if_neg hn, if_neg (by rw [h1]; simp), if_neg (by rw [h2]; simp), h3]; rfl) hc
      rw [show openCode n f = 12 from by unfold openCode; rw [if_neg hn, if_neg (by rw [h1]; simp), if_neg (by rw [h2]; simp), if_pos h3]]
      by_cases e : C = 256
      · subst e
        obtain rfl : n = 256 := by omega
        exact nopen_seal_end b off f w hl h1 h2 h3
      · exact nopen_seal_mid b off n C f w hl (by omega) hC e hm h1 h2 h3
    · rw [show openCode n f = 4 from by unfold openCode; rw [if_neg hn, if_neg (by rw [h1]; simp), if_pos h2]]
      by_cases e : C = 256
      · subst e
        obtain rfl : n = 256 := by omega
        exact nopen_size_end b off f w hl h1 h2
      · exact nopen_size_mid b off n C f w hl (by omega) hC e hm h1 h2
  · rw [show openCode n f = headCode f from by unfold openCode; rw [if_neg hn, if_pos h1]]
    exact nopen_head b off n C f w hl (by omega) hC (headCode f) rfl h1
end Go.Proofs.YtfpgkckcifjkcaaDoor
namespace Go.Proofs.YtfpgkckcifjkcaaDoor
open Go.RowKit
theorem rp_ar (n C s : Nat) (x : Int) (hn : 256 ≤ n) (hC : n ≤ C) (hm : n ≤ 1000000) (h0 : 0 ≤ x) (h1 : x ≤ 1024) (hs : x ≤ ((n - 256 : Nat) : Int)) (hse : x.toNat = s) :
    x = (s : Int) ∧ wrap64 (256 + (s : Int)) = 256 + (s : Int) ∧ ((n : Int) < 256 + (s : Int)) = False ∧ 0 ≤ 256 + (s : Int) ∧ IntKind.i64.wrap (256 + (s : Int)) = 256 + (s : Int) ∧ 256 + (s : Int) ≤ C ∧ (256 + (s : Int)).toNat = 256 + s ∧ 256 + s ≤ n := by
  refine ⟨by omega, ?_, eq_false (by omega), by omega, ?_, by omega, by omega, by omega⟩
  · unfold wrap64; omega
  · rw [IntKind.wrap_i64]; omega
theorem rp_ar2 (n : Nat) (x : Int) (hn : 256 ≤ n) (h0 : 0 ≤ x) (h1 : x ≤ 1024) (hs : ((n - 256 : Nat) : Int) < x) : (n : Int) < 256 + x ∧ wrap64 (256 + x) = 256 + x := by
  refine ⟨by omega, ?_⟩
  unfold wrap64; omega
/-- The answer: a message, and whether it is one. -/
abbrev MD (h : Nat → Int) (a : Option Addr) (n cap : Nat) (b : Bool) : Value := .tuple #[.agg (msg h a n cap).toArray, .bool b]
set_option maxRecDepth 100000 in
set_option maxHeartbeats 400000 in
theorem rprep_few (a : Option Addr) (n C : Nat) (k : Int) (w : World) (hn : n < 256) :
    Calls Tryd.prog 20 #[.slice a n C, .int .i64 k] w fun e w' => e = .returned (MD (fun _ => 0) none 0 0 false) ∧ Below w.heap.size w w' := by
  have e1 : (n : Int) < 256 := by omega
  go_enter Tryd.func20, Tryd.ntmps20
  go_wp2_with (first
    | (refine wpList_alloc_rec rfl 29 rfl (msg (fun _ => 0) none 0 0) w.heap.size rfl zeroMsg ?_; intro W1 hR1 hB1 hz1)
    | (refine wpList_build_to rfl 29 _ rfl (msg (fun _ => 0) none 0 0).toArray (by kernel_rfl) ?_)
    | (refine wpList_store_rec rfl 29 (.tmp 4) (.tmp 12) rfl w.heap.size 0 _ (msg (fun _ => 0) none 0 0) rfl rfl hR1 rfl (by kernel_rfl) (msg_one _ _ _ _) ?_; intro W2 hR2 hB2))
  have hl := hR2.run_load 29 _ Tryd.underlying29 rfl (by kernel_rfl)
  refine bodyPost_ret (v := MD (fun _ => 0) none 0 0 false) (by simp [results, Tryd.results20, asAddr, hl]) rfl ⟨rfl, ?_⟩
  exact hB1.trans (hB2.below (Nat.le_refl _) (by omega))
set_option maxRecDepth 100000 in
set_option maxHeartbeats 600000 in
theorem rprep_head (b off n C : Nat) (f : Nat → Int) (k : Int) (w : World) (hL : Lies w b off n f) (hn : 256 ≤ n) (hC : n ≤ C) (c : Int) (hc : headCode f = c) (h0 : c ≠ 0) :
    Calls Tryd.prog 20 #[.slice (some ⟨b, off, none⟩) n C, .int .i64 k] w fun e w' => e = .returned (MD (fun _ => 0) none 0 0 false) ∧ Below w.heap.size w w' := by
  have LL : Hid (Lies w b off n f) := hL
  obtain ⟨h, hh⟩ : ∃ h, headVal f = h := ⟨_, rfl⟩
  have HV : Hid (headVal f = h) := hh
  have HC : Hid (headCode f = c) := hc
  have c0 : (c != 0) = true := by simpa using h0
  clear hc hh h0
  clear hL
  have k1 : ¬ (n : Int) < 256 := by omega
  have k2 : (256 : Int) ≤ n := by omega
  have k3 : (256 : Int) ≤ C := by omega
  go_enter Tryd.func20, Tryd.ntmps20
  go_wp2_with (first
    | (refine wpList_alloc_rec rfl 29 rfl (msg (fun _ => 0) none 0 0) w.heap.size rfl zeroMsg ?_; intro W1 hR1 hB1 hz1
       have L1 : Hid (Lies W1 b off n f) := LL.out.below hB1
       have L1' : Hid (Lies W1 b off 256 f) := (L1.out.part 0 256 (by omega)).zero
       have R1 : Hid (Rec19 W1 w.heap.size 0 (msg (fun _ => 0) none 0 0)) := hR1
       have B1 : Hid (Below w.heap.size w W1) := hB1
       clear hR1 hB1 hz1)
    | (go_at_call 38; refine (nhead_any b off C f _ L1'.out (by omega)).mono ?_; rintro e W2 ⟨rfl, hB2⟩; rw [HV.out, HC.out]
       have R2 : Hid (Rec19 W2 w.heap.size 0 (msg (fun _ => 0) none 0 0)) := R1.out.below hB2
       have L2 : Hid (Lies W2 b off n f) := L1.out.below hB2
       have B2 : Hid (Below w.heap.size w W2) := B1.out.trans (hB2.mono B1.out.size)
       clear hB2)
    | (have _q := B2; clear _q; refine wpList_alloc_rec rfl 26 rfl (hcs fun _ => 0) W2.heap.size rfl zeroHdr ?_; intro W3 hR3 hB3 hz3)
    | (have _q := B2; clear _q; refine wpList_store_rec rfl 26 (.tmp 6) (.tmp 17) rfl W2.heap.size 0 _ (hcs h) rfl rfl hR3 rfl (by kernel_rfl) (hcs_one _) ?_; intro W4 hR4 hB4
       have F4 : Below W2.heap.size W2 W4 := hB3.trans (hB4.below (Nat.le_refl _) (by omega))
       have R4 : Hid (Rec19 W4 w.heap.size 0 (msg (fun _ => 0) none 0 0)) := R2.out.below F4
       have L4 : Hid (Lies W4 b off n f) := L2.out.below F4
       have B4 : Hid (Below w.heap.size w W4) := B2.out.trans (F4.mono B2.out.size)
       have H4 : Hid (Rec19 W4 W2.heap.size 0 (hcs h)) := hR4
       have N4 : Hid (w.heap.size < W2.heap.size) := R2.out.2.2
       clear F4 hR3 hB3 hz3 hB4 hR4 R2 L2 B2)
    | (have _q := R4; clear _q; refine wpList_build_to rfl 29 _ rfl (msg (fun _ => 0) none 0 0).toArray (by kernel_rfl) ?_)
    | (have _q := R4; clear _q; refine wpList_store_rec rfl 29 (.tmp 4) (.tmp 35) rfl w.heap.size 0 _ (msg (fun _ => 0) none 0 0) rfl rfl R4.out rfl (by kernel_rfl) (msg_one _ _ _ _) ?_; intro W9 hR9 hB9))
  have hl := hR9.run_load 29 _ Tryd.underlying29 rfl (by kernel_rfl)
  refine bodyPost_ret (v := MD (fun _ => 0) none 0 0 false) (by simp [results, Tryd.results20, asAddr, hl]) rfl ⟨rfl, ?_⟩
  exact B4.out.trans (hB9.below (Nat.le_refl _) B4.out.size)
set_option maxRecDepth 100000 in
set_option maxHeartbeats 600000 in
theorem rrprep_not (b off n C : Nat) (f : Nat → Int) (k : Int) (w : World) (hL : Lies w b off n f) (hn : 256 ≤ n) (hC : n ≤ C) (hc : headCode f = 0) (hp : isPrep (hdrF f) k = false) :
    Calls Tryd.prog 20 #[.slice (some ⟨b, off, none⟩) n C, .int .i64 k] w fun e w' => e = .returned (MD (fun _ => 0) none 0 0 false) ∧ Below w.heap.size w w' := by
  have LL : Hid (Lies w b off n f) := hL
  have hv : headVal f = hdrF f := by unfold headVal; rw [if_pos hc]
  obtain ⟨h, hh⟩ : ∃ h, hdrF f = h := ⟨_, rfl⟩
  rw [hh] at hv
  rw [hh] at hp
  have HH : Hid (hdrF f = h) := hh
  have HV : Hid (headVal f = h) := hv
  have HC : Hid (headCode f = 0) := hc
  have HP : Hid (isPrep h k = false) := hp
  clear hc hv hp hh
  clear hL
  have k1 : ¬ (n : Int) < 256 := by omega
  have k2 : (256 : Int) ≤ n := by omega
  have k3 : (256 : Int) ≤ C := by omega
  go_enter Tryd.func20, Tryd.ntmps20
  go_wp2_with (first
    | (refine wpList_alloc_rec rfl 29 rfl (msg (fun _ => 0) none 0 0) w.heap.size rfl zeroMsg ?_; intro W1 hR1 hB1 hz1
       have L1 : Hid (Lies W1 b off n f) := LL.out.below hB1
       have L1' : Hid (Lies W1 b off 256 f) := (L1.out.part 0 256 (by omega)).zero
       have R1 : Hid (Rec19 W1 w.heap.size 0 (msg (fun _ => 0) none 0 0)) := hR1
       have B1 : Hid (Below w.heap.size w W1) := hB1
       clear hR1 hB1 hz1)
    | (go_at_call 38; refine (nhead_any b off C f _ L1'.out (by omega)).mono ?_; rintro e W2 ⟨rfl, hB2⟩; rw [HV.out, HC.out]
       have R2 : Hid (Rec19 W2 w.heap.size 0 (msg (fun _ => 0) none 0 0)) := R1.out.below hB2
       have L2 : Hid (Lies W2 b off n f) := L1.out.below hB2
       have B2 : Hid (Below w.heap.size w W2) := B1.out.trans (hB2.mono B1.out.size)
       clear hB2)
    | (have _q := B2; clear _q; refine wpList_alloc_rec rfl 26 rfl (hcs fun _ => 0) W2.heap.size rfl zeroHdr ?_; intro W3 hR3 hB3 hz3)
    | (have _q := B2; clear _q; refine wpList_store_rec rfl 26 (.tmp 6) (.tmp 17) rfl W2.heap.size 0 _ (hcs h) rfl rfl hR3 rfl (by kernel_rfl) (hcs_one _) ?_; intro W4 hR4 hB4
       have F4 : Below W2.heap.size W2 W4 := hB3.trans (hB4.below (Nat.le_refl _) (by omega))
       have R4 : Hid (Rec19 W4 w.heap.size 0 (msg (fun _ => 0) none 0 0)) := R2.out.below F4
       have L4 : Hid (Lies W4 b off n f) := L2.out.below F4
       have B4 : Hid (Below w.heap.size w W4) := B2.out.trans (F4.mono B2.out.size)
       have H4 : Hid (Rec19 W4 W2.heap.size 0 (hcs h)) := hR4
       have N4 : Hid (w.heap.size < W2.heap.size) := R2.out.2.2
       clear F4 hR3 hB3 hz3 hB4 hR4 R2 L2 B2)
    | (have _q := R4; clear _q; refine wpList_load_w (by rfl) 26 (.tmp 6) rfl W2.heap.size 0 (hcs h) rfl _ Tryd.underlying26 rfl (by kernel_rfl) H4.out ?_)
    | (have _q := R4; clear _q; go_at_call 34; refine (mine_any h k _).mono ?_; rintro e W5 ⟨rfl, hB5⟩; rw [HP.out]
       have R5 : Hid (Rec19 W5 w.heap.size 0 (msg (fun _ => 0) none 0 0)) := R4.out.below hB5
       have L5 : Hid (Lies W5 b off n f) := L4.out.below hB5
       have B5 : Hid (Below w.heap.size w W5) := B4.out.trans (hB5.mono B4.out.size)
       have H5 : Hid (Rec19 W5 W2.heap.size 0 (hcs h)) := H4.out.below hB5
       have c2 : W5.cell? ⟨W2.heap.size, 2, none⟩ = some (.int .i64 (h 2)) := (H5.out.at 2 _ rfl).1
       clear hB5 R4 L4 B4 H4)
    | (have _q := R5; clear _q; refine wpList_build_to rfl 29 _ rfl (msg (fun _ => 0) none 0 0).toArray (by kernel_rfl) ?_)
    | (have _q := R5; clear _q; refine wpList_store_rec rfl 29 (.tmp 4) (.tmp 35) rfl w.heap.size 0 _ (msg (fun _ => 0) none 0 0) rfl rfl R5.out rfl (by kernel_rfl) (msg_one _ _ _ _) ?_; intro W9 hR9 hB9))
  have hl := hR9.run_load 29 _ Tryd.underlying29 rfl (by kernel_rfl)
  refine bodyPost_ret (v := MD (fun _ => 0) none 0 0 false) (by simp [results, Tryd.results20, asAddr, hl]) rfl ⟨rfl, ?_⟩
  exact B5.out.trans (hB9.below (Nat.le_refl _) B5.out.size)
set_option maxRecDepth 100000 in
set_option maxHeartbeats 600000 in
theorem rprep_long (b off n C : Nat) (f : Nat → Int) (k : Int) (w : World) (hL : Lies w b off n f) (hn : 256 ≤ n) (hC : n ≤ C) (hc : headCode f = 0) (hp : isPrep (hdrF f) k = true) (hs : ((n - 256 : Nat) : Int) < hdrF f 2) :
    Calls Tryd.prog 20 #[.slice (some ⟨b, off, none⟩) n C, .int .i64 k] w fun e w' => e = .returned (MD (fun _ => 0) none 0 0 false) ∧ Below w.heap.size w w' := by
  have LL : Hid (Lies w b off n f) := hL
  have hv : headVal f = hdrF f := by unfold headVal; rw [if_pos hc]
  obtain ⟨h, hh⟩ : ∃ h, hdrF f = h := ⟨_, rfl⟩
  rw [hh] at hv
  rw [hh] at hp
  have HH : Hid (hdrF f = h) := hh
  have HV : Hid (headVal f = h) := hv
  have HC : Hid (headCode f = 0) := hc
  have HP : Hid (isPrep h k = true) := hp
  rw [hh] at hs
  obtain ⟨hz0, hz1⟩ := size_range hc
  rw [hh] at hz0 hz1
  obtain ⟨s0, s1⟩ := rp_ar2 n (h 2) hn hz0 hz1 hs
  clear hz0 hz1
  clear hc hv hp hh hs
  clear hL
  have k1 : ¬ (n : Int) < 256 := by omega
  have k2 : (256 : Int) ≤ n := by omega
  have k3 : (256 : Int) ≤ C := by omega
  go_enter Tryd.func20, Tryd.ntmps20
  go_wp2_with (first
    | (refine wpList_alloc_rec rfl 29 rfl (msg (fun _ => 0) none 0 0) w.heap.size rfl zeroMsg ?_; intro W1 hR1 hB1 hz1
       have L1 : Hid (Lies W1 b off n f) := LL.out.below hB1
       have L1' : Hid (Lies W1 b off 256 f) := (L1.out.part 0 256 (by omega)).zero
       have R1 : Hid (Rec19 W1 w.heap.size 0 (msg (fun _ => 0) none 0 0)) := hR1
       have B1 : Hid (Below w.heap.size w W1) := hB1
       clear hR1 hB1 hz1)
    | (go_at_call 38; refine (nhead_any b off C f _ L1'.out (by omega)).mono ?_; rintro e W2 ⟨rfl, hB2⟩; rw [HV.out, HC.out]
       have R2 : Hid (Rec19 W2 w.heap.size 0 (msg (fun _ => 0) none 0 0)) := R1.out.below hB2
       have L2 : Hid (Lies W2 b off n f) := L1.out.below hB2
       have B2 : Hid (Below w.heap.size w W2) := B1.out.trans (hB2.mono B1.out.size)
       clear hB2)
    | (have _q := B2; clear _q; refine wpList_alloc_rec rfl 26 rfl (hcs fun _ => 0) W2.heap.size rfl zeroHdr ?_; intro W3 hR3 hB3 hz3)
    | (have _q := B2; clear _q; refine wpList_store_rec rfl 26 (.tmp 6) (.tmp 17) rfl W2.heap.size 0 _ (hcs h) rfl rfl hR3 rfl (by kernel_rfl) (hcs_one _) ?_; intro W4 hR4 hB4
       have F4 : Below W2.heap.size W2 W4 := hB3.trans (hB4.below (Nat.le_refl _) (by omega))
       have R4 : Hid (Rec19 W4 w.heap.size 0 (msg (fun _ => 0) none 0 0)) := R2.out.below F4
       have L4 : Hid (Lies W4 b off n f) := L2.out.below F4
       have B4 : Hid (Below w.heap.size w W4) := B2.out.trans (F4.mono B2.out.size)
       have H4 : Hid (Rec19 W4 W2.heap.size 0 (hcs h)) := hR4
       have N4 : Hid (w.heap.size < W2.heap.size) := R2.out.2.2
       clear F4 hR3 hB3 hz3 hB4 hR4 R2 L2 B2)
    | (have _q := R4; clear _q; refine wpList_load_w (by rfl) 26 (.tmp 6) rfl W2.heap.size 0 (hcs h) rfl _ Tryd.underlying26 rfl (by kernel_rfl) H4.out ?_)
    | (have _q := R4; clear _q; go_at_call 34; refine (mine_any h k _).mono ?_; rintro e W5 ⟨rfl, hB5⟩; rw [HP.out]
       have R5 : Hid (Rec19 W5 w.heap.size 0 (msg (fun _ => 0) none 0 0)) := R4.out.below hB5
       have L5 : Hid (Lies W5 b off n f) := L4.out.below hB5
       have B5 : Hid (Below w.heap.size w W5) := B4.out.trans (hB5.mono B4.out.size)
       have H5 : Hid (Rec19 W5 W2.heap.size 0 (hcs h)) := H4.out.below hB5
       have c2 : W5.cell? ⟨W2.heap.size, 2, none⟩ = some (.int .i64 (h 2)) := (H5.out.at 2 _ rfl).1
       clear hB5 R4 L4 B4 H4)
    | (have _q := R5; clear _q; refine wpList_build_to rfl 29 _ rfl (msg (fun _ => 0) none 0 0).toArray (by kernel_rfl) ?_)
    | (have _q := R5; clear _q; refine wpList_store_rec rfl 29 (.tmp 4) (.tmp 35) rfl w.heap.size 0 _ (msg (fun _ => 0) none 0 0) rfl rfl R5.out rfl (by kernel_rfl) (msg_one _ _ _ _) ?_; intro W9 hR9 hB9))
  have hl := hR9.run_load 29 _ Tryd.underlying29 rfl (by kernel_rfl)
  refine bodyPost_ret (v := MD (fun _ => 0) none 0 0 false) (by simp [results, Tryd.results20, asAddr, hl]) rfl ⟨rfl, ?_⟩
  exact B5.out.trans (hB9.below (Nat.le_refl _) B5.out.size)
set_option maxRecDepth 100000 in
set_option maxHeartbeats 600000 in
theorem rprep_shut (b off n C : Nat) (f : Nat → Int) (k : Int) (w : World) (hL : Lies w b off n f) (hn : 256 ≤ n) (hC : n ≤ C) (hC2 : n ≤ 900000) (hc : headCode f = 0) (hp : isPrep (hdrF f) k = true) (hs : hdrF f 2 ≤ ((n - 256 : Nat) : Int)) (ho : openCode (256 + (hdrF f 2).toNat) f ≠ 0) :
    Calls Tryd.prog 20 #[.slice (some ⟨b, off, none⟩) n C, .int .i64 k] w fun e w' => e = .returned (MD (fun _ => 0) none 0 0 false) ∧ Below w.heap.size w w' := by
  have LL : Hid (Lies w b off n f) := hL
  obtain ⟨hz0, hz1⟩ := size_range hc
  obtain ⟨s, hse⟩ : ∃ s : Nat, (hdrF f 2).toNat = s := ⟨_, rfl⟩
  rw [hse] at ho
  have HO : Hid (openCode (256 + s) f ≠ 0) := ho
  have hv : headVal f = hdrF f := by unfold headVal; rw [if_pos hc]
  obtain ⟨h, hh⟩ : ∃ h, hdrF f = h := ⟨_, rfl⟩
  rw [hh] at hv
  rw [hh] at hp
  have HH : Hid (hdrF f = h) := hh
  have HV : Hid (headVal f = h) := hv
  have HC : Hid (headCode f = 0) := hc
  have HP : Hid (isPrep h k = true) := hp
  rw [hh] at hz0 hz1 hse
  rw [hh] at hs
  obtain ⟨e2, s2, s8, s3, s7, s4, s5, s6'⟩ := rp_ar n C s (h 2) hn hC (by omega) hz0 hz1 hs hse
  have E2 : Hid (h 2 = (s : Int)) := e2
  have s6 : Hid (256 + s ≤ n) := s6'
  clear hc hv hp hh hs ho hz0 hz1 hse e2 s6'
  clear hL
  have k1 : ¬ (n : Int) < 256 := by omega
  have k2 : (256 : Int) ≤ n := by omega
  have k3 : (256 : Int) ≤ C := by omega
  go_enter Tryd.func20, Tryd.ntmps20
  go_wp2_with (first
    | (refine wpList_alloc_rec rfl 29 rfl (msg (fun _ => 0) none 0 0) w.heap.size rfl zeroMsg ?_; intro W1 hR1 hB1 hz1
       have L1 : Hid (Lies W1 b off n f) := LL.out.below hB1
       have L1' : Hid (Lies W1 b off 256 f) := (L1.out.part 0 256 (by omega)).zero
       have R1 : Hid (Rec19 W1 w.heap.size 0 (msg (fun _ => 0) none 0 0)) := hR1
       have B1 : Hid (Below w.heap.size w W1) := hB1
       clear hR1 hB1 hz1)
    | (go_at_call 38; refine (nhead_any b off C f _ L1'.out (by omega)).mono ?_; rintro e W2 ⟨rfl, hB2⟩; rw [HV.out, HC.out]
       have R2 : Hid (Rec19 W2 w.heap.size 0 (msg (fun _ => 0) none 0 0)) := R1.out.below hB2
       have L2 : Hid (Lies W2 b off n f) := L1.out.below hB2
       have B2 : Hid (Below w.heap.size w W2) := B1.out.trans (hB2.mono B1.out.size)
       clear hB2)
    | (have _q := B2; clear _q; refine wpList_alloc_rec rfl 26 rfl (hcs fun _ => 0) W2.heap.size rfl zeroHdr ?_; intro W3 hR3 hB3 hz3)
    | (have _q := B2; clear _q; refine wpList_store_rec rfl 26 (.tmp 6) (.tmp 17) rfl W2.heap.size 0 _ (hcs h) rfl rfl hR3 rfl (by kernel_rfl) (hcs_one _) ?_; intro W4 hR4 hB4
       have F4 : Below W2.heap.size W2 W4 := hB3.trans (hB4.below (Nat.le_refl _) (by omega))
       have R4 : Hid (Rec19 W4 w.heap.size 0 (msg (fun _ => 0) none 0 0)) := R2.out.below F4
       have L4 : Hid (Lies W4 b off n f) := L2.out.below F4
       have B4 : Hid (Below w.heap.size w W4) := B2.out.trans (F4.mono B2.out.size)
       have H4 : Hid (Rec19 W4 W2.heap.size 0 (hcs h)) := hR4
       have N4 : Hid (w.heap.size < W2.heap.size) := R2.out.2.2
       clear F4 hR3 hB3 hz3 hB4 hR4 R2 L2 B2)
    | (have _q := R4; clear _q; refine wpList_load_w (by rfl) 26 (.tmp 6) rfl W2.heap.size 0 (hcs h) rfl _ Tryd.underlying26 rfl (by kernel_rfl) H4.out ?_)
    | (have _q := R4; clear _q; go_at_call 34; refine (mine_any h k _).mono ?_; rintro e W5 ⟨rfl, hB5⟩; rw [HP.out]
       have R5 : Hid (Rec19 W5 w.heap.size 0 (msg (fun _ => 0) none 0 0)) := R4.out.below hB5
       have L5 : Hid (Lies W5 b off n f) := L4.out.below hB5
       have B5 : Hid (Below w.heap.size w W5) := B4.out.trans (hB5.mono B4.out.size)
       have H5 : Hid (Rec19 W5 W2.heap.size 0 (hcs h)) := H4.out.below hB5
       have c2 : W5.cell? ⟨W2.heap.size, 2, none⟩ = some (.int .i64 (s : Int)) := by rw [← E2.out]; exact (H5.out.at 2 _ rfl).1
       clear hB5 R4 L4 B4 H4)
    | (have _q := R5; clear _q; go_at_call 39; refine (nopen_no (some ⟨b, off, none⟩) (256 + s) C f _ (Arg.of (L5.out.part 0 (256 + s) (by have := s6.out; omega)).zero) (by have := s6.out; omega) (by have := s6.out; omega) HO.out).mono ?_; rintro e W6 ⟨rfl, hB6⟩
       have R6 : Hid (Rec19 W6 w.heap.size 0 (msg (fun _ => 0) none 0 0)) := R5.out.below hB6
       have B6 : Hid (Below w.heap.size w W6) := B5.out.trans (hB6.mono B5.out.size)
       have c0 : (openCode (256 + s) f == 0) = false := by simpa using HO.out
       generalize openCode (256 + s) f = oc at c0 ⊢
       clear hB6 R5 B5 L5 H5 c2)
    | (have _q := R6; clear _q; refine wpList_alloc_rec rfl 29 rfl (msg (fun _ => 0) none 0 0) W6.heap.size rfl zeroMsg ?_; intro W7 hR7 hB7 hz7)
    | (have _q := R6; clear _q; refine wpList_store_rec rfl 29 (.tmp 8) (.tmp 43) rfl W6.heap.size 0 _ (msg (fun _ => 0) none 0 0) rfl rfl hR7 rfl (by kernel_rfl) (msg_one _ _ _ _) ?_; intro W8 hR8 hB8
       have F8 : Below W6.heap.size W6 W8 := hB7.trans (hB8.below (Nat.le_refl _) (by omega))
       have R8 : Hid (Rec19 W8 w.heap.size 0 (msg (fun _ => 0) none 0 0)) := R6.out.below F8
       have B8 : Hid (Below w.heap.size w W8) := B6.out.trans (F8.mono B6.out.size)
       have M8 : Hid (Rec19 W8 W6.heap.size 0 (msg (fun _ => 0) none 0 0)) := hR8
       clear F8 hR7 hB7 hz7 hR8 hB8 R6 B6)
    | (have _q := R8; clear _q; refine wpList_load_rec rfl 29 (.tmp 8) rfl W6.heap.size 0 (msg (fun _ => 0) none 0 0) rfl _ Tryd.underlying29 rfl (by kernel_rfl) M8.out ?_)
    | (have _q := R8; clear _q; refine wpList_store_rec rfl 29 (.tmp 4) (.tmp 45) rfl w.heap.size 0 _ (msg (fun _ => 0) none 0 0) rfl rfl R8.out rfl (by kernel_rfl) (msg_one _ _ _ _) ?_; intro W9 hR9 hB9))
  have hl := hR9.run_load 29 _ Tryd.underlying29 rfl (by kernel_rfl)
  refine bodyPost_ret (v := MD (fun _ => 0) none 0 0 false) (by simp [results, Tryd.results20, asAddr, hl]) rfl ⟨rfl, ?_⟩
  exact B8.out.trans (hB9.below (Nat.le_refl _) B8.out.size)
set_option maxRecDepth 100000 in
set_option maxHeartbeats 600000 in
theorem rprep_go (b off n C : Nat) (f : Nat → Int) (k : Int) (w : World) (hL : Lies w b off n f) (hn : 256 ≤ n) (hC : n ≤ C) (hC2 : n ≤ 900000) (hc : headCode f = 0) (hp : isPrep (hdrF f) k = true) (hs : hdrF f 2 ≤ ((n - 256 : Nat) : Int)) (ho : openCode (256 + (hdrF f 2).toNat) f = 0) :
    Calls Tryd.prog 20 #[.slice (some ⟨b, off, none⟩) n C, .int .i64 k] w fun e w' => ∃ ga cap, e = .returned (MD (hdrF f) ga (hdrF f 2).toNat cap true) ∧ Arg w' ga (hdrF f 2).toNat (fun j => f (256 + j)) ∧ Below w.heap.size w w' := by
  have LL : Hid (Lies w b off n f) := hL
  obtain ⟨hz0, hz1⟩ := size_range hc
  obtain ⟨s, hse⟩ : ∃ s : Nat, (hdrF f 2).toNat = s := ⟨_, rfl⟩
  rw [hse] at ho
  have HO : Hid (openCode (256 + s) f = 0) := ho
  have hv : headVal f = hdrF f := by unfold headVal; rw [if_pos hc]
  obtain ⟨h, hh⟩ : ∃ h, hdrF f = h := ⟨_, rfl⟩
  rw [hh] at hv
  rw [hh] at hp
  have HH : Hid (hdrF f = h) := hh
  have HV : Hid (headVal f = h) := hv
  have HC : Hid (headCode f = 0) := hc
  have HP : Hid (isPrep h k = true) := hp
  rw [hh] at hz0 hz1 hse
  rw [hh] at hs
  obtain ⟨e2, s2, s8, s3, s7, s4, s5, s6'⟩ := rp_ar n C s (h 2) hn hC (by omega) hz0 hz1 hs hse
  have E2 : Hid (h 2 = (s : Int)) := e2
  have s6 : Hid (256 + s ≤ n) := s6'
  have HS : Hid (s = (h 2).toNat) := hse.symm
  clear hc hv hp hs ho hz0 hz1 hse e2 s6'
  rw [hh]
  clear hh
  clear hL
  have k1 : ¬ (n : Int) < 256 := by omega
  have k2 : (256 : Int) ≤ n := by omega
  have k3 : (256 : Int) ≤ C := by omega
  go_enter Tryd.func20, Tryd.ntmps20
  go_wp2_with (first
    | (refine wpList_alloc_rec rfl 29 rfl (msg (fun _ => 0) none 0 0) w.heap.size rfl zeroMsg ?_; intro W1 hR1 hB1 hz1
       have L1 : Hid (Lies W1 b off n f) := LL.out.below hB1
       have L1' : Hid (Lies W1 b off 256 f) := (L1.out.part 0 256 (by omega)).zero
       have R1 : Hid (Rec19 W1 w.heap.size 0 (msg (fun _ => 0) none 0 0)) := hR1
       have B1 : Hid (Below w.heap.size w W1) := hB1
       clear hR1 hB1 hz1)
    | (go_at_call 38; refine (nhead_any b off C f _ L1'.out (by omega)).mono ?_; rintro e W2 ⟨rfl, hB2⟩; rw [HV.out, HC.out]
       have R2 : Hid (Rec19 W2 w.heap.size 0 (msg (fun _ => 0) none 0 0)) := R1.out.below hB2
       have L2 : Hid (Lies W2 b off n f) := L1.out.below hB2
       have B2 : Hid (Below w.heap.size w W2) := B1.out.trans (hB2.mono B1.out.size)
       clear hB2)
    | (have _q := B2; clear _q; refine wpList_alloc_rec rfl 26 rfl (hcs fun _ => 0) W2.heap.size rfl zeroHdr ?_; intro W3 hR3 hB3 hz3)
    | (have _q := B2; clear _q; refine wpList_store_rec rfl 26 (.tmp 6) (.tmp 17) rfl W2.heap.size 0 _ (hcs h) rfl rfl hR3 rfl (by kernel_rfl) (hcs_one _) ?_; intro W4 hR4 hB4
       have F4 : Below W2.heap.size W2 W4 := hB3.trans (hB4.below (Nat.le_refl _) (by omega))
       have R4 : Hid (Rec19 W4 w.heap.size 0 (msg (fun _ => 0) none 0 0)) := R2.out.below F4
       have L4 : Hid (Lies W4 b off n f) := L2.out.below F4
       have B4 : Hid (Below w.heap.size w W4) := B2.out.trans (F4.mono B2.out.size)
       have H4 : Hid (Rec19 W4 W2.heap.size 0 (hcs h)) := hR4
       have N4 : Hid (w.heap.size < W2.heap.size) := R2.out.2.2
       clear F4 hR3 hB3 hz3 hB4 hR4 R2 L2 B2)
    | (have _q := R4; clear _q; refine wpList_load_w (by rfl) 26 (.tmp 6) rfl W2.heap.size 0 (hcs h) rfl _ Tryd.underlying26 rfl (by kernel_rfl) H4.out ?_)
    | (have _q := R4; clear _q; go_at_call 34; refine (mine_any h k _).mono ?_; rintro e W5 ⟨rfl, hB5⟩; rw [HP.out]
       have R5 : Hid (Rec19 W5 w.heap.size 0 (msg (fun _ => 0) none 0 0)) := R4.out.below hB5
       have L5 : Hid (Lies W5 b off n f) := L4.out.below hB5
       have B5 : Hid (Below w.heap.size w W5) := B4.out.trans (hB5.mono B4.out.size)
       have H5 : Hid (Rec19 W5 W2.heap.size 0 (hcs h)) := H4.out.below hB5
       have c2 : W5.cell? ⟨W2.heap.size, 2, none⟩ = some (.int .i64 (s : Int)) := by rw [← E2.out]; exact (H5.out.at 2 _ rfl).1
       clear hB5 R4 L4 B4 H4)
    | (have _q := R5; clear _q; go_at_call 39; refine (nopen_ok (some ⟨b, off, none⟩) (256 + s) C f _ (Arg.of (L5.out.part 0 (256 + s) (by have := s6.out; omega)).zero) (by have := s6.out; omega) (by have := s6.out; omega) HO.out).mono ?_; rintro e W6 ⟨ga, cap, he, hG, hgp, hB6⟩
       rw [Nat.add_sub_cancel_left] at he hG
       subst he
       rw [HH.out]
       have R6 : Hid (Rec19 W6 w.heap.size 0 (msg (fun _ => 0) none 0 0)) := R5.out.below hB6
       have B6 : Hid (Below w.heap.size w W6) := B5.out.trans (hB6.mono B5.out.size)
       have G6 : Hid (Arg W6 ga s (fun j => f (256 + j))) := hG
       have N6 : Hid (∀ p, ga = some p → w.heap.size < p.block) := fun p hp => Nat.lt_of_lt_of_le R5.out.2.2 (hgp p hp)
       clear hgp hB6 R5 B5 L5 H5 c2 hG)
    | (have _q := R6; clear _q; refine wpList_alloc_rec rfl 29 rfl (msg (fun _ => 0) none 0 0) W6.heap.size rfl zeroMsg ?_; intro W7 hR7 hB7 hz7)
    | (have _q := R6; clear _q; refine wpList_store_rec rfl 29 (.tmp 8) (.tmp 43) rfl W6.heap.size 0 _ (msg h ga s cap) rfl rfl hR7 rfl (by kernel_rfl) (msg_one _ _ _ _) ?_; intro W8 hR8 hB8
       have F8 : Below W6.heap.size W6 W8 := hB7.trans (hB8.below (Nat.le_refl _) (by omega))
       have R8 : Hid (Rec19 W8 w.heap.size 0 (msg (fun _ => 0) none 0 0)) := R6.out.below F8
       have B8 : Hid (Below w.heap.size w W8) := B6.out.trans (F8.mono B6.out.size)
       have G8 : Hid (Arg W8 ga s (fun j => f (256 + j))) := G6.out.below F8
       have M8 : Hid (Rec19 W8 W6.heap.size 0 (msg h ga s cap)) := hR8
       clear F8 hR7 hB7 hz7 hR8 hB8 R6 B6 G6)
    | (have _q := R8; clear _q; refine wpList_load_rec rfl 29 (.tmp 8) rfl W6.heap.size 0 (msg h ga s cap) rfl _ Tryd.underlying29 rfl (by kernel_rfl) M8.out ?_)
    | (have _q := R8; clear _q; refine wpList_store_rec rfl 29 (.tmp 4) (.tmp 45) rfl w.heap.size 0 _ (msg h ga s cap) rfl rfl R8.out rfl (by kernel_rfl) (msg_one _ _ _ _) ?_; intro W9 hR9 hB9))
  have hl := hR9.run_load 29 _ Tryd.underlying29 rfl (by kernel_rfl)
  refine bodyPost_ret (v := MD h ga s cap true) (by simp [results, Tryd.results20, asAddr, hl]) rfl ⟨ga, cap, by rw [HS.out], ?_, B8.out.trans (hB9.below (Nat.le_refl _) B8.out.size)⟩
  rw [← HS.out]
  exact G8.out.but hB9 (fun p hp => by have := N6.out p hp; omega)
/-- Prepare, whatever it is handed. -/
theorem rprep_no (a : Option Addr) (n C : Nat) (f : Nat → Int) (k : Int) (w : World) (hA : Arg w a n f) (hC : n ≤ C) (hm : n ≤ 900000) (hk : prepOK n f k = false) :
    Calls Tryd.prog 20 #[.slice a n C, .int .i64 k] w fun e w' => e = .returned (MD (fun _ => 0) none 0 0 false) ∧ Below w.heap.size w w' := by
  by_cases h1 : n < 256
  · exact rprep_few a n C k w h1
  rcases hA with ⟨h, _⟩ | ⟨_, b, off, rfl, hl⟩
  · omega
  by_cases h2 : headCode f = 0
  · by_cases h3 : isPrep (hdrF f) k = true
    · by_cases h4 : hdrF f 2 ≤ ((n - 256 : Nat) : Int)
      · by_cases h5 : openCode (256 + (hdrF f 2).toNat) f = 0
        · rw [prepOK_iff.2 ⟨by omega, h2, h3, h4, h5⟩] at hk
          cases hk
        · exact rprep_shut b off n C f k w hl (by omega) hC hm h2 h3 h4 h5
      · exact rprep_long b off n C f k w hl (by omega) hC h2 h3 (by omega)
    · exact rrprep_not b off n C f k w hl (by omega) hC h2 (by simpa using h3)
  · exact rprep_head b off n C f k w hl (by omega) hC _ rfl h2
theorem rprep_ok (a : Option Addr) (n C : Nat) (f : Nat → Int) (k : Int) (w : World) (hA : Arg w a n f) (hC : n ≤ C) (hm : n ≤ 900000) (hk : prepOK n f k = true) :
    Calls Tryd.prog 20 #[.slice a n C, .int .i64 k] w fun e w' => ∃ ga cap, e = .returned (MD (hdrF f) ga (hdrF f 2).toNat cap true) ∧ Arg w' ga (hdrF f 2).toNat (fun j => f (256 + j)) ∧ Below w.heap.size w w' := by
  obtain ⟨h1, h2, h3, h4, h5⟩ := prepOK_iff.1 hk
  rcases hA with ⟨h, _⟩ | ⟨_, b, off, rfl, hl⟩
  · omega
  exact rprep_go b off n C f k w hl h1 hC hm h2 h3 h4 h5
end Go.Proofs.YtfpgkckcifjkcaaDoor
namespace Go.Proofs.YtfpgkckcifjkcaaDoor
open Go.RowKit
theorem Arg.upto {w : World} {a : Option Addr} {n m : Nat} {f : Nat → Int} (h : Arg w a n f) (hm : m ≤ n) (h0 : 0 < n) : Arg w a m f := by
  rcases h with ⟨h, _⟩ | ⟨_, b, off, rfl, hl⟩
  · omega
  · exact Arg.of (hl.part 0 m (by omega)).zero
def rnRel (w : World) (n : Nat) (f : Nat → Int) (i : Value) (wr : World) : Prop := ∃ k : Nat, k ≤ n ∧ i = .int .i64 k ∧ (∀ j, j < k → f j = 0) ∧ wr = w
theorem rn_less (k m : Nat) (h : k < m) : m - (intOf (.int .i64 ((k : Int) + 1))).toNat < m - (intOf (.int .i64 (k : Int))).toNat := by
  show m - ((k : Int) + 1).toNat < m - ((k : Int)).toNat
  omega
set_option maxRecDepth 100000 in
set_option maxHeartbeats 400000 in
theorem rnoughts_any (a : Option Addr) (n C : Nat) (f : Nat → Int) (w : World) (hA : Arg w a n f) (hn : n ≤ 1000000) :
    Calls Tryd.prog 46 #[.slice a n C] w fun e w' => e = .returned (.bool (zeroN n f)) ∧ w' = w := by
  have HA : Hid (Arg w a n f) := hA
  obtain ⟨z, hz⟩ : ∃ z, zeroN n f = z := ⟨_, rfl⟩
  have HZ : Hid (zeroN n f = z) := hz
  rw [hz]
  clear hA hz
  go_enter Tryd.func46, Tryd.ntmps46
  go_wp2_with fail
  go_loopw [3] (fun i wr => rnRel w n f i wr) (fun i _ => n - (intOf i).toNat)
  case atStart => exact ⟨0, by omega, rfl, fun j hj => by omega, rfl⟩
  case round =>
    obtain ⟨k, hk, rfl, hk0, rfl⟩ := hrel
    by_cases hlt : k < n
    · rcases HA.out with ⟨h0, _⟩ | ⟨_, b, off, rfl, hl⟩
      · omega
      have c0 := hl.1 k hlt
      have i0 : (k : Int) < (n : Int) := by omega
      have i1 : (0 : Int) ≤ (k : Int) := by omega
      have i2 : wrap64 ((k : Int) + 1) = (k : Int) + 1 := by unfold wrap64; omega
      have ML : Hid (n - (intOf (.int .i64 ((k : Int) + 1))).toNat < n - (intOf (.int .i64 (k : Int))).toNat) := rn_less k n hlt
      by_cases e : f k = 0
      · have ST : Hid (rnRel wr n f (.int .i64 ((k : Int) + 1)) wr) := ⟨k + 1, hlt, by go_num, fun j hj => by
          by_cases q : j = k
          · rw [q]; exact e
          · exact hk0 j (by omega), rfl⟩
        rw [e] at c0
        clear hl hk0 hlt hk e
        go_wp2_with fail
        exact ⟨ST.out, ML.out⟩
      · have e' : (f k != 0) = true := by simpa using e
        have hz : z = false := by
          rw [← HZ.out, ← Bool.not_eq_true, zeroN_iff]
          intro q
          exact e (q k hlt)
        subst hz
        clear hl hk0 hlt hk e
        go_wp2_with fail
        go_ret
        exact ⟨rfl, rfl⟩
    · obtain rfl : k = n := by omega
      have hz : z = true := by rw [← HZ.out, zeroN_iff]; exact hk0
      subst hz
      clear hk0 hlt hk
      go_wp2_with fail
      go_ret
      exact ⟨rfl, rfl⟩
/-- What says that a slot is unwritten is found so, however long. -/
theorem fhK_unw {n : Nat} {f : Nat → Int} {k : Int} (hf : ∀ j, j < n → 0 ≤ f j ∧ f j < 256) (hk : isSl k = true) (h : txtN n f = txtN 256 (unwF k)) : fhK n f k = 1 := by
  obtain ⟨hn, he⟩ := txtN_inj hf (unwF_byte k) h
  subst hn
  rw [← unw_found hk]
  unfold fhK headC isUnw
  rw [headCode_congr f (unwF k) he, isPrep_congr _ _ k (hdrF_congr f (unwF k) he), txtN_congr 256 f (unwF k) he]
theorem fhK_one {n : Nat} {f : Nat → Int} {k : Int} (h : fhK n f k = 1) : txtN n f = txtN 256 (unwF k) := by
  unfold fhK at h
  by_cases e : headC n f = 0
  · rw [if_pos e] at h
    by_cases e2 : isPrep (hdrF f) k = true
    · rw [if_pos e2] at h; omega
    · rw [if_neg e2] at h
      by_cases e3 : isUnw n f k = true
      · unfold isUnw at e3
        rw [Bool.and_eq_true, decide_eq_true_iff] at e3
        exact e3.2
      · rw [if_neg e3] at h; omega
  · rw [if_neg e] at h; omega
/-- The header that the reference goes by. -/
theorem nhead_gen (a : Option Addr) (n C : Nat) (f : Nat → Int) (w : World) (hA : Arg w a n f) (hC : n ≤ C) :
    Calls Tryd.prog 38 #[.slice a n C] w fun e w' => e = .returned (HE (headV n f) (headC n f)) ∧ Below w.heap.size w w' := by
  by_cases e : n = 256
  · subst e
    rcases hA with ⟨h, _⟩ | ⟨_, b, off, rfl, hl⟩
    · omega
    have := nhead_any b off C f w hl hC
    unfold headV headC
    rw [if_pos rfl, if_pos rfl]
    exact this
  · unfold headV headC
    rw [if_neg e, if_neg e]
    exact nhead_len a n C w e
/-- What stays. -/
def rjS (w : World) (a : Option Addr) (n : Nat) (f : Nat → Int) (a' : Option Addr) (n' : Nat) (f' : Nat → Int) (u : Nat) (k : Int) (W : World) : Prop :=
  Rec19 W w.heap.size 0 (ss 0 0 0 false) ∧ Arg W a n f ∧ Arg W a' n' f' ∧ Arg W (some ⟨u, 0, none⟩) 256 (unwF k) ∧ Below w.heap.size w W
theorem rjS.below {w : World} {a : Option Addr} {n : Nat} {f : Nat → Int} {a' : Option Addr} {n' : Nat} {f' : Nat → Int} {u : Nat} {k : Int} {W W' : World} (s : rjS w a n f a' n' f' u k W) (hB : Below W.heap.size W W') : rjS w a n f a' n' f' u k W' :=
  ⟨s.1.below hB, s.2.1.below hB, s.2.2.1.below hB, s.2.2.2.1.below hB, s.2.2.2.2.trans (hB.mono s.2.2.2.2.size)⟩
set_option maxRecDepth 100000 in
set_option maxHeartbeats 1000000 in
theorem rjudge_no (a a' : Option Addr) (n C n' C' : Nat) (k : Int) (w : World) (hk : isSl k = false) : Calls Tryd.prog 23 #[.slice a n C, .slice a' n' C', .int .i64 k] w fun e w' => e = .returned (.agg (ss 0 0 0 false).toArray) ∧ Below w.heap.size w w' := by
  have HK : Hid (isSl k = false) := hk
  clear hk
  go_enter Tryd.func23, Tryd.ntmps23
  go_wp2_with (first
    | (refine wpList_alloc_rec rfl 45 rfl (ss 0 0 0 false) w.heap.size rfl zeroSs ?_; intro W1 hR1 hB1 hz1)
    | (go_at_call 12; refine (runwritten_no k _ HK.out).mono ?_; rintro e w3 ⟨rfl, rfl⟩)
    | (refine wpList_build_to rfl 45 _ rfl (ss 0 0 0 false).toArray (by kernel_rfl) ?_)
    | (refine wpList_store_rec rfl 45 (.tmp 6) (.tmp 22) rfl w.heap.size 0 _ (ss 0 0 0 false) rfl rfl hR1 rfl (by kernel_rfl) (ss_one _ _ _ _) ?_; intro W9 hR9 hB9))
  have hl := hR9.run_load 45 _ Tryd.underlying45 rfl (by kernel_rfl)
  refine bodyPost_ret (v := .agg (ss 0 0 0 false).toArray) (by simp [results, Tryd.results23, asAddr, Act.put, hl]) rfl ⟨rfl, ?_⟩
  exact hB1.trans (hB9.below (Nat.le_refl _) (by omega))
set_option maxRecDepth 100000 in
set_option maxHeartbeats 1000000 in
theorem rj_says (a a' : Option Addr) (n C n' C' : Nat) (f f' : Nat → Int) (k : Int) (w : World) (hA : Arg w a n f) (hA' : Arg w a' n' f') (hC : n ≤ C) (hC' : n' ≤ C') (hm : n' ≤ 900000) (hk : isSl k = true) (hp : prepOK n' f' k = false) (hc : headC n f = 0) (hi : isPrep (hdrF f) k = true) : Calls Tryd.prog 23 #[.slice a n C, .slice a' n' C', .int .i64 k] w fun e w' => e = .returned (.agg (ss 3 (hdrF f 5) (hdrF f 3) false).toArray) ∧ Below w.heap.size w w' := by
  have SK : Hid (isSl k = true) := hk
  have HA : Hid (Arg w a n f) := hA
  have HA' : Hid (Arg w a' n' f') := hA'
  obtain ⟨X, hX⟩ : ∃ X, txtN n f = X := ⟨_, rfl⟩
  obtain ⟨Y, hY⟩ : ∃ Y, txtN 256 (unwF k) = Y := ⟨_, rfl⟩
  have HX : Hid (txtN n f = X) := hX
  have HY : Hid (txtN 256 (unwF k) = Y) := hY
  have PN : Hid (prepOK n' f' k = false) := hp
  have hv0 := headV_zero hc
  obtain ⟨hv, hve⟩ : ∃ x, hdrF f = x := ⟨_, rfl⟩
  rw [hve] at hv0 hi
  have HV : Hid (headV n f = hv) := hv0
  have HC : Hid (headC n f = 0) := hc
  have HI : Hid (isPrep hv k = true) := hi
  have HVE : Hid (hdrF f = hv) := hve
  clear hv0 hc hi
  clear hp
  clear hk hA hA' hX hY
  try clear hve
  have T0 : Hid True := trivial
  go_enter Tryd.func23, Tryd.ntmps23
  go_wp2_with (first
    | (have _q := T0; clear _q; refine wpList_alloc_rec rfl 45 rfl (ss 0 0 0 false) w.heap.size rfl zeroSs ?_; intro W1 hR1 hB1 hz1
       have R1 : Hid (Rec19 W1 w.heap.size 0 (ss 0 0 0 false)) := hR1
       have B1 : Hid (Below w.heap.size w W1) := hB1
       clear hR1 hB1 hz1 T0)
    | (have _q := R1; clear _q; go_at_call 12; refine (runwritten_ok k _ SK.out).mono ?_; rintro e W2 ⟨u, cu, rfl, hU, hB⟩
       have S2 : Hid (rjS w a n f a' n' f' u k W2) := ⟨R1.out.below hB, (HA.out.below B1.out).below hB, (HA'.out.below B1.out).below hB, hU, B1.out.trans (hB.mono B1.out.size)⟩
       clear hB hU R1 B1)
    | (have _q := S2; clear _q; go_at_call 20; refine (rprep_no a' n' C' f' k _ S2.out.2.2.1 hC' hm PN.out).mono ?_; rintro e W3 ⟨rfl, hB⟩
       have S3 : Hid (rjS w a n f a' n' f' u k W3) := S2.out.below hB
       clear hB S2)
    | (have _q := S3; clear _q; refine wpList_alloc_rec rfl 29 rfl (msg (fun _ => 0) none 0 0) W3.heap.size rfl zeroMsg ?_; intro W4 r4 b4 z4)
    | (have _q := S3; clear _q; refine wpList_store_rec rfl 29 (.tmp 9) (.tmp 27) rfl W3.heap.size 0 _ (msg (fun _ => 0) none 0 0) rfl rfl r4 rfl (by kernel_rfl) (msg_one _ _ _ _) ?_; intro W5 r5 b5
       have hB : Below W3.heap.size W3 W5 := b4.trans (b5.below (Nat.le_refl _) (by omega))
       have S5 : Hid (rjS w a n f a' n' f' u k W5) := S3.out.below hB
       have M5 : Hid (Rec19 W5 W3.heap.size 0 (msg (fun _ => 0) none 0 0)) := r5
       clear hB b4 b5 r4 r5 z4 S3
       generalize W3.heap.size = xm at M5 ⊢)
    | (have _q := S5; clear _q; go_at_call 38; refine (nhead_gen a n C f _ S5.out.2.1 hC).mono ?_; rintro e W6 ⟨rfl, hB⟩; rw [HV.out, HC.out]
       have S6 : Hid (rjS w a n f a' n' f' u k W6) := S5.out.below hB
       have M6 : Hid (Rec19 W6 xm 0 (msg (fun _ => 0) none 0 0)) := M5.out.below hB
       clear hB S5 M5)
    | (have _q := S6; clear _q; refine wpList_alloc_rec rfl 26 rfl (hcs fun _ => 0) W6.heap.size rfl zeroHdr ?_; intro W7 r7 b7 z7)
    | (have _q := S6; clear _q; refine wpList_store_rec rfl 26 (.tmp 11) (.tmp 32) rfl W6.heap.size 0 _ (hcs hv) rfl rfl r7 rfl (by kernel_rfl) (hcs_one _) ?_; intro W8 r8 b8
       have hB : Below W6.heap.size W6 W8 := b7.trans (b8.below (Nat.le_refl _) (by omega))
       have S8 : Hid (rjS w a n f a' n' f' u k W8) := S6.out.below hB
       have M8 : Hid (Rec19 W8 xm 0 (msg (fun _ => 0) none 0 0)) := M6.out.below hB
       have H8 : Hid (Rec19 W8 W6.heap.size 0 (hcs hv)) := r8
       clear hB b7 b8 r7 r8 z7 S6 M6
       generalize W6.heap.size = xh at H8 ⊢)
    | (have _q := S8; clear _q; refine wpList_load_w (by rfl) 26 (.tmp 11) rfl xh 0 (hcs hv) rfl _ Tryd.underlying26 rfl (by kernel_rfl) H8.out ?_)
    | (have _q := S8; clear _q; go_at_call 34; refine (mine_any hv k _).mono ?_; rintro e W9 ⟨rfl, hB⟩; rw [HI.out]
       have S9 : Hid (rjS w a n f a' n' f' u k W9) := S8.out.below hB
       have M9 : Hid (Rec19 W9 xm 0 (msg (fun _ => 0) none 0 0)) := M8.out.below hB
       have H9 : Hid (Rec19 W9 xh 0 (hcs hv)) := H8.out.below hB
       clear hB S8 M8 H8
       have k1 := conv_arg W9 a n C f S9.out.2.1
       have k2 := conv_arg W9 (some ⟨u, 0, none⟩) 256 cu (unwF k) S9.out.2.2.2.1
       rw [HX.out] at k1
       rw [HY.out] at k2
       have c5 := (H9.out.at 5 (.int .i64 (hv 5)) rfl).1
       have c3 := (H9.out.at 3 (.int .i64 (hv 3)) rfl).1
       have TB : Hid True := trivial)
    | (have _q := TB; clear _q; refine wpList_build_to rfl 45 _ rfl (ss 3 (hv 5) (hv 3) false).toArray (by kernel_rfl) ?_)
    | (have _q := TB; clear _q; refine wpList_store_rec rfl 45 (.tmp 6) (.tmp 54) rfl w.heap.size 0 _ (ss 3 (hv 5) (hv 3) false) rfl rfl S9.out.1 rfl (by kernel_rfl) (ss_one _ _ _ _) ?_; intro W99 hR9 hB9))
  have hl := hR9.run_load 45 _ Tryd.underlying45 rfl (by kernel_rfl)
  refine bodyPost_ret (v := .agg (ss 3 (hv 5) (hv 3) false).toArray) (by simp [results, Tryd.results23, asAddr, Act.put, hl]) rfl ⟨by rw [HVE.out], S9.out.2.2.2.2.trans (hB9.below (Nat.le_refl _) S9.out.2.2.2.2.size)⟩
set_option maxRecDepth 100000 in
set_option maxHeartbeats 1000000 in
theorem rj_zero (a a' : Option Addr) (n C n' C' : Nat) (f f' : Nat → Int) (k : Int) (w : World) (hA : Arg w a n f) (hA' : Arg w a' n' f') (hC : n ≤ C) (hC' : n' ≤ C') (hm : n' ≤ 900000) (hk : isSl k = true) (hp : prepOK n' f' k = false) (hc : headC n f = 0) (hi : isPrep (hdrF f) k = false) (hu : txtN n f = txtN 256 (unwF k)) (hz : zeroN n' f' = true) : Calls Tryd.prog 23 #[.slice a n C, .slice a' n' C', .int .i64 k] w fun e w' => e = .returned (.agg (ss 4 0 0 false).toArray) ∧ Below w.heap.size w w' := by
  have SK : Hid (isSl k = true) := hk
  have HA : Hid (Arg w a n f) := hA
  have HA' : Hid (Arg w a' n' f') := hA'
  obtain ⟨X, hX⟩ : ∃ X, txtN n f = X := ⟨_, rfl⟩
  obtain ⟨Y, hY⟩ : ∃ Y, txtN 256 (unwF k) = Y := ⟨_, rfl⟩
  have HX : Hid (txtN n f = X) := hX
  have HY : Hid (txtN 256 (unwF k) = Y) := hY
  have PN : Hid (prepOK n' f' k = false) := hp
  have hv0 := headV_zero hc
  obtain ⟨hv, hve⟩ : ∃ x, hdrF f = x := ⟨_, rfl⟩
  rw [hve] at hv0 hi
  have HV : Hid (headV n f = hv) := hv0
  have HC : Hid (headC n f = 0) := hc
  have HI : Hid (isPrep hv k = false) := hi
  have HVE : Hid (hdrF f = hv) := hve
  clear hv0 hc hi
  clear hp
  have uq : (X.toList == Y.toList) = true := by rw [bytes_beq, ← hX, ← hY]; simpa using hu
  clear hu
  have HZ : Hid (zeroN n' f' = true) := hz
  clear hz
  clear hk hA hA' hX hY
  try clear hve
  have T0 : Hid True := trivial
  go_enter Tryd.func23, Tryd.ntmps23
  go_wp2_with (first
    | (have _q := T0; clear _q; refine wpList_alloc_rec rfl 45 rfl (ss 0 0 0 false) w.heap.size rfl zeroSs ?_; intro W1 hR1 hB1 hz1
       have R1 : Hid (Rec19 W1 w.heap.size 0 (ss 0 0 0 false)) := hR1
       have B1 : Hid (Below w.heap.size w W1) := hB1
       clear hR1 hB1 hz1 T0)
    | (have _q := R1; clear _q; go_at_call 12; refine (runwritten_ok k _ SK.out).mono ?_; rintro e W2 ⟨u, cu, rfl, hU, hB⟩
       have S2 : Hid (rjS w a n f a' n' f' u k W2) := ⟨R1.out.below hB, (HA.out.below B1.out).below hB, (HA'.out.below B1.out).below hB, hU, B1.out.trans (hB.mono B1.out.size)⟩
       clear hB hU R1 B1)
    | (have _q := S2; clear _q; go_at_call 20; refine (rprep_no a' n' C' f' k _ S2.out.2.2.1 hC' hm PN.out).mono ?_; rintro e W3 ⟨rfl, hB⟩
       have S3 : Hid (rjS w a n f a' n' f' u k W3) := S2.out.below hB
       clear hB S2)
    | (have _q := S3; clear _q; refine wpList_alloc_rec rfl 29 rfl (msg (fun _ => 0) none 0 0) W3.heap.size rfl zeroMsg ?_; intro W4 r4 b4 z4)
    | (have _q := S3; clear _q; refine wpList_store_rec rfl 29 (.tmp 9) (.tmp 27) rfl W3.heap.size 0 _ (msg (fun _ => 0) none 0 0) rfl rfl r4 rfl (by kernel_rfl) (msg_one _ _ _ _) ?_; intro W5 r5 b5
       have hB : Below W3.heap.size W3 W5 := b4.trans (b5.below (Nat.le_refl _) (by omega))
       have S5 : Hid (rjS w a n f a' n' f' u k W5) := S3.out.below hB
       have M5 : Hid (Rec19 W5 W3.heap.size 0 (msg (fun _ => 0) none 0 0)) := r5
       clear hB b4 b5 r4 r5 z4 S3
       generalize W3.heap.size = xm at M5 ⊢)
    | (have _q := S5; clear _q; go_at_call 38; refine (nhead_gen a n C f _ S5.out.2.1 hC).mono ?_; rintro e W6 ⟨rfl, hB⟩; rw [HV.out, HC.out]
       have S6 : Hid (rjS w a n f a' n' f' u k W6) := S5.out.below hB
       have M6 : Hid (Rec19 W6 xm 0 (msg (fun _ => 0) none 0 0)) := M5.out.below hB
       clear hB S5 M5)
    | (have _q := S6; clear _q; refine wpList_alloc_rec rfl 26 rfl (hcs fun _ => 0) W6.heap.size rfl zeroHdr ?_; intro W7 r7 b7 z7)
    | (have _q := S6; clear _q; refine wpList_store_rec rfl 26 (.tmp 11) (.tmp 32) rfl W6.heap.size 0 _ (hcs hv) rfl rfl r7 rfl (by kernel_rfl) (hcs_one _) ?_; intro W8 r8 b8
       have hB : Below W6.heap.size W6 W8 := b7.trans (b8.below (Nat.le_refl _) (by omega))
       have S8 : Hid (rjS w a n f a' n' f' u k W8) := S6.out.below hB
       have M8 : Hid (Rec19 W8 xm 0 (msg (fun _ => 0) none 0 0)) := M6.out.below hB
       have H8 : Hid (Rec19 W8 W6.heap.size 0 (hcs hv)) := r8
       clear hB b7 b8 r7 r8 z7 S6 M6
       generalize W6.heap.size = xh at H8 ⊢)
    | (have _q := S8; clear _q; refine wpList_load_w (by rfl) 26 (.tmp 11) rfl xh 0 (hcs hv) rfl _ Tryd.underlying26 rfl (by kernel_rfl) H8.out ?_)
    | (have _q := S8; clear _q; go_at_call 34; refine (mine_any hv k _).mono ?_; rintro e W9 ⟨rfl, hB⟩; rw [HI.out]
       have S9 : Hid (rjS w a n f a' n' f' u k W9) := S8.out.below hB
       have M9 : Hid (Rec19 W9 xm 0 (msg (fun _ => 0) none 0 0)) := M8.out.below hB
       have H9 : Hid (Rec19 W9 xh 0 (hcs hv)) := H8.out.below hB
       clear hB S8 M8 H8
       have k1 := conv_arg W9 a n C f S9.out.2.1
       have k2 := conv_arg W9 (some ⟨u, 0, none⟩) 256 cu (unwF k) S9.out.2.2.2.1
       rw [HX.out] at k1
       rw [HY.out] at k2
       have TB : Hid True := trivial)
    | (have _q := S9; clear _q; go_at_call 46; refine (rnoughts_any a' n' C' f' _ S9.out.2.2.1 (by omega)).mono ?_; rintro e W10 ⟨rfl, hW⟩; rw [hW, HZ.out]; clear hW W10)
    | (have _q := TB; clear _q; refine wpList_build_to rfl 45 _ rfl (ss 4 0 0 false).toArray (by kernel_rfl) ?_)
    | (have _q := TB; clear _q; refine wpList_store_rec rfl 45 (.tmp 6) (.tmp 61) rfl w.heap.size 0 _ (ss 4 0 0 false) rfl rfl S9.out.1 rfl (by kernel_rfl) (ss_one _ _ _ _) ?_; intro W99 hR9 hB9))
  have hl := hR9.run_load 45 _ Tryd.underlying45 rfl (by kernel_rfl)
  refine bodyPost_ret (v := .agg (ss 4 0 0 false).toArray) (by simp [results, Tryd.results23, asAddr, Act.put, hl]) rfl ⟨rfl, S9.out.2.2.2.2.trans (hB9.below (Nat.le_refl _) S9.out.2.2.2.2.size)⟩
set_option maxRecDepth 100000 in
set_option maxHeartbeats 1000000 in
theorem rj_torn (a a' : Option Addr) (n C n' C' : Nat) (f f' : Nat → Int) (k : Int) (w : World) (hA : Arg w a n f) (hA' : Arg w a' n' f') (hC : n ≤ C) (hC' : n' ≤ C') (hm : n' ≤ 900000) (hk : isSl k = true) (hp : prepOK n' f' k = false) (hc : headC n f = 0) (hi : isPrep (hdrF f) k = false) (hu : txtN n f = txtN 256 (unwF k)) (hz : zeroN n' f' = false) : Calls Tryd.prog 23 #[.slice a n C, .slice a' n' C', .int .i64 k] w fun e w' => e = .returned (.agg (ss 2 0 0 false).toArray) ∧ Below w.heap.size w w' := by
  have SK : Hid (isSl k = true) := hk
  have HA : Hid (Arg w a n f) := hA
  have HA' : Hid (Arg w a' n' f') := hA'
  obtain ⟨X, hX⟩ : ∃ X, txtN n f = X := ⟨_, rfl⟩
  obtain ⟨Y, hY⟩ : ∃ Y, txtN 256 (unwF k) = Y := ⟨_, rfl⟩
  have HX : Hid (txtN n f = X) := hX
  have HY : Hid (txtN 256 (unwF k) = Y) := hY
  have PN : Hid (prepOK n' f' k = false) := hp
  have hv0 := headV_zero hc
  obtain ⟨hv, hve⟩ : ∃ x, hdrF f = x := ⟨_, rfl⟩
  rw [hve] at hv0 hi
  have HV : Hid (headV n f = hv) := hv0
  have HC : Hid (headC n f = 0) := hc
  have HI : Hid (isPrep hv k = false) := hi
  have HVE : Hid (hdrF f = hv) := hve
  clear hv0 hc hi
  clear hp
  have uq : (X.toList == Y.toList) = true := by rw [bytes_beq, ← hX, ← hY]; simpa using hu
  clear hu
  have HZ : Hid (zeroN n' f' = false) := hz
  clear hz
  clear hk hA hA' hX hY
  try clear hve
  have T0 : Hid True := trivial
  go_enter Tryd.func23, Tryd.ntmps23
  go_wp2_with (first
    | (have _q := T0; clear _q; refine wpList_alloc_rec rfl 45 rfl (ss 0 0 0 false) w.heap.size rfl zeroSs ?_; intro W1 hR1 hB1 hz1
       have R1 : Hid (Rec19 W1 w.heap.size 0 (ss 0 0 0 false)) := hR1
       have B1 : Hid (Below w.heap.size w W1) := hB1
       clear hR1 hB1 hz1 T0)
    | (have _q := R1; clear _q; go_at_call 12; refine (runwritten_ok k _ SK.out).mono ?_; rintro e W2 ⟨u, cu, rfl, hU, hB⟩
       have S2 : Hid (rjS w a n f a' n' f' u k W2) := ⟨R1.out.below hB, (HA.out.below B1.out).below hB, (HA'.out.below B1.out).below hB, hU, B1.out.trans (hB.mono B1.out.size)⟩
       clear hB hU R1 B1)
    | (have _q := S2; clear _q; go_at_call 20; refine (rprep_no a' n' C' f' k _ S2.out.2.2.1 hC' hm PN.out).mono ?_; rintro e W3 ⟨rfl, hB⟩
       have S3 : Hid (rjS w a n f a' n' f' u k W3) := S2.out.below hB
       clear hB S2)
    | (have _q := S3; clear _q; refine wpList_alloc_rec rfl 29 rfl (msg (fun _ => 0) none 0 0) W3.heap.size rfl zeroMsg ?_; intro W4 r4 b4 z4)
    | (have _q := S3; clear _q; refine wpList_store_rec rfl 29 (.tmp 9) (.tmp 27) rfl W3.heap.size 0 _ (msg (fun _ => 0) none 0 0) rfl rfl r4 rfl (by kernel_rfl) (msg_one _ _ _ _) ?_; intro W5 r5 b5
       have hB : Below W3.heap.size W3 W5 := b4.trans (b5.below (Nat.le_refl _) (by omega))
       have S5 : Hid (rjS w a n f a' n' f' u k W5) := S3.out.below hB
       have M5 : Hid (Rec19 W5 W3.heap.size 0 (msg (fun _ => 0) none 0 0)) := r5
       clear hB b4 b5 r4 r5 z4 S3
       generalize W3.heap.size = xm at M5 ⊢)
    | (have _q := S5; clear _q; go_at_call 38; refine (nhead_gen a n C f _ S5.out.2.1 hC).mono ?_; rintro e W6 ⟨rfl, hB⟩; rw [HV.out, HC.out]
       have S6 : Hid (rjS w a n f a' n' f' u k W6) := S5.out.below hB
       have M6 : Hid (Rec19 W6 xm 0 (msg (fun _ => 0) none 0 0)) := M5.out.below hB
       clear hB S5 M5)
    | (have _q := S6; clear _q; refine wpList_alloc_rec rfl 26 rfl (hcs fun _ => 0) W6.heap.size rfl zeroHdr ?_; intro W7 r7 b7 z7)
    | (have _q := S6; clear _q; refine wpList_store_rec rfl 26 (.tmp 11) (.tmp 32) rfl W6.heap.size 0 _ (hcs hv) rfl rfl r7 rfl (by kernel_rfl) (hcs_one _) ?_; intro W8 r8 b8
       have hB : Below W6.heap.size W6 W8 := b7.trans (b8.below (Nat.le_refl _) (by omega))
       have S8 : Hid (rjS w a n f a' n' f' u k W8) := S6.out.below hB
       have M8 : Hid (Rec19 W8 xm 0 (msg (fun _ => 0) none 0 0)) := M6.out.below hB
       have H8 : Hid (Rec19 W8 W6.heap.size 0 (hcs hv)) := r8
       clear hB b7 b8 r7 r8 z7 S6 M6
       generalize W6.heap.size = xh at H8 ⊢)
    | (have _q := S8; clear _q; refine wpList_load_w (by rfl) 26 (.tmp 11) rfl xh 0 (hcs hv) rfl _ Tryd.underlying26 rfl (by kernel_rfl) H8.out ?_)
    | (have _q := S8; clear _q; go_at_call 34; refine (mine_any hv k _).mono ?_; rintro e W9 ⟨rfl, hB⟩; rw [HI.out]
       have S9 : Hid (rjS w a n f a' n' f' u k W9) := S8.out.below hB
       have M9 : Hid (Rec19 W9 xm 0 (msg (fun _ => 0) none 0 0)) := M8.out.below hB
       have H9 : Hid (Rec19 W9 xh 0 (hcs hv)) := H8.out.below hB
       clear hB S8 M8 H8
       have k1 := conv_arg W9 a n C f S9.out.2.1
       have k2 := conv_arg W9 (some ⟨u, 0, none⟩) 256 cu (unwF k) S9.out.2.2.2.1
       rw [HX.out] at k1
       rw [HY.out] at k2
       have TB : Hid True := trivial)
    | (have _q := S9; clear _q; go_at_call 46; refine (rnoughts_any a' n' C' f' _ S9.out.2.2.1 (by omega)).mono ?_; rintro e W10 ⟨rfl, hW⟩; rw [hW, HZ.out]; clear hW W10)
    | (have _q := TB; clear _q; refine wpList_build_to rfl 45 _ rfl (ss 2 0 0 false).toArray (by kernel_rfl) ?_)
    | (have _q := TB; clear _q; refine wpList_store_rec rfl 45 (.tmp 6) (.tmp 64) rfl w.heap.size 0 _ (ss 2 0 0 false) rfl rfl S9.out.1 rfl (by kernel_rfl) (ss_one _ _ _ _) ?_; intro W99 hR9 hB9))
  have hl := hR9.run_load 45 _ Tryd.underlying45 rfl (by kernel_rfl)
  refine bodyPost_ret (v := .agg (ss 2 0 0 false).toArray) (by simp [results, Tryd.results23, asAddr, Act.put, hl]) rfl ⟨rfl, S9.out.2.2.2.2.trans (hB9.below (Nat.le_refl _) S9.out.2.2.2.2.size)⟩
set_option maxRecDepth 100000 in
set_option maxHeartbeats 1000000 in
theorem rj_bad1 (a a' : Option Addr) (n C n' C' : Nat) (f f' : Nat → Int) (k : Int) (w : World) (hA : Arg w a n f) (hA' : Arg w a' n' f') (hC : n ≤ C) (hC' : n' ≤ C') (hm : n' ≤ 900000) (hk : isSl k = true) (hp : prepOK n' f' k = false) (hc : headC n f = 0) (hi : isPrep (hdrF f) k = false) (hu : ¬ txtN n f = txtN 256 (unwF k)) : Calls Tryd.prog 23 #[.slice a n C, .slice a' n' C', .int .i64 k] w fun e w' => e = .returned (.agg (ss 3 0 0 false).toArray) ∧ Below w.heap.size w w' := by
  have SK : Hid (isSl k = true) := hk
  have HA : Hid (Arg w a n f) := hA
  have HA' : Hid (Arg w a' n' f') := hA'
  obtain ⟨X, hX⟩ : ∃ X, txtN n f = X := ⟨_, rfl⟩
  obtain ⟨Y, hY⟩ : ∃ Y, txtN 256 (unwF k) = Y := ⟨_, rfl⟩
  have HX : Hid (txtN n f = X) := hX
  have HY : Hid (txtN 256 (unwF k) = Y) := hY
  have PN : Hid (prepOK n' f' k = false) := hp
  have hv0 := headV_zero hc
  obtain ⟨hv, hve⟩ : ∃ x, hdrF f = x := ⟨_, rfl⟩
  rw [hve] at hv0 hi
  have HV : Hid (headV n f = hv) := hv0
  have HC : Hid (headC n f = 0) := hc
  have HI : Hid (isPrep hv k = false) := hi
  have HVE : Hid (hdrF f = hv) := hve
  clear hv0 hc hi
  clear hp
  have uq : (X.toList == Y.toList) = false := by rw [bytes_beq, ← hX, ← hY]; simpa using hu
  clear hu
  clear hk hA hA' hX hY
  try clear hve
  have T0 : Hid True := trivial
  go_enter Tryd.func23, Tryd.ntmps23
  go_wp2_with (first
    | (have _q := T0; clear _q; refine wpList_alloc_rec rfl 45 rfl (ss 0 0 0 false) w.heap.size rfl zeroSs ?_; intro W1 hR1 hB1 hz1
       have R1 : Hid (Rec19 W1 w.heap.size 0 (ss 0 0 0 false)) := hR1
       have B1 : Hid (Below w.heap.size w W1) := hB1
       clear hR1 hB1 hz1 T0)
    | (have _q := R1; clear _q; go_at_call 12; refine (runwritten_ok k _ SK.out).mono ?_; rintro e W2 ⟨u, cu, rfl, hU, hB⟩
       have S2 : Hid (rjS w a n f a' n' f' u k W2) := ⟨R1.out.below hB, (HA.out.below B1.out).below hB, (HA'.out.below B1.out).below hB, hU, B1.out.trans (hB.mono B1.out.size)⟩
       clear hB hU R1 B1)
    | (have _q := S2; clear _q; go_at_call 20; refine (rprep_no a' n' C' f' k _ S2.out.2.2.1 hC' hm PN.out).mono ?_; rintro e W3 ⟨rfl, hB⟩
       have S3 : Hid (rjS w a n f a' n' f' u k W3) := S2.out.below hB
       clear hB S2)
    | (have _q := S3; clear _q; refine wpList_alloc_rec rfl 29 rfl (msg (fun _ => 0) none 0 0) W3.heap.size rfl zeroMsg ?_; intro W4 r4 b4 z4)
    | (have _q := S3; clear _q; refine wpList_store_rec rfl 29 (.tmp 9) (.tmp 27) rfl W3.heap.size 0 _ (msg (fun _ => 0) none 0 0) rfl rfl r4 rfl (by kernel_rfl) (msg_one _ _ _ _) ?_; intro W5 r5 b5
       have hB : Below W3.heap.size W3 W5 := b4.trans (b5.below (Nat.le_refl _) (by omega))
       have S5 : Hid (rjS w a n f a' n' f' u k W5) := S3.out.below hB
       have M5 : Hid (Rec19 W5 W3.heap.size 0 (msg (fun _ => 0) none 0 0)) := r5
       clear hB b4 b5 r4 r5 z4 S3
       generalize W3.heap.size = xm at M5 ⊢)
    | (have _q := S5; clear _q; go_at_call 38; refine (nhead_gen a n C f _ S5.out.2.1 hC).mono ?_; rintro e W6 ⟨rfl, hB⟩; rw [HV.out, HC.out]
       have S6 : Hid (rjS w a n f a' n' f' u k W6) := S5.out.below hB
       have M6 : Hid (Rec19 W6 xm 0 (msg (fun _ => 0) none 0 0)) := M5.out.below hB
       clear hB S5 M5)
    | (have _q := S6; clear _q; refine wpList_alloc_rec rfl 26 rfl (hcs fun _ => 0) W6.heap.size rfl zeroHdr ?_; intro W7 r7 b7 z7)
    | (have _q := S6; clear _q; refine wpList_store_rec rfl 26 (.tmp 11) (.tmp 32) rfl W6.heap.size 0 _ (hcs hv) rfl rfl r7 rfl (by kernel_rfl) (hcs_one _) ?_; intro W8 r8 b8
       have hB : Below W6.heap.size W6 W8 := b7.trans (b8.below (Nat.le_refl _) (by omega))
       have S8 : Hid (rjS w a n f a' n' f' u k W8) := S6.out.below hB
       have M8 : Hid (Rec19 W8 xm 0 (msg (fun _ => 0) none 0 0)) := M6.out.below hB
       have H8 : Hid (Rec19 W8 W6.heap.size 0 (hcs hv)) := r8
       clear hB b7 b8 r7 r8 z7 S6 M6
       generalize W6.heap.size = xh at H8 ⊢)
    | (have _q := S8; clear _q; refine wpList_load_w (by rfl) 26 (.tmp 11) rfl xh 0 (hcs hv) rfl _ Tryd.underlying26 rfl (by kernel_rfl) H8.out ?_)
    | (have _q := S8; clear _q; go_at_call 34; refine (mine_any hv k _).mono ?_; rintro e W9 ⟨rfl, hB⟩; rw [HI.out]
       have S9 : Hid (rjS w a n f a' n' f' u k W9) := S8.out.below hB
       have M9 : Hid (Rec19 W9 xm 0 (msg (fun _ => 0) none 0 0)) := M8.out.below hB
       have H9 : Hid (Rec19 W9 xh 0 (hcs hv)) := H8.out.below hB
       clear hB S8 M8 H8
       have k1 := conv_arg W9 a n C f S9.out.2.1
       have k2 := conv_arg W9 (some ⟨u, 0, none⟩) 256 cu (unwF k) S9.out.2.2.2.1
       rw [HX.out] at k1
       rw [HY.out] at k2
       have TB : Hid True := trivial)
    | (have _q := TB; clear _q; refine wpList_build_to rfl 45 _ rfl (ss 3 0 0 false).toArray (by kernel_rfl) ?_)
    | (have _q := TB; clear _q; refine wpList_store_rec rfl 45 (.tmp 6) (.tmp 65) rfl w.heap.size 0 _ (ss 3 0 0 false) rfl rfl S9.out.1 rfl (by kernel_rfl) (ss_one _ _ _ _) ?_; intro W99 hR9 hB9))
  have hl := hR9.run_load 45 _ Tryd.underlying45 rfl (by kernel_rfl)
  refine bodyPost_ret (v := .agg (ss 3 0 0 false).toArray) (by simp [results, Tryd.results23, asAddr, Act.put, hl]) rfl ⟨rfl, S9.out.2.2.2.2.trans (hB9.below (Nat.le_refl _) S9.out.2.2.2.2.size)⟩
set_option maxRecDepth 100000 in
set_option maxHeartbeats 1000000 in
theorem rj_bad0 (a a' : Option Addr) (n C n' C' : Nat) (f f' : Nat → Int) (k : Int) (w : World) (hA : Arg w a n f) (hA' : Arg w a' n' f') (hC : n ≤ C) (hC' : n' ≤ C') (hm : n' ≤ 900000) (hk : isSl k = true) (hp : prepOK n' f' k = false) (hc : headC n f ≠ 0) (hu : ¬ txtN n f = txtN 256 (unwF k)) : Calls Tryd.prog 23 #[.slice a n C, .slice a' n' C', .int .i64 k] w fun e w' => e = .returned (.agg (ss 3 0 0 false).toArray) ∧ Below w.heap.size w w' := by
  have SK : Hid (isSl k = true) := hk
  have HA : Hid (Arg w a n f) := hA
  have HA' : Hid (Arg w a' n' f') := hA'
  obtain ⟨X, hX⟩ : ∃ X, txtN n f = X := ⟨_, rfl⟩
  obtain ⟨Y, hY⟩ : ∃ Y, txtN 256 (unwF k) = Y := ⟨_, rfl⟩
  have HX : Hid (txtN n f = X) := hX
  have HY : Hid (txtN 256 (unwF k) = Y) := hY
  have PN : Hid (prepOK n' f' k = false) := hp
  obtain ⟨hv, hve⟩ : ∃ x, headV n f = x := ⟨_, rfl⟩
  have HV : Hid (headV n f = hv) := hve
  obtain ⟨c, hce⟩ : ∃ c, headC n f = c := ⟨_, rfl⟩
  have HC : Hid (headC n f = c) := hce
  have z1 : (c == 0) = false := by rw [hce] at hc; simpa using hc
  clear hve hce hc
  clear hp
  have uq : (X.toList == Y.toList) = false := by rw [bytes_beq, ← hX, ← hY]; simpa using hu
  clear hu
  clear hk hA hA' hX hY
  try clear hve
  have T0 : Hid True := trivial
  go_enter Tryd.func23, Tryd.ntmps23
  go_wp2_with (first
    | (have _q := T0; clear _q; refine wpList_alloc_rec rfl 45 rfl (ss 0 0 0 false) w.heap.size rfl zeroSs ?_; intro W1 hR1 hB1 hz1
       have R1 : Hid (Rec19 W1 w.heap.size 0 (ss 0 0 0 false)) := hR1
       have B1 : Hid (Below w.heap.size w W1) := hB1
       clear hR1 hB1 hz1 T0)
    | (have _q := R1; clear _q; go_at_call 12; refine (runwritten_ok k _ SK.out).mono ?_; rintro e W2 ⟨u, cu, rfl, hU, hB⟩
       have S2 : Hid (rjS w a n f a' n' f' u k W2) := ⟨R1.out.below hB, (HA.out.below B1.out).below hB, (HA'.out.below B1.out).below hB, hU, B1.out.trans (hB.mono B1.out.size)⟩
       clear hB hU R1 B1)
    | (have _q := S2; clear _q; go_at_call 20; refine (rprep_no a' n' C' f' k _ S2.out.2.2.1 hC' hm PN.out).mono ?_; rintro e W3 ⟨rfl, hB⟩
       have S3 : Hid (rjS w a n f a' n' f' u k W3) := S2.out.below hB
       clear hB S2)
    | (have _q := S3; clear _q; refine wpList_alloc_rec rfl 29 rfl (msg (fun _ => 0) none 0 0) W3.heap.size rfl zeroMsg ?_; intro W4 r4 b4 z4)
    | (have _q := S3; clear _q; refine wpList_store_rec rfl 29 (.tmp 9) (.tmp 27) rfl W3.heap.size 0 _ (msg (fun _ => 0) none 0 0) rfl rfl r4 rfl (by kernel_rfl) (msg_one _ _ _ _) ?_; intro W5 r5 b5
       have hB : Below W3.heap.size W3 W5 := b4.trans (b5.below (Nat.le_refl _) (by omega))
       have S5 : Hid (rjS w a n f a' n' f' u k W5) := S3.out.below hB
       have M5 : Hid (Rec19 W5 W3.heap.size 0 (msg (fun _ => 0) none 0 0)) := r5
       clear hB b4 b5 r4 r5 z4 S3
       generalize W3.heap.size = xm at M5 ⊢)
    | (have _q := S5; clear _q; go_at_call 38; refine (nhead_gen a n C f _ S5.out.2.1 hC).mono ?_; rintro e W6 ⟨rfl, hB⟩; rw [HV.out, HC.out]
       have S6 : Hid (rjS w a n f a' n' f' u k W6) := S5.out.below hB
       have M6 : Hid (Rec19 W6 xm 0 (msg (fun _ => 0) none 0 0)) := M5.out.below hB
       clear hB S5 M5)
    | (have _q := S6; clear _q; refine wpList_alloc_rec rfl 26 rfl (hcs fun _ => 0) W6.heap.size rfl zeroHdr ?_; intro W7 r7 b7 z7)
    | (have _q := S6; clear _q; refine wpList_store_rec rfl 26 (.tmp 11) (.tmp 32) rfl W6.heap.size 0 _ (hcs hv) rfl rfl r7 rfl (by kernel_rfl) (hcs_one _) ?_; intro W8 r8 b8
       have hB : Below W6.heap.size W6 W8 := b7.trans (b8.below (Nat.le_refl _) (by omega))
       have S8 : Hid (rjS w a n f a' n' f' u k W8) := S6.out.below hB
       have M8 : Hid (Rec19 W8 xm 0 (msg (fun _ => 0) none 0 0)) := M6.out.below hB
       have H8 : Hid (Rec19 W8 W6.heap.size 0 (hcs hv)) := r8
       clear hB b7 b8 r7 r8 z7 S6 M6
       generalize W6.heap.size = xh at H8 ⊢
       have k1 := conv_arg W8 a n C f S8.out.2.1
       have k2 := conv_arg W8 (some ⟨u, 0, none⟩) 256 cu (unwF k) S8.out.2.2.2.1
       rw [HX.out] at k1
       rw [HY.out] at k2
       have S9 := S8
       have M9 := M8
       have H9 := H8
       obtain ⟨W9, hW9⟩ : ∃ W9, W8 = W9 := ⟨_, rfl⟩
       subst hW9
       clear S8 M8 H8
       have TB : Hid True := trivial)
    | (have _q := TB; clear _q; refine wpList_build_to rfl 45 _ rfl (ss 3 0 0 false).toArray (by kernel_rfl) ?_)
    | (have _q := TB; clear _q; refine wpList_store_rec rfl 45 (.tmp 6) (.tmp 65) rfl w.heap.size 0 _ (ss 3 0 0 false) rfl rfl S9.out.1 rfl (by kernel_rfl) (ss_one _ _ _ _) ?_; intro W99 hR9 hB9))
  have hl := hR9.run_load 45 _ Tryd.underlying45 rfl (by kernel_rfl)
  refine bodyPost_ret (v := .agg (ss 3 0 0 false).toArray) (by simp [results, Tryd.results23, asAddr, Act.put, hl]) rfl ⟨rfl, S9.out.2.2.2.2.trans (hB9.below (Nat.le_refl _) S9.out.2.2.2.2.size)⟩
set_option maxRecDepth 100000 in
set_option maxHeartbeats 1000000 in
theorem rj_same (a : Option Addr) (pb po : Nat) (n C n' C' : Nat) (f f' : Nat → Int) (k : Int) (w : World) (hA : Arg w a n f) (hA' : Arg w (some ⟨pb, po, none⟩) n' f') (hC : n ≤ C) (hC' : n' ≤ C') (hm : n' ≤ 900000) (hk : isSl k = true) (hp : prepOK n' f' k = true) (hc : headC n f = 0) (hi : isPrep (hdrF f) k = true) (hs : txtN n f = txtN 256 f') : Calls Tryd.prog 23 #[.slice a n C, .slice (some ⟨pb, po, none⟩) n' C', .int .i64 k] w fun e w' => e = .returned (.agg (ss 1 (hdrF f' 5) (hdrF f' 3) false).toArray) ∧ Below w.heap.size w w' := by
  have SK : Hid (isSl k = true) := hk
  have HA : Hid (Arg w a n f) := hA
  have HA' : Hid (Arg w (some ⟨pb, po, none⟩) n' f') := hA'
  obtain ⟨X, hX⟩ : ∃ X, txtN n f = X := ⟨_, rfl⟩
  obtain ⟨Y, hY⟩ : ∃ Y, txtN 256 (unwF k) = Y := ⟨_, rfl⟩
  have HX : Hid (txtN n f = X) := hX
  have HY : Hid (txtN 256 (unwF k) = Y) := hY
  have PN : Hid (prepOK n' f' k = true) := hp
  have hv0 := headV_zero hc
  obtain ⟨hv, hve⟩ : ∃ x, hdrF f = x := ⟨_, rfl⟩
  rw [hve] at hv0 hi
  have HV : Hid (headV n f = hv) := hv0
  have HC : Hid (headC n f = 0) := hc
  have HI : Hid (isPrep hv k = true) := hi
  have HVE : Hid (hdrF f = hv) := hve
  clear hv0 hc hi
  clear hp
  have LN : Hid (256 ≤ n') := (prepOK_iff.1 PN.out).1
  have l1 : (256 : Int) ≤ C' := by have := LN.out; omega
  obtain ⟨Z, hZ⟩ : ∃ Z, txtN 256 f' = Z := ⟨_, rfl⟩
  have HQ : Hid (txtN 256 f' = Z) := hZ
  have hq : (X.toList == Z.toList) = true := by rw [bytes_beq, ← hX, ← hZ]; simpa using hs
  clear hZ hs
  clear hk hA hA' hX hY
  try clear hve
  have T0 : Hid True := trivial
  go_enter Tryd.func23, Tryd.ntmps23
  go_wp2_with (first
    | (have _q := T0; clear _q; refine wpList_alloc_rec rfl 45 rfl (ss 0 0 0 false) w.heap.size rfl zeroSs ?_; intro W1 hR1 hB1 hz1
       have R1 : Hid (Rec19 W1 w.heap.size 0 (ss 0 0 0 false)) := hR1
       have B1 : Hid (Below w.heap.size w W1) := hB1
       clear hR1 hB1 hz1 T0)
    | (have _q := R1; clear _q; go_at_call 12; refine (runwritten_ok k _ SK.out).mono ?_; rintro e W2 ⟨u, cu, rfl, hU, hB⟩
       have S2 : Hid (rjS w a n f (some ⟨pb, po, none⟩) n' f' u k W2) := ⟨R1.out.below hB, (HA.out.below B1.out).below hB, (HA'.out.below B1.out).below hB, hU, B1.out.trans (hB.mono B1.out.size)⟩
       clear hB hU R1 B1)
    | (have _q := S2; clear _q; go_at_call 20; refine (rprep_ok (some ⟨pb, po, none⟩) n' C' f' k _ S2.out.2.2.1 hC' hm PN.out).mono ?_; rintro e W3 ⟨ga, cap, rfl, hga, hB⟩; clear hga
       have S3 : Hid (rjS w a n f (some ⟨pb, po, none⟩) n' f' u k W3) := S2.out.below hB
       clear hB S2)
    | (have _q := S3; clear _q; refine wpList_alloc_rec rfl 29 rfl (msg (fun _ => 0) none 0 0) W3.heap.size rfl zeroMsg ?_; intro W4 r4 b4 z4)
    | (have _q := S3; clear _q; refine wpList_store_rec rfl 29 (.tmp 9) (.tmp 27) rfl W3.heap.size 0 _ (msg (hdrF f') ga (hdrF f' 2).toNat cap) rfl rfl r4 rfl (by kernel_rfl) (msg_one _ _ _ _) ?_; intro W5 r5 b5
       have hB : Below W3.heap.size W3 W5 := b4.trans (b5.below (Nat.le_refl _) (by omega))
       have S5 : Hid (rjS w a n f (some ⟨pb, po, none⟩) n' f' u k W5) := S3.out.below hB
       have M5 : Hid (Rec19 W5 W3.heap.size 0 (msg (hdrF f') ga (hdrF f' 2).toNat cap)) := r5
       clear hB b4 b5 r4 r5 z4 S3
       generalize W3.heap.size = xm at M5 ⊢)
    | (have _q := S5; clear _q; go_at_call 38; refine (nhead_gen a n C f _ S5.out.2.1 hC).mono ?_; rintro e W6 ⟨rfl, hB⟩; rw [HV.out, HC.out]
       have S6 : Hid (rjS w a n f (some ⟨pb, po, none⟩) n' f' u k W6) := S5.out.below hB
       have M6 : Hid (Rec19 W6 xm 0 (msg (hdrF f') ga (hdrF f' 2).toNat cap)) := M5.out.below hB
       clear hB S5 M5)
    | (have _q := S6; clear _q; refine wpList_alloc_rec rfl 26 rfl (hcs fun _ => 0) W6.heap.size rfl zeroHdr ?_; intro W7 r7 b7 z7)
    | (have _q := S6; clear _q; refine wpList_store_rec rfl 26 (.tmp 11) (.tmp 32) rfl W6.heap.size 0 _ (hcs hv) rfl rfl r7 rfl (by kernel_rfl) (hcs_one _) ?_; intro W8 r8 b8
       have hB : Below W6.heap.size W6 W8 := b7.trans (b8.below (Nat.le_refl _) (by omega))
       have S8 : Hid (rjS w a n f (some ⟨pb, po, none⟩) n' f' u k W8) := S6.out.below hB
       have M8 : Hid (Rec19 W8 xm 0 (msg (hdrF f') ga (hdrF f' 2).toNat cap)) := M6.out.below hB
       have H8 : Hid (Rec19 W8 W6.heap.size 0 (hcs hv)) := r8
       clear hB b7 b8 r7 r8 z7 S6 M6
       generalize W6.heap.size = xh at H8 ⊢)
    | (have _q := S8; clear _q; refine wpList_load_w (by rfl) 26 (.tmp 11) rfl xh 0 (hcs hv) rfl _ Tryd.underlying26 rfl (by kernel_rfl) H8.out ?_)
    | (have _q := S8; clear _q; go_at_call 34; refine (mine_any hv k _).mono ?_; rintro e W9 ⟨rfl, hB⟩; rw [HI.out]
       have S9 : Hid (rjS w a n f (some ⟨pb, po, none⟩) n' f' u k W9) := S8.out.below hB
       have M9 : Hid (Rec19 W9 xm 0 (msg (hdrF f') ga (hdrF f' 2).toNat cap)) := M8.out.below hB
       have H9 : Hid (Rec19 W9 xh 0 (hcs hv)) := H8.out.below hB
       clear hB S8 M8 H8
       have k1 := conv_arg W9 a n C f S9.out.2.1
       have k2 := conv_arg W9 (some ⟨u, 0, none⟩) 256 cu (unwF k) S9.out.2.2.2.1
       rw [HX.out] at k1
       rw [HY.out] at k2))
  have SV : Hid (rjS w a n f (some ⟨pb, po, none⟩) n' f' u k W9.drew) := S9.out.below (Below.refl _ _).drew
  have MV : Hid (Rec19 W9.drew xm 0 (msg (hdrF f') ga (hdrF f' 2).toNat cap)) := M9.out
  have HV9 : Hid (Rec19 W9.drew xh 0 (hcs hv)) := H9.out
  have k3 := conv_arg W9.drew a n C f SV.out.2.1
  have k4 := conv_arg W9.drew (some ⟨pb, po, none⟩) 256 C' f' (SV.out.2.2.1.upto LN.out (by have := LN.out; omega))
  rw [HX.out] at k3
  rw [HQ.out] at k4
  clear k1 k2 S9 M9 H9
  refine wp_region_noPanic ?_
  refine wp_region_held_drew (S := fun W' => (convert 27 9 (.slice a n C)).run Tryd.prog W' = .ok (.string X) W' ∧ (convert 27 9 (.slice (some ⟨pb, po, none⟩) 256 C')).run Tryd.prog W' = .ok (.string Z) W') (by kernel_rfl) ?_ (fun hHeld => ?_)
  · exact ⟨k3, k4⟩
  refine take_at (i := 0) (v := ?_) (some 66) rfl rfl (by kernel_rfl) (by kernel_rfl) (by kernel_rfl) (fun _ _ _ h => h) (Or.inl ⟨by rfl, ?_⟩) (by assumption) ?_
  rotate_left
  · (intro w hSw; (try dsimp only at hSw); go_simp; try with_reducible rfl)
  simp only [Act.put, List.setIfInBounds_toArray, List.set_cons_zero, List.set_cons_succ]
  refine take_at (i := 1) (v := ?_) (some 67) rfl rfl (by kernel_rfl) (by kernel_rfl) (by kernel_rfl) (fun _ _ _ h => h) (Or.inl ⟨by rfl, ?_⟩) (by assumption) ?_
  rotate_left
  · (intro w hSw; (try dsimp only at hSw); go_simp; try with_reducible rfl)
  simp only [Act.put, List.setIfInBounds_toArray, List.set_cons_zero, List.set_cons_succ]
  refine take_at (i := 2) (v := ?_) (some 68) rfl rfl (by kernel_rfl) (by kernel_rfl) (by kernel_rfl) (fun _ _ _ h => h) (Or.inl ⟨by rfl, ?_⟩) (by assumption) ?_
  rotate_left
  · (intro w hSw; (try dsimp only at hSw); go_simp; try with_reducible rfl)
  simp only [Act.put, List.setIfInBounds_toArray, List.set_cons_zero, List.set_cons_succ]
  refine take_at (i := 3) (v := ?_) (some 69) rfl rfl (by kernel_rfl) (by kernel_rfl) (by kernel_rfl) (fun _ _ _ h => h) (Or.inl ⟨by rfl, ?_⟩) (by assumption) ?_
  rotate_left
  · (intro w hSw; (try dsimp only at hSw); go_simp; try with_reducible rfl)
  simp only [Act.put, List.setIfInBounds_toArray, List.set_cons_zero, List.set_cons_succ]
  refine take_at (i := 4) (v := ?_) (some 70) rfl rfl (by kernel_rfl) (by kernel_rfl) (by kernel_rfl) (fun _ _ _ h => h) (Or.inl ⟨by rfl, ?_⟩) (by assumption) ?_
  rotate_left
  · (intro w hSw; (try dsimp only at hSw); go_simp; try with_reducible rfl)
  simp only [Act.put, List.setIfInBounds_toArray, List.set_cons_zero, List.set_cons_succ]
  refine take_at (i := 5) (v := ?_) (some 71) rfl rfl (by kernel_rfl) (by kernel_rfl) (by kernel_rfl) (fun _ _ _ h => h) (Or.inl ⟨by rfl, ?_⟩) (by assumption) ?_
  rotate_left
  · (intro w hSw; (try dsimp only at hSw); go_simp; try with_reducible rfl)
  simp only [Act.put, List.setIfInBounds_toArray, List.set_cons_zero, List.set_cons_succ]
  refine take_at (i := 6) (v := ?_) (some 72) rfl rfl (by kernel_rfl) (by kernel_rfl) (by kernel_rfl) (fun _ _ _ h => h) (Or.inl ⟨by rfl, ?_⟩) (by assumption) ?_
  rotate_left
  · (intro w hSw; (try dsimp only at hSw); go_simp; try with_reducible rfl)
  simp only [Act.put, List.setIfInBounds_toArray, List.set_cons_zero, List.set_cons_succ]
  refine take_at (i := 7) (v := ?_) (some 73) rfl rfl (by kernel_rfl) (by kernel_rfl) (by kernel_rfl) (fun _ _ _ h => h) (Or.inl ⟨by rfl, ?_⟩) (by assumption) ?_
  rotate_left
  · (intro w hSw; (try dsimp only at hSw); go_simp; try with_reducible rfl)
  simp only [Act.put, List.setIfInBounds_toArray, List.set_cons_zero, List.set_cons_succ]
  refine take_at (i := 8) (v := ?_) (some 74) rfl rfl (by kernel_rfl) (by kernel_rfl) (by kernel_rfl) (fun _ _ _ h => h) (Or.inl ⟨by rfl, ?_⟩) (by assumption) ?_
  rotate_left
  · (intro w hSw; (try dsimp only at hSw); go_simp; try with_reducible rfl)
  simp only [Act.put, List.setIfInBounds_toArray, List.set_cons_zero, List.set_cons_succ]
  refine wpAnyH_done (by kernel_rfl) ?_ _
  refine NoPanic.normal ?_
  clear k3 k4
  generalize W9.drew = V at SV MV HV9 ⊢
  have c5 : V.cell? ⟨xh, 5, none⟩ = some (.int .i64 (hv 5)) := (HV9.out.at 5 _ rfl).1
  have c3 : V.cell? ⟨xh, 3, none⟩ = some (.int .i64 (hv 3)) := (HV9.out.at 3 _ rfl).1
  have d5 : V.cell? ⟨xm, 5, none⟩ = some (.int .i64 (hdrF f' 5)) := (MV.out.at 5 _ rfl).1
  have d3 : V.cell? ⟨xm, 3, none⟩ = some (.int .i64 (hdrF f' 3)) := (MV.out.at 3 _ rfl).1
  obtain ⟨s0, g0⟩ := SV.out.1.at 0 (.int .i64 0) rfl
  obtain ⟨s1, g1⟩ := SV.out.1.at 1 (.int .i64 0) rfl
  obtain ⟨s2, g2⟩ := SV.out.1.at 2 (.int .i64 0) rfl
  obtain ⟨s3, g3⟩ := SV.out.1.at 3 (.bool false) rfl
  clear hHeld MV HV9
  go_wp2_with fail
  have hR9 : Rec19 ((((V.setCell ⟨w.heap.size, 0, none⟩ (.int .i64 1)).setCell ⟨w.heap.size, 1, none⟩ (.int .i64 (hdrF f' 5))).setCell ⟨w.heap.size, 2, none⟩ (.int .i64 (hdrF f' 3))).setCell ⟨w.heap.size, 3, none⟩ (.bool false)) w.heap.size 0 (ss 1 (hdrF f' 5) (hdrF f' 3) false) := SV.out.1.store (ss 1 (hdrF f' 5) (hdrF f' 3) false) rfl
  have hB9 : Below w.heap.size w ((((V.setCell ⟨w.heap.size, 0, none⟩ (.int .i64 1)).setCell ⟨w.heap.size, 1, none⟩ (.int .i64 (hdrF f' 5))).setCell ⟨w.heap.size, 2, none⟩ (.int .i64 (hdrF f' 3))).setCell ⟨w.heap.size, 3, none⟩ (.bool false)) := (((SV.out.2.2.2.2.setCell (Nat.le_refl _) _).setCell (Nat.le_refl _) _).setCell (Nat.le_refl _) _).setCell (Nat.le_refl _) _
  generalize ((((V.setCell ⟨w.heap.size, 0, none⟩ (.int .i64 1)).setCell ⟨w.heap.size, 1, none⟩ (.int .i64 (hdrF f' 5))).setCell ⟨w.heap.size, 2, none⟩ (.int .i64 (hdrF f' 3))).setCell ⟨w.heap.size, 3, none⟩ (.bool false)) = W99 at hR9 hB9 ⊢
  have hl := hR9.run_load 45 _ Tryd.underlying45 rfl (by kernel_rfl)
  refine bodyPost_ret (v := .agg (ss 1 (hdrF f' 5) (hdrF f' 3) false).toArray) (by simp [results, Tryd.results23, asAddr, hl]) rfl ⟨rfl, hB9⟩
set_option maxRecDepth 100000 in
set_option maxHeartbeats 1000000 in
theorem rj_old1 (a : Option Addr) (pb po : Nat) (n C n' C' : Nat) (f f' : Nat → Int) (k : Int) (w : World) (hA : Arg w a n f) (hA' : Arg w (some ⟨pb, po, none⟩) n' f') (hC : n ≤ C) (hC' : n' ≤ C') (hm : n' ≤ 900000) (hk : isSl k = true) (hp : prepOK n' f' k = true) (hc : headC n f = 0) (hi : isPrep (hdrF f) k = true) (hs : ¬ txtN n f = txtN 256 f') (h1 : hdrF f 5 < hdrF f' 5) : Calls Tryd.prog 23 #[.slice a n C, .slice (some ⟨pb, po, none⟩) n' C', .int .i64 k] w fun e w' => e = .returned (.agg (ss 1 (hdrF f' 5) (hdrF f' 3) true).toArray) ∧ Below w.heap.size w w' := by
  have SK : Hid (isSl k = true) := hk
  have HA : Hid (Arg w a n f) := hA
  have HA' : Hid (Arg w (some ⟨pb, po, none⟩) n' f') := hA'
  obtain ⟨X, hX⟩ : ∃ X, txtN n f = X := ⟨_, rfl⟩
  obtain ⟨Y, hY⟩ : ∃ Y, txtN 256 (unwF k) = Y := ⟨_, rfl⟩
  have HX : Hid (txtN n f = X) := hX
  have HY : Hid (txtN 256 (unwF k) = Y) := hY
  have PN : Hid (prepOK n' f' k = true) := hp
  have hv0 := headV_zero hc
  obtain ⟨hv, hve⟩ : ∃ x, hdrF f = x := ⟨_, rfl⟩
  rw [hve] at hv0 hi
  have HV : Hid (headV n f = hv) := hv0
  have HC : Hid (headC n f = 0) := hc
  have HI : Hid (isPrep hv k = true) := hi
  have HVE : Hid (hdrF f = hv) := hve
  clear hv0 hc hi
  clear hp
  have LN : Hid (256 ≤ n') := (prepOK_iff.1 PN.out).1
  have l1 : (256 : Int) ≤ C' := by have := LN.out; omega
  obtain ⟨Z, hZ⟩ : ∃ Z, txtN 256 f' = Z := ⟨_, rfl⟩
  have HQ : Hid (txtN 256 f' = Z) := hZ
  have hq : (X.toList == Z.toList) = false := by rw [bytes_beq, ← hX, ← hZ]; simpa using hs
  clear hZ hs
  have o1 : hv 5 < hdrF f' 5 := by rw [← hve]; exact h1
  clear h1
  clear hk hA hA' hX hY
  try clear hve
  have T0 : Hid True := trivial
  go_enter Tryd.func23, Tryd.ntmps23
  go_wp2_with (first
    | (have _q := T0; clear _q; refine wpList_alloc_rec rfl 45 rfl (ss 0 0 0 false) w.heap.size rfl zeroSs ?_; intro W1 hR1 hB1 hz1
       have R1 : Hid (Rec19 W1 w.heap.size 0 (ss 0 0 0 false)) := hR1
       have B1 : Hid (Below w.heap.size w W1) := hB1
       clear hR1 hB1 hz1 T0)
    | (have _q := R1; clear _q; go_at_call 12; refine (runwritten_ok k _ SK.out).mono ?_; rintro e W2 ⟨u, cu, rfl, hU, hB⟩
       have S2 : Hid (rjS w a n f (some ⟨pb, po, none⟩) n' f' u k W2) := ⟨R1.out.below hB, (HA.out.below B1.out).below hB, (HA'.out.below B1.out).below hB, hU, B1.out.trans (hB.mono B1.out.size)⟩
       clear hB hU R1 B1)
    | (have _q := S2; clear _q; go_at_call 20; refine (rprep_ok (some ⟨pb, po, none⟩) n' C' f' k _ S2.out.2.2.1 hC' hm PN.out).mono ?_; rintro e W3 ⟨ga, cap, rfl, hga, hB⟩; clear hga
       have S3 : Hid (rjS w a n f (some ⟨pb, po, none⟩) n' f' u k W3) := S2.out.below hB
       clear hB S2)
    | (have _q := S3; clear _q; refine wpList_alloc_rec rfl 29 rfl (msg (fun _ => 0) none 0 0) W3.heap.size rfl zeroMsg ?_; intro W4 r4 b4 z4)
    | (have _q := S3; clear _q; refine wpList_store_rec rfl 29 (.tmp 9) (.tmp 27) rfl W3.heap.size 0 _ (msg (hdrF f') ga (hdrF f' 2).toNat cap) rfl rfl r4 rfl (by kernel_rfl) (msg_one _ _ _ _) ?_; intro W5 r5 b5
       have hB : Below W3.heap.size W3 W5 := b4.trans (b5.below (Nat.le_refl _) (by omega))
       have S5 : Hid (rjS w a n f (some ⟨pb, po, none⟩) n' f' u k W5) := S3.out.below hB
       have M5 : Hid (Rec19 W5 W3.heap.size 0 (msg (hdrF f') ga (hdrF f' 2).toNat cap)) := r5
       clear hB b4 b5 r4 r5 z4 S3
       generalize W3.heap.size = xm at M5 ⊢)
    | (have _q := S5; clear _q; go_at_call 38; refine (nhead_gen a n C f _ S5.out.2.1 hC).mono ?_; rintro e W6 ⟨rfl, hB⟩; rw [HV.out, HC.out]
       have S6 : Hid (rjS w a n f (some ⟨pb, po, none⟩) n' f' u k W6) := S5.out.below hB
       have M6 : Hid (Rec19 W6 xm 0 (msg (hdrF f') ga (hdrF f' 2).toNat cap)) := M5.out.below hB
       clear hB S5 M5)
    | (have _q := S6; clear _q; refine wpList_alloc_rec rfl 26 rfl (hcs fun _ => 0) W6.heap.size rfl zeroHdr ?_; intro W7 r7 b7 z7)
    | (have _q := S6; clear _q; refine wpList_store_rec rfl 26 (.tmp 11) (.tmp 32) rfl W6.heap.size 0 _ (hcs hv) rfl rfl r7 rfl (by kernel_rfl) (hcs_one _) ?_; intro W8 r8 b8
       have hB : Below W6.heap.size W6 W8 := b7.trans (b8.below (Nat.le_refl _) (by omega))
       have S8 : Hid (rjS w a n f (some ⟨pb, po, none⟩) n' f' u k W8) := S6.out.below hB
       have M8 : Hid (Rec19 W8 xm 0 (msg (hdrF f') ga (hdrF f' 2).toNat cap)) := M6.out.below hB
       have H8 : Hid (Rec19 W8 W6.heap.size 0 (hcs hv)) := r8
       clear hB b7 b8 r7 r8 z7 S6 M6
       generalize W6.heap.size = xh at H8 ⊢)
    | (have _q := S8; clear _q; refine wpList_load_w (by rfl) 26 (.tmp 11) rfl xh 0 (hcs hv) rfl _ Tryd.underlying26 rfl (by kernel_rfl) H8.out ?_)
    | (have _q := S8; clear _q; go_at_call 34; refine (mine_any hv k _).mono ?_; rintro e W9 ⟨rfl, hB⟩; rw [HI.out]
       have S9 : Hid (rjS w a n f (some ⟨pb, po, none⟩) n' f' u k W9) := S8.out.below hB
       have M9 : Hid (Rec19 W9 xm 0 (msg (hdrF f') ga (hdrF f' 2).toNat cap)) := M8.out.below hB
       have H9 : Hid (Rec19 W9 xh 0 (hcs hv)) := H8.out.below hB
       clear hB S8 M8 H8
       have k1 := conv_arg W9 a n C f S9.out.2.1
       have k2 := conv_arg W9 (some ⟨u, 0, none⟩) 256 cu (unwF k) S9.out.2.2.2.1
       rw [HX.out] at k1
       rw [HY.out] at k2))
  have SV : Hid (rjS w a n f (some ⟨pb, po, none⟩) n' f' u k W9.drew) := S9.out.below (Below.refl _ _).drew
  have MV : Hid (Rec19 W9.drew xm 0 (msg (hdrF f') ga (hdrF f' 2).toNat cap)) := M9.out
  have HV9 : Hid (Rec19 W9.drew xh 0 (hcs hv)) := H9.out
  have k3 := conv_arg W9.drew a n C f SV.out.2.1
  have k4 := conv_arg W9.drew (some ⟨pb, po, none⟩) 256 C' f' (SV.out.2.2.1.upto LN.out (by have := LN.out; omega))
  rw [HX.out] at k3
  rw [HQ.out] at k4
  clear k1 k2 S9 M9 H9
  refine wp_region_noPanic ?_
  refine wp_region_held_drew (S := fun W' => (convert 27 9 (.slice a n C)).run Tryd.prog W' = .ok (.string X) W' ∧ (convert 27 9 (.slice (some ⟨pb, po, none⟩) 256 C')).run Tryd.prog W' = .ok (.string Z) W') (by kernel_rfl) ?_ (fun hHeld => ?_)
  · exact ⟨k3, k4⟩
  refine take_at (i := 0) (v := ?_) (some 66) rfl rfl (by kernel_rfl) (by kernel_rfl) (by kernel_rfl) (fun _ _ _ h => h) (Or.inl ⟨by rfl, ?_⟩) (by assumption) ?_
  rotate_left
  · (intro w hSw; (try dsimp only at hSw); go_simp; try with_reducible rfl)
  simp only [Act.put, List.setIfInBounds_toArray, List.set_cons_zero, List.set_cons_succ]
  refine take_at (i := 1) (v := ?_) (some 67) rfl rfl (by kernel_rfl) (by kernel_rfl) (by kernel_rfl) (fun _ _ _ h => h) (Or.inl ⟨by rfl, ?_⟩) (by assumption) ?_
  rotate_left
  · (intro w hSw; (try dsimp only at hSw); go_simp; try with_reducible rfl)
  simp only [Act.put, List.setIfInBounds_toArray, List.set_cons_zero, List.set_cons_succ]
  refine take_at (i := 2) (v := ?_) (some 68) rfl rfl (by kernel_rfl) (by kernel_rfl) (by kernel_rfl) (fun _ _ _ h => h) (Or.inl ⟨by rfl, ?_⟩) (by assumption) ?_
  rotate_left
  · (intro w hSw; (try dsimp only at hSw); go_simp; try with_reducible rfl)
  simp only [Act.put, List.setIfInBounds_toArray, List.set_cons_zero, List.set_cons_succ]
  refine take_at (i := 3) (v := ?_) (some 69) rfl rfl (by kernel_rfl) (by kernel_rfl) (by kernel_rfl) (fun _ _ _ h => h) (Or.inl ⟨by rfl, ?_⟩) (by assumption) ?_
  rotate_left
  · (intro w hSw; (try dsimp only at hSw); go_simp; try with_reducible rfl)
  simp only [Act.put, List.setIfInBounds_toArray, List.set_cons_zero, List.set_cons_succ]
  refine take_at (i := 4) (v := ?_) (some 70) rfl rfl (by kernel_rfl) (by kernel_rfl) (by kernel_rfl) (fun _ _ _ h => h) (Or.inl ⟨by rfl, ?_⟩) (by assumption) ?_
  rotate_left
  · (intro w hSw; (try dsimp only at hSw); go_simp; try with_reducible rfl)
  simp only [Act.put, List.setIfInBounds_toArray, List.set_cons_zero, List.set_cons_succ]
  refine take_at (i := 5) (v := ?_) (some 71) rfl rfl (by kernel_rfl) (by kernel_rfl) (by kernel_rfl) (fun _ _ _ h => h) (Or.inl ⟨by rfl, ?_⟩) (by assumption) ?_
  rotate_left
  · (intro w hSw; (try dsimp only at hSw); go_simp; try with_reducible rfl)
  simp only [Act.put, List.setIfInBounds_toArray, List.set_cons_zero, List.set_cons_succ]
  refine take_at (i := 6) (v := ?_) (some 72) rfl rfl (by kernel_rfl) (by kernel_rfl) (by kernel_rfl) (fun _ _ _ h => h) (Or.inl ⟨by rfl, ?_⟩) (by assumption) ?_
  rotate_left
  · (intro w hSw; (try dsimp only at hSw); go_simp; try with_reducible rfl)
  simp only [Act.put, List.setIfInBounds_toArray, List.set_cons_zero, List.set_cons_succ]
  refine take_at (i := 7) (v := ?_) (some 73) rfl rfl (by kernel_rfl) (by kernel_rfl) (by kernel_rfl) (fun _ _ _ h => h) (Or.inl ⟨by rfl, ?_⟩) (by assumption) ?_
  rotate_left
  · (intro w hSw; (try dsimp only at hSw); go_simp; try with_reducible rfl)
  simp only [Act.put, List.setIfInBounds_toArray, List.set_cons_zero, List.set_cons_succ]
  refine take_at (i := 8) (v := ?_) (some 74) rfl rfl (by kernel_rfl) (by kernel_rfl) (by kernel_rfl) (fun _ _ _ h => h) (Or.inl ⟨by rfl, ?_⟩) (by assumption) ?_
  rotate_left
  · (intro w hSw; (try dsimp only at hSw); go_simp; try with_reducible rfl)
  simp only [Act.put, List.setIfInBounds_toArray, List.set_cons_zero, List.set_cons_succ]
  refine wpAnyH_done (by kernel_rfl) ?_ _
  refine NoPanic.normal ?_
  clear k3 k4
  generalize W9.drew = V at SV MV HV9 ⊢
  have c5 : V.cell? ⟨xh, 5, none⟩ = some (.int .i64 (hv 5)) := (HV9.out.at 5 _ rfl).1
  have c3 : V.cell? ⟨xh, 3, none⟩ = some (.int .i64 (hv 3)) := (HV9.out.at 3 _ rfl).1
  have d5 : V.cell? ⟨xm, 5, none⟩ = some (.int .i64 (hdrF f' 5)) := (MV.out.at 5 _ rfl).1
  have d3 : V.cell? ⟨xm, 3, none⟩ = some (.int .i64 (hdrF f' 3)) := (MV.out.at 3 _ rfl).1
  obtain ⟨s0, g0⟩ := SV.out.1.at 0 (.int .i64 0) rfl
  obtain ⟨s1, g1⟩ := SV.out.1.at 1 (.int .i64 0) rfl
  obtain ⟨s2, g2⟩ := SV.out.1.at 2 (.int .i64 0) rfl
  obtain ⟨s3, g3⟩ := SV.out.1.at 3 (.bool false) rfl
  clear hHeld MV HV9
  go_wp2_with fail
  have hR9 : Rec19 ((((V.setCell ⟨w.heap.size, 0, none⟩ (.int .i64 1)).setCell ⟨w.heap.size, 1, none⟩ (.int .i64 (hdrF f' 5))).setCell ⟨w.heap.size, 2, none⟩ (.int .i64 (hdrF f' 3))).setCell ⟨w.heap.size, 3, none⟩ (.bool true)) w.heap.size 0 (ss 1 (hdrF f' 5) (hdrF f' 3) true) := SV.out.1.store (ss 1 (hdrF f' 5) (hdrF f' 3) true) rfl
  have hB9 : Below w.heap.size w ((((V.setCell ⟨w.heap.size, 0, none⟩ (.int .i64 1)).setCell ⟨w.heap.size, 1, none⟩ (.int .i64 (hdrF f' 5))).setCell ⟨w.heap.size, 2, none⟩ (.int .i64 (hdrF f' 3))).setCell ⟨w.heap.size, 3, none⟩ (.bool true)) := (((SV.out.2.2.2.2.setCell (Nat.le_refl _) _).setCell (Nat.le_refl _) _).setCell (Nat.le_refl _) _).setCell (Nat.le_refl _) _
  generalize ((((V.setCell ⟨w.heap.size, 0, none⟩ (.int .i64 1)).setCell ⟨w.heap.size, 1, none⟩ (.int .i64 (hdrF f' 5))).setCell ⟨w.heap.size, 2, none⟩ (.int .i64 (hdrF f' 3))).setCell ⟨w.heap.size, 3, none⟩ (.bool true)) = W99 at hR9 hB9 ⊢
  have hl := hR9.run_load 45 _ Tryd.underlying45 rfl (by kernel_rfl)
  refine bodyPost_ret (v := .agg (ss 1 (hdrF f' 5) (hdrF f' 3) true).toArray) (by simp [results, Tryd.results23, asAddr, hl]) rfl ⟨rfl, hB9⟩
set_option maxRecDepth 100000 in
set_option maxHeartbeats 1000000 in
theorem rj_old2 (a : Option Addr) (pb po : Nat) (n C n' C' : Nat) (f f' : Nat → Int) (k : Int) (w : World) (hA : Arg w a n f) (hA' : Arg w (some ⟨pb, po, none⟩) n' f') (hC : n ≤ C) (hC' : n' ≤ C') (hm : n' ≤ 900000) (hk : isSl k = true) (hp : prepOK n' f' k = true) (hc : headC n f = 0) (hi : isPrep (hdrF f) k = true) (hs : ¬ txtN n f = txtN 256 f') (h2 : hdrF f 5 = hdrF f' 5) (h3 : hdrF f 3 < hdrF f' 3) : Calls Tryd.prog 23 #[.slice a n C, .slice (some ⟨pb, po, none⟩) n' C', .int .i64 k] w fun e w' => e = .returned (.agg (ss 1 (hdrF f' 5) (hdrF f' 3) true).toArray) ∧ Below w.heap.size w w' := by
  have SK : Hid (isSl k = true) := hk
  have HA : Hid (Arg w a n f) := hA
  have HA' : Hid (Arg w (some ⟨pb, po, none⟩) n' f') := hA'
  obtain ⟨X, hX⟩ : ∃ X, txtN n f = X := ⟨_, rfl⟩
  obtain ⟨Y, hY⟩ : ∃ Y, txtN 256 (unwF k) = Y := ⟨_, rfl⟩
  have HX : Hid (txtN n f = X) := hX
  have HY : Hid (txtN 256 (unwF k) = Y) := hY
  have PN : Hid (prepOK n' f' k = true) := hp
  have hv0 := headV_zero hc
  obtain ⟨hv, hve⟩ : ∃ x, hdrF f = x := ⟨_, rfl⟩
  rw [hve] at hv0 hi
  have HV : Hid (headV n f = hv) := hv0
  have HC : Hid (headC n f = 0) := hc
  have HI : Hid (isPrep hv k = true) := hi
  have HVE : Hid (hdrF f = hv) := hve
  clear hv0 hc hi
  clear hp
  have LN : Hid (256 ≤ n') := (prepOK_iff.1 PN.out).1
  have l1 : (256 : Int) ≤ C' := by have := LN.out; omega
  obtain ⟨Z, hZ⟩ : ∃ Z, txtN 256 f' = Z := ⟨_, rfl⟩
  have HQ : Hid (txtN 256 f' = Z) := hZ
  have hq : (X.toList == Z.toList) = false := by rw [bytes_beq, ← hX, ← hZ]; simpa using hs
  clear hZ hs
  have e5 : hv 5 = hdrF f' 5 := by rw [← hve]; exact h2
  have E5 : Hid (hv 5 = hdrF f' 5) := e5
  clear h2 e5
  have o3 : hv 3 < hdrF f' 3 := by rw [← hve]; exact h3
  clear h3
  clear hk hA hA' hX hY
  try clear hve
  have T0 : Hid True := trivial
  go_enter Tryd.func23, Tryd.ntmps23
  go_wp2_with (first
    | (have _q := T0; clear _q; refine wpList_alloc_rec rfl 45 rfl (ss 0 0 0 false) w.heap.size rfl zeroSs ?_; intro W1 hR1 hB1 hz1
       have R1 : Hid (Rec19 W1 w.heap.size 0 (ss 0 0 0 false)) := hR1
       have B1 : Hid (Below w.heap.size w W1) := hB1
       clear hR1 hB1 hz1 T0)
    | (have _q := R1; clear _q; go_at_call 12; refine (runwritten_ok k _ SK.out).mono ?_; rintro e W2 ⟨u, cu, rfl, hU, hB⟩
       have S2 : Hid (rjS w a n f (some ⟨pb, po, none⟩) n' f' u k W2) := ⟨R1.out.below hB, (HA.out.below B1.out).below hB, (HA'.out.below B1.out).below hB, hU, B1.out.trans (hB.mono B1.out.size)⟩
       clear hB hU R1 B1)
    | (have _q := S2; clear _q; go_at_call 20; refine (rprep_ok (some ⟨pb, po, none⟩) n' C' f' k _ S2.out.2.2.1 hC' hm PN.out).mono ?_; rintro e W3 ⟨ga, cap, rfl, hga, hB⟩; clear hga
       have S3 : Hid (rjS w a n f (some ⟨pb, po, none⟩) n' f' u k W3) := S2.out.below hB
       clear hB S2)
    | (have _q := S3; clear _q; refine wpList_alloc_rec rfl 29 rfl (msg (fun _ => 0) none 0 0) W3.heap.size rfl zeroMsg ?_; intro W4 r4 b4 z4)
    | (have _q := S3; clear _q; refine wpList_store_rec rfl 29 (.tmp 9) (.tmp 27) rfl W3.heap.size 0 _ (msg (hdrF f') ga (hdrF f' 2).toNat cap) rfl rfl r4 rfl (by kernel_rfl) (msg_one _ _ _ _) ?_; intro W5 r5 b5
       have hB : Below W3.heap.size W3 W5 := b4.trans (b5.below (Nat.le_refl _) (by omega))
       have S5 : Hid (rjS w a n f (some ⟨pb, po, none⟩) n' f' u k W5) := S3.out.below hB
       have M5 : Hid (Rec19 W5 W3.heap.size 0 (msg (hdrF f') ga (hdrF f' 2).toNat cap)) := r5
       clear hB b4 b5 r4 r5 z4 S3
       generalize W3.heap.size = xm at M5 ⊢)
    | (have _q := S5; clear _q; go_at_call 38; refine (nhead_gen a n C f _ S5.out.2.1 hC).mono ?_; rintro e W6 ⟨rfl, hB⟩; rw [HV.out, HC.out]
       have S6 : Hid (rjS w a n f (some ⟨pb, po, none⟩) n' f' u k W6) := S5.out.below hB
       have M6 : Hid (Rec19 W6 xm 0 (msg (hdrF f') ga (hdrF f' 2).toNat cap)) := M5.out.below hB
       clear hB S5 M5)
    | (have _q := S6; clear _q; refine wpList_alloc_rec rfl 26 rfl (hcs fun _ => 0) W6.heap.size rfl zeroHdr ?_; intro W7 r7 b7 z7)
    | (have _q := S6; clear _q; refine wpList_store_rec rfl 26 (.tmp 11) (.tmp 32) rfl W6.heap.size 0 _ (hcs hv) rfl rfl r7 rfl (by kernel_rfl) (hcs_one _) ?_; intro W8 r8 b8
       have hB : Below W6.heap.size W6 W8 := b7.trans (b8.below (Nat.le_refl _) (by omega))
       have S8 : Hid (rjS w a n f (some ⟨pb, po, none⟩) n' f' u k W8) := S6.out.below hB
       have M8 : Hid (Rec19 W8 xm 0 (msg (hdrF f') ga (hdrF f' 2).toNat cap)) := M6.out.below hB
       have H8 : Hid (Rec19 W8 W6.heap.size 0 (hcs hv)) := r8
       clear hB b7 b8 r7 r8 z7 S6 M6
       generalize W6.heap.size = xh at H8 ⊢)
    | (have _q := S8; clear _q; refine wpList_load_w (by rfl) 26 (.tmp 11) rfl xh 0 (hcs hv) rfl _ Tryd.underlying26 rfl (by kernel_rfl) H8.out ?_)
    | (have _q := S8; clear _q; go_at_call 34; refine (mine_any hv k _).mono ?_; rintro e W9 ⟨rfl, hB⟩; rw [HI.out]
       have S9 : Hid (rjS w a n f (some ⟨pb, po, none⟩) n' f' u k W9) := S8.out.below hB
       have M9 : Hid (Rec19 W9 xm 0 (msg (hdrF f') ga (hdrF f' 2).toNat cap)) := M8.out.below hB
       have H9 : Hid (Rec19 W9 xh 0 (hcs hv)) := H8.out.below hB
       clear hB S8 M8 H8
       have k1 := conv_arg W9 a n C f S9.out.2.1
       have k2 := conv_arg W9 (some ⟨u, 0, none⟩) 256 cu (unwF k) S9.out.2.2.2.1
       rw [HX.out] at k1
       rw [HY.out] at k2))
  have SV : Hid (rjS w a n f (some ⟨pb, po, none⟩) n' f' u k W9.drew) := S9.out.below (Below.refl _ _).drew
  have MV : Hid (Rec19 W9.drew xm 0 (msg (hdrF f') ga (hdrF f' 2).toNat cap)) := M9.out
  have HV9 : Hid (Rec19 W9.drew xh 0 (hcs hv)) := H9.out
  have k3 := conv_arg W9.drew a n C f SV.out.2.1
  have k4 := conv_arg W9.drew (some ⟨pb, po, none⟩) 256 C' f' (SV.out.2.2.1.upto LN.out (by have := LN.out; omega))
  rw [HX.out] at k3
  rw [HQ.out] at k4
  clear k1 k2 S9 M9 H9
  refine wp_region_noPanic ?_
  refine wp_region_held_drew (S := fun W' => (convert 27 9 (.slice a n C)).run Tryd.prog W' = .ok (.string X) W' ∧ (convert 27 9 (.slice (some ⟨pb, po, none⟩) 256 C')).run Tryd.prog W' = .ok (.string Z) W') (by kernel_rfl) ?_ (fun hHeld => ?_)
  · exact ⟨k3, k4⟩
  refine take_at (i := 0) (v := ?_) (some 66) rfl rfl (by kernel_rfl) (by kernel_rfl) (by kernel_rfl) (fun _ _ _ h => h) (Or.inl ⟨by rfl, ?_⟩) (by assumption) ?_
  rotate_left
  · (intro w hSw; (try dsimp only at hSw); go_simp; try with_reducible rfl)
  simp only [Act.put, List.setIfInBounds_toArray, List.set_cons_zero, List.set_cons_succ]
  refine take_at (i := 1) (v := ?_) (some 67) rfl rfl (by kernel_rfl) (by kernel_rfl) (by kernel_rfl) (fun _ _ _ h => h) (Or.inl ⟨by rfl, ?_⟩) (by assumption) ?_
  rotate_left
  · (intro w hSw; (try dsimp only at hSw); go_simp; try with_reducible rfl)
  simp only [Act.put, List.setIfInBounds_toArray, List.set_cons_zero, List.set_cons_succ]
  refine take_at (i := 2) (v := ?_) (some 68) rfl rfl (by kernel_rfl) (by kernel_rfl) (by kernel_rfl) (fun _ _ _ h => h) (Or.inl ⟨by rfl, ?_⟩) (by assumption) ?_
  rotate_left
  · (intro w hSw; (try dsimp only at hSw); go_simp; try with_reducible rfl)
  simp only [Act.put, List.setIfInBounds_toArray, List.set_cons_zero, List.set_cons_succ]
  refine take_at (i := 3) (v := ?_) (some 69) rfl rfl (by kernel_rfl) (by kernel_rfl) (by kernel_rfl) (fun _ _ _ h => h) (Or.inl ⟨by rfl, ?_⟩) (by assumption) ?_
  rotate_left
  · (intro w hSw; (try dsimp only at hSw); go_simp; try with_reducible rfl)
  simp only [Act.put, List.setIfInBounds_toArray, List.set_cons_zero, List.set_cons_succ]
  refine take_at (i := 4) (v := ?_) (some 70) rfl rfl (by kernel_rfl) (by kernel_rfl) (by kernel_rfl) (fun _ _ _ h => h) (Or.inl ⟨by rfl, ?_⟩) (by assumption) ?_
  rotate_left
  · (intro w hSw; (try dsimp only at hSw); go_simp; try with_reducible rfl)
  simp only [Act.put, List.setIfInBounds_toArray, List.set_cons_zero, List.set_cons_succ]
  refine take_at (i := 5) (v := ?_) (some 71) rfl rfl (by kernel_rfl) (by kernel_rfl) (by kernel_rfl) (fun _ _ _ h => h) (Or.inl ⟨by rfl, ?_⟩) (by assumption) ?_
  rotate_left
  · (intro w hSw; (try dsimp only at hSw); go_simp; try with_reducible rfl)
  simp only [Act.put, List.setIfInBounds_toArray, List.set_cons_zero, List.set_cons_succ]
  refine take_at (i := 6) (v := ?_) (some 72) rfl rfl (by kernel_rfl) (by kernel_rfl) (by kernel_rfl) (fun _ _ _ h => h) (Or.inl ⟨by rfl, ?_⟩) (by assumption) ?_
  rotate_left
  · (intro w hSw; (try dsimp only at hSw); go_simp; try with_reducible rfl)
  simp only [Act.put, List.setIfInBounds_toArray, List.set_cons_zero, List.set_cons_succ]
  refine take_at (i := 7) (v := ?_) (some 73) rfl rfl (by kernel_rfl) (by kernel_rfl) (by kernel_rfl) (fun _ _ _ h => h) (Or.inl ⟨by rfl, ?_⟩) (by assumption) ?_
  rotate_left
  · (intro w hSw; (try dsimp only at hSw); go_simp; try with_reducible rfl)
  simp only [Act.put, List.setIfInBounds_toArray, List.set_cons_zero, List.set_cons_succ]
  refine take_at (i := 8) (v := ?_) (some 74) rfl rfl (by kernel_rfl) (by kernel_rfl) (by kernel_rfl) (fun _ _ _ h => h) (Or.inl ⟨by rfl, ?_⟩) (by assumption) ?_
  rotate_left
  · (intro w hSw; (try dsimp only at hSw); go_simp; try with_reducible rfl)
  simp only [Act.put, List.setIfInBounds_toArray, List.set_cons_zero, List.set_cons_succ]
  refine wpAnyH_done (by kernel_rfl) ?_ _
  refine NoPanic.normal ?_
  clear k3 k4
  generalize W9.drew = V at SV MV HV9 ⊢
  have c5 : V.cell? ⟨xh, 5, none⟩ = some (.int .i64 (hv 5)) := (HV9.out.at 5 _ rfl).1
  have c3 : V.cell? ⟨xh, 3, none⟩ = some (.int .i64 (hv 3)) := (HV9.out.at 3 _ rfl).1
  have d5 : V.cell? ⟨xm, 5, none⟩ = some (.int .i64 (hdrF f' 5)) := (MV.out.at 5 _ rfl).1
  have d3 : V.cell? ⟨xm, 3, none⟩ = some (.int .i64 (hdrF f' 3)) := (MV.out.at 3 _ rfl).1
  obtain ⟨s0, g0⟩ := SV.out.1.at 0 (.int .i64 0) rfl
  obtain ⟨s1, g1⟩ := SV.out.1.at 1 (.int .i64 0) rfl
  obtain ⟨s2, g2⟩ := SV.out.1.at 2 (.int .i64 0) rfl
  obtain ⟨s3, g3⟩ := SV.out.1.at 3 (.bool false) rfl
  clear hHeld MV HV9
  rw [E5.out] at c5
  go_wp2_with fail
  have hR9 : Rec19 ((((V.setCell ⟨w.heap.size, 0, none⟩ (.int .i64 1)).setCell ⟨w.heap.size, 1, none⟩ (.int .i64 (hdrF f' 5))).setCell ⟨w.heap.size, 2, none⟩ (.int .i64 (hdrF f' 3))).setCell ⟨w.heap.size, 3, none⟩ (.bool true)) w.heap.size 0 (ss 1 (hdrF f' 5) (hdrF f' 3) true) := SV.out.1.store (ss 1 (hdrF f' 5) (hdrF f' 3) true) rfl
  have hB9 : Below w.heap.size w ((((V.setCell ⟨w.heap.size, 0, none⟩ (.int .i64 1)).setCell ⟨w.heap.size, 1, none⟩ (.int .i64 (hdrF f' 5))).setCell ⟨w.heap.size, 2, none⟩ (.int .i64 (hdrF f' 3))).setCell ⟨w.heap.size, 3, none⟩ (.bool true)) := (((SV.out.2.2.2.2.setCell (Nat.le_refl _) _).setCell (Nat.le_refl _) _).setCell (Nat.le_refl _) _).setCell (Nat.le_refl _) _
  generalize ((((V.setCell ⟨w.heap.size, 0, none⟩ (.int .i64 1)).setCell ⟨w.heap.size, 1, none⟩ (.int .i64 (hdrF f' 5))).setCell ⟨w.heap.size, 2, none⟩ (.int .i64 (hdrF f' 3))).setCell ⟨w.heap.size, 3, none⟩ (.bool true)) = W99 at hR9 hB9 ⊢
  have hl := hR9.run_load 45 _ Tryd.underlying45 rfl (by kernel_rfl)
  refine bodyPost_ret (v := .agg (ss 1 (hdrF f' 5) (hdrF f' 3) true).toArray) (by simp [results, Tryd.results23, asAddr, hl]) rfl ⟨rfl, hB9⟩
set_option maxRecDepth 100000 in
set_option maxHeartbeats 1000000 in
theorem rj_new1 (a : Option Addr) (pb po : Nat) (n C n' C' : Nat) (f f' : Nat → Int) (k : Int) (w : World) (hA : Arg w a n f) (hA' : Arg w (some ⟨pb, po, none⟩) n' f') (hC : n ≤ C) (hC' : n' ≤ C') (hm : n' ≤ 900000) (hk : isSl k = true) (hp : prepOK n' f' k = true) (hc : headC n f = 0) (hi : isPrep (hdrF f) k = true) (hs : ¬ txtN n f = txtN 256 f') (h2 : hdrF f 5 = hdrF f' 5) (h3 : ¬ hdrF f 3 < hdrF f' 3) : Calls Tryd.prog 23 #[.slice a n C, .slice (some ⟨pb, po, none⟩) n' C', .int .i64 k] w fun e w' => e = .returned (.agg (ss 3 (hdrF f 5) (hdrF f 3) false).toArray) ∧ Below w.heap.size w w' := by
  have SK : Hid (isSl k = true) := hk
  have HA : Hid (Arg w a n f) := hA
  have HA' : Hid (Arg w (some ⟨pb, po, none⟩) n' f') := hA'
  obtain ⟨X, hX⟩ : ∃ X, txtN n f = X := ⟨_, rfl⟩
  obtain ⟨Y, hY⟩ : ∃ Y, txtN 256 (unwF k) = Y := ⟨_, rfl⟩
  have HX : Hid (txtN n f = X) := hX
  have HY : Hid (txtN 256 (unwF k) = Y) := hY
  have PN : Hid (prepOK n' f' k = true) := hp
  have hv0 := headV_zero hc
  obtain ⟨hv, hve⟩ : ∃ x, hdrF f = x := ⟨_, rfl⟩
  rw [hve] at hv0 hi
  have HV : Hid (headV n f = hv) := hv0
  have HC : Hid (headC n f = 0) := hc
  have HI : Hid (isPrep hv k = true) := hi
  have HVE : Hid (hdrF f = hv) := hve
  clear hv0 hc hi
  clear hp
  have LN : Hid (256 ≤ n') := (prepOK_iff.1 PN.out).1
  have l1 : (256 : Int) ≤ C' := by have := LN.out; omega
  obtain ⟨Z, hZ⟩ : ∃ Z, txtN 256 f' = Z := ⟨_, rfl⟩
  have HQ : Hid (txtN 256 f' = Z) := hZ
  have hq : (X.toList == Z.toList) = false := by rw [bytes_beq, ← hX, ← hZ]; simpa using hs
  clear hZ hs
  have e5 : hv 5 = hdrF f' 5 := by rw [← hve]; exact h2
  have E5 : Hid (hv 5 = hdrF f' 5) := e5
  clear h2 e5
  have o3 : (hv 3 < hdrF f' 3) = False := eq_false (by rw [← hve]; exact h3)
  clear h3
  clear hk hA hA' hX hY
  try clear hve
  have T0 : Hid True := trivial
  go_enter Tryd.func23, Tryd.ntmps23
  go_wp2_with (first
    | (have _q := T0; clear _q; refine wpList_alloc_rec rfl 45 rfl (ss 0 0 0 false) w.heap.size rfl zeroSs ?_; intro W1 hR1 hB1 hz1
       have R1 : Hid (Rec19 W1 w.heap.size 0 (ss 0 0 0 false)) := hR1
       have B1 : Hid (Below w.heap.size w W1) := hB1
       clear hR1 hB1 hz1 T0)
    | (have _q := R1; clear _q; go_at_call 12; refine (runwritten_ok k _ SK.out).mono ?_; rintro e W2 ⟨u, cu, rfl, hU, hB⟩
       have S2 : Hid (rjS w a n f (some ⟨pb, po, none⟩) n' f' u k W2) := ⟨R1.out.below hB, (HA.out.below B1.out).below hB, (HA'.out.below B1.out).below hB, hU, B1.out.trans (hB.mono B1.out.size)⟩
       clear hB hU R1 B1)
    | (have _q := S2; clear _q; go_at_call 20; refine (rprep_ok (some ⟨pb, po, none⟩) n' C' f' k _ S2.out.2.2.1 hC' hm PN.out).mono ?_; rintro e W3 ⟨ga, cap, rfl, hga, hB⟩; clear hga
       have S3 : Hid (rjS w a n f (some ⟨pb, po, none⟩) n' f' u k W3) := S2.out.below hB
       clear hB S2)
    | (have _q := S3; clear _q; refine wpList_alloc_rec rfl 29 rfl (msg (fun _ => 0) none 0 0) W3.heap.size rfl zeroMsg ?_; intro W4 r4 b4 z4)
    | (have _q := S3; clear _q; refine wpList_store_rec rfl 29 (.tmp 9) (.tmp 27) rfl W3.heap.size 0 _ (msg (hdrF f') ga (hdrF f' 2).toNat cap) rfl rfl r4 rfl (by kernel_rfl) (msg_one _ _ _ _) ?_; intro W5 r5 b5
       have hB : Below W3.heap.size W3 W5 := b4.trans (b5.below (Nat.le_refl _) (by omega))
       have S5 : Hid (rjS w a n f (some ⟨pb, po, none⟩) n' f' u k W5) := S3.out.below hB
       have M5 : Hid (Rec19 W5 W3.heap.size 0 (msg (hdrF f') ga (hdrF f' 2).toNat cap)) := r5
       clear hB b4 b5 r4 r5 z4 S3
       generalize W3.heap.size = xm at M5 ⊢)
    | (have _q := S5; clear _q; go_at_call 38; refine (nhead_gen a n C f _ S5.out.2.1 hC).mono ?_; rintro e W6 ⟨rfl, hB⟩; rw [HV.out, HC.out]
       have S6 : Hid (rjS w a n f (some ⟨pb, po, none⟩) n' f' u k W6) := S5.out.below hB
       have M6 : Hid (Rec19 W6 xm 0 (msg (hdrF f') ga (hdrF f' 2).toNat cap)) := M5.out.below hB
       clear hB S5 M5)
    | (have _q := S6; clear _q; refine wpList_alloc_rec rfl 26 rfl (hcs fun _ => 0) W6.heap.size rfl zeroHdr ?_; intro W7 r7 b7 z7)
    | (have _q := S6; clear _q; refine wpList_store_rec rfl 26 (.tmp 11) (.tmp 32) rfl W6.heap.size 0 _ (hcs hv) rfl rfl r7 rfl (by kernel_rfl) (hcs_one _) ?_; intro W8 r8 b8
       have hB : Below W6.heap.size W6 W8 := b7.trans (b8.below (Nat.le_refl _) (by omega))
       have S8 : Hid (rjS w a n f (some ⟨pb, po, none⟩) n' f' u k W8) := S6.out.below hB
       have M8 : Hid (Rec19 W8 xm 0 (msg (hdrF f') ga (hdrF f' 2).toNat cap)) := M6.out.below hB
       have H8 : Hid (Rec19 W8 W6.heap.size 0 (hcs hv)) := r8
       clear hB b7 b8 r7 r8 z7 S6 M6
       generalize W6.heap.size = xh at H8 ⊢)
    | (have _q := S8; clear _q; refine wpList_load_w (by rfl) 26 (.tmp 11) rfl xh 0 (hcs hv) rfl _ Tryd.underlying26 rfl (by kernel_rfl) H8.out ?_)
    | (have _q := S8; clear _q; go_at_call 34; refine (mine_any hv k _).mono ?_; rintro e W9 ⟨rfl, hB⟩; rw [HI.out]
       have S9 : Hid (rjS w a n f (some ⟨pb, po, none⟩) n' f' u k W9) := S8.out.below hB
       have M9 : Hid (Rec19 W9 xm 0 (msg (hdrF f') ga (hdrF f' 2).toNat cap)) := M8.out.below hB
       have H9 : Hid (Rec19 W9 xh 0 (hcs hv)) := H8.out.below hB
       clear hB S8 M8 H8
       have k1 := conv_arg W9 a n C f S9.out.2.1
       have k2 := conv_arg W9 (some ⟨u, 0, none⟩) 256 cu (unwF k) S9.out.2.2.2.1
       rw [HX.out] at k1
       rw [HY.out] at k2))
  have SV : Hid (rjS w a n f (some ⟨pb, po, none⟩) n' f' u k W9.drew) := S9.out.below (Below.refl _ _).drew
  have MV : Hid (Rec19 W9.drew xm 0 (msg (hdrF f') ga (hdrF f' 2).toNat cap)) := M9.out
  have HV9 : Hid (Rec19 W9.drew xh 0 (hcs hv)) := H9.out
  have k3 := conv_arg W9.drew a n C f SV.out.2.1
  have k4 := conv_arg W9.drew (some ⟨pb, po, none⟩) 256 C' f' (SV.out.2.2.1.upto LN.out (by have := LN.out; omega))
  rw [HX.out] at k3
  rw [HQ.out] at k4
  clear k1 k2 S9 M9 H9
  refine wp_region_noPanic ?_
  refine wp_region_held_drew (S := fun W' => (convert 27 9 (.slice a n C)).run Tryd.prog W' = .ok (.string X) W' ∧ (convert 27 9 (.slice (some ⟨pb, po, none⟩) 256 C')).run Tryd.prog W' = .ok (.string Z) W') (by kernel_rfl) ?_ (fun hHeld => ?_)
  · exact ⟨k3, k4⟩
  refine take_at (i := 0) (v := ?_) (some 66) rfl rfl (by kernel_rfl) (by kernel_rfl) (by kernel_rfl) (fun _ _ _ h => h) (Or.inl ⟨by rfl, ?_⟩) (by assumption) ?_
  rotate_left
  · (intro w hSw; (try dsimp only at hSw); go_simp; try with_reducible rfl)
  simp only [Act.put, List.setIfInBounds_toArray, List.set_cons_zero, List.set_cons_succ]
  refine take_at (i := 1) (v := ?_) (some 67) rfl rfl (by kernel_rfl) (by kernel_rfl) (by kernel_rfl) (fun _ _ _ h => h) (Or.inl ⟨by rfl, ?_⟩) (by assumption) ?_
  rotate_left
  · (intro w hSw; (try dsimp only at hSw); go_simp; try with_reducible rfl)
  simp only [Act.put, List.setIfInBounds_toArray, List.set_cons_zero, List.set_cons_succ]
  refine take_at (i := 2) (v := ?_) (some 68) rfl rfl (by kernel_rfl) (by kernel_rfl) (by kernel_rfl) (fun _ _ _ h => h) (Or.inl ⟨by rfl, ?_⟩) (by assumption) ?_
  rotate_left
  · (intro w hSw; (try dsimp only at hSw); go_simp; try with_reducible rfl)
  simp only [Act.put, List.setIfInBounds_toArray, List.set_cons_zero, List.set_cons_succ]
  refine take_at (i := 3) (v := ?_) (some 69) rfl rfl (by kernel_rfl) (by kernel_rfl) (by kernel_rfl) (fun _ _ _ h => h) (Or.inl ⟨by rfl, ?_⟩) (by assumption) ?_
  rotate_left
  · (intro w hSw; (try dsimp only at hSw); go_simp; try with_reducible rfl)
  simp only [Act.put, List.setIfInBounds_toArray, List.set_cons_zero, List.set_cons_succ]
  refine take_at (i := 4) (v := ?_) (some 70) rfl rfl (by kernel_rfl) (by kernel_rfl) (by kernel_rfl) (fun _ _ _ h => h) (Or.inl ⟨by rfl, ?_⟩) (by assumption) ?_
  rotate_left
  · (intro w hSw; (try dsimp only at hSw); go_simp; try with_reducible rfl)
  simp only [Act.put, List.setIfInBounds_toArray, List.set_cons_zero, List.set_cons_succ]
  refine take_at (i := 5) (v := ?_) (some 71) rfl rfl (by kernel_rfl) (by kernel_rfl) (by kernel_rfl) (fun _ _ _ h => h) (Or.inl ⟨by rfl, ?_⟩) (by assumption) ?_
  rotate_left
  · (intro w hSw; (try dsimp only at hSw); go_simp; try with_reducible rfl)
  simp only [Act.put, List.setIfInBounds_toArray, List.set_cons_zero, List.set_cons_succ]
  refine take_at (i := 6) (v := ?_) (some 72) rfl rfl (by kernel_rfl) (by kernel_rfl) (by kernel_rfl) (fun _ _ _ h => h) (Or.inl ⟨by rfl, ?_⟩) (by assumption) ?_
  rotate_left
  · (intro w hSw; (try dsimp only at hSw); go_simp; try with_reducible rfl)
  simp only [Act.put, List.setIfInBounds_toArray, List.set_cons_zero, List.set_cons_succ]
  refine take_at (i := 7) (v := ?_) (some 73) rfl rfl (by kernel_rfl) (by kernel_rfl) (by kernel_rfl) (fun _ _ _ h => h) (Or.inl ⟨by rfl, ?_⟩) (by assumption) ?_
  rotate_left
  · (intro w hSw; (try dsimp only at hSw); go_simp; try with_reducible rfl)
  simp only [Act.put, List.setIfInBounds_toArray, List.set_cons_zero, List.set_cons_succ]
  refine take_at (i := 8) (v := ?_) (some 74) rfl rfl (by kernel_rfl) (by kernel_rfl) (by kernel_rfl) (fun _ _ _ h => h) (Or.inl ⟨by rfl, ?_⟩) (by assumption) ?_
  rotate_left
  · (intro w hSw; (try dsimp only at hSw); go_simp; try with_reducible rfl)
  simp only [Act.put, List.setIfInBounds_toArray, List.set_cons_zero, List.set_cons_succ]
  refine wpAnyH_done (by kernel_rfl) ?_ _
  refine NoPanic.normal ?_
  clear k3 k4
  generalize W9.drew = V at SV MV HV9 ⊢
  have c5 : V.cell? ⟨xh, 5, none⟩ = some (.int .i64 (hv 5)) := (HV9.out.at 5 _ rfl).1
  have c3 : V.cell? ⟨xh, 3, none⟩ = some (.int .i64 (hv 3)) := (HV9.out.at 3 _ rfl).1
  have d5 : V.cell? ⟨xm, 5, none⟩ = some (.int .i64 (hdrF f' 5)) := (MV.out.at 5 _ rfl).1
  have d3 : V.cell? ⟨xm, 3, none⟩ = some (.int .i64 (hdrF f' 3)) := (MV.out.at 3 _ rfl).1
  obtain ⟨s0, g0⟩ := SV.out.1.at 0 (.int .i64 0) rfl
  obtain ⟨s1, g1⟩ := SV.out.1.at 1 (.int .i64 0) rfl
  obtain ⟨s2, g2⟩ := SV.out.1.at 2 (.int .i64 0) rfl
  obtain ⟨s3, g3⟩ := SV.out.1.at 3 (.bool false) rfl
  clear hHeld MV HV9
  rw [E5.out] at c5
  go_wp2_with fail
  have hR9 : Rec19 ((((V.setCell ⟨w.heap.size, 0, none⟩ (.int .i64 3)).setCell ⟨w.heap.size, 1, none⟩ (.int .i64 (hdrF f' 5))).setCell ⟨w.heap.size, 2, none⟩ (.int .i64 (hv 3))).setCell ⟨w.heap.size, 3, none⟩ (.bool false)) w.heap.size 0 (ss 3 (hdrF f' 5) (hv 3) false) := SV.out.1.store (ss 3 (hdrF f' 5) (hv 3) false) rfl
  have hB9 : Below w.heap.size w ((((V.setCell ⟨w.heap.size, 0, none⟩ (.int .i64 3)).setCell ⟨w.heap.size, 1, none⟩ (.int .i64 (hdrF f' 5))).setCell ⟨w.heap.size, 2, none⟩ (.int .i64 (hv 3))).setCell ⟨w.heap.size, 3, none⟩ (.bool false)) := (((SV.out.2.2.2.2.setCell (Nat.le_refl _) _).setCell (Nat.le_refl _) _).setCell (Nat.le_refl _) _).setCell (Nat.le_refl _) _
  generalize ((((V.setCell ⟨w.heap.size, 0, none⟩ (.int .i64 3)).setCell ⟨w.heap.size, 1, none⟩ (.int .i64 (hdrF f' 5))).setCell ⟨w.heap.size, 2, none⟩ (.int .i64 (hv 3))).setCell ⟨w.heap.size, 3, none⟩ (.bool false)) = W99 at hR9 hB9 ⊢
  have hl := hR9.run_load 45 _ Tryd.underlying45 rfl (by kernel_rfl)
  refine bodyPost_ret (v := .agg (ss 3 (hdrF f' 5) (hv 3) false).toArray) (by simp [results, Tryd.results23, asAddr, hl]) rfl ⟨by rw [HVE.out, E5.out], hB9⟩
set_option maxRecDepth 100000 in
set_option maxHeartbeats 1000000 in
theorem rj_new2 (a : Option Addr) (pb po : Nat) (n C n' C' : Nat) (f f' : Nat → Int) (k : Int) (w : World) (hA : Arg w a n f) (hA' : Arg w (some ⟨pb, po, none⟩) n' f') (hC : n ≤ C) (hC' : n' ≤ C') (hm : n' ≤ 900000) (hk : isSl k = true) (hp : prepOK n' f' k = true) (hc : headC n f = 0) (hi : isPrep (hdrF f) k = true) (hs : ¬ txtN n f = txtN 256 f') (h1 : ¬ hdrF f 5 < hdrF f' 5) (h2 : ¬ hdrF f 5 = hdrF f' 5) : Calls Tryd.prog 23 #[.slice a n C, .slice (some ⟨pb, po, none⟩) n' C', .int .i64 k] w fun e w' => e = .returned (.agg (ss 3 (hdrF f 5) (hdrF f 3) false).toArray) ∧ Below w.heap.size w w' := by
  have SK : Hid (isSl k = true) := hk
  have HA : Hid (Arg w a n f) := hA
  have HA' : Hid (Arg w (some ⟨pb, po, none⟩) n' f') := hA'
  obtain ⟨X, hX⟩ : ∃ X, txtN n f = X := ⟨_, rfl⟩
  obtain ⟨Y, hY⟩ : ∃ Y, txtN 256 (unwF k) = Y := ⟨_, rfl⟩
  have HX : Hid (txtN n f = X) := hX
  have HY : Hid (txtN 256 (unwF k) = Y) := hY
  have PN : Hid (prepOK n' f' k = true) := hp
  have hv0 := headV_zero hc
  obtain ⟨hv, hve⟩ : ∃ x, hdrF f = x := ⟨_, rfl⟩
  rw [hve] at hv0 hi
  have HV : Hid (headV n f = hv) := hv0
  have HC : Hid (headC n f = 0) := hc
  have HI : Hid (isPrep hv k = true) := hi
  have HVE : Hid (hdrF f = hv) := hve
  clear hv0 hc hi
  clear hp
  have LN : Hid (256 ≤ n') := (prepOK_iff.1 PN.out).1
  have l1 : (256 : Int) ≤ C' := by have := LN.out; omega
  obtain ⟨Z, hZ⟩ : ∃ Z, txtN 256 f' = Z := ⟨_, rfl⟩
  have HQ : Hid (txtN 256 f' = Z) := hZ
  have hq : (X.toList == Z.toList) = false := by rw [bytes_beq, ← hX, ← hZ]; simpa using hs
  clear hZ hs
  have o1 : (hv 5 < hdrF f' 5) = False := eq_false (by rw [← hve]; exact h1)
  clear h1
  have o2 : (hv 5 == hdrF f' 5) = false := by rw [← hve]; simpa using h2
  clear h2
  clear hk hA hA' hX hY
  try clear hve
  have T0 : Hid True := trivial
  go_enter Tryd.func23, Tryd.ntmps23
  go_wp2_with (first
    | (have _q := T0; clear _q; refine wpList_alloc_rec rfl 45 rfl (ss 0 0 0 false) w.heap.size rfl zeroSs ?_; intro W1 hR1 hB1 hz1
       have R1 : Hid (Rec19 W1 w.heap.size 0 (ss 0 0 0 false)) := hR1
       have B1 : Hid (Below w.heap.size w W1) := hB1
       clear hR1 hB1 hz1 T0)
    | (have _q := R1; clear _q; go_at_call 12; refine (runwritten_ok k _ SK.out).mono ?_; rintro e W2 ⟨u, cu, rfl, hU, hB⟩
       have S2 : Hid (rjS w a n f (some ⟨pb, po, none⟩) n' f' u k W2) := ⟨R1.out.below hB, (HA.out.below B1.out).below hB, (HA'.out.below B1.out).below hB, hU, B1.out.trans (hB.mono B1.out.size)⟩
       clear hB hU R1 B1)
    | (have _q := S2; clear _q; go_at_call 20; refine (rprep_ok (some ⟨pb, po, none⟩) n' C' f' k _ S2.out.2.2.1 hC' hm PN.out).mono ?_; rintro e W3 ⟨ga, cap, rfl, hga, hB⟩; clear hga
       have S3 : Hid (rjS w a n f (some ⟨pb, po, none⟩) n' f' u k W3) := S2.out.below hB
       clear hB S2)
    | (have _q := S3; clear _q; refine wpList_alloc_rec rfl 29 rfl (msg (fun _ => 0) none 0 0) W3.heap.size rfl zeroMsg ?_; intro W4 r4 b4 z4)
    | (have _q := S3; clear _q; refine wpList_store_rec rfl 29 (.tmp 9) (.tmp 27) rfl W3.heap.size 0 _ (msg (hdrF f') ga (hdrF f' 2).toNat cap) rfl rfl r4 rfl (by kernel_rfl) (msg_one _ _ _ _) ?_; intro W5 r5 b5
       have hB : Below W3.heap.size W3 W5 := b4.trans (b5.below (Nat.le_refl _) (by omega))
       have S5 : Hid (rjS w a n f (some ⟨pb, po, none⟩) n' f' u k W5) := S3.out.below hB
       have M5 : Hid (Rec19 W5 W3.heap.size 0 (msg (hdrF f') ga (hdrF f' 2).toNat cap)) := r5
       clear hB b4 b5 r4 r5 z4 S3
       generalize W3.heap.size = xm at M5 ⊢)
    | (have _q := S5; clear _q; go_at_call 38; refine (nhead_gen a n C f _ S5.out.2.1 hC).mono ?_; rintro e W6 ⟨rfl, hB⟩; rw [HV.out, HC.out]
       have S6 : Hid (rjS w a n f (some ⟨pb, po, none⟩) n' f' u k W6) := S5.out.below hB
       have M6 : Hid (Rec19 W6 xm 0 (msg (hdrF f') ga (hdrF f' 2).toNat cap)) := M5.out.below hB
       clear hB S5 M5)
    | (have _q := S6; clear _q; refine wpList_alloc_rec rfl 26 rfl (hcs fun _ => 0) W6.heap.size rfl zeroHdr ?_; intro W7 r7 b7 z7)
    | (have _q := S6; clear _q; refine wpList_store_rec rfl 26 (.tmp 11) (.tmp 32) rfl W6.heap.size 0 _ (hcs hv) rfl rfl r7 rfl (by kernel_rfl) (hcs_one _) ?_; intro W8 r8 b8
       have hB : Below W6.heap.size W6 W8 := b7.trans (b8.below (Nat.le_refl _) (by omega))
       have S8 : Hid (rjS w a n f (some ⟨pb, po, none⟩) n' f' u k W8) := S6.out.below hB
       have M8 : Hid (Rec19 W8 xm 0 (msg (hdrF f') ga (hdrF f' 2).toNat cap)) := M6.out.below hB
       have H8 : Hid (Rec19 W8 W6.heap.size 0 (hcs hv)) := r8
       clear hB b7 b8 r7 r8 z7 S6 M6
       generalize W6.heap.size = xh at H8 ⊢)
    | (have _q := S8; clear _q; refine wpList_load_w (by rfl) 26 (.tmp 11) rfl xh 0 (hcs hv) rfl _ Tryd.underlying26 rfl (by kernel_rfl) H8.out ?_)
    | (have _q := S8; clear _q; go_at_call 34; refine (mine_any hv k _).mono ?_; rintro e W9 ⟨rfl, hB⟩; rw [HI.out]
       have S9 : Hid (rjS w a n f (some ⟨pb, po, none⟩) n' f' u k W9) := S8.out.below hB
       have M9 : Hid (Rec19 W9 xm 0 (msg (hdrF f') ga (hdrF f' 2).toNat cap)) := M8.out.below hB
       have H9 : Hid (Rec19 W9 xh 0 (hcs hv)) := H8.out.below hB
       clear hB S8 M8 H8
       have k1 := conv_arg W9 a n C f S9.out.2.1
       have k2 := conv_arg W9 (some ⟨u, 0, none⟩) 256 cu (unwF k) S9.out.2.2.2.1
       rw [HX.out] at k1
       rw [HY.out] at k2))
  have SV : Hid (rjS w a n f (some ⟨pb, po, none⟩) n' f' u k W9.drew) := S9.out.below (Below.refl _ _).drew
  have MV : Hid (Rec19 W9.drew xm 0 (msg (hdrF f') ga (hdrF f' 2).toNat cap)) := M9.out
  have HV9 : Hid (Rec19 W9.drew xh 0 (hcs hv)) := H9.out
  have k3 := conv_arg W9.drew a n C f SV.out.2.1
  have k4 := conv_arg W9.drew (some ⟨pb, po, none⟩) 256 C' f' (SV.out.2.2.1.upto LN.out (by have := LN.out; omega))
  rw [HX.out] at k3
  rw [HQ.out] at k4
  clear k1 k2 S9 M9 H9
  refine wp_region_noPanic ?_
  refine wp_region_held_drew (S := fun W' => (convert 27 9 (.slice a n C)).run Tryd.prog W' = .ok (.string X) W' ∧ (convert 27 9 (.slice (some ⟨pb, po, none⟩) 256 C')).run Tryd.prog W' = .ok (.string Z) W') (by kernel_rfl) ?_ (fun hHeld => ?_)
  · exact ⟨k3, k4⟩
  refine take_at (i := 0) (v := ?_) (some 66) rfl rfl (by kernel_rfl) (by kernel_rfl) (by kernel_rfl) (fun _ _ _ h => h) (Or.inl ⟨by rfl, ?_⟩) (by assumption) ?_
  rotate_left
  · (intro w hSw; (try dsimp only at hSw); go_simp; try with_reducible rfl)
  simp only [Act.put, List.setIfInBounds_toArray, List.set_cons_zero, List.set_cons_succ]
  refine take_at (i := 1) (v := ?_) (some 67) rfl rfl (by kernel_rfl) (by kernel_rfl) (by kernel_rfl) (fun _ _ _ h => h) (Or.inl ⟨by rfl, ?_⟩) (by assumption) ?_
  rotate_left
  · (intro w hSw; (try dsimp only at hSw); go_simp; try with_reducible rfl)
  simp only [Act.put, List.setIfInBounds_toArray, List.set_cons_zero, List.set_cons_succ]
  refine take_at (i := 2) (v := ?_) (some 68) rfl rfl (by kernel_rfl) (by kernel_rfl) (by kernel_rfl) (fun _ _ _ h => h) (Or.inl ⟨by rfl, ?_⟩) (by assumption) ?_
  rotate_left
  · (intro w hSw; (try dsimp only at hSw); go_simp; try with_reducible rfl)
  simp only [Act.put, List.setIfInBounds_toArray, List.set_cons_zero, List.set_cons_succ]
  refine take_at (i := 3) (v := ?_) (some 69) rfl rfl (by kernel_rfl) (by kernel_rfl) (by kernel_rfl) (fun _ _ _ h => h) (Or.inl ⟨by rfl, ?_⟩) (by assumption) ?_
  rotate_left
  · (intro w hSw; (try dsimp only at hSw); go_simp; try with_reducible rfl)
  simp only [Act.put, List.setIfInBounds_toArray, List.set_cons_zero, List.set_cons_succ]
  refine take_at (i := 4) (v := ?_) (some 70) rfl rfl (by kernel_rfl) (by kernel_rfl) (by kernel_rfl) (fun _ _ _ h => h) (Or.inl ⟨by rfl, ?_⟩) (by assumption) ?_
  rotate_left
  · (intro w hSw; (try dsimp only at hSw); go_simp; try with_reducible rfl)
  simp only [Act.put, List.setIfInBounds_toArray, List.set_cons_zero, List.set_cons_succ]
  refine take_at (i := 5) (v := ?_) (some 71) rfl rfl (by kernel_rfl) (by kernel_rfl) (by kernel_rfl) (fun _ _ _ h => h) (Or.inl ⟨by rfl, ?_⟩) (by assumption) ?_
  rotate_left
  · (intro w hSw; (try dsimp only at hSw); go_simp; try with_reducible rfl)
  simp only [Act.put, List.setIfInBounds_toArray, List.set_cons_zero, List.set_cons_succ]
  refine take_at (i := 6) (v := ?_) (some 72) rfl rfl (by kernel_rfl) (by kernel_rfl) (by kernel_rfl) (fun _ _ _ h => h) (Or.inl ⟨by rfl, ?_⟩) (by assumption) ?_
  rotate_left
  · (intro w hSw; (try dsimp only at hSw); go_simp; try with_reducible rfl)
  simp only [Act.put, List.setIfInBounds_toArray, List.set_cons_zero, List.set_cons_succ]
  refine take_at (i := 7) (v := ?_) (some 73) rfl rfl (by kernel_rfl) (by kernel_rfl) (by kernel_rfl) (fun _ _ _ h => h) (Or.inl ⟨by rfl, ?_⟩) (by assumption) ?_
  rotate_left
  · (intro w hSw; (try dsimp only at hSw); go_simp; try with_reducible rfl)
  simp only [Act.put, List.setIfInBounds_toArray, List.set_cons_zero, List.set_cons_succ]
  refine take_at (i := 8) (v := ?_) (some 74) rfl rfl (by kernel_rfl) (by kernel_rfl) (by kernel_rfl) (fun _ _ _ h => h) (Or.inl ⟨by rfl, ?_⟩) (by assumption) ?_
  rotate_left
  · (intro w hSw; (try dsimp only at hSw); go_simp; try with_reducible rfl)
  simp only [Act.put, List.setIfInBounds_toArray, List.set_cons_zero, List.set_cons_succ]
  refine wpAnyH_done (by kernel_rfl) ?_ _
  refine NoPanic.normal ?_
  clear k3 k4
  generalize W9.drew = V at SV MV HV9 ⊢
  have c5 : V.cell? ⟨xh, 5, none⟩ = some (.int .i64 (hv 5)) := (HV9.out.at 5 _ rfl).1
  have c3 : V.cell? ⟨xh, 3, none⟩ = some (.int .i64 (hv 3)) := (HV9.out.at 3 _ rfl).1
  have d5 : V.cell? ⟨xm, 5, none⟩ = some (.int .i64 (hdrF f' 5)) := (MV.out.at 5 _ rfl).1
  have d3 : V.cell? ⟨xm, 3, none⟩ = some (.int .i64 (hdrF f' 3)) := (MV.out.at 3 _ rfl).1
  obtain ⟨s0, g0⟩ := SV.out.1.at 0 (.int .i64 0) rfl
  obtain ⟨s1, g1⟩ := SV.out.1.at 1 (.int .i64 0) rfl
  obtain ⟨s2, g2⟩ := SV.out.1.at 2 (.int .i64 0) rfl
  obtain ⟨s3, g3⟩ := SV.out.1.at 3 (.bool false) rfl
  clear hHeld MV HV9
  go_wp2_with fail
  have hR9 : Rec19 ((((V.setCell ⟨w.heap.size, 0, none⟩ (.int .i64 3)).setCell ⟨w.heap.size, 1, none⟩ (.int .i64 (hv 5))).setCell ⟨w.heap.size, 2, none⟩ (.int .i64 (hv 3))).setCell ⟨w.heap.size, 3, none⟩ (.bool false)) w.heap.size 0 (ss 3 (hv 5) (hv 3) false) := SV.out.1.store (ss 3 (hv 5) (hv 3) false) rfl
  have hB9 : Below w.heap.size w ((((V.setCell ⟨w.heap.size, 0, none⟩ (.int .i64 3)).setCell ⟨w.heap.size, 1, none⟩ (.int .i64 (hv 5))).setCell ⟨w.heap.size, 2, none⟩ (.int .i64 (hv 3))).setCell ⟨w.heap.size, 3, none⟩ (.bool false)) := (((SV.out.2.2.2.2.setCell (Nat.le_refl _) _).setCell (Nat.le_refl _) _).setCell (Nat.le_refl _) _).setCell (Nat.le_refl _) _
  generalize ((((V.setCell ⟨w.heap.size, 0, none⟩ (.int .i64 3)).setCell ⟨w.heap.size, 1, none⟩ (.int .i64 (hv 5))).setCell ⟨w.heap.size, 2, none⟩ (.int .i64 (hv 3))).setCell ⟨w.heap.size, 3, none⟩ (.bool false)) = W99 at hR9 hB9 ⊢
  have hl := hR9.run_load 45 _ Tryd.underlying45 rfl (by kernel_rfl)
  refine bodyPost_ret (v := .agg (ss 3 (hv 5) (hv 3) false).toArray) (by simp [results, Tryd.results23, asAddr, hl]) rfl ⟨by rw [HVE.out], hB9⟩
set_option maxRecDepth 100000 in
set_option maxHeartbeats 1000000 in
theorem rj_mend1 (a : Option Addr) (pb po : Nat) (n C n' C' : Nat) (f f' : Nat → Int) (k : Int) (w : World) (hA : Arg w a n f) (hA' : Arg w (some ⟨pb, po, none⟩) n' f') (hC : n ≤ C) (hC' : n' ≤ C') (hm : n' ≤ 900000) (hk : isSl k = true) (hp : prepOK n' f' k = true) (hc : headC n f = 0) (hi : isPrep (hdrF f) k = false) : Calls Tryd.prog 23 #[.slice a n C, .slice (some ⟨pb, po, none⟩) n' C', .int .i64 k] w fun e w' => e = .returned (.agg (ss 1 (hdrF f' 5) (hdrF f' 3) true).toArray) ∧ Below w.heap.size w w' := by
  have SK : Hid (isSl k = true) := hk
  have HA : Hid (Arg w a n f) := hA
  have HA' : Hid (Arg w (some ⟨pb, po, none⟩) n' f') := hA'
  obtain ⟨X, hX⟩ : ∃ X, txtN n f = X := ⟨_, rfl⟩
  obtain ⟨Y, hY⟩ : ∃ Y, txtN 256 (unwF k) = Y := ⟨_, rfl⟩
  have HX : Hid (txtN n f = X) := hX
  have HY : Hid (txtN 256 (unwF k) = Y) := hY
  have PN : Hid (prepOK n' f' k = true) := hp
  have hv0 := headV_zero hc
  obtain ⟨hv, hve⟩ : ∃ x, hdrF f = x := ⟨_, rfl⟩
  rw [hve] at hv0 hi
  have HV : Hid (headV n f = hv) := hv0
  have HC : Hid (headC n f = 0) := hc
  have HI : Hid (isPrep hv k = false) := hi
  have HVE : Hid (hdrF f = hv) := hve
  clear hv0 hc hi
  clear hp
  have LN : Hid (256 ≤ n') := (prepOK_iff.1 PN.out).1
  have l1 : (256 : Int) ≤ C' := by have := LN.out; omega
  clear hk hA hA' hX hY
  try clear hve
  have T0 : Hid True := trivial
  go_enter Tryd.func23, Tryd.ntmps23
  go_wp2_with (first
    | (have _q := T0; clear _q; refine wpList_alloc_rec rfl 45 rfl (ss 0 0 0 false) w.heap.size rfl zeroSs ?_; intro W1 hR1 hB1 hz1
       have R1 : Hid (Rec19 W1 w.heap.size 0 (ss 0 0 0 false)) := hR1
       have B1 : Hid (Below w.heap.size w W1) := hB1
       clear hR1 hB1 hz1 T0)
    | (have _q := R1; clear _q; go_at_call 12; refine (runwritten_ok k _ SK.out).mono ?_; rintro e W2 ⟨u, cu, rfl, hU, hB⟩
       have S2 : Hid (rjS w a n f (some ⟨pb, po, none⟩) n' f' u k W2) := ⟨R1.out.below hB, (HA.out.below B1.out).below hB, (HA'.out.below B1.out).below hB, hU, B1.out.trans (hB.mono B1.out.size)⟩
       clear hB hU R1 B1)
    | (have _q := S2; clear _q; go_at_call 20; refine (rprep_ok (some ⟨pb, po, none⟩) n' C' f' k _ S2.out.2.2.1 hC' hm PN.out).mono ?_; rintro e W3 ⟨ga, cap, rfl, hga, hB⟩; clear hga
       have S3 : Hid (rjS w a n f (some ⟨pb, po, none⟩) n' f' u k W3) := S2.out.below hB
       clear hB S2)
    | (have _q := S3; clear _q; refine wpList_alloc_rec rfl 29 rfl (msg (fun _ => 0) none 0 0) W3.heap.size rfl zeroMsg ?_; intro W4 r4 b4 z4)
    | (have _q := S3; clear _q; refine wpList_store_rec rfl 29 (.tmp 9) (.tmp 27) rfl W3.heap.size 0 _ (msg (hdrF f') ga (hdrF f' 2).toNat cap) rfl rfl r4 rfl (by kernel_rfl) (msg_one _ _ _ _) ?_; intro W5 r5 b5
       have hB : Below W3.heap.size W3 W5 := b4.trans (b5.below (Nat.le_refl _) (by omega))
       have S5 : Hid (rjS w a n f (some ⟨pb, po, none⟩) n' f' u k W5) := S3.out.below hB
       have M5 : Hid (Rec19 W5 W3.heap.size 0 (msg (hdrF f') ga (hdrF f' 2).toNat cap)) := r5
       clear hB b4 b5 r4 r5 z4 S3
       generalize W3.heap.size = xm at M5 ⊢)
    | (have _q := S5; clear _q; go_at_call 38; refine (nhead_gen a n C f _ S5.out.2.1 hC).mono ?_; rintro e W6 ⟨rfl, hB⟩; rw [HV.out, HC.out]
       have S6 : Hid (rjS w a n f (some ⟨pb, po, none⟩) n' f' u k W6) := S5.out.below hB
       have M6 : Hid (Rec19 W6 xm 0 (msg (hdrF f') ga (hdrF f' 2).toNat cap)) := M5.out.below hB
       clear hB S5 M5)
    | (have _q := S6; clear _q; refine wpList_alloc_rec rfl 26 rfl (hcs fun _ => 0) W6.heap.size rfl zeroHdr ?_; intro W7 r7 b7 z7)
    | (have _q := S6; clear _q; refine wpList_store_rec rfl 26 (.tmp 11) (.tmp 32) rfl W6.heap.size 0 _ (hcs hv) rfl rfl r7 rfl (by kernel_rfl) (hcs_one _) ?_; intro W8 r8 b8
       have hB : Below W6.heap.size W6 W8 := b7.trans (b8.below (Nat.le_refl _) (by omega))
       have S8 : Hid (rjS w a n f (some ⟨pb, po, none⟩) n' f' u k W8) := S6.out.below hB
       have M8 : Hid (Rec19 W8 xm 0 (msg (hdrF f') ga (hdrF f' 2).toNat cap)) := M6.out.below hB
       have H8 : Hid (Rec19 W8 W6.heap.size 0 (hcs hv)) := r8
       clear hB b7 b8 r7 r8 z7 S6 M6
       generalize W6.heap.size = xh at H8 ⊢)
    | (have _q := S8; clear _q; refine wpList_load_w (by rfl) 26 (.tmp 11) rfl xh 0 (hcs hv) rfl _ Tryd.underlying26 rfl (by kernel_rfl) H8.out ?_)
    | (have _q := S8; clear _q; go_at_call 34; refine (mine_any hv k _).mono ?_; rintro e W9 ⟨rfl, hB⟩; rw [HI.out]
       have S9 : Hid (rjS w a n f (some ⟨pb, po, none⟩) n' f' u k W9) := S8.out.below hB
       have M9 : Hid (Rec19 W9 xm 0 (msg (hdrF f') ga (hdrF f' 2).toNat cap)) := M8.out.below hB
       have H9 : Hid (Rec19 W9 xh 0 (hcs hv)) := H8.out.below hB
       clear hB S8 M8 H8
       have k1 := conv_arg W9 a n C f S9.out.2.1
       have k2 := conv_arg W9 (some ⟨u, 0, none⟩) 256 cu (unwF k) S9.out.2.2.2.1
       rw [HX.out] at k1
       rw [HY.out] at k2))
  have SV : Hid (rjS w a n f (some ⟨pb, po, none⟩) n' f' u k W9.drew) := S9.out.below (Below.refl _ _).drew
  have MV : Hid (Rec19 W9.drew xm 0 (msg (hdrF f') ga (hdrF f' 2).toNat cap)) := M9.out
  have HV9 : Hid (Rec19 W9.drew xh 0 (hcs hv)) := H9.out
  clear k1 k2 S9 M9 H9
  refine wp_region_noPanic ?_
  refine wp_region_held_drew (S := fun W' => True) (by kernel_rfl) ?_ (fun hHeld => ?_)
  · trivial
  refine take_at (i := 0) (v := ?_) (some 66) rfl rfl (by kernel_rfl) (by kernel_rfl) (by kernel_rfl) (fun _ _ _ h => h) (Or.inl ⟨by rfl, ?_⟩) (by assumption) ?_
  rotate_left
  · (intro w hSw; (try dsimp only at hSw); go_simp; try with_reducible rfl)
  simp only [Act.put, List.setIfInBounds_toArray, List.set_cons_zero, List.set_cons_succ]
  refine take_at (i := 1) (v := ?_) (some 67) rfl rfl (by kernel_rfl) (by kernel_rfl) (by kernel_rfl) (fun _ _ _ h => h) (Or.inl ⟨by rfl, ?_⟩) (by assumption) ?_
  rotate_left
  · (intro w hSw; (try dsimp only at hSw); go_simp; try with_reducible rfl)
  simp only [Act.put, List.setIfInBounds_toArray, List.set_cons_zero, List.set_cons_succ]
  refine take_at (i := 2) (v := undef) (some 68) rfl rfl (by kernel_rfl) (by kernel_rfl) (by kernel_rfl) (fun _ _ _ h => h) (Or.inr ⟨by rfl, rfl⟩) (by assumption) ?_
  simp only [Act.put, List.setIfInBounds_toArray, List.set_cons_zero, List.set_cons_succ]
  refine take_at (i := 3) (v := undef) (some 69) rfl rfl (by kernel_rfl) (by kernel_rfl) (by kernel_rfl) (fun _ _ _ h => h) (Or.inr ⟨by rfl, rfl⟩) (by assumption) ?_
  simp only [Act.put, List.setIfInBounds_toArray, List.set_cons_zero, List.set_cons_succ]
  refine take_at (i := 4) (v := undef) (some 70) rfl rfl (by kernel_rfl) (by kernel_rfl) (by kernel_rfl) (fun _ _ _ h => h) (Or.inr ⟨by rfl, rfl⟩) (by assumption) ?_
  simp only [Act.put, List.setIfInBounds_toArray, List.set_cons_zero, List.set_cons_succ]
  refine take_at (i := 5) (v := undef) (some 71) rfl rfl (by kernel_rfl) (by kernel_rfl) (by kernel_rfl) (fun _ _ _ h => h) (Or.inr ⟨by rfl, rfl⟩) (by assumption) ?_
  simp only [Act.put, List.setIfInBounds_toArray, List.set_cons_zero, List.set_cons_succ]
  refine take_at (i := 6) (v := undef) (some 72) rfl rfl (by kernel_rfl) (by kernel_rfl) (by kernel_rfl) (fun _ _ _ h => h) (Or.inr ⟨by rfl, rfl⟩) (by assumption) ?_
  simp only [Act.put, List.setIfInBounds_toArray, List.set_cons_zero, List.set_cons_succ]
  refine take_at (i := 7) (v := undef) (some 73) rfl rfl (by kernel_rfl) (by kernel_rfl) (by kernel_rfl) (fun _ _ _ h => h) (Or.inr ⟨by rfl, rfl⟩) (by assumption) ?_
  simp only [Act.put, List.setIfInBounds_toArray, List.set_cons_zero, List.set_cons_succ]
  refine take_at (i := 8) (v := ?_) (some 74) rfl rfl (by kernel_rfl) (by kernel_rfl) (by kernel_rfl) (fun _ _ _ h => h) (Or.inl ⟨by rfl, ?_⟩) (by assumption) ?_
  rotate_left
  · (intro w hSw; (try dsimp only at hSw); go_simp; try with_reducible rfl)
  simp only [Act.put, List.setIfInBounds_toArray, List.set_cons_zero, List.set_cons_succ]
  refine wpAnyH_done (by kernel_rfl) ?_ _
  refine NoPanic.normal ?_
  generalize W9.drew = V at SV MV HV9 ⊢
  have c5 : V.cell? ⟨xh, 5, none⟩ = some (.int .i64 (hv 5)) := (HV9.out.at 5 _ rfl).1
  have c3 : V.cell? ⟨xh, 3, none⟩ = some (.int .i64 (hv 3)) := (HV9.out.at 3 _ rfl).1
  have d5 : V.cell? ⟨xm, 5, none⟩ = some (.int .i64 (hdrF f' 5)) := (MV.out.at 5 _ rfl).1
  have d3 : V.cell? ⟨xm, 3, none⟩ = some (.int .i64 (hdrF f' 3)) := (MV.out.at 3 _ rfl).1
  obtain ⟨s0, g0⟩ := SV.out.1.at 0 (.int .i64 0) rfl
  obtain ⟨s1, g1⟩ := SV.out.1.at 1 (.int .i64 0) rfl
  obtain ⟨s2, g2⟩ := SV.out.1.at 2 (.int .i64 0) rfl
  obtain ⟨s3, g3⟩ := SV.out.1.at 3 (.bool false) rfl
  clear hHeld MV HV9
  go_wp2_with fail
  have hR9 : Rec19 ((((V.setCell ⟨w.heap.size, 0, none⟩ (.int .i64 1)).setCell ⟨w.heap.size, 1, none⟩ (.int .i64 (hdrF f' 5))).setCell ⟨w.heap.size, 2, none⟩ (.int .i64 (hdrF f' 3))).setCell ⟨w.heap.size, 3, none⟩ (.bool true)) w.heap.size 0 (ss 1 (hdrF f' 5) (hdrF f' 3) true) := SV.out.1.store (ss 1 (hdrF f' 5) (hdrF f' 3) true) rfl
  have hB9 : Below w.heap.size w ((((V.setCell ⟨w.heap.size, 0, none⟩ (.int .i64 1)).setCell ⟨w.heap.size, 1, none⟩ (.int .i64 (hdrF f' 5))).setCell ⟨w.heap.size, 2, none⟩ (.int .i64 (hdrF f' 3))).setCell ⟨w.heap.size, 3, none⟩ (.bool true)) := (((SV.out.2.2.2.2.setCell (Nat.le_refl _) _).setCell (Nat.le_refl _) _).setCell (Nat.le_refl _) _).setCell (Nat.le_refl _) _
  generalize ((((V.setCell ⟨w.heap.size, 0, none⟩ (.int .i64 1)).setCell ⟨w.heap.size, 1, none⟩ (.int .i64 (hdrF f' 5))).setCell ⟨w.heap.size, 2, none⟩ (.int .i64 (hdrF f' 3))).setCell ⟨w.heap.size, 3, none⟩ (.bool true)) = W99 at hR9 hB9 ⊢
  have hl := hR9.run_load 45 _ Tryd.underlying45 rfl (by kernel_rfl)
  refine bodyPost_ret (v := .agg (ss 1 (hdrF f' 5) (hdrF f' 3) true).toArray) (by simp [results, Tryd.results23, asAddr, hl]) rfl ⟨rfl, hB9⟩
set_option maxRecDepth 100000 in
set_option maxHeartbeats 1000000 in
theorem rj_mend0 (a : Option Addr) (pb po : Nat) (n C n' C' : Nat) (f f' : Nat → Int) (k : Int) (w : World) (hA : Arg w a n f) (hA' : Arg w (some ⟨pb, po, none⟩) n' f') (hC : n ≤ C) (hC' : n' ≤ C') (hm : n' ≤ 900000) (hk : isSl k = true) (hp : prepOK n' f' k = true) (hc : headC n f ≠ 0) : Calls Tryd.prog 23 #[.slice a n C, .slice (some ⟨pb, po, none⟩) n' C', .int .i64 k] w fun e w' => e = .returned (.agg (ss 1 (hdrF f' 5) (hdrF f' 3) true).toArray) ∧ Below w.heap.size w w' := by
  have SK : Hid (isSl k = true) := hk
  have HA : Hid (Arg w a n f) := hA
  have HA' : Hid (Arg w (some ⟨pb, po, none⟩) n' f') := hA'
  obtain ⟨X, hX⟩ : ∃ X, txtN n f = X := ⟨_, rfl⟩
  obtain ⟨Y, hY⟩ : ∃ Y, txtN 256 (unwF k) = Y := ⟨_, rfl⟩
  have HX : Hid (txtN n f = X) := hX
  have HY : Hid (txtN 256 (unwF k) = Y) := hY
  have PN : Hid (prepOK n' f' k = true) := hp
  obtain ⟨hv, hve⟩ : ∃ x, headV n f = x := ⟨_, rfl⟩
  have HV : Hid (headV n f = hv) := hve
  obtain ⟨c, hce⟩ : ∃ c, headC n f = c := ⟨_, rfl⟩
  have HC : Hid (headC n f = c) := hce
  have z1 : (c == 0) = false := by rw [hce] at hc; simpa using hc
  clear hve hce hc
  clear hp
  have LN : Hid (256 ≤ n') := (prepOK_iff.1 PN.out).1
  have l1 : (256 : Int) ≤ C' := by have := LN.out; omega
  clear hk hA hA' hX hY
  try clear hve
  have T0 : Hid True := trivial
  go_enter Tryd.func23, Tryd.ntmps23
  go_wp2_with (first
    | (have _q := T0; clear _q; refine wpList_alloc_rec rfl 45 rfl (ss 0 0 0 false) w.heap.size rfl zeroSs ?_; intro W1 hR1 hB1 hz1
       have R1 : Hid (Rec19 W1 w.heap.size 0 (ss 0 0 0 false)) := hR1
       have B1 : Hid (Below w.heap.size w W1) := hB1
       clear hR1 hB1 hz1 T0)
    | (have _q := R1; clear _q; go_at_call 12; refine (runwritten_ok k _ SK.out).mono ?_; rintro e W2 ⟨u, cu, rfl, hU, hB⟩
       have S2 : Hid (rjS w a n f (some ⟨pb, po, none⟩) n' f' u k W2) := ⟨R1.out.below hB, (HA.out.below B1.out).below hB, (HA'.out.below B1.out).below hB, hU, B1.out.trans (hB.mono B1.out.size)⟩
       clear hB hU R1 B1)
    | (have _q := S2; clear _q; go_at_call 20; refine (rprep_ok (some ⟨pb, po, none⟩) n' C' f' k _ S2.out.2.2.1 hC' hm PN.out).mono ?_; rintro e W3 ⟨ga, cap, rfl, hga, hB⟩; clear hga
       have S3 : Hid (rjS w a n f (some ⟨pb, po, none⟩) n' f' u k W3) := S2.out.below hB
       clear hB S2)
    | (have _q := S3; clear _q; refine wpList_alloc_rec rfl 29 rfl (msg (fun _ => 0) none 0 0) W3.heap.size rfl zeroMsg ?_; intro W4 r4 b4 z4)
    | (have _q := S3; clear _q; refine wpList_store_rec rfl 29 (.tmp 9) (.tmp 27) rfl W3.heap.size 0 _ (msg (hdrF f') ga (hdrF f' 2).toNat cap) rfl rfl r4 rfl (by kernel_rfl) (msg_one _ _ _ _) ?_; intro W5 r5 b5
       have hB : Below W3.heap.size W3 W5 := b4.trans (b5.below (Nat.le_refl _) (by omega))
       have S5 : Hid (rjS w a n f (some ⟨pb, po, none⟩) n' f' u k W5) := S3.out.below hB
       have M5 : Hid (Rec19 W5 W3.heap.size 0 (msg (hdrF f') ga (hdrF f' 2).toNat cap)) := r5
       clear hB b4 b5 r4 r5 z4 S3
       generalize W3.heap.size = xm at M5 ⊢)
    | (have _q := S5; clear _q; go_at_call 38; refine (nhead_gen a n C f _ S5.out.2.1 hC).mono ?_; rintro e W6 ⟨rfl, hB⟩; rw [HV.out, HC.out]
       have S6 : Hid (rjS w a n f (some ⟨pb, po, none⟩) n' f' u k W6) := S5.out.below hB
       have M6 : Hid (Rec19 W6 xm 0 (msg (hdrF f') ga (hdrF f' 2).toNat cap)) := M5.out.below hB
       clear hB S5 M5)
    | (have _q := S6; clear _q; refine wpList_alloc_rec rfl 26 rfl (hcs fun _ => 0) W6.heap.size rfl zeroHdr ?_; intro W7 r7 b7 z7)
    | (have _q := S6; clear _q; refine wpList_store_rec rfl 26 (.tmp 11) (.tmp 32) rfl W6.heap.size 0 _ (hcs hv) rfl rfl r7 rfl (by kernel_rfl) (hcs_one _) ?_; intro W8 r8 b8
       have hB : Below W6.heap.size W6 W8 := b7.trans (b8.below (Nat.le_refl _) (by omega))
       have S8 : Hid (rjS w a n f (some ⟨pb, po, none⟩) n' f' u k W8) := S6.out.below hB
       have M8 : Hid (Rec19 W8 xm 0 (msg (hdrF f') ga (hdrF f' 2).toNat cap)) := M6.out.below hB
       have H8 : Hid (Rec19 W8 W6.heap.size 0 (hcs hv)) := r8
       clear hB b7 b8 r7 r8 z7 S6 M6
       generalize W6.heap.size = xh at H8 ⊢
       have k1 := conv_arg W8 a n C f S8.out.2.1
       have k2 := conv_arg W8 (some ⟨u, 0, none⟩) 256 cu (unwF k) S8.out.2.2.2.1
       rw [HX.out] at k1
       rw [HY.out] at k2
       have S9 := S8
       have M9 := M8
       have H9 := H8
       obtain ⟨W9, hW9⟩ : ∃ W9, W8 = W9 := ⟨_, rfl⟩
       subst hW9
       clear S8 M8 H8))
  have SV : Hid (rjS w a n f (some ⟨pb, po, none⟩) n' f' u k W8.drew) := S9.out.below (Below.refl _ _).drew
  have MV : Hid (Rec19 W8.drew xm 0 (msg (hdrF f') ga (hdrF f' 2).toNat cap)) := M9.out
  have HV9 : Hid (Rec19 W8.drew xh 0 (hcs hv)) := H9.out
  clear k1 k2 S9 M9 H9
  refine wp_region_noPanic ?_
  refine wp_region_held_drew (S := fun W' => True) (by kernel_rfl) ?_ (fun hHeld => ?_)
  · trivial
  refine take_at (i := 0) (v := ?_) (some 66) rfl rfl (by kernel_rfl) (by kernel_rfl) (by kernel_rfl) (fun _ _ _ h => h) (Or.inl ⟨by rfl, ?_⟩) (by assumption) ?_
  rotate_left
  · (intro w hSw; (try dsimp only at hSw); go_simp; try with_reducible rfl)
  simp only [Act.put, List.setIfInBounds_toArray, List.set_cons_zero, List.set_cons_succ]
  refine take_at (i := 1) (v := ?_) (some 67) rfl rfl (by kernel_rfl) (by kernel_rfl) (by kernel_rfl) (fun _ _ _ h => h) (Or.inl ⟨by rfl, ?_⟩) (by assumption) ?_
  rotate_left
  · (intro w hSw; (try dsimp only at hSw); go_simp; try with_reducible rfl)
  simp only [Act.put, List.setIfInBounds_toArray, List.set_cons_zero, List.set_cons_succ]
  refine take_at (i := 2) (v := undef) (some 68) rfl rfl (by kernel_rfl) (by kernel_rfl) (by kernel_rfl) (fun _ _ _ h => h) (Or.inr ⟨by rfl, rfl⟩) (by assumption) ?_
  simp only [Act.put, List.setIfInBounds_toArray, List.set_cons_zero, List.set_cons_succ]
  refine take_at (i := 3) (v := undef) (some 69) rfl rfl (by kernel_rfl) (by kernel_rfl) (by kernel_rfl) (fun _ _ _ h => h) (Or.inr ⟨by rfl, rfl⟩) (by assumption) ?_
  simp only [Act.put, List.setIfInBounds_toArray, List.set_cons_zero, List.set_cons_succ]
  refine take_at (i := 4) (v := undef) (some 70) rfl rfl (by kernel_rfl) (by kernel_rfl) (by kernel_rfl) (fun _ _ _ h => h) (Or.inr ⟨by rfl, rfl⟩) (by assumption) ?_
  simp only [Act.put, List.setIfInBounds_toArray, List.set_cons_zero, List.set_cons_succ]
  refine take_at (i := 5) (v := undef) (some 71) rfl rfl (by kernel_rfl) (by kernel_rfl) (by kernel_rfl) (fun _ _ _ h => h) (Or.inr ⟨by rfl, rfl⟩) (by assumption) ?_
  simp only [Act.put, List.setIfInBounds_toArray, List.set_cons_zero, List.set_cons_succ]
  refine take_at (i := 6) (v := undef) (some 72) rfl rfl (by kernel_rfl) (by kernel_rfl) (by kernel_rfl) (fun _ _ _ h => h) (Or.inr ⟨by rfl, rfl⟩) (by assumption) ?_
  simp only [Act.put, List.setIfInBounds_toArray, List.set_cons_zero, List.set_cons_succ]
  refine take_at (i := 7) (v := undef) (some 73) rfl rfl (by kernel_rfl) (by kernel_rfl) (by kernel_rfl) (fun _ _ _ h => h) (Or.inr ⟨by rfl, rfl⟩) (by assumption) ?_
  simp only [Act.put, List.setIfInBounds_toArray, List.set_cons_zero, List.set_cons_succ]
  refine take_at (i := 8) (v := ?_) (some 74) rfl rfl (by kernel_rfl) (by kernel_rfl) (by kernel_rfl) (fun _ _ _ h => h) (Or.inl ⟨by rfl, ?_⟩) (by assumption) ?_
  rotate_left
  · (intro w hSw; (try dsimp only at hSw); go_simp; try with_reducible rfl)
  simp only [Act.put, List.setIfInBounds_toArray, List.set_cons_zero, List.set_cons_succ]
  refine wpAnyH_done (by kernel_rfl) ?_ _
  refine NoPanic.normal ?_
  generalize W8.drew = V at SV MV HV9 ⊢
  have c5 : V.cell? ⟨xh, 5, none⟩ = some (.int .i64 (hv 5)) := (HV9.out.at 5 _ rfl).1
  have c3 : V.cell? ⟨xh, 3, none⟩ = some (.int .i64 (hv 3)) := (HV9.out.at 3 _ rfl).1
  have d5 : V.cell? ⟨xm, 5, none⟩ = some (.int .i64 (hdrF f' 5)) := (MV.out.at 5 _ rfl).1
  have d3 : V.cell? ⟨xm, 3, none⟩ = some (.int .i64 (hdrF f' 3)) := (MV.out.at 3 _ rfl).1
  obtain ⟨s0, g0⟩ := SV.out.1.at 0 (.int .i64 0) rfl
  obtain ⟨s1, g1⟩ := SV.out.1.at 1 (.int .i64 0) rfl
  obtain ⟨s2, g2⟩ := SV.out.1.at 2 (.int .i64 0) rfl
  obtain ⟨s3, g3⟩ := SV.out.1.at 3 (.bool false) rfl
  clear hHeld MV HV9
  go_wp2_with fail
  have hR9 : Rec19 ((((V.setCell ⟨w.heap.size, 0, none⟩ (.int .i64 1)).setCell ⟨w.heap.size, 1, none⟩ (.int .i64 (hdrF f' 5))).setCell ⟨w.heap.size, 2, none⟩ (.int .i64 (hdrF f' 3))).setCell ⟨w.heap.size, 3, none⟩ (.bool true)) w.heap.size 0 (ss 1 (hdrF f' 5) (hdrF f' 3) true) := SV.out.1.store (ss 1 (hdrF f' 5) (hdrF f' 3) true) rfl
  have hB9 : Below w.heap.size w ((((V.setCell ⟨w.heap.size, 0, none⟩ (.int .i64 1)).setCell ⟨w.heap.size, 1, none⟩ (.int .i64 (hdrF f' 5))).setCell ⟨w.heap.size, 2, none⟩ (.int .i64 (hdrF f' 3))).setCell ⟨w.heap.size, 3, none⟩ (.bool true)) := (((SV.out.2.2.2.2.setCell (Nat.le_refl _) _).setCell (Nat.le_refl _) _).setCell (Nat.le_refl _) _).setCell (Nat.le_refl _) _
  generalize ((((V.setCell ⟨w.heap.size, 0, none⟩ (.int .i64 1)).setCell ⟨w.heap.size, 1, none⟩ (.int .i64 (hdrF f' 5))).setCell ⟨w.heap.size, 2, none⟩ (.int .i64 (hdrF f' 3))).setCell ⟨w.heap.size, 3, none⟩ (.bool true)) = W99 at hR9 hB9 ⊢
  have hl := hR9.run_load 45 _ Tryd.underlying45 rfl (by kernel_rfl)
  refine bodyPost_ret (v := .agg (ss 1 (hdrF f' 5) (hdrF f' 3) true).toArray) (by simp [results, Tryd.results23, asAddr, hl]) rfl ⟨rfl, hB9⟩
end Go.Proofs.YtfpgkckcifjkcaaDoor
namespace Go.Proofs.YtfpgkckcifjkcaaDoor
open Go.RowKit
/-- The reference's Judge answers as the program's does. -/
theorem rjudge_any (a a' : Option Addr) (n C n' C' : Nat) (f f' : Nat → Int) (k : Int) (w : World) (hA : Arg w a n f) (hA' : Arg w a' n' f') (hC : n ≤ C) (hC' : n' ≤ C') (hm : n' ≤ 900000) :
    Calls Tryd.prog 23 #[.slice a n C, .slice a' n' C', .int .i64 k] w fun e w' => e = .returned (.agg (judgeL n f n' f' k).toArray) ∧ Below w.heap.size w w' := by
  unfold judgeL
  by_cases hk : isSl k = true
  · rw [if_neg (by rw [hk]; decide)]
    by_cases h1 : prepOK n' f' k = true
    · rw [if_pos h1]
      have h6 := (prepOK_iff.1 h1).1
      have hA2 := hA'
      rcases hA' with ⟨h0, _⟩ | ⟨_, pb, po, rfl, hl⟩
      · omega
      by_cases h2 : fhK n f k = 2
      · rw [if_pos h2]
        obtain ⟨e, e1, e2⟩ := fhK_two h2
        subst e
        have hc : headC 256 f = 0 := by unfold headC; rw [if_pos rfl, e1]
        by_cases h3 : txtN 256 f = txtN 256 f'
        · rw [if_pos h3]
          exact rj_same a pb po 256 C n' C' f f' k w hA hA2 hC hC' hm hk h1 hc e2 h3
        · rw [if_neg h3]
          by_cases h4 : hdrF f 5 < hdrF f' 5
          · rw [if_pos (by unfold olderB; simp [h4])]
            exact rj_old1 a pb po 256 C n' C' f f' k w hA hA2 hC hC' hm hk h1 hc e2 h3 h4
          · by_cases h5 : hdrF f 5 = hdrF f' 5
            · by_cases h7 : hdrF f 3 < hdrF f' 3
              · rw [if_pos (by unfold olderB; simp [h5, h7])]
                exact rj_old2 a pb po 256 C n' C' f f' k w hA hA2 hC hC' hm hk h1 hc e2 h3 h5 h7
              · rw [if_neg (by unfold olderB; simp [h5]; omega)]
                exact rj_new1 a pb po 256 C n' C' f f' k w hA hA2 hC hC' hm hk h1 hc e2 h3 h5 h7
            · rw [if_neg (by unfold olderB; simp [h4, h5])]
              exact rj_new2 a pb po 256 C n' C' f f' k w hA hA2 hC hC' hm hk h1 hc e2 h3 h4 h5
      · rw [if_neg h2]
        by_cases hc : headC n f = 0
        · by_cases hi : isPrep (hdrF f) k = true
          · exact absurd (head_whole (headC_zero hc).1 (headC_zero hc).2 hi) h2
          · exact rj_mend1 a pb po n C n' C' f f' k w hA hA2 hC hC' hm hk h1 hc (by simpa using hi)
        · exact rj_mend0 a pb po n C n' C' f f' k w hA hA2 hC hC' hm hk h1 hc
    · have h1' : prepOK n' f' k = false := by simpa using h1
      rw [if_neg h1]
      by_cases h2 : fhK n f k = 2
      · rw [if_pos h2]
        obtain ⟨e, e1, e2⟩ := fhK_two h2
        subst e
        exact rj_says a a' 256 C n' C' f f' k w hA hA' hC hC' hm hk h1' (by unfold headC; rw [if_pos rfl, e1]) e2
      · rw [if_neg h2]
        by_cases hu : txtN n f = txtN 256 (unwF k)
        · have h3 := fhK_unw hA.bytes hk hu
          rw [if_neg (by rw [h3]; decide)]
          have hc : headC n f = 0 := by
            by_cases hc : headC n f = 0
            · exact hc
            · unfold fhK at h3; rw [if_neg hc] at h3; omega
          have hi : isPrep (hdrF f) k = false := by
            rw [Bool.eq_false_iff]
            intro hi
            exact h2 (head_whole (headC_zero hc).1 (headC_zero hc).2 hi)
          by_cases hz : zeroN n' f' = true
          · rw [if_pos hz]
            exact rj_zero a a' n C n' C' f f' k w hA hA' hC hC' hm hk h1' hc hi hu hz
          · rw [if_neg hz]
            exact rj_torn a a' n C n' C' f f' k w hA hA' hC hC' hm hk h1' hc hi hu (by simpa using hz)
        · have h3 : fhK n f k = 0 := by
            rcases fhK_cases n f k with q | q | q
            · exact absurd q h2
            · exact q
            · exact absurd (fhK_one q) hu
          rw [if_pos h3]
          by_cases hc : headC n f = 0
          · have hi : isPrep (hdrF f) k = false := by
              rw [Bool.eq_false_iff]
              intro hi
              exact h2 (head_whole (headC_zero hc).1 (headC_zero hc).2 hi)
            exact rj_bad1 a a' n C n' C' f f' k w hA hA' hC hC' hm hk h1' hc hi hu
          · exact rj_bad0 a a' n C n' C' f f' k w hA hA' hC hC' hm hk h1' hc hu
  · rw [if_pos (by simpa using hk)]
    exact rjudge_no a a' n C n' C' k w (by simpa using hk)
end Go.Proofs.YtfpgkckcifjkcaaDoor
namespace Go.Proofs.YtfpgkckcifjkcaaDoor
open Go.RowKit Go.Shelf
attribute [local go_sem] Oper.semAt_some
/-- How long the k-th piece of n bytes is. -/
def pl (n k : Nat) : Nat := if n - k * 256 < 256 then n - k * 256 else 256
/-- How many pieces there are. -/
def np (n : Nat) : Nat := (n + 255) / 256
theorem np_lt {n k : Nat} (h : k < np n) : k * 256 < n := by unfold np at h; omega
theorem np_not {n k : Nat} (h : ¬ k < np n) (hk : k ≤ np n) : ¬ ((k : Int) * 256 < n) := by unfold np at h hk; omega
theorem chk_ar (n C k : Nat) (hn : n ≤ 1000000) (hC : n ≤ C) (h : k * 256 < n) (h2 : ¬ n - k * 256 < 256) : (k : Int) * 256 < (n : Int) ∧ (0 : Int) ≤ (k : Int) * 256 ∧ ((k : Int) * 256).toNat = k * 256 ∧ (k : Int) * 256 ≤ n ∧ ¬ C = k * 256 ∧ (((n - k * 256 : Nat) : Int) < 256) = False ∧ (k : Int) * 256 + 256 ≤ C ∧ ((k : Int) * 256 + 256).toNat = k * 256 + 256 ∧ k * 256 + 256 - k * 256 = 256 ∧ wrap64 ((k : Int) * 256 + 256) = (k : Int) * 256 + 256 ∧ IntKind.i64.wrap ((k : Int) * 256 + 256) = (k : Int) * 256 + 256 := by
  refine ⟨by omega, by omega, by omega, by omega, by omega, eq_false (by omega), by omega, by omega, by omega, ?_, ?_⟩
  · unfold wrap64; omega
  · rw [IntKind.wrap_i64]; omega
theorem chk_ar2 (n C k r : Nat) (hn : n ≤ 1000000) (hC : n ≤ C) (h : k * 256 < n) (h2 : n - k * 256 < 256) (hr : n - k * 256 = r) : (k : Int) * 256 < (n : Int) ∧ (0 : Int) ≤ (k : Int) * 256 ∧ ((k : Int) * 256).toNat = k * 256 ∧ (k : Int) * 256 ≤ n ∧ ¬ C = k * 256 ∧ ((r : Int) < 256) ∧ (k : Int) * 256 + (r : Int) ≤ C ∧ ((k : Int) * 256 + (r : Int)).toNat = k * 256 + r ∧ k * 256 + r - k * 256 = r ∧ wrap64 ((k : Int) * 256 + (r : Int)) = (k : Int) * 256 + r ∧ IntKind.i64.wrap ((k : Int) * 256 + (r : Int)) = (k : Int) * 256 + r ∧ (k : Int) * 256 ≤ (k : Int) * 256 + (r : Int) ∧ IntKind.i64.wrap ((k : Int) * 256 + 256) = (k : Int) * 256 + 256 ∧ wrap64 ((k : Int) * 256 + 256) = (k : Int) * 256 + 256 := by
  refine ⟨by omega, by omega, by omega, by omega, by omega, by omega, by omega, by omega, by omega, ?_, ?_, by omega, ?_, ?_⟩
  · unfold wrap64; omega
  · rw [IntKind.wrap_i64]; omega
  · rw [IntKind.wrap_i64]; omega
  · unfold wrap64; omega
theorem chk_less (n k : Nat) (h : k * 256 < n) : n - ((k + 1 : Nat) * 256) < n - k * 256 := by omega
theorem rows_w {n : Nat} {P : Program} {row : String} {args : Array Value} {w : World} {R : Value → World → Prop} (h : Rows P row args w R) : RowsIn Fence.wide n P row args w R :=
  fun c cs _ => let ⟨v, w', r, s⟩ := h c cs; ⟨v, w', r, stepsIn_wide.2 s⟩
theorem upon_w {n : Nat} {P : Program} {o : Oper} {a : Act} {K : Act → World → Prop} {Q : Exit → Act → World → Prop} {r : Result Next} (h : o.upon P a K Q r) : o.uponIn Fence.wide n P a K Q r := by
  cases r with
  | ok x w' =>
    cases x with
    | value v => exact h
    | skip => exact h
    | defer d => exact h
    | enter f args => exact ⟨fun q => (by cases q), callsIn_wide.2 h⟩
    | row row args => exact ⟨fun q => (by cases q), rows_w h⟩
    | _ => exact (h : False).elim
  | halt x w' => cases x <;> first | exact h | exact (h : False).elim
theorem op_w {n : Nat} {P : Program} {ops : Array Oper} {Q : Exit → Act → World → Prop} {i : Nat} {K : Act → World → Prop} {a : Act} {w : World} (hd : ∀ (i : Nat) (o : Oper) c, ops[i]? = some o → o.op ≠ .defer c) (h : wpOp P ops (Only Q) i K a w) : wpOpIn Fence.wide n P ops (Only Q) i K a w := by
  unfold wpOp at h
  unfold wpOpIn
  cases e : ops[i]? with
  | none => simpa only [e] using h
  | some o =>
    simp only [e] at h ⊢
    by_cases g : Region.wanted o (yielded ops a.tmps) = true
    · rw [if_pos g] at h ⊢
      rcases h with h | ⟨_, _, _, h, _⟩
      · refine ⟨fun f _ => trivial, ?_⟩
        rw [Oper.semAt_eq _ _ _ (hd i o · e)]
        exact upon_w h
      · cases h
    · rw [if_neg g] at h ⊢
      exact ⟨fun f _ => trivial, h⟩
theorem any_w {n : Nat} {P : Program} {ops : Array Oper} {Q : Exit → Act → World → Prop} {md : Region.Mode} (hd : ∀ (i : Nat) (o : Oper) c, ops[i]? = some o → o.op ≠ .defer c) : ∀ (fuel : Nat) (listed : Array Bool) (a : Act) (w : World), wpAny P md ops (Only Q) fuel listed a w → wpAnyIn Fence.wide n P md ops (Only Q) fuel listed a w
  | 0, _, _, _, h => h
  | fuel + 1, _, _, _, h => ⟨h.1, fun i hi => op_w hd (wpOp_mono (fun a' w' h' => any_w hd fuel _ a' w' h') (h.2 i hi))⟩
/-- A region that draws its order, outside a round. -/
theorem region_wide {n : Nat} {P : Program} {id : Nat} {ops : Array Oper} {Q : Exit → Act → World → Prop} {S : World → Prop} {a : Act} {w : World} (hm : P.follows .mixedOrders = true) (hd : noDefer ops = true) (hS : S w.drew)
    (h : S w.drew → wpAnyH P .any ops (Only Q) S ops.size (Array.replicate ops.size false) a w.drew) : (Code.region id ops true).wpIn Fence.wide n P Q a w :=
  wpIn_mono (wpIn_region_any hm (any_w (noDefer_at hd) _ _ _ _ (wpAny_of_held _ _ _ _ (h hS)))) (fun e a w h => by obtain ⟨rfl, h⟩ := h; exact h)
set_option maxRecDepth 100000 in
set_option maxHeartbeats 2000000 in
theorem gchunk1_in (m : Nat) (l Bs Bn b off n C : Nat) (a : Option Addr) (ha : 0 < n → a = some ⟨b, off, none⟩) (hn : n ≤ 1000000) (hC : n ≤ C) (J Jx : List (Fin (np n)) → World → Prop) (hJd : ∀ pre W, J pre W → J pre W.drew)
    (hY : ∀ pre x W, J pre W → pre.length < np n → YieldAt Fence.wide (m - 1) Tryd.prog l #[.slice (some ⟨b, off + x.1 * 256, none⟩) (pl n x.1) (pl n x.1)] W fun e W' =>
      (e = .returned (.bool true) ∧ J (pre ++ [x]) W' ∧ Kc Bs Bn W W') ∨ (e = .returned (.bool false) ∧ Jx (pre ++ [x]) W'))
    (W : World) (hBs : W.cell? ⟨Bs, 0, none⟩ = some (.slice a n C)) (hBn : W.cell? ⟨Bn, 0, none⟩ = some (.int .i64 256)) (h0 : J [] W) :
    CallsIn Fence.wide m Tryd.prog 78 #[.func (.yield l) #[] #[], .pointer (some ⟨Bs, 0, none⟩), .pointer (some ⟨Bn, 0, none⟩)] W fun e W' => (∃ v, e = .returned v) ∧
      ((∃ ys, ys = upTo (np n) (np n) ∧ J ys W') ∨ (∃ pre, (∃ k, k ≤ np n ∧ pre = upTo (np n) k) ∧ Jx pre W')) := by
  refine callsIn_of_wp Tryd.func78 rfl trivial ?_ rfl
  simp only [Tryd.ntmps78, List.size_toArray, List.length_cons, List.length_nil, Nat.reduceAdd, Nat.reduceSub, Array.replicate_succ, Array.replicate_zero, List.push_toArray, List.append_toArray, List.nil_append, List.cons_append]
  gi_wp2
  gi_loopw [4] (fun i wr => ∃ k : Nat, k ≤ np n ∧ i = .int .i64 ((k : Int) * 256) ∧ J (upTo (np n) k) wr ∧ Kc Bs Bn W wr)
    (fun i _ => np n * 256 - (intOf i).toNat)
  case atStart => exact ⟨0, Nat.zero_le _, rfl, h0, Kc.refl _ _ _⟩
  case round =>
    obtain ⟨k, hk, rfl, hJs, hnx⟩ := hrel
    have e1 := hnx.1.trans hBs
    have e2 := hnx.2.trans hBn
    by_cases hlt : k < np n
    · have hkn := np_lt hlt
      obtain rfl := ha (by omega)
      have hY' := hY _ ⟨k, hlt⟩ wr.drew (hJd _ _ hJs) (by rw [upTo_length _ _ hk]; exact hlt)
      have hms : np n * 256 - ((k : Int) * 256 + 256).toNat < np n * 256 - ((k : Int) * 256).toNat := by omega
      have HM : Hid (np n * 256 - ((k : Int) * 256 + 256).toNat < np n * 256 - ((k : Int) * 256).toNat) := hms
      have HK : Hid (∀ W3, Kc Bs Bn wr.drew W3 → J (upTo (np n) k ++ [⟨k, hlt⟩]) W3 → ∃ k' : Nat, k' ≤ np n ∧ Value.int .i64 ((k : Int) * 256 + 256) = .int .i64 ((k' : Int) * 256) ∧ J (upTo (np n) k') W3 ∧ Kc Bs Bn W W3) := fun W3 h3 h4 => ⟨k + 1, by omega, by congr 1; omega, by rw [upTo_succ _ k hlt]; exact h4, hnx.trans ((Kc.drew _ _ _).trans h3)⟩
      have HX : Hid (∀ W3, Jx (upTo (np n) k ++ [⟨k, hlt⟩]) W3 → ∃ pre, (∃ k, k ≤ np n ∧ pre = upTo (np n) k) ∧ Jx pre W3) := fun W3 h3 => ⟨_, ⟨k + 1, by omega, (upTo_succ _ k hlt).symm⟩, h3⟩
      by_cases hl : n - k * 256 < 256
      · obtain ⟨r, hr⟩ : ∃ r, n - k * 256 = r := ⟨_, rfl⟩
        obtain ⟨i0, i1, i2, i3, i4, i5, i6, i7, i8, i9, i10, i11, i12, i13⟩ := chk_ar2 n C k r hn hC hkn hl hr
        rw [show pl n k = r from by unfold pl; rw [if_pos hl, hr]] at hY'
        obtain ⟨fn, tmps, assign, body, hy, hR⟩ := hY'
        dsimp only at hy
        clear hJs hkn hms hl hY hJd h0 ha
        gi_wp2
        refine region_wide (S := fun W' => W'.cell? ⟨Bs, 0, none⟩ = some (.slice (some ⟨b, off, none⟩) n C) ∧ W'.cell? ⟨Bn, 0, none⟩ = some (.int .i64 256)) (by kernel_rfl) (by kernel_rfl) ⟨e1, e2⟩ (fun hHeld => ?_)
        refine take_at (i := 0) (v := ?_) (some 13) rfl rfl (by kernel_rfl) (by kernel_rfl) (by kernel_rfl) (fun _ _ _ h => by cases h.1) (Or.inl ⟨by rfl, ?_⟩) (by assumption) ?_
        rotate_left
        · (intro w hSw; (try dsimp only at hSw); go_simp; try with_reducible rfl)
        simp only [Act.put, List.setIfInBounds_toArray, List.set_cons_zero, List.set_cons_succ]
        refine take_at (i := 1) (v := ?_) (some 14) rfl rfl (by kernel_rfl) (by kernel_rfl) (by kernel_rfl) (fun _ _ _ h => by cases h.1) (Or.inl ⟨by rfl, ?_⟩) (by assumption) ?_
        rotate_left
        · (intro w hSw; (try dsimp only at hSw); go_simp; try with_reducible rfl)
        simp only [Act.put, List.setIfInBounds_toArray, List.set_cons_zero, List.set_cons_succ]
        refine take_at (i := 2) (v := ?_) (some 15) rfl rfl (by kernel_rfl) (by kernel_rfl) (by kernel_rfl) (fun _ _ _ h => by cases h.1) (Or.inl ⟨by rfl, ?_⟩) (by assumption) ?_
        rotate_left
        · (intro w hSw; (try dsimp only at hSw); go_simp; try with_reducible rfl)
        simp only [Act.put, List.setIfInBounds_toArray, List.set_cons_zero, List.set_cons_succ]
        refine take_at (i := 3) (v := ?_) (some 16) rfl rfl (by kernel_rfl) (by kernel_rfl) (by kernel_rfl) (fun _ _ _ h => by cases h.1) (Or.inl ⟨by rfl, ?_⟩) (by assumption) ?_
        rotate_left
        · (intro w hSw; (try dsimp only at hSw); go_simp; try with_reducible rfl)
        simp only [Act.put, List.setIfInBounds_toArray, List.set_cons_zero, List.set_cons_succ]
        refine take_at (i := 4) (v := ?_) (some 17) rfl rfl (by kernel_rfl) (by kernel_rfl) (by kernel_rfl) (fun _ _ _ h => by cases h.1) (Or.inl ⟨by rfl, ?_⟩) (by assumption) ?_
        rotate_left
        · (intro w hSw; (try dsimp only at hSw); go_simp; try with_reducible rfl)
        simp only [Act.put, List.setIfInBounds_toArray, List.set_cons_zero, List.set_cons_succ]
        refine take_at (i := 5) (v := ?_) (some 18) rfl rfl (by kernel_rfl) (by kernel_rfl) (by kernel_rfl) (fun _ _ _ h => by cases h.1) (Or.inl ⟨by rfl, ?_⟩) (by assumption) ?_
        rotate_left
        · (intro w hSw; (try dsimp only at hSw); go_simp; try with_reducible rfl)
        simp only [Act.put, List.setIfInBounds_toArray, List.set_cons_zero, List.set_cons_succ]
        refine take_at (i := 6) (v := ?_) (some 5) rfl rfl (by kernel_rfl) (by kernel_rfl) (by kernel_rfl) (fun _ _ _ h => by cases h.1) (Or.inl ⟨by rfl, ?_⟩) (by assumption) ?_
        rotate_left
        · (intro w hSw; (try dsimp only at hSw); go_simp; try with_reducible rfl)
        simp only [Act.put, List.setIfInBounds_toArray, List.set_cons_zero, List.set_cons_succ]
        refine wpAnyH_done (by kernel_rfl) ?_ _
        refine ⟨rfl, ?_⟩
        clear hHeld
        gi_wp2
        refine ⟨fun q => (by cases q), ?_⟩
        refine hR.mono ?_
        rintro e W3 (⟨rfl, hJ3, hk3⟩ | ⟨rfl, hJx3⟩)
        · have e3 := hk3.1.trans e1
          have e4 := hk3.2.trans e2
          gi_wp2
          go_roundw
          case rel => exact HK.out _ hk3 hJ3
          case measure => exact HM.out
        · gi_wp2
          refine bodyPost_ret (results_none rfl _ _ _) rfl ?_
          exact ⟨⟨_, rfl⟩, .inr (HX.out _ hJx3)⟩
      · obtain ⟨i0, i1, i2, i3, i4, i5, i6, i7, i8, i9, i10⟩ := chk_ar n C k hn hC hkn hl
        rw [show pl n k = 256 from by unfold pl; rw [if_neg hl]] at hY'
        obtain ⟨fn, tmps, assign, body, hy, hR⟩ := hY'
        dsimp only at hy
        clear hJs hkn hms hl hY hJd h0 ha
        gi_wp2
        refine region_wide (S := fun W' => W'.cell? ⟨Bs, 0, none⟩ = some (.slice (some ⟨b, off, none⟩) n C) ∧ W'.cell? ⟨Bn, 0, none⟩ = some (.int .i64 256)) (by kernel_rfl) (by kernel_rfl) ⟨e1, e2⟩ (fun hHeld => ?_)
        refine take_at (i := 0) (v := ?_) (some 13) rfl rfl (by kernel_rfl) (by kernel_rfl) (by kernel_rfl) (fun _ _ _ h => by cases h.1) (Or.inl ⟨by rfl, ?_⟩) (by assumption) ?_
        rotate_left
        · (intro w hSw; (try dsimp only at hSw); go_simp; try with_reducible rfl)
        simp only [Act.put, List.setIfInBounds_toArray, List.set_cons_zero, List.set_cons_succ]
        refine take_at (i := 1) (v := ?_) (some 14) rfl rfl (by kernel_rfl) (by kernel_rfl) (by kernel_rfl) (fun _ _ _ h => by cases h.1) (Or.inl ⟨by rfl, ?_⟩) (by assumption) ?_
        rotate_left
        · (intro w hSw; (try dsimp only at hSw); go_simp; try with_reducible rfl)
        simp only [Act.put, List.setIfInBounds_toArray, List.set_cons_zero, List.set_cons_succ]
        refine take_at (i := 2) (v := ?_) (some 15) rfl rfl (by kernel_rfl) (by kernel_rfl) (by kernel_rfl) (fun _ _ _ h => by cases h.1) (Or.inl ⟨by rfl, ?_⟩) (by assumption) ?_
        rotate_left
        · (intro w hSw; (try dsimp only at hSw); go_simp; try with_reducible rfl)
        simp only [Act.put, List.setIfInBounds_toArray, List.set_cons_zero, List.set_cons_succ]
        refine take_at (i := 3) (v := ?_) (some 16) rfl rfl (by kernel_rfl) (by kernel_rfl) (by kernel_rfl) (fun _ _ _ h => by cases h.1) (Or.inl ⟨by rfl, ?_⟩) (by assumption) ?_
        rotate_left
        · (intro w hSw; (try dsimp only at hSw); go_simp; try with_reducible rfl)
        simp only [Act.put, List.setIfInBounds_toArray, List.set_cons_zero, List.set_cons_succ]
        refine take_at (i := 4) (v := ?_) (some 17) rfl rfl (by kernel_rfl) (by kernel_rfl) (by kernel_rfl) (fun _ _ _ h => by cases h.1) (Or.inl ⟨by rfl, ?_⟩) (by assumption) ?_
        rotate_left
        · (intro w hSw; (try dsimp only at hSw); go_simp; try with_reducible rfl)
        simp only [Act.put, List.setIfInBounds_toArray, List.set_cons_zero, List.set_cons_succ]
        refine take_at (i := 5) (v := ?_) (some 18) rfl rfl (by kernel_rfl) (by kernel_rfl) (by kernel_rfl) (fun _ _ _ h => by cases h.1) (Or.inl ⟨by rfl, ?_⟩) (by assumption) ?_
        rotate_left
        · (intro w hSw; (try dsimp only at hSw); go_simp; try with_reducible rfl)
        simp only [Act.put, List.setIfInBounds_toArray, List.set_cons_zero, List.set_cons_succ]
        refine take_at (i := 6) (v := ?_) (some 5) rfl rfl (by kernel_rfl) (by kernel_rfl) (by kernel_rfl) (fun _ _ _ h => by cases h.1) (Or.inl ⟨by rfl, ?_⟩) (by assumption) ?_
        rotate_left
        · (intro w hSw; (try dsimp only at hSw); go_simp; try with_reducible rfl)
        simp only [Act.put, List.setIfInBounds_toArray, List.set_cons_zero, List.set_cons_succ]
        refine wpAnyH_done (by kernel_rfl) ?_ _
        refine ⟨rfl, ?_⟩
        clear hHeld
        gi_wp2
        refine ⟨fun q => (by cases q), ?_⟩
        refine hR.mono ?_
        rintro e W3 (⟨rfl, hJ3, hk3⟩ | ⟨rfl, hJx3⟩)
        · have e3 := hk3.1.trans e1
          have e4 := hk3.2.trans e2
          gi_wp2
          go_roundw
          case rel => exact HK.out _ hk3 hJ3
          case measure => exact HM.out
        · gi_wp2
          refine bodyPost_ret (results_none rfl _ _ _) rfl ?_
          exact ⟨⟨_, rfl⟩, .inr (HX.out _ hJx3)⟩
    · have i0 : ((k : Int) * 256 < (n : Int)) = False := eq_false (np_not hlt hk)
      obtain rfl : k = np n := by omega
      gi_wp2
      go_end0
      exact ⟨⟨_, rfl⟩, .inl ⟨_, rfl, hJs⟩⟩
theorem gchunk_stops (m : Nat) (Bs Bn b off n C : Nat) (a : Option Addr) (ha : 0 < n → a = some ⟨b, off, none⟩) (hn : n ≤ 1000000) (hC : n ≤ C) (w : World) (hBs : Bs < w.heap.size) (hBn : Bn < w.heap.size)
    (h1 : w.cell? ⟨Bs, 0, none⟩ = some (.slice a n C)) (h2 : w.cell? ⟨Bn, 0, none⟩ = some (.int .i64 256)) :
    SeqStopsK Fence.wide m Tryd.prog 78 #[.pointer (some ⟨Bs, 0, none⟩), .pointer (some ⟨Bn, 0, none⟩)] (fun x : Fin (np n) => #[Value.slice (some ⟨b, off + x.1 * 256, none⟩) (pl n x.1) (pl n x.1)]) (Kc Bs Bn) (fun ys => ys = upTo (np n) (np n)) (fun pre => ∃ k, k ≤ np n ∧ pre = upTo (np n) k) (np n) w := fun l J Jx W hW hJ _ hY h0 =>
  gchunk1_in m l Bs Bn b off n C a ha hn hC J Jx (fun pre W hj => hJ pre W W.drew none hj ⟨rfl, rfl, rfl, Nat.le_refl _, fun _ _ _ => rfl⟩ (fun r e => by cases e)) hY W ((hW.cell (p := ⟨Bs, 0, none⟩) hBs).trans h1) ((hW.cell (p := ⟨Bn, 0, none⟩) hBn).trans h2) h0
end Go.Proofs.YtfpgkckcifjkcaaDoor
namespace Go.Proofs.YtfpgkckcifjkcaaDoor
open Go.RowKit Go.Shelf
attribute [local go_sem] Oper.semAt_some
/-- Is a piece all noughts? -/
def gz (n : Nat) (f : Nat → Int) (x : Nat) : Bool := decide (txtN (pl n x) (fun j => f (x * 256 + j)) = txtN (pl n x) (fun _ => 0))
theorem pl_le (n x : Nat) : pl n x ≤ 256 := by unfold pl; split <;> omega
theorem pl_in (n x : Nat) (h : x < np n) : x * 256 + pl n x ≤ n := by have := np_lt h; unfold pl; split <;> omega
theorem gz_iff (n : Nat) (f : Nat → Int) (x : Nat) (hf : ∀ j, j < pl n x → 0 ≤ f (x * 256 + j) ∧ f (x * 256 + j) < 256) : gz n f x = true ↔ ∀ j, j < pl n x → f (x * 256 + j) = 0 := by
  unfold gz
  rw [decide_eq_true_iff]
  exact ⟨fun h => (txtN_inj hf (fun j _ => ⟨by omega, by omega⟩) h).2, fun h => txtN_congr _ _ _ h⟩
theorem gz_all {n : Nat} {f : Nat → Int} (hf : ∀ j, j < n → 0 ≤ f j ∧ f j < 256) : zeroN n f = true ↔ ∀ x, x < np n → gz n f x = true := by
  rw [zeroN_iff]
  refine ⟨fun h x hx => (gz_iff n f x (fun j hj => hf _ (by have := pl_in n x hx; omega))).2 (fun j hj => h _ (by have := pl_in n x hx; omega)), fun h i hi => ?_⟩
  have hx : i / 256 < np n := by unfold np; omega
  have hp : i % 256 < pl n (i / 256) := by unfold pl; split <;> omega
  have := (gz_iff n f (i / 256) (fun j hj => hf _ (by have := pl_in n _ hx; omega))).1 (h _ hx) (i % 256) hp
  rwa [show i / 256 * 256 + i % 256 = i by omega] at this
theorem IRow.front' {W : World} {g N : Nat} {f : Nat → Int} (h : IRow W g .u8 N f) (hf : ∀ j, 0 ≤ f j ∧ f j < 256) (n : Nat) (hn : n ≤ N) : Arg W (some ⟨g, 0, none⟩) n f := by
  have := Arg.part (h.lies (fun j _ => hf j)) 0 n (by omega)
  simpa using this
/-- What holds while the pieces come. -/
def gI {n : Nat} (W1 : World) (f : Nat → Int) (pre : List (Fin (np n))) (W : World) : Prop := (∀ x ∈ pre, gz n f x.1 = true) ∧ Below W1.heap.size W1 W
/-- And where one of them is not noughts. -/
def gX {n : Nat} (w : World) (f : Nat → Int) (k : Code) (_ : List (Fin (np n))) (W : World) : Prop := k = .ret ∧ (∃ x : Fin (np n), gz n f x.1 = false) ∧ W.cell? ⟨w.heap.size, 0, none⟩ = some (.bool false) ∧ Below w.heap.size w W
theorem gI_own {n : Nat} (W1 : World) (f : Nat → Int) : OwnFrom (β := List (Fin (np n))) W1.heap.size (gI W1 f) := by
  intro pre X Y row hs hg hr
  exact ⟨hs.1, ownFrom_below (β := Unit) (n₀ := W1.heap.size) (B := W1.heap.size) (w₀ := W1) (Nat.le_refl _) (Nat.le_refl _) () X Y row hs.2 hg hr⟩
theorem gX_own {n : Nat} (w : World) (B : Nat) (hB : w.heap.size ≤ B) (f : Nat → Int) (k : Code) : OwnFrom (β := List (Fin (np n))) B (gX w f k) := by
  intro pre X Y row hs hg hr
  exact ⟨hs.1, hs.2.1, cell_kept hs.2.2.1 hg (fun r e => (hr r e).2), ownFrom_below (β := Unit) (n₀ := w.heap.size) (B := B) (w₀ := w) (Nat.le_refl _) hB () X Y row hs.2.2.2 hg hr⟩
set_option maxRecDepth 100000 in
set_option maxHeartbeats 400000 in
theorem noughts_all (a : Option Addr) (b off n C : Nat) (f : Nat → Int) (w : World) (ha : 0 < n → a = some ⟨b, off, none⟩) (hL : 0 < n → Lies w b off n f) (hf : ∀ j, j < n → 0 ≤ f j ∧ f j < 256) (hn : n ≤ 1000000) (hC : n ≤ C) :
    Calls Tryd.prog 45 #[.slice a n C] w fun e w' => e = .returned (.bool (zeroN n f)) ∧ Below w.heap.size w w' := by
  refine (callsIn_wide (n := 5)).1 ?_
  have LL : Hid (0 < n → Lies w b off n f) := hL
  have HF : Hid (∀ j, j < n → 0 ≤ f j ∧ f j < 256) := hf
  clear hL hf
  obtain ⟨z, hz⟩ : ∃ z, zeroN n f = z := ⟨_, rfl⟩
  have HZ : Hid (zeroN n f = z) := hz
  rw [hz]
  clear hz
  refine callsIn_of_wp_marks Tryd.func45 rfl trivial ?_ rfl
  simp only [Tryd.ntmps45, List.size_toArray, List.length_cons, List.length_nil, Nat.reduceAdd, Nat.reduceSub, Array.replicate_succ, Array.replicate_zero, List.push_toArray, List.append_toArray, List.nil_append, List.cons_append]
  gi_wp2_with (refine wpListIn_alloc_row rfl 68 rfl .u8 256 (w.heap.size + 1) (by simp) zero8_256 ?_; intro V R0 B0 z0)
  have bR : Below w.heap.size w V := ((Below.refl w.heap.size w).alloc (Nat.le_refl _) (.cells #[.bool false] 4)).trans (B0.mono (by omega))
  have cR : V.cell? ⟨w.heap.size, 0, none⟩ = some (.bool false) ∧ V.frozen? ⟨w.heap.size, 0, none⟩ = false := by
    rw [B0.cell (p := ⟨w.heap.size, 0, none⟩) (by show w.heap.size < w.heap.size + 1; omega), B0.frozen (p := ⟨w.heap.size, 0, none⟩) (by show w.heap.size < w.heap.size + 1; omega)]
    simp [go_sem]
  refine ⟨trivial, ?_⟩
  refine (chunk_in Fence.wide 4 trivial rfl _ _ _ _).mono ?_
  rintro e w' ⟨rfl, rfl⟩
  gi_wp2
  have bS : ((V.alloc (.cells #[.slice a n C] 27)).alloc (.cells #[.int .i64 256] 3)).cell? ⟨V.heap.size, 0, none⟩ = some (.slice a n C) := by simp [go_sem]
  have bN : ((V.alloc (.cells #[.slice a n C] 27)).alloc (.cells #[.int .i64 256] 3)).cell? ⟨V.heap.size + 1, 0, none⟩ = some (.int .i64 256) := by simp [go_sem]
  have hz1 : ((V.alloc (.cells #[.slice a n C] 27)).alloc (.cells #[.int .i64 256] 3)).heap.size = V.heap.size + 1 + 1 := by simp
  have hB1 : Below V.heap.size V ((V.alloc (.cells #[.slice a n C] 27)).alloc (.cells #[.int .i64 256] 3)) := ((Below.refl _ _).alloc (Nat.le_refl _) _).alloc (by simp) _
  generalize ((V.alloc (.cells #[.slice a n C] 27)).alloc (.cells #[.int .i64 256] 3)) = W1 at bS bN hz1 hB1 ⊢
  have SQ := gchunk_stops 4 V.heap.size (V.heap.size + 1) b off n C a ha hn hC W1 (by omega) (by omega) bS bN
  have KB : ∀ (U : World) (l : Nat) (o o' : Obj), W1.heap.size ≤ l → U.heap[l]? = some o → o.isCells = false → o.isWalk = false → Kc V.heap.size (V.heap.size + 1) U (U.putObj l o') := fun U l o o' hl _ _ _ => ⟨World.cell?_of_block (World.putObj_heap_other (by show V.heap.size ≠ l; omega)), World.cell?_of_block (World.putObj_heap_other (by show V.heap.size + 1 ≠ l; omega))⟩
  have bW : Below w.heap.size w W1 := bR.trans (hB1.mono (by omega))
  have H0 : gI (n := n) W1 f [] W1 := ⟨fun x hx => (by cases hx), Below.refl _ _⟩
  try rw [z0]
  rw [z0] at SQ KB bS bN hz1
  refine wpIn_rangeFunc_ownF rfl (by decide) (gf := 78) (lb := #[.pointer (some ⟨w.heap.size + 1 + 1, 0, none⟩), .pointer (some ⟨w.heap.size + 1 + 1 + 1, 0, none⟩)]) rfl trivial (enters_of Tryd.func78 (by kernel_rfl) rfl)
    SQ Kc.trans KB (Below.refl _ _) (fun _ => rfl) (gI (n := n) W1 f) (gX w f) (gI_own W1 f) (fun k => gX_own w W1.heap.size (by omega) f k) H0
    (fun x => { tmps := #[.slice a n C, undef, .pointer (some ⟨w.heap.size, 0, none⟩), .pointer (some ⟨w.heap.size + 1, 0, none⟩), .slice (some ⟨b, off + x.1 * 256, none⟩) (pl n x.1) (pl n x.1), .slice a n C, .func (.func 78) #[] #[.pointer (some ⟨w.heap.size + 1 + 1, 0, none⟩), .pointer (some ⟨w.heap.size + 1 + 1 + 1, 0, none⟩)], .slice (some ⟨b, off + x.1 * 256, none⟩) (pl n x.1) (pl n x.1), undef, undef, undef, undef, undef, undef, undef], defers := [] }) ?assign ?body ?done ?stop
  case assign =>
    intro l x U K hK
    gi_wp2
    exact hK
  case body =>
    rintro l pre x U ⟨hpre, hU⟩ hlt
    have bU : Below w.heap.size w U := bW.trans (hU.mono (by omega))
    have iU : IRow U.drew (w.heap.size + 1) .u8 256 (fun _ => 0) := ((R0.below hB1).below hU).drew
    have lU : Lies U.drew b (off + x.1 * 256) (pl n x.1) (fun j => f (x.1 * 256 + j)) := ((LL.out (by have := np_lt x.2; omega)).below bU.drew).part (x.1 * 256) (pl n x.1) (pl_in n x.1 x.2)
    have cU : U.cell? ⟨w.heap.size, 0, none⟩ = some (.bool false) ∧ U.frozen? ⟨w.heap.size, 0, none⟩ = false := by
      rw [hU.cell (p := ⟨w.heap.size, 0, none⟩) (by show w.heap.size < W1.heap.size; omega), hU.frozen (p := ⟨w.heap.size, 0, none⟩) (by show w.heap.size < W1.heap.size; omega), hB1.cell (p := ⟨w.heap.size, 0, none⟩) (by show w.heap.size < V.heap.size; omega), hB1.frozen (p := ⟨w.heap.size, 0, none⟩) (by show w.heap.size < V.heap.size; omega)]
      exact cR
    have k1 := conv_arg U.drew (some ⟨b, off + x.1 * 256, none⟩) (pl n x.1) (pl n x.1) _ (Arg.of lU)
    have k2 := conv_arg U.drew (some ⟨w.heap.size + 1, 0, none⟩) (pl n x.1) 256 _ (iU.front' (fun j => ⟨by omega, by omega⟩) (pl n x.1) (pl_le n x.1))
    have hpz : gz n f x.1 = decide (txtN (pl n x.1) (fun j => f (x.1 * 256 + j)) = txtN (pl n x.1) (fun _ => 0)) := rfl
    have q1 : (pl n x.1 : Int) ≤ 256 := by have := pl_le n x.1; omega
    generalize txtN (pl n x.1) (fun j => f (x.1 * 256 + j)) = p at k1 hpz
    generalize txtN (pl n x.1) (fun _ => (0 : Int)) = q at k2 hpz
    obtain ⟨r, hr⟩ : ∃ r, pl n x.1 = r := ⟨_, rfl⟩
    rw [hr] at k1 k2 q1
    rw [hr]
    have E0 : Hid (Below W1.heap.size W1 U.drew ∧ Below w.heap.size w U.drew ∧ KeepsOthers U U.drew) := ⟨hU.drew, bU.drew, keeps_below (Below.refl _ _).drew⟩
    have cD : U.drew.cell? ⟨w.heap.size, 0, none⟩ = some (.bool false) := cU.1
    have fD : U.drew.frozen? ⟨w.heap.size, 0, none⟩ = false := cU.2
    have HP : Hid (∀ y ∈ pre, gz n f y.1 = true) := hpre
    clear hpre hU bU iU lU cU SQ KB H0 bS bN hB1 bW cR bR B0 R0
    by_cases e : p = q
    · subst e
      have hx1 : Hid (gz n f x.1 = true) := (by rw [hpz]; simp : gz n f x.1 = true)
      clear hpz
      gi_wp2
      refine region_in (S := fun W' => (convert 27 9 (.slice (some ⟨b, off + x.1 * 256, none⟩) r r)).run Tryd.prog W' = .ok (.string p) W' ∧ (convert 27 9 (.slice (some ⟨w.heap.size + 1, 0, none⟩) r 256)).run Tryd.prog W' = .ok (.string p) W') (by kernel_rfl) (by kernel_rfl) ⟨k1, k2⟩ (fun hHeld => ?_)
      refine take_at (i := 0) (v := ?_) (some 8) rfl rfl (by kernel_rfl) (by kernel_rfl) (by kernel_rfl) (fun _ _ _ h => by cases h.1) (Or.inl ⟨by rfl, ?_⟩) (by assumption) ?_
      rotate_left
      · (intro w hSw; (try dsimp only at hSw); go_simp; try with_reducible rfl)
      simp only [Act.put, List.setIfInBounds_toArray, List.set_cons_zero, List.set_cons_succ]
      refine take_at (i := 1) (v := ?_) (some 9) rfl rfl (by kernel_rfl) (by kernel_rfl) (by kernel_rfl) (fun _ _ _ h => by cases h.1) (Or.inl ⟨by rfl, ?_⟩) (by assumption) ?_
      rotate_left
      · (intro w hSw; (try dsimp only at hSw); go_simp; try with_reducible rfl)
      simp only [Act.put, List.setIfInBounds_toArray, List.set_cons_zero, List.set_cons_succ]
      refine take_at (i := 2) (v := ?_) (some 10) rfl rfl (by kernel_rfl) (by kernel_rfl) (by kernel_rfl) (fun _ _ _ h => by cases h.1) (Or.inl ⟨by rfl, ?_⟩) (by assumption) ?_
      rotate_left
      · (intro w hSw; (try dsimp only at hSw); go_simp; try with_reducible rfl)
      simp only [Act.put, List.setIfInBounds_toArray, List.set_cons_zero, List.set_cons_succ]
      refine take_at (i := 3) (v := ?_) (some 11) rfl rfl (by kernel_rfl) (by kernel_rfl) (by kernel_rfl) (fun _ _ _ h => by cases h.1) (Or.inl ⟨by rfl, ?_⟩) (by assumption) ?_
      rotate_left
      · (intro w hSw; (try dsimp only at hSw); go_simp; try with_reducible rfl)
      simp only [Act.put, List.setIfInBounds_toArray, List.set_cons_zero, List.set_cons_succ]
      refine take_at (i := 4) (v := ?_) (some 12) rfl rfl (by kernel_rfl) (by kernel_rfl) (by kernel_rfl) (fun _ _ _ h => by cases h.1) (Or.inl ⟨by rfl, ?_⟩) (by assumption) ?_
      rotate_left
      · (intro w hSw; (try dsimp only at hSw); go_simp; try with_reducible rfl)
      simp only [Act.put, List.setIfInBounds_toArray, List.set_cons_zero, List.set_cons_succ]
      refine take_at (i := 5) (v := ?_) (some 13) rfl rfl (by kernel_rfl) (by kernel_rfl) (by kernel_rfl) (fun _ _ _ h => by cases h.1) (Or.inl ⟨by rfl, ?_⟩) (by assumption) ?_
      rotate_left
      · (intro w hSw; (try dsimp only at hSw); go_simp; try with_reducible rfl)
      simp only [Act.put, List.setIfInBounds_toArray, List.set_cons_zero, List.set_cons_succ]
      refine take_at (i := 6) (v := ?_) (some 14) rfl rfl (by kernel_rfl) (by kernel_rfl) (by kernel_rfl) (fun _ _ _ h => by cases h.1) (Or.inl ⟨by rfl, ?_⟩) (by assumption) ?_
      rotate_left
      · (intro w hSw; (try dsimp only at hSw); go_simp; try with_reducible rfl)
      simp only [Act.put, List.setIfInBounds_toArray, List.set_cons_zero, List.set_cons_succ]
      refine wpAnyH_done (by kernel_rfl) ?_ _
      refine ⟨rfl, ?_⟩
      gi_wp2
      exact ⟨E0.out.2.2, Kc.drew _ _ _, fun y hy => (List.mem_append.1 hy).elim (HP.out y) (fun h => by rw [List.mem_singleton.1 h]; exact hx1.out), E0.out.1⟩
    · have e1 : (p.toList == q.toList) = false := by rw [bytes_beq]; simpa using e
      have hx1 : Hid (gz n f x.1 = false) := (by rw [hpz]; simpa using e : gz n f x.1 = false)
      clear hpz
      gi_wp2
      refine region_in (S := fun W' => (convert 27 9 (.slice (some ⟨b, off + x.1 * 256, none⟩) r r)).run Tryd.prog W' = .ok (.string p) W' ∧ (convert 27 9 (.slice (some ⟨w.heap.size + 1, 0, none⟩) r 256)).run Tryd.prog W' = .ok (.string q) W') (by kernel_rfl) (by kernel_rfl) ⟨k1, k2⟩ (fun hHeld => ?_)
      refine take_at (i := 0) (v := ?_) (some 8) rfl rfl (by kernel_rfl) (by kernel_rfl) (by kernel_rfl) (fun _ _ _ h => by cases h.1) (Or.inl ⟨by rfl, ?_⟩) (by assumption) ?_
      rotate_left
      · (intro w hSw; (try dsimp only at hSw); go_simp; try with_reducible rfl)
      simp only [Act.put, List.setIfInBounds_toArray, List.set_cons_zero, List.set_cons_succ]
      refine take_at (i := 1) (v := ?_) (some 9) rfl rfl (by kernel_rfl) (by kernel_rfl) (by kernel_rfl) (fun _ _ _ h => by cases h.1) (Or.inl ⟨by rfl, ?_⟩) (by assumption) ?_
      rotate_left
      · (intro w hSw; (try dsimp only at hSw); go_simp; try with_reducible rfl)
      simp only [Act.put, List.setIfInBounds_toArray, List.set_cons_zero, List.set_cons_succ]
      refine take_at (i := 2) (v := ?_) (some 10) rfl rfl (by kernel_rfl) (by kernel_rfl) (by kernel_rfl) (fun _ _ _ h => by cases h.1) (Or.inl ⟨by rfl, ?_⟩) (by assumption) ?_
      rotate_left
      · (intro w hSw; (try dsimp only at hSw); go_simp; try with_reducible rfl)
      simp only [Act.put, List.setIfInBounds_toArray, List.set_cons_zero, List.set_cons_succ]
      refine take_at (i := 3) (v := ?_) (some 11) rfl rfl (by kernel_rfl) (by kernel_rfl) (by kernel_rfl) (fun _ _ _ h => by cases h.1) (Or.inl ⟨by rfl, ?_⟩) (by assumption) ?_
      rotate_left
      · (intro w hSw; (try dsimp only at hSw); go_simp; try with_reducible rfl)
      simp only [Act.put, List.setIfInBounds_toArray, List.set_cons_zero, List.set_cons_succ]
      refine take_at (i := 4) (v := ?_) (some 12) rfl rfl (by kernel_rfl) (by kernel_rfl) (by kernel_rfl) (fun _ _ _ h => by cases h.1) (Or.inl ⟨by rfl, ?_⟩) (by assumption) ?_
      rotate_left
      · (intro w hSw; (try dsimp only at hSw); go_simp; try with_reducible rfl)
      simp only [Act.put, List.setIfInBounds_toArray, List.set_cons_zero, List.set_cons_succ]
      refine take_at (i := 5) (v := ?_) (some 13) rfl rfl (by kernel_rfl) (by kernel_rfl) (by kernel_rfl) (fun _ _ _ h => by cases h.1) (Or.inl ⟨by rfl, ?_⟩) (by assumption) ?_
      rotate_left
      · (intro w hSw; (try dsimp only at hSw); go_simp; try with_reducible rfl)
      simp only [Act.put, List.setIfInBounds_toArray, List.set_cons_zero, List.set_cons_succ]
      refine take_at (i := 6) (v := ?_) (some 14) rfl rfl (by kernel_rfl) (by kernel_rfl) (by kernel_rfl) (fun _ _ _ h => by cases h.1) (Or.inl ⟨by rfl, ?_⟩) (by assumption) ?_
      rotate_left
      · (intro w hSw; (try dsimp only at hSw); go_simp; try with_reducible rfl)
      simp only [Act.put, List.setIfInBounds_toArray, List.set_cons_zero, List.set_cons_succ]
      refine wpAnyH_done (by kernel_rfl) ?_ _
      refine ⟨rfl, ?_⟩
      gi_wp2
      exact ⟨E0.out.2.2.trans (KeepsOthers.setCell _ _ _), rfl, ⟨x, hx1.out⟩, World.cell?_setCell_same' _ _ _ (by show (U.drew.cell? _).isSome = true; rw [cD]; rfl), E0.out.2.1.setCell (Nat.le_refl _) _⟩
  case done =>
    rintro D ys U hD rfl ⟨hall, hU⟩ hK
    have bU : Below w.heap.size w U := bW.trans (hU.mono (by omega))
    have cU : U.cell? ⟨w.heap.size, 0, none⟩ = some (.bool false) ∧ U.frozen? ⟨w.heap.size, 0, none⟩ = false := by
      rw [hU.cell (p := ⟨w.heap.size, 0, none⟩) (by show w.heap.size < W1.heap.size; omega), hU.frozen (p := ⟨w.heap.size, 0, none⟩) (by show w.heap.size < W1.heap.size; omega), hB1.cell (p := ⟨w.heap.size, 0, none⟩) (by show w.heap.size < V.heap.size; omega), hB1.frozen (p := ⟨w.heap.size, 0, none⟩) (by show w.heap.size < V.heap.size; omega)]
      exact cR
    obtain ⟨c1, c2⟩ := cU
    have hz : z = true := by
      rw [← HZ.out]
      refine (gz_all HF.out).2 (fun x hx => hall ⟨x, hx⟩ ?_)
      unfold upTo
      rw [List.take_of_length_le (by simp)]
      exact List.mem_finRange _
    subst hz
    have bZ : Below w.heap.size w (U.setCell ⟨w.heap.size, 0, none⟩ (.bool true)) := bU.setCell (Nat.le_refl _) _
    have cZ : (U.setCell ⟨w.heap.size, 0, none⟩ (.bool true)).cell? ⟨w.heap.size, 0, none⟩ = some (.bool true) := World.cell?_setCell_same' _ _ _ (by rw [c1]; rfl)
    have hK' : (U.setCell ⟨w.heap.size, 0, none⟩ (.bool true)).heap[D]? = some (.deferred (some [])) := (Below.heap_setCell U ⟨w.heap.size, 0, none⟩ _ D (by show D ≠ w.heap.size; omega)).trans hK
    clear SQ KB H0 bS bN hall hU
    gi_wp2
    generalize U.setCell ⟨w.heap.size, 0, none⟩ (.bool true) = Y at bZ cZ hK' ⊢
    have cX : (Y.putObj D (.deferred none)).cell? ⟨w.heap.size, 0, none⟩ = some (.bool true) := (World.cell?_of_block (World.putObj_heap_other (by show w.heap.size ≠ D; omega))).trans cZ
    refine ⟨by simp, .inl ⟨_, _, rfl, run_takeDeferred hK', ?_⟩⟩
    refine ⟨.bool true, by simp [results, Tryd.results45, asAddr, loadVar, go_sem, cX], rfl, ?_⟩
    exact bZ.trans (belowK_b (w := w) (Nat.le_refl _) Y D _ _ (by omega) hK' rfl rfl)
  case stop =>
    rintro D k pre U hD _ ⟨rfl, ⟨x, hx⟩, cU, bU⟩ hK
    have hz : z = false := by
      rw [← HZ.out, ← Bool.not_eq_true, gz_all HF.out]
      intro h
      rw [h x.1 x.2] at hx
      cases hx
    subst hz
    clear SQ KB H0 bS bN
    gi_wp2
    have cX : (U.putObj D (.deferred none)).cell? ⟨w.heap.size, 0, none⟩ = some (.bool false) := (World.cell?_of_block (World.putObj_heap_other (by show w.heap.size ≠ D; omega))).trans cU
    refine ⟨by simp, .inl ⟨_, _, rfl, run_takeDeferred hK, ?_⟩⟩
    refine ⟨.bool false, by simp [results, Tryd.results45, asAddr, loadVar, go_sem, cX], rfl, ?_⟩
    exact bU.trans (belowK_b (w := w) (Nat.le_refl _) U D _ _ (by omega) hK rfl rfl)
end Go.Proofs.YtfpgkckcifjkcaaDoor
namespace Go.Proofs.YtfpgkckcifjkcaaDoor
open Go.RowKit
/-- The marks behind a list that is lent. -/
def mark (n m : Nat) : Int := 160 + ((n + m : Nat) : Int) % 90
/-- The bytes of a list that is lent, its room too. -/
def lentF (n : Nat) (f : Nat → Int) (m : Nat) : Nat → Int := over (over (fun _ => 0) 0 n f) n m (mark n)
theorem lentF_low (n : Nat) (f : Nat → Int) (m j : Nat) (h : j < n) : lentF n f m j = f j := by
  unfold lentF over; rw [if_neg (by omega), if_pos (by omega), Nat.sub_zero]
theorem lentF_byte (n : Nat) (f : Nat → Int) (m : Nat) (hf : ∀ j, j < n → 0 ≤ f j ∧ f j < 256) (j : Nat) : 0 ≤ lentF n f m j ∧ lentF n f m j < 256 := by
  unfold lentF over mark
  split
  · omega
  · split
    · exact hf _ (by omega)
    · exact ⟨Int.le_refl 0, by show (0 : Int) < 256; omega⟩
theorem lentF_step (n : Nat) (f : Nat → Int) (m : Nat) : upd (lentF n f m) (n + m) (mark n m) = lentF n f (m + 1) := by
  funext j
  unfold upd lentF over
  by_cases h : j = n + m
  · rw [if_pos h, if_pos (by omega), h, show n + m - n = m by omega]
  · rw [if_neg h]
    by_cases g : n ≤ j ∧ j < n + m
    · rw [if_pos g, if_pos (by omega)]
    · rw [if_neg g, if_neg (show ¬ (n ≤ j ∧ j < n + (m + 1)) by omega)]
/-- What holds at the head of the loop. -/
def lentRel (w : World) (g n : Nat) (f : Nat → Int) (i : Value) (wr : World) : Prop := ∃ m : Nat, m ≤ 3 ∧ i = .int .i64 ((n + m : Nat) : Int) ∧ IRow wr g .u8 (n + 3) (lentF n f m) ∧ Below w.heap.size w wr
theorem lent_step (w wr : World) (g n m k : Nat) (f : Nat → Int) (v : Int) (hg : w.heap.size ≤ g) (hm : m < 3) (hk : k = n + m) (hv : v = mark n m) (hR : IRow wr g .u8 (n + 3) (lentF n f m)) (hB : Below w.heap.size w wr) :
    lentRel w g n f (.int .i64 ((n : Int) + m + 1)) (wr.setCell ⟨g, k, none⟩ (.int .u8 v)) := by
  subst hk hv
  exact ⟨m + 1, by omega, by go_num, by rw [← lentF_step]; exact hR.set _ _, hB.setCell hg _⟩
set_option maxRecDepth 100000 in
set_option maxHeartbeats 1000000 in
theorem lent_any (a : Option Addr) (n C : Nat) (f : Nat → Int) (w : World) (h : Arg w a n f) (hn : n ≤ 1000000) :
    Calls Tryd.prog 8 #[.slice a n C] w fun e w' => ∃ g, e = .returned (.slice (some ⟨g, 0, none⟩) n (n + 3)) ∧ w.heap.size ≤ g ∧ IRow w' g .u8 (n + 3) (lentF n f 3) ∧ Below w.heap.size w w' := by
  have hmk : ∀ w, (Instr.makeSlice 27 (.int .i64 ((n : Int) + 3)) (.int .i64 ((n : Int) + 3))).run Tryd.prog w = .ok (.slice (some ⟨w.heap.size, 0, none⟩) (n + 3) (n + 3)) (w.alloc (.cells (zeros (n + 3)) 5)) := by
    have := make_bytes (n + 3) (by omega)
    rw [show ((n + 3 : Nat) : Int) = (n : Int) + 3 from by omega] at this
    exact this
  obtain ⟨W2, hcopy, hR2, hB2, _⟩ := copy_row (w.alloc (.cells (zeros (n + 3)) 5)) w.heap.size (n + 3) 0 (n + 3) (n + 3) n C n a f (fun _ => 0) (IRow.made w (n + 3) 5) (by omega) (Nat.min_eq_left (by omega)).symm (h.below ((Below.refl _ _).alloc (Nat.le_refl _) _))
  have ST : Hid (lentRel w w.heap.size n f (.int .i64 n) W2) := by
    refine ⟨0, by omega, rfl, hR2.congr (fun j _ => ?_), ((Below.refl _ _).alloc (Nat.le_refl _) _).trans (hB2.below (Nat.le_refl _) (by simp))⟩
    unfold lentF
    rw [show over (over (fun _ => 0) 0 n f) n 0 (mark n) j = over (fun _ => 0) 0 n f j from by rw [over, if_neg (by omega)]]
  clear hR2 hB2 h
  have wr1 : wrap64 ((n : Int) + 3) = (n : Int) + 3 := by unfold wrap64; omega
  go_enter Tryd.func8, Tryd.ntmps8
  go_wp2_with (at_builtin; refine wpList_copy_go rfl (.tmp 9) (.tmp 10) 27 27 rfl _ _ rfl rfl hcopy ?_)
  clear hmk hcopy
  go_loopw [4] (fun i wr => lentRel w w.heap.size n f i wr) (fun i _ => n + 3 - (intOf i).toNat)
  case atStart => exact ST.out
  case round =>
    obtain ⟨m, hm, rfl, hR, hB⟩ := hrel
    clear ST
    have BE : Hid (Below w.heap.size w wr) := hB
    have RR : Hid (IRow wr w.heap.size .u8 (n + 3) (lentF n f m)) := hR
    clear hB
    by_cases hlt : m < 3
    · have gk := hR.1 (n + m) (by omega)
      have fk := hR.2.1 (n + m)
      clear hR
      have e0 : ((n + m : Nat) : Int) = (n : Int) + m := by omega
      have e1 : (n : Int) + m < (n : Int) + 3 := by omega
      have e2 : (0 : Int) ≤ (n : Int) + m := by omega
      have e3 : ((n : Int) + m).toNat = n + m := by omega
      have e4 : IntKind.u8.wrap (160 + ((n : Int) + m) % 90) = 160 + ((n : Int) + m) % 90 := by rw [IntKind.wrap_u8]; omega
      have e5 : wrap64 (160 + ((n : Int) + m) % 90) = 160 + ((n : Int) + m) % 90 := by unfold wrap64; omega
      have e6 : wrap64 ((n : Int) + m + 1) = (n : Int) + m + 1 := by unfold wrap64; omega
      go_wp2_with fail
      refine ⟨lent_step w wr w.heap.size n m _ f _ (Nat.le_refl _) hlt rfl ?_ RR.out BE.out, by simp [intOf]; omega⟩
      unfold mark
      rw [e0]
    · obtain rfl : m = 3 := by omega
      clear hR
      have e0 : ((n + 3 : Nat) : Int) = (n : Int) + 3 := by omega
      go_wp2_with fail
      go_ret
      exact ⟨_, rfl, Nat.le_refl _, RR.out, BE.out⟩
set_option maxRecDepth 100000 in
set_option maxHeartbeats 1000000 in
theorem kept_any (g : Nat) (a : Option Addr) (n C : Nat) (f : Nat → Int) (w : World) (h : Arg w a n f) (hn : n ≤ 1000000) (hR : IRow w g .u8 (n + 3) (lentF n f 3)) :
    Calls Tryd.prog 16 #[.slice (some ⟨g, 0, none⟩) n (n + 3), .slice a n C] w fun e w' => e = .returned (.bool true) ∧ Below w.heap.size w w' := by
  have HA : Hid (Arg w.drew a n f) := h
  have HR : Hid (IRow w g .u8 (n + 3) (lentF n f 3)) := hR
  have FB : Hid (∀ j, j < n + 3 → 0 ≤ lentF n f 3 j ∧ lentF n f 3 j < 256) := fun j _ => lentF_byte n f 3 h.bytes j
  clear h hR
  have wr1 : wrap64 ((n : Int) + 3) = (n : Int) + 3 := by unfold wrap64; omega
  have wr2 : IntKind.i64.wrap ((n : Int) + 3) = (n : Int) + 3 := by rw [IntKind.wrap_i64]; omega
  have e1 : ((n + 3 : Nat) : Int) = (n : Int) + 3 := by omega
  have e2 : ((n : Int) + 3).toNat = n + 3 := by omega
  have e3 : (0 : Int) ≤ (n : Int) + 3 := by omega
  go_enter Tryd.func16, Tryd.ntmps16
  go_wp2_with fail
  go_region_held3 (fun w' => True) (trivial)
    (first
      | (go_at_call 8; refine (lent_any a n C f _ HA.out hn).mono ?_; rintro e w1 ⟨g1, rfl, hg1, hR1, hB1⟩)
      | (go_at_call 13; refine (same_any (some ⟨g, 0, none⟩) _ (n + 3) (n + 3) _ _ (lentF n f 3) (lentF n f 3) _ (Arg.of ((HR.out.drew.below (by assumption)).lies FB.out)) (Arg.of ((by assumption : IRow _ _ .u8 (n + 3) (lentF n f 3)).lies FB.out))).mono ?_; rintro e w2 ⟨rfl, hw⟩; rw [hw, decide_eq_true rfl]; clear hw))
  go_wp2_with fail
  go_ret
  exact ⟨rfl, (Below.refl _ _).drew.trans (by assumption)⟩
end Go.Proofs.YtfpgkckcifjkcaaDoor
namespace Go.Proofs.YtfpgkckcifjkcaaDoor
open Go.RowKit
theorem lent_arg {w : World} {g n : Nat} {f : Nat → Int} (h : IRow w g .u8 (n + 3) (lentF n f 3)) (hf : ∀ j, j < n → 0 ≤ f j ∧ f j < 256) : Arg w (some ⟨g, 0, none⟩) n f :=
  Arg.of ⟨fun j hj => by rw [Nat.zero_add, h.1 j (by omega), lentF_low _ _ _ _ hj], hf, h.2.2⟩
/-- Whether bytes are all nought, however many they are. -/
theorem ng_all (a : Option Addr) (n C : Nat) (f : Nat → Int) (hn : n ≤ 1000000) (hC : n ≤ C) : NgOk a n C f := by
  intro W hA
  have hb := hA.bytes
  rcases hA with ⟨h0, _⟩ | ⟨_, b, off, rfl, hL⟩
  · exact noughts_all a 0 0 n C f W (fun h => by omega) (fun h => by omega) hb hn hC
  · exact noughts_all _ b off n C f W (fun _ => rfl) (fun _ => hL) hb hn hC
theorem neq_ss (a b c : Int) (d : Bool) (w : World) : (binOp .neq 45 (.agg (ss a b c d).toArray) (.agg (ss a b c d).toArray)).run Tryd.prog w = .ok (.bool false) w := by
  simp [go_sem, ss]
theorem judgeL_ss (n : Nat) (f : Nat → Int) (n' : Nat) (f' : Nat → Int) (k : Int) : ∃ a b c d, judgeL n f n' f' k = ss a b c d := by
  unfold judgeL
  repeat' split
  all_goals exact ⟨_, _, _, _, rfl⟩
/-- Two equal records, told apart. -/
theorem wpList_neq_w {ops : Array Oper} {rest : List Oper} {op : Oper} {a : Act} {w : World} {Q : Exit → Act → World → Prop} (hw : Region.wanted op (yielded ops a.tmps) = true) (t t' : TypeId) (x y : Operand) (ho : op.op = .binOp .neq t x y t')
    (X : Array Value) (hx : a.eval x = .agg X) (hy : a.eval y = .agg X) (he : ∀ w, (binOp .neq t (.agg X) (.agg X)).run Tryd.prog w = .ok (.bool false) w) (hg : Tryd.prog.eqGuardType Tryd.prog.depth t = false)
    (hK : wpList Tryd.prog ops Q rest (a.put op.dst (.bool false)) w) : wpList Tryd.prog ops Q (op :: rest) a w := by
  refine wpList_step fun K hK' => ?_
  rw [if_pos hw]
  unfold Oper.wp execOp
  simp only [ho, hx, hy, Sem.run_bind, run_eqGuard_agg _ _ _ _ _ _ _ hg, Result.andThen_ok, he]
  exact hK' _ _ hK
/-- What the program's Prepare answers. -/
def PQ (w : World) (h : Nat → Int) (N : Nat) (F : Nat → Int) (b : Bool) (e : Ending) (w' : World) : Prop := ∃ ax, e = .returned (.tuple #[.agg (msg h ax N N).toArray, .bool b]) ∧ Lst.ok w.heap.size w' ⟨ax, N, N⟩ F ∧ (∀ p, ax = some p → w.heap.size ≤ p.block) ∧ Below w.heap.size w w'
/-- What the reference's answers. -/
def RQ (w : World) (h : Nat → Int) (N : Nat) (F : Nat → Int) (b : Bool) (e : Ending) (w' : World) : Prop := ∃ ay cap, e = .returned (.tuple #[.agg (msg h ay N cap).toArray, .bool b]) ∧ Arg w' ay N F ∧ Below w.heap.size w w'
/-- Both Prepare answer the same. -/
theorem prep_both (n : Nat) (f : Nat → Int) (k : Int) (hn : n ≤ 3000) (hf : ∀ j, j < n → 0 ≤ f j ∧ f j < 256) : ∃ (h : Nat → Int) (N : Nat) (F : Nat → Int) (b : Bool),
    (∀ (a : Option Addr) (C : Nat) (W : World), Tab W → Arg W a n f → n ≤ C → Calls Tryd.prog 19 #[.slice a n C, .int .i64 k] W (PQ W h N F b)) ∧
    (∀ (a : Option Addr) (C : Nat) (W : World), Arg W a n f → n ≤ C → Calls Tryd.prog 20 #[.slice a n C, .int .i64 k] W (RQ W h N F b)) := by
  by_cases hk : prepOK n f k = true
  · have hs := (prepOK_iff.1 hk)
    have hr := size_range hs.2.1
    refine ⟨hdrF f, (hdrF f 2).toNat, fun j => f (256 + j), true, fun a C W hT hA hC => (prep_ok a n C f k W hT hA hC (by omega) hk).mono ?_, fun a C W hA hC => (rprep_ok a n C f k W hA hC (by omega) hk).mono ?_⟩
    · rintro e w' ⟨g, rfl, hg, hR, hB⟩
      refine ⟨some ⟨g, 0, none⟩, rfl, ⟨Nat.le_refl _, (by show (hdrF f 2).toNat ≤ 1000000; omega), fun j hj => hf (256 + j) (by have h1 := hs.1; have h2 := hs.2.2.2.1; have hj' : j < (hdrF f 2).toNat := hj; omega), .inr ⟨g, rfl, hg, hR⟩⟩, fun p hp => (by injection hp with hp; subst hp; exact hg), hB⟩
    · rintro e w' ⟨ga, cap, rfl, hA', hB⟩
      exact ⟨ga, cap, rfl, hA', hB⟩
  · have hk' : prepOK n f k = false := by simpa using hk
    refine ⟨fun _ => 0, 0, fun _ => 0, false, fun a C W hT hA hC => (prep_no a n C f k W hT hA hC (by omega) hk').mono ?_, fun a C W hA hC => (rprep_no a n C f k W hA hC (by omega) hk').mono ?_⟩
    · rintro e w' ⟨rfl, hB⟩
      exact ⟨none, rfl, ⟨Nat.le_refl _, (by show 0 ≤ 1000000; omega), fun j _ => (by show (0 : Int) ≤ 0 ∧ (0 : Int) < 256; omega), .inl ⟨rfl, rfl⟩⟩, fun p hp => (by cases hp), hB⟩
    · rintro e w' ⟨rfl, hB⟩
      exact ⟨none, 0, rfl, .inl ⟨rfl, .inl rfl⟩, hB⟩
/-- What stays as it is. -/
def jlS (w : World) (a a' : Option Addr) (n n' : Nat) (f f' : Nat → Int) (W : World) : Prop := Arg W a n f ∧ Arg W a' n' f' ∧ Tab W ∧ Below w.heap.size w W
theorem jlS.below {w : World} {a a' : Option Addr} {n n' : Nat} {f f' : Nat → Int} {W W' : World} (s : jlS w a a' n n' f f' W) (hB : Below W.heap.size W W') : jlS w a a' n n' f f' W' :=
  ⟨s.1.below hB, s.2.1.below hB, s.2.2.1.below hB s.2.2.1.2, s.2.2.2.trans (hB.mono s.2.2.2.size)⟩
/-- What is answered, and what was handed in, lie apart. -/
theorem jl_apart {B s1 s2 n n' g u N : Nat} {V : World} {ax : Option Addr} {f f' F : Nat → Int} (hn : n ≤ 3000) (hn' : n' ≤ 3000) (hf : ∀ j, j < n → 0 ≤ f j ∧ f j < 256) (hf' : ∀ j, j < n' → 0 ≤ f' j ∧ f' j < 256) (hg : B ≤ g) (hB : B ≤ V.heap.size) (hX : Lst.ok B V ⟨ax, N, N⟩ F) (hG : IRow V g .u8 (n + 3) (lentF n f 3)) (hU : IRow V u .u8 (n' + 3) (lentF n' f' 3))
    (hg1 : g < s1) (hu1 : s1 ≤ u) (hu2 : u < s2) (dx : ∀ p, ax = some p → s2 ≤ p.block) :
    Calls Tryd.prog 17 #[.slice (some ⟨V.heap.size, 0, none⟩) 3 3] (V.alloc (.cells #[.slice ax N N, .slice (some ⟨g, 0, none⟩) n (n + 3), .slice (some ⟨u, 0, none⟩) n' (n' + 3)] 27)) fun e w' => e = .returned (.bool true) ∧ Below B V w' := by
  refine three_apart B V ⟨ax, N, N⟩ ⟨some ⟨g, 0, none⟩, n, n + 3⟩ ⟨some ⟨u, 0, none⟩, n', n' + 3⟩ F (lentF n f 3) (lentF n' f' 3) hX ⟨Nat.le_add_right _ _, (by show n + 3 ≤ 1000000; omega), fun j _ => lentF_byte n f 3 hf j, .inr ⟨g, rfl, hg, hG⟩⟩ ⟨Nat.le_add_right _ _, (by show n' + 3 ≤ 1000000; omega), fun j _ => lentF_byte n' f' 3 hf' j, .inr ⟨u, rfl, by omega, hU⟩⟩ hB (fun p hp => ?_) (fun p hp => ?_) (fun p hp => ?_) (fun p q hp hq => ?_) (fun p q hp hq => ?_) (fun p q hp hq => ?_)
  · rcases hX with ⟨_, _, _, ⟨h4, _⟩ | ⟨g', h4, _, h6⟩⟩
    · rw [show ax = none from h4] at hp; cases hp
    · rw [show ax = some ⟨g', 0, none⟩ from h4] at hp; injection hp with hp; subst hp; exact h6.2.2
  · injection hp with hp; subst hp; exact hG.2.2
  · injection hp with hp; subst hp; exact hU.2.2
  · injection hq with hq; subst hq; have := dx p hp; show p.block ≠ g; omega
  · injection hq with hq; subst hq; have := dx p hp; show p.block ≠ u; omega
  · injection hp with hp; injection hq with hq; subst hp hq; show g ≠ u; omega
set_option maxRecDepth 100000 in
set_option maxHeartbeats 2000000 in
theorem judges_far1 (a a' : Option Addr) (n C n' C' : Nat) (k : Int) (w : World) (hn : 3000 < n) : Calls Tryd.prog 4 #[.slice a n C, .slice a' n' C', .int .i64 k] w fun e w' => e = .returned (.bool true) ∧ Below w.heap.size w w' := by
  have e1 : (3000 : Int) < n := by omega
  go_enter Tryd.func4, Tryd.ntmps4
  go_wp2_with fail
  go_ret
  exact ⟨rfl, Below.refl _ _⟩
set_option maxRecDepth 100000 in
set_option maxHeartbeats 2000000 in
theorem judges_far2 (a a' : Option Addr) (n C n' C' : Nat) (k : Int) (w : World) (hn : n ≤ 3000) (hn' : 3000 < n') : Calls Tryd.prog 4 #[.slice a n C, .slice a' n' C', .int .i64 k] w fun e w' => e = .returned (.bool true) ∧ Below w.heap.size w w' := by
  have e1 : ¬ (3000 : Int) < n := by omega
  have e2 : (3000 : Int) < n' := by omega
  go_enter Tryd.func4, Tryd.ntmps4
  go_wp2_with fail
  go_ret
  exact ⟨rfl, Below.refl _ _⟩
theorem lst_weak {B B' : Nat} {W : World} {L : Lst} {F : Nat → Int} (h : L.ok B W F) (hB : B' ≤ B) : L.ok B' W F := by
  obtain ⟨h1, h2, h3, h4 | ⟨g, h4, h5, h6⟩⟩ := h
  · exact ⟨h1, h2, h3, .inl h4⟩
  · exact ⟨h1, h2, h3, .inr ⟨g, h4, Nat.le_trans hB h5, h6⟩⟩
set_option maxRecDepth 100000 in
set_option maxHeartbeats 2000000 in
theorem judges_main (a a' : Option Addr) (n C n' C' : Nat) (f f' : Nat → Int) (k : Int) (w : World) (hT : Tab w) (hA : Arg w a n f) (hA' : Arg w a' n' f') (hC : n ≤ C) (hC' : n' ≤ C') (hn : n ≤ 3000) (hn' : n' ≤ 3000) : Calls Tryd.prog 4 #[.slice a n C, .slice a' n' C', .int .i64 k] w fun e w' => e = .returned (.bool true) ∧ Below w.heap.size w w' := by
  have hT0 := hT.2
  have TT : Hid (Tab w) := hT
  have HF : Hid (∀ j, j < n → 0 ≤ f j ∧ f j < 256) := hA.bytes
  have HF' : Hid (∀ j, j < n' → 0 ≤ f' j ∧ f' j < 256) := hA'.bytes
  have HN : Hid (n ≤ 3000) := hn
  have HN' : Hid (n' ≤ 3000) := hn'
  obtain ⟨h, N, F, bb, hBP, hBR⟩ := prep_both n' f' k hn' hA'.bytes
  obtain ⟨j1, j2, j3, j4, hj⟩ := judgeL_ss n f n' f' k
  have JL : Hid (judgeL n f n' f' k = ss j1 j2 j3 j4) := hj
  have BP : Hid (∀ (a : Option Addr) (C : Nat) (W : World), Tab W → Arg W a n' f' → n' ≤ C → Calls Tryd.prog 19 #[.slice a n' C, .int .i64 k] W (PQ W h N F bb)) := hBP
  have BR : Hid (∀ (a : Option Addr) (C : Nat) (W : World), Arg W a n' f' → n' ≤ C → Calls Tryd.prog 20 #[.slice a n' C, .int .i64 k] W (RQ W h N F bb)) := hBR
  have S0 : Hid (jlS w a a' n n' f f' w) := ⟨hA, hA', hT, Below.refl _ _⟩
  clear hT hA hA' hBP hBR hj
  have e1 : ¬ (3000 : Int) < n := by omega
  have e2 : ¬ (3000 : Int) < n' := by omega
  go_enter Tryd.func4, Tryd.ntmps4
  go_wp2_with (first
    | (have _q := S0; clear _q; go_at_call 8; refine (lent_any a n C f _ S0.out.1 (by omega)).mono ?_; rintro e W1 ⟨g, rfl, hg, hG, hB⟩
       have G1 : Hid (IRow W1 g .u8 (n + 3) (lentF n f 3)) := hG
       have K1 : Hid (w.heap.size ≤ g ∧ g < W1.heap.size) := ⟨hg, hG.2.2⟩
       clear hg hG
       have S1 : Hid (jlS w a a' n n' f f' W1) := S0.out.below hB
       clear hB S0)
    | (have _q := S1; clear _q; go_at_call 8; refine (lent_any a' n' C' f' _ S1.out.2.1 (by omega)).mono ?_; rintro e W2 ⟨u, rfl, hg, hG, hB⟩
       have U2 : Hid (IRow W2 u .u8 (n' + 3) (lentF n' f' 3)) := hG
       have K2 : Hid (W1.heap.size ≤ u ∧ u < W2.heap.size) := ⟨hg, hG.2.2⟩
       clear hg hG
       have S2 : Hid (jlS w a a' n n' f f' W2) := S1.out.below hB
       have G2 : Hid (IRow W2 g .u8 (n + 3) (lentF n f 3)) := G1.out.below hB
       clear hB S1 G1)
    | (have _q := S2; clear _q; go_at_call 19; refine (BP.out (some ⟨u, 0, none⟩) (n' + 3) _ S2.out.2.2.1 (lent_arg U2.out HF'.out) (by omega)).mono ?_; rintro e W3 ⟨ax, rfl, hX, hpx, hB⟩
       have X3 : Hid (Lst.ok W2.heap.size W3 ⟨ax, N, N⟩ F) := hX
       have DX : Hid (∀ p, ax = some p → W2.heap.size ≤ p.block) := hpx
       have L2 : Hid (w.heap.size ≤ W2.heap.size) := S2.out.2.2.2.size
       clear hX hpx
       have S3 : Hid (jlS w a a' n n' f f' W3) := S2.out.below hB
       have G3 : Hid (IRow W3 g .u8 (n + 3) (lentF n f 3)) := G2.out.below hB
       have U3 : Hid (IRow W3 u .u8 (n' + 3) (lentF n' f' 3)) := U2.out.below hB
       clear hB S2 G2 U2)
    | (have _q := S3; clear _q; refine wpList_alloc_rec rfl 29 rfl (msg (fun _ => 0) none 0 0) W3.heap.size rfl zeroMsg ?_; intro W4 R4 B4 z4)
    | (have _q := S3; clear _q; refine wpList_store_rec rfl 29 (.tmp 9) (.tmp 29) rfl W3.heap.size 0 _ (msg h ax N N) rfl rfl R4 rfl (by kernel_rfl) (msg_one _ _ _ _) ?_; intro W5 R5 B5
       have P5 : Hid (Rec19 W5 W3.heap.size 0 (msg h ax N N)) := R5
       have hB := B4.trans (B5.below (Nat.le_refl _) (by omega))
       clear R4 B4 z4 R5 B5
       have S5 : Hid (jlS w a a' n n' f f' W5) := S3.out.below hB
       have G5 : Hid (IRow W5 g .u8 (n + 3) (lentF n f 3)) := G3.out.below hB
       have U5 : Hid (IRow W5 u .u8 (n' + 3) (lentF n' f' 3)) := U3.out.below hB
       have X5 : Hid (Lst.ok W2.heap.size W5 ⟨ax, N, N⟩ F) := X3.out.below hB
       clear hB S3 G3 U3 X3)
    | (have _q := S5; clear _q; go_at_call 20; refine (BR.out a' C' _ S5.out.2.1 (by omega)).mono ?_; rintro e W6 ⟨ay, cay, rfl, hY, hB⟩
       have Y6 : Hid (Arg W6 ay N F) := hY
       clear hY
       have S6 : Hid (jlS w a a' n n' f f' W6) := S5.out.below hB
       have G6 : Hid (IRow W6 g .u8 (n + 3) (lentF n f 3)) := G5.out.below hB
       have U6 : Hid (IRow W6 u .u8 (n' + 3) (lentF n' f' 3)) := U5.out.below hB
       have X6 : Hid (Lst.ok W2.heap.size W6 ⟨ax, N, N⟩ F) := X5.out.below hB
       have P6 : Hid (Rec19 W6 W3.heap.size 0 (msg h ax N N)) := P5.out.below hB
       clear hB S5 G5 U5 X5 P5)
    | (have _q := S6; clear _q; refine wpList_alloc_rec rfl 29 rfl (msg (fun _ => 0) none 0 0) W6.heap.size rfl zeroMsg ?_; intro W7 R7 B7 z7)
    | (have _q := S6; clear _q; refine wpList_store_rec rfl 29 (.tmp 11) (.tmp 35) rfl W6.heap.size 0 _ (msg h ay N cay) rfl rfl R7 rfl (by kernel_rfl) (msg_one _ _ _ _) ?_; intro W8 R8 B8
       have Q8 : Hid (Rec19 W8 W6.heap.size 0 (msg h ay N cay)) := R8
       have hB := B7.trans (B8.below (Nat.le_refl _) (by omega))
       clear R7 B7 z7 R8 B8
       have S8 : Hid (jlS w a a' n n' f f' W8) := S6.out.below hB
       have G8 : Hid (IRow W8 g .u8 (n + 3) (lentF n f 3)) := G6.out.below hB
       have U8 : Hid (IRow W8 u .u8 (n' + 3) (lentF n' f' 3)) := U6.out.below hB
       have X8 : Hid (Lst.ok W2.heap.size W8 ⟨ax, N, N⟩ F) := X6.out.below hB
       have P8 : Hid (Rec19 W8 W3.heap.size 0 (msg h ax N N)) := P6.out.below hB
       have Y8 : Hid (Arg W8 ay N F) := Y6.out.below hB
       clear hB S6 G6 U6 X6 P6 Y6)
    | (have _q := S8; clear _q; refine wpList_load_rec rfl 29 (.tmp 9) rfl W3.heap.size 0 (msg h ax N N) rfl _ Tryd.underlying29 rfl (by kernel_rfl) P8.out ?_)
    | (have _q := S8; clear _q; refine wpList_load_rec rfl 29 (.tmp 11) rfl W6.heap.size 0 (msg h ay N cay) rfl _ Tryd.underlying29 rfl (by kernel_rfl) Q8.out ?_)
    | (have _q := S8; clear _q; go_at_call 21; refine (sameMsg_any h ax ay N N N cay F F _ X8.out.arg Y8.out rfl (fun _ _ => rfl)).mono ?_; rintro e W9 ⟨rfl, hB⟩
       clear Y8 Q8
       have S9 : Hid (jlS w a a' n n' f f' W9) := S8.out.below hB
       have G9 : Hid (IRow W9 g .u8 (n + 3) (lentF n f 3)) := G8.out.below hB
       have U9 : Hid (IRow W9 u .u8 (n' + 3) (lentF n' f' 3)) := U8.out.below hB
       have X9 : Hid (Lst.ok W2.heap.size W9 ⟨ax, N, N⟩ F) := X8.out.below hB
       have P9 : Hid (Rec19 W9 W3.heap.size 0 (msg h ax N N)) := P8.out.below hB
       clear hB S8 G8 U8 X8 P8)
    | (have _q := S9; clear _q; go_at_call 22; refine (judge_any (some ⟨g, 0, none⟩) (some ⟨u, 0, none⟩) n (n + 3) n' (n' + 3) f f' k _ S9.out.2.2.1 (lent_arg G9.out HF.out) (lent_arg U9.out HF'.out) (by omega) (by omega) (by omega) (ng_all _ n' (n' + 3) f' (by omega) (by omega))).mono ?_; rintro e U0 ⟨rfl, hB⟩; rw [JL.out]
       have S10 : Hid (jlS w a a' n n' f f' U0) := S9.out.below hB
       have G10 : Hid (IRow U0 g .u8 (n + 3) (lentF n f 3)) := G9.out.below hB
       have U10 : Hid (IRow U0 u .u8 (n' + 3) (lentF n' f' 3)) := U9.out.below hB
       have X10 : Hid (Lst.ok W2.heap.size U0 ⟨ax, N, N⟩ F) := X9.out.below hB
       have P10 : Hid (Rec19 U0 W3.heap.size 0 (msg h ax N N)) := P9.out.below hB
       clear hB S9 G9 U9 X9 P9)
    | (have _q := S10; clear _q; go_at_call 23; refine (rjudge_any a a' n C n' C' f f' k _ S10.out.1 S10.out.2.1 (by omega) (by omega) (by omega)).mono ?_; rintro e U1 ⟨rfl, hB⟩; rw [JL.out]
       have S11 : Hid (jlS w a a' n n' f f' U1) := S10.out.below hB
       have G11 : Hid (IRow U1 g .u8 (n + 3) (lentF n f 3)) := G10.out.below hB
       have U11 : Hid (IRow U1 u .u8 (n' + 3) (lentF n' f' 3)) := U10.out.below hB
       have X11 : Hid (Lst.ok W2.heap.size U1 ⟨ax, N, N⟩ F) := X10.out.below hB
       have P11 : Hid (Rec19 U1 W3.heap.size 0 (msg h ax N N)) := P10.out.below hB
       clear hB S10 G10 U10 X10 P10
       have x16 := (P11.out.at 16 _ (msg_body h ax N N)).1)
    | (have _q := S11; clear _q; refine wpList_neq_w (by rfl) 45 45 (.tmp 50) (.tmp 54) rfl (ss j1 j2 j3 j4).toArray rfl rfl (neq_ss j1 j2 j3 j4) guard_ss ?_)
    | (have _q := S11; clear _q; go_at_call 16; refine (kept_any g a n C f _ S11.out.1 (by omega) G11.out).mono ?_; rintro e U2' ⟨rfl, hB⟩
       clear x16
       have S12 : Hid (jlS w a a' n n' f f' U2') := S11.out.below hB
       have G12 : Hid (IRow U2' g .u8 (n + 3) (lentF n f 3)) := G11.out.below hB
       have U12 : Hid (IRow U2' u .u8 (n' + 3) (lentF n' f' 3)) := U11.out.below hB
       have X12 : Hid (Lst.ok W2.heap.size U2' ⟨ax, N, N⟩ F) := X11.out.below hB
       have P12 : Hid (Rec19 U2' W3.heap.size 0 (msg h ax N N)) := P11.out.below hB
       clear hB S11 G11 U11 X11 P11)
    | (have _q := S12; clear _q; go_at_call 16; refine (kept_any u a' n' C' f' _ S12.out.2.1 (by omega) U12.out).mono ?_; rintro e V4 ⟨rfl, hB⟩
       have S13 : Hid (jlS w a a' n n' f f' V4) := S12.out.below hB
       have G13 : Hid (IRow V4 g .u8 (n + 3) (lentF n f 3)) := G12.out.below hB
       have U13 : Hid (IRow V4 u .u8 (n' + 3) (lentF n' f' 3)) := U12.out.below hB
       have X13 : Hid (Lst.ok W2.heap.size V4 ⟨ax, N, N⟩ F) := X12.out.below hB
       have P13 : Hid (Rec19 V4 W3.heap.size 0 (msg h ax N N)) := P12.out.below hB
       clear hB S12 G12 U12 X12 P12
       have x16 := (P13.out.at 16 _ (msg_body h ax N N)).1
       have AP : Hid (Calls Tryd.prog 17 #[.slice (some ⟨V4.heap.size, 0, none⟩) 3 3] (V4.alloc (.cells #[.slice ax N N, .slice (some ⟨g, 0, none⟩) n (n + 3), .slice (some ⟨u, 0, none⟩) n' (n' + 3)] 27)) fun e w' => e = .returned (.bool true) ∧ Below w.heap.size V4 w') := jl_apart HN.out HN'.out HF.out HF'.out K1.out.1 S13.out.2.2.2.size (lst_weak X13.out L2.out) G13.out U13.out K1.out.2 K2.out.1 K2.out.2 DX.out)
    | (have _q := AP; clear _q; go_at_call 17; refine AP.out.mono ?_; rintro e Z1 ⟨rfl, hZ1⟩
       have EZ : Hid (Below w.heap.size w Z1) := S13.out.2.2.2.trans hZ1
       clear hZ1 AP)
    | (have _q := EZ; clear _q; go_at_call 18; refine (awake_ok _ (TT.out.below EZ.out hT0)).mono ?_; rintro e Z2 ⟨rfl, hZ2⟩))
  go_ret
  exact ⟨rfl, EZ.out.trans (hZ2.mono EZ.out.size)⟩
theorem judges_all (a a' : Option Addr) (n C n' C' : Nat) (f f' : Nat → Int) (k : Int) (w : World) (hT : Tab w) (hA : Arg w a n f) (hA' : Arg w a' n' f') (hC : n ≤ C) (hC' : n' ≤ C') : Calls Tryd.prog 4 #[.slice a n C, .slice a' n' C', .int .i64 k] w fun e w' => e = .returned (.bool true) ∧ Below w.heap.size w w' := by
  by_cases l : 3000 < n
  · exact judges_far1 a a' n C n' C' k w l
  · by_cases l' : 3000 < n'
    · exact judges_far2 a a' n C n' C' k w (by omega) l'
    · exact judges_main a a' n C n' C' f f' k w hT hA hA' hC hC' (by omega) (by omega)
end Go.Proofs.YtfpgkckcifjkcaaDoor
namespace Go.Proofs.YtfpgkckcifjkcaaDoor
open Go.ChangeShapes Go.WideShapes Go.ChangeAt Go.WideMaps Go.WideElems Go.RowKit Go.Joins

set_option maxRecDepth 100000 in
theorem judges_lifted (os : Os) (started : os.Started) (H : Type) (enc : TypeId × Value → H) :
    ReturnsInHanded {} Tryd.checked os 4 .any (fun w args => (Rows.slotJudgesSpec.pre enc Tryd.prog Tryd.f4 [] false w args ∧ laidMetH Tryd.prog laidL w) ∧ sizedMet enc Tryd.prog Tryd.f4 (OpenSpec.ofChange Rows.slotJudgesSpec) false w args)
      (Rows.slotJudgesSpec.post enc Tryd.prog Tryd.f4 false true false false) := by
  refine returnsInHanded_of_change_and (C := Tryd.checked) (X := fun w _ => laidMetH Tryd.prog laidL w) (fun _ _ _ hh h => h.of_heap hh) own_knob started (by kernel_rfl) Tryd.func4
    (ChangeSpec.witness_shaped (enc := enc) (C := Tryd.checked) (os := os) (X := fun w _ => laidMetH Tryd.prog laidL w) false (World.doorLaid Tryd.prog 400 os) #[.slice none 0 0, .slice none 0 0, .int .i64 0] 8 rfl (World.shaped_of_RefB (by kernel_rfl) (by kernel_rfl)) (by kernel_rfl) (by kernel_rfl) (by kernel_rfl) (door_met os _)) ?_
  intro W base args ds gs before hval0 hW _ _ hL _
  have hval : ∀ (j : Nat) t v, Tryd.f4.params[j]? = some t → args[j]? = some v → Value.okWide Tryd.prog W .any base t v := hval0
  have hW' := hW
  obtain ⟨p, q, hA0, hV, rfl, hfz, hnd⟩ := hW
  have hA : DataW.TrodAll enc Tryd.prog W 0 (fun _ => true) true Tryd.f4.params.toList args.toList ds p := hA0
  rw [Tryd.params4] at hA hval
  obtain ⟨v0, v1, v2, d0, d1, d2, p0, p1, p2, rfl, rfl, rfl, h0, h1, h2⟩ := trodAll_three hA
  obtain ⟨rfl, rfl⟩ := trodVars_none hV
  have k0 := h0
  have k1 := h1
  have k2 := h2
  have lt0 : ∀ x ∈ p0, x.block < W.heap.size := by obtain ⟨m, hm⟩ := k0; exact DataW.trod_lt m _ _ _ hm
  have lt1 : ∀ x ∈ p1, x.block < W.heap.size := by obtain ⟨m, hm⟩ := k1; exact DataW.trod_lt m _ _ _ hm
  have lt2 : ∀ x ∈ p2, x.block < W.heap.size := by obtain ⟨m, hm⟩ := k2; exact DataW.trod_lt m _ _ _ hm
  obtain ⟨x2, rfl⟩ := okWide_int Tryd.underlying3 (hval 2 3 v2 rfl rfl)
  obtain ⟨a0, len0, cap0, rfl⟩ := okWide_slice Tryd.underlying27 (hval 0 27 v0 rfl rfl)
  obtain ⟨a1, len1, cap1, rfl⟩ := okWide_slice Tryd.underlying27 (hval 1 27 v1 rfl rfl)
  obtain ⟨z0, r0⟩ := open_row h0
  obtain ⟨z1, r1⟩ := open_row h1
  clear hA0 hval0
  refine (judges_all a0 a1 len0 cap0 len1 cap1 _ _ x2 W (of_laid hL) r0.arg r1.arg r0.cap r1.cap).mono fun e W' ⟨he, bel⟩ => ?_
  subst he
  exact ⟨_, rfl, _, _, _, [], _, [], hW', trodAll_mk1 (shut_bool Tryd.underlying4 _), trodAll_mk3 (Below.trod laid_out (by kernel_rfl) (of_decide_eq_true (by kernel_rfl)) k0 bel lt0) (Below.trod laid_out (by kernel_rfl) (of_decide_eq_true (by kernel_rfl)) k1 bel lt1) (Below.trod laid_out (by kernel_rfl) (of_decide_eq_true (by kernel_rfl)) k2 bel lt2), rfl, bel.frame _, fun h => by cases h⟩
theorem judges_holds : Rows.SlotJudgesSaid :=
  OpenClaim.holds_of_wide 4 Tryd.f4 rfl rfl rfl rfl rfl rfl rfl ⟨rfl, rfl, rfl, rfl, rfl⟩ rfl rfl rfl rfl rfl (by kernel_rfl) Tryd.func4 (by kernel_rfl)
    (of_decide_eq_true (by kernel_rfl)) (by unfold Func.isWrapper; first | (rw [if_pos (by decide +kernel)]; kernel_rfl) | (rw [if_neg (by decide +kernel)]; exact ⟨rfl, rfl⟩))
    (fun os started H enc _ => judges_lifted os started H enc)
theorem judges_card : Rows.SlotJudgesCardSaid :=
  Claim7.holds_tied_plain_at .later [] [.data] true (true, "30fdee2a9f5b818a4d6c8e0ee227299e584b14f70d542d197cb76125cbd0d4bc") false
    judges_holds (fun _ h => by cases h) (by kernel_rfl) (fun _ h => by cases h) slotJudges_row_tie rfl ⟨rfl, rfl⟩ (by kernel_rfl) rfl
    (fun f fn hf hfn => by
      obtain rfl : f = 4 := Option.some.inj ((show Tryd.prog.funcNamed "exchequer/exchequerlaw07.SlotJudges" = some 4 by kernel_rfl).symm.trans hf) |>.symm
      obtain rfl : fn = Tryd.f4 := (Option.some.inj (Tryd.func4.symm.trans hfn)).symm
      exact ⟨by kernel_rfl, fun j t ht => by
        rw [Tryd.params4] at ht
        have hm : t ∈ [27, 27, 3] := by simpa using Array.mem_of_getElem? ht
        have hall : ([27, 27, 3].all fun u => !Tryd.prog.wantsStandIn u) = true := by kernel_rfl
        exact (show Tryd.prog.wantsStandIn t = false by simpa using List.all_eq_true.1 hall t hm)⟩)
    (by kernel_rfl)
#print axioms judges_card
end Go.Proofs.YtfpgkckcifjkcaaDoor
