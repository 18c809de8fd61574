/-
  Walks, not a claim by itself: what the methods answer of a nil Disk and of a zero Disk; DiskNone. By the verifier.
-/
import Derived.Test.YtoehbljnapdbgaaEAwake
namespace Go.Proofs.Ytoehbljnapdbgaa
open Go.RowKit Go.Maps
/-- A pointer that is nil, or is to a zero Disk. -/
def NoD (W : World) (p : Option Addr) : Prop := p = none ∨ ∃ z, p = some ⟨z, 0, none⟩ ∧ W.cell? ⟨z, 0, none⟩ = some (.pointer none) ∧ z < W.heap.size
theorem NoD.below {W W' : World} {p : Option Addr} (h : NoD W p) (hB : Below W.heap.size W W') : NoD W' p := by
  rcases h with rfl | ⟨z, rfl, c, l⟩
  · exact .inl rfl
  · exact .inr ⟨z, rfl, (hB.cell (p := ⟨z, 0, none⟩) l).trans c, Nat.lt_of_lt_of_le l hB.size⟩
theorem made_none (W : World) (p : Option Addr) (h : NoD W p) : Calls Try.prog 55 #[.pointer p] W fun e w' => e = .returned (.bool false) ∧ w' = W := by
  rcases h with rfl | ⟨z, rfl, c, _⟩
  · exact made_nil W
  · exact made_no W z c
theorem ready_no (W : World) (p : Option Addr) (h : NoD W p) : Calls Try.prog 47 #[.pointer p] W fun e w' => e = .returned (.int .i64 1) ∧ w' = W := by
  have MD : Hid (Calls Try.prog 55 #[.pointer p] W fun e w' => e = .returned (.bool false) ∧ w' = W) := made_none W p h
  clear h
  go_enter Try.func47, Try.ntmps47
  go_wp2_with (go_at_call 55; refine MD.out.mono ?_; rintro e w1 ⟨rfl, rfl⟩)
  go_ret
  exact ⟨rfl, rfl⟩
theorem sectors_no (W : World) (p : Option Addr) (h : NoD W p) : Calls Try.prog 17 #[.pointer p] W fun e w' => e = .returned (.int .i64 0) ∧ w' = W := by
  have MD : Hid (Calls Try.prog 55 #[.pointer p] W fun e w' => e = .returned (.bool false) ∧ w' = W) := made_none W p h
  clear h
  go_enter Try.func17, Try.ntmps17
  go_wp2_with (go_at_call 55; refine MD.out.mono ?_; rintro e w1 ⟨rfl, rfl⟩)
  go_ret
  exact ⟨rfl, rfl⟩
theorem ops_no (W : World) (p : Option Addr) (h : NoD W p) : Calls Try.prog 19 #[.pointer p] W fun e w' => e = .returned (.int .i64 0) ∧ w' = W := by
  have MD : Hid (Calls Try.prog 55 #[.pointer p] W fun e w' => e = .returned (.bool false) ∧ w' = W) := made_none W p h
  clear h
  go_enter Try.func19, Try.ntmps19
  go_wp2_with (go_at_call 55; refine MD.out.mono ?_; rintro e w1 ⟨rfl, rfl⟩)
  go_ret
  exact ⟨rfl, rfl⟩
theorem up_no (W : World) (p : Option Addr) (h : NoD W p) : Calls Try.prog 20 #[.pointer p] W fun e w' => e = .returned (.bool false) ∧ w' = W := by
  have MD : Hid (Calls Try.prog 55 #[.pointer p] W fun e w' => e = .returned (.bool false) ∧ w' = W) := made_none W p h
  clear h
  go_enter Try.func20, Try.ntmps20
  go_wp2_with (go_at_call 55; refine MD.out.mono ?_; rintro e w1 ⟨rfl, rfl⟩)
  go_ret
  exact ⟨rfl, rfl⟩
theorem loose_no (W : World) (p : Option Addr) (h : NoD W p) : Calls Try.prog 18 #[.pointer p] W fun e w' => e = .returned (.slice none 0 0) ∧ w' = W := by
  have MD : Hid (Calls Try.prog 55 #[.pointer p] W fun e w' => e = .returned (.bool false) ∧ w' = W) := made_none W p h
  clear h
  go_enter Try.func18, Try.ntmps18
  go_wp2_with (go_at_call 55; refine MD.out.mono ?_; rintro e w1 ⟨rfl, rfl⟩)
  go_ret
  exact ⟨rfl, rfl⟩
theorem clone_no (W : World) (p : Option Addr) (h : NoD W p) : Calls Try.prog 21 #[.pointer p] W fun e w' => e = .returned (.pointer none) ∧ w' = W := by
  have MD : Hid (Calls Try.prog 55 #[.pointer p] W fun e w' => e = .returned (.bool false) ∧ w' = W) := made_none W p h
  clear h
  go_enter Try.func21, Try.ntmps21
  go_wp2_with (go_at_call 55; refine MD.out.mono ?_; rintro e w1 ⟨rfl, rfl⟩)
  go_ret
  exact ⟨rfl, rfl⟩
theorem turn_no (W : World) (p : Option Addr) (x q v : Int) (h : NoD W p) : Calls Try.prog 15 #[.pointer p, .int .i64 x, .int .i64 q, .int .u8 v] W fun e w' => e = .returned (.int .i64 1) ∧ w' = W := by
  have MD : Hid (Calls Try.prog 55 #[.pointer p] W fun e w' => e = .returned (.bool false) ∧ w' = W) := made_none W p h
  clear h
  go_enter Try.func15, Try.ntmps15
  go_wp2_with (go_at_call 55; refine MD.out.mono ?_; rintro e w1 ⟨rfl, rfl⟩)
  go_ret
  exact ⟨rfl, rfl⟩
theorem crash_no (W : World) (p : Option Addr) (k : Option Addr) (n C : Nat) (t : Int) (h : NoD W p) : Calls Try.prog 16 #[.pointer p, .slice k n C, .int .i64 t] W fun e w' => e = .returned (.int .i64 1) ∧ w' = W := by
  have MD : Hid (Calls Try.prog 55 #[.pointer p] W fun e w' => e = .returned (.bool false) ∧ w' = W) := made_none W p h
  clear h
  go_enter Try.func16, Try.ntmps16
  go_wp2_with (go_at_call 55; refine MD.out.mono ?_; rintro e w1 ⟨rfl, rfl⟩)
  go_ret
  exact ⟨rfl, rfl⟩
theorem read_no (W : World) (p : Option Addr) (x n : Int) (h : NoD W p) : Calls Try.prog 12 #[.pointer p, .int .i64 x, .int .i64 n] W fun e w' => e = .returned (.tuple #[.slice none 0 0, .int .i64 1]) ∧ w' = W := by
  have MD : Hid (Calls Try.prog 47 #[.pointer p] W fun e w' => e = .returned (.int .i64 1) ∧ w' = W) := ready_no W p h
  clear h
  go_enter Try.func12, Try.ntmps12
  go_wp2_with (go_at_call 47; refine MD.out.mono ?_; rintro e w1 ⟨rfl, rfl⟩)
  exact bodyPost_ret (by simp [results, Try.results12, go_sem]) rfl ⟨rfl, rfl⟩
theorem flush_no (W : World) (p : Option Addr) (h : NoD W p) : Calls Try.prog 14 #[.pointer p] W fun e w' => e = .returned (.int .i64 1) ∧ Below W.heap.size W w' := by
  have B0 : Below W.heap.size W (W.alloc (.cells #[.pointer p] 33)) := (Below.refl _ _).alloc (Nat.le_refl _) _
  have MD : Hid (Calls Try.prog 47 #[.pointer p] (W.alloc (.cells #[.pointer p] 33)) fun e w' => e = .returned (.int .i64 1) ∧ w' = W.alloc (.cells #[.pointer p] 33)) := ready_no _ p (h.below B0)
  have BB : Hid (Below W.heap.size W (W.alloc (.cells #[.pointer p] 33))) := B0
  clear h B0
  go_enter Try.func14, Try.ntmps14
  go_wp2_with (go_at_call 47; refine MD.out.mono ?_; rintro e w1 ⟨rfl, rfl⟩)
  go_ret
  exact ⟨rfl, BB.out⟩
theorem write_no (W : World) (p a : Option Addr) (x : Int) (n C : Nat) (h : NoD W p) : Calls Try.prog 13 #[.pointer p, .int .i64 x, .slice a n C] W fun e w' => e = .returned (.int .i64 1) ∧ Below W.heap.size W w' := by
  obtain ⟨W1, hW1⟩ : ∃ W1, ((W.alloc (.cells #[.pointer p] 33)).alloc (.cells #[.int .i64 x] 3)).alloc (.cells #[.slice a n C] 26) = W1 := ⟨_, rfl⟩
  have B0 : Below W.heap.size W (((W.alloc (.cells #[.pointer p] 33)).alloc (.cells #[.int .i64 x] 3)).alloc (.cells #[.slice a n C] 26)) := (((Below.refl _ _).alloc (Nat.le_refl _) _).alloc (by simp) _).alloc (by simp; omega) _
  have MD : Hid (Calls Try.prog 47 #[.pointer p] (((W.alloc (.cells #[.pointer p] 33)).alloc (.cells #[.int .i64 x] 3)).alloc (.cells #[.slice a n C] 26)) fun e w' => e = .returned (.int .i64 1) ∧ w' = ((W.alloc (.cells #[.pointer p] 33)).alloc (.cells #[.int .i64 x] 3)).alloc (.cells #[.slice a n C] 26)) := ready_no _ p (h.below B0)
  have BB : Hid (Below W.heap.size W (((W.alloc (.cells #[.pointer p] 33)).alloc (.cells #[.int .i64 x] 3)).alloc (.cells #[.slice a n C] 26))) := B0
  clear h B0 hW1 W1
  go_enter Try.func13, Try.ntmps13
  go_wp2_with (go_at_call 47; refine MD.out.mono ?_; rintro e w1 ⟨rfl, rfl⟩)
  go_ret
  exact ⟨rfl, BB.out⟩
def fnoRel (w : World) (i : Value) (wr : World) : Prop := i = .int .i64 0 ∧ w = wr
set_option maxRecDepth 100000 in
theorem fuse_no (W : World) (p : Option Addr) (b C : Nat) (x : Int) (h : NoD W p) (hb : W.cell? ⟨b, 0, none⟩ = some (.pointer p)) : Calls Try.prog 22 #[.slice (some ⟨b, 0, none⟩) 1 C, .int .i64 x] W fun e w' => e = .returned (.int .i64 1) ∧ w' = W := by
  have MD : Hid (Calls Try.prog 55 #[.pointer p] W fun e w' => e = .returned (.bool false) ∧ w' = W) := made_none W p h
  clear h
  go_enter Try.func22, Try.ntmps22
  go_wp2_with fail
  go_loopw [12] (fun i wr => fnoRel W i wr) (fun _ _ => 1)
  case atStart => exact ⟨rfl, rfl⟩
  case round =>
    obtain ⟨rfl, rfl⟩ := hrel
    go_wp2_with (go_at_call 55; refine MD.out.mono ?_; rintro e w1 ⟨rfl, rfl⟩)
    go_ret
    exact ⟨rfl, rfl⟩
end Go.Proofs.Ytoehbljnapdbgaa
