/-
  Walks, not a claim by itself: rows of bytes that are made. By the verifier.
-/
import Derived.Test.YtjofoeelkeacgaaRec
import Derived.Deep.OwnRows
namespace Go.Proofs.Ytjofoeelkeacgaa
open Go.RowKit
/-- The cells of n bytes that are made. -/
def zeros (n : Nat) : Array Value := madeCells #[.int .u8 0] n
theorem make_bytes (n : Nat) (h : n ≤ 281474976710656) (w : World) : (Instr.makeSlice 31 (.int .i64 (n : Int)) (.int .i64 (n : Int))).run Try.prog w = .ok (.slice (some ⟨w.heap.size, 0, none⟩) n n) (w.alloc (.cells (zeros n) 5)) :=
  run_make_row' 31 5 (.int .u8 0) 1 Try.underlying31 (by kernel_rfl) rfl .i64 .i64 n (by omega) (by omega) w
theorem zeros_at (n j : Nat) (h : j < n) : (zeros n)[j]? = some (.int .u8 0) := by
  unfold zeros
  simp [madeCells, h, Nat.mod_one]
theorem Row.made (w : World) (n : Nat) (T : TypeId) : Row (w.alloc (.cells (zeros n) T)) w.heap.size n (fun _ => 0) := by
  refine ⟨fun j hj => ?_, fun j => by simp [go_sem], by simp⟩
  rw [World.cell?_alloc_at _ _ _ _ rfl]
  simpa using zeros_at n j hj
end Go.Proofs.Ytjofoeelkeacgaa
