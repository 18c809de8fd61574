/-
  Walks, not a claim by itself: rows of bytes that are made. By the verifier.
-/
import Derived.Test.YtlcnhmlcmedonaaBArg
import Derived.Test.YtlcnhmlcmedonaaRec
import Derived.Deep.OwnRows
namespace Go.Proofs.Ytlcnhmlcmedonaa
open Go.RowKit
theorem Row.made (w : World) (n : Nat) (T : TypeId) : Row (w.alloc (.cells (zeros n) T)) w.heap.size n (fun _ => 0) := by
  refine ⟨fun j hj => ?_, fun j => by simp [go_sem], by simp⟩
  rw [World.cell?_alloc_at _ _ _ _ rfl]
  simpa using zeros_at n j hj
end Go.Proofs.Ytlcnhmlcmedonaa
