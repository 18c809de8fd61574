
/-
  Walks, not a claim by itself: the kit's CopyBytes. By the verifier.
-/
import Derived.Test.YtkncnpjhfcfmnaaDoorBApp
namespace Go.Proofs.YtkncnpjhfcfmnaaDoor
open Go.RowKit
/-- What CopyBytes answers. -/
def CopyPost (w : World) (n : Nat) (f : Nat → Int) (e : Ending) (w' : World) : Prop := ∃ v, e = .returned v ∧ Own w' w.heap.size v n f ∧ Below w.heap.size w w'
end Go.Proofs.YtkncnpjhfcfmnaaDoor
