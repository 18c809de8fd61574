/-
  Walks, not a claim by itself: the examples that the laws ask of every program ('awake') come out true. By the verifier.
-/
import Derived.Test.YtlcnhmlcmedonaaABytes
namespace Go.Proofs.Ytlcnhmlcmedonaa
open Go.RowKit
def accEx : Fld := ⟨0, 1, 0, 0, 0, 0, 0, 0, 0, 0, 0, 0, 0, 0, 0, 2, 3, 0, 258⟩
theorem accEx_wf : accEx.wf := by unfold Fld.wf Word accEx; simp
set_option maxRecDepth 100000 in
theorem awake_any (w : World) : Calls Try.prog 12 #[] w fun e w' => e = .returned (.bool true) ∧ Below w.heap.size w w' := by
  go_enter Try.func12, Try.ntmps12
  go_wp2_with fail
  refine (abytes_any accEx _ accEx_wf).mono ?_
  rintro e w1 ⟨b, rfl, _, hR, hB⟩
  have c0 := (hR.1 0 (by decide)).trans (by kernel_rfl : _ = some (Value.int .u8 1))
  have c1 := (hR.1 112 (by decide)).trans (by kernel_rfl : _ = some (Value.int .u8 2))
  have c2 := (hR.1 116 (by decide)).trans (by kernel_rfl : _ = some (Value.int .u8 3))
  have c3 := (hR.1 120 (by decide)).trans (by kernel_rfl : _ = some (Value.int .u8 2))
  have c4 := (hR.1 121 (by decide)).trans (by kernel_rfl : _ = some (Value.int .u8 1))
  have B : Hid (Below w.heap.size w w1) := hB
  clear hR hB
  go_wp2_with fail
  go_ret
  exact ⟨rfl, B.out⟩
end Go.Proofs.Ytlcnhmlcmedonaa
