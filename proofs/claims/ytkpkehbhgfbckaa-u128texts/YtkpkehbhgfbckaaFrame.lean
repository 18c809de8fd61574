/-
  The frame of the rows' proofs, not a claim by itself: a number of 128 bits as an argument. By the verifier.
-/
import Derived.Test.YtkpkehbhgfbckaaNums
import Derived.ProofKit
import Derived.OpenShut
import Derived.ShutString
import Derived.ChangeOld
import Derived.Below
import Derived.Lib.SmallJoins
namespace Go.Proofs.Ytkpkehbhgfbckaa
open Go.ChangeShapes Go.WideShapes Go.ChangeAt Go.RowKit Go.Joins

theorem own_knob : ownKnob Try.prog.godebug = none := by kernel_rfl
theorem laid_out : laidOutB Try.prog = true := by kernel_rfl
theorem cells_u128 : Try.prog.cellsOf 24 = 2 := by kernel_rfl
theorem word_of_wf {x : Int} (h : (Lit.int .u64 x).wf = true) : Word x := by
  simp [Lit.wf, IntKind.min, IntKind.max, IntKind.signed, IntKind.bits] at h
  exact ⟨by omega, by omega⟩

variable {H : Type} {enc : TypeId × Value → H}

/-- An argument that is a number, opened. -/
theorem open_u128 {W : World} {base : Nat} {sp : Nat → Bool} {v : Value} {d : DataW H} {p : List MemPlace} (hv : Value.okWide Try.prog W .any base 24 v) (h : DataW.Trod enc Try.prog W 0 sp true 24 v d p) :
    ∃ x y : Int, v = U x y ∧ d = .agg [.lit (.int .u64 x), .lit (.int .u64 y)] ∧ p = [] ∧ (Lit.int .u64 x).wf = true ∧ (Lit.int .u64 y).wf = true := by
  obtain ⟨c0, c1, y0, y1, m, rfl, rfl, rfl, hy0, hy1⟩ := open_agg2 Try.underlying24 (by kernel_rfl) cells_u128 hv h
  obtain ⟨a, e0, rfl, wa⟩ := DataW.trod_int Try.underlying22 hy0
  obtain ⟨b, e1, rfl, wb⟩ := DataW.trod_int Try.underlying22 hy1
  simp at e0 e1
  subst e0 e1
  exact ⟨a, b, rfl, rfl, rfl, wa, wb⟩
/-- .. and shut. -/
theorem shut_u128 {W : World} {sp : Nat → Bool} {x y : Int} (wa : (Lit.int .u64 x).wf = true) (wb : (Lit.int .u64 y).wf = true) :
    DataW.Trod enc Try.prog W 0 sp true 24 (U x y) (.agg [.lit (.int .u64 x), .lit (.int .u64 y)]) [] :=
  shut_agg2 (y0 := (.lit (.int .u64 x), [])) (y1 := (.lit (.int .u64 y), [])) Try.underlying24 (by kernel_rfl) cells_u128 ⟨1, by simp [DataW.trod, Try.underlying22, wa]⟩ ⟨1, by simp [DataW.trod, Try.underlying22, wb]⟩
end Go.Proofs.Ytkpkehbhgfbckaa
