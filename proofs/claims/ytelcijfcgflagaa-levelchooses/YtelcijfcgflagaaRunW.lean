/-
  A law for the walk, not a claim by itself: an operation whose run is known. By the verifier.
-/
import Derived.Test.YtelcijfcgflagaaRecs
namespace Go.Proofs.Ytelcijfcgflagaa
open Go.RowKit
section
variable {ops : Array Oper} {rest : List Oper} {o : Oper} {a : Act} {w : World} {Q : Exit → Act → World → Prop}
/-- An operation whose run is known. -/
theorem wpList_run_w (hw : Region.wanted o (yielded ops a.tmps) = true) (v : Value) (w' : World) (hx : (execOp a.eval o).run Try.prog w = .ok (.value v) w') (hK : wpList Try.prog ops Q rest (a.put o.dst v) w') : wpList Try.prog ops Q (o :: rest) a w := by
  refine wpList_step fun K hK' => ?_
  rw [if_pos hw]
  unfold Oper.wp
  rw [hx]
  exact hK' _ _ hK
end
end Go.Proofs.Ytelcijfcgflagaa
