/-
  Plain facts and laws for the walk, not a claim by itself: records held against one another. By the verifier.
-/
import Derived.Test.YtlcnhmlcmedonaaOfParts
namespace Go.Proofs.Ytlcnhmlcmedonaa
open Go.RowKit
set_option maxRecDepth 100000 in
set_option maxHeartbeats 2000000 in
theorem eql_acc (a : Fld) (w : World) : (binOp .eql 28 (.agg a.cells.toArray) (.agg a.cells.toArray)).run Try.prog w = .ok (.bool true) w := by
  simp [go_sem, Fld.cells]
set_option maxRecDepth 100000 in
set_option maxHeartbeats 2000000 in
theorem eql_tr (a : Fld) (w : World) : (binOp .eql 30 (.agg a.cells.toArray) (.agg a.cells.toArray)).run Try.prog w = .ok (.bool true) w := by
  simp [go_sem, Fld.cells]
theorem guard_acc : Try.prog.eqGuardType Try.prog.depth 28 = false := by kernel_rfl
theorem guard_tr : Try.prog.eqGuardType Try.prog.depth 30 = false := by kernel_rfl
theorem wpList_load_w {ops : Array Oper} {rest : List Oper} {op : Oper} {a : Act} {w : World} {Q : Exit → Act → World → Prop} (hw : Region.wanted op (yielded ops a.tmps) = true) (ty : TypeId) (x : Operand) (ho : op.op = .load ty x)
    (n o : Nat) (cs : List Value) (hx : a.eval x = .pointer (some ⟨n, o, none⟩)) (d : TypeDesc) (hu : Try.prog.underlying ty = some d) (hd : d.isRow = true) (hi : (Try.prog.info? ty).map (·.size) = some cs.length)
    (h : Rec19 w n o cs) (hK : wpList Try.prog ops Q rest (a.put op.dst (.agg cs.toArray)) w) : wpList Try.prog ops Q (op :: rest) a w := by
  refine wpList_step fun K hK' => ?_
  rw [if_pos hw]
  exact wp_load_mid (P := Try.prog) ty x ho n o hx cs d h.1 hu hd hi (hK' _ _ hK)
theorem wpList_eql_w {ops : Array Oper} {rest : List Oper} {op : Oper} {a : Act} {w : World} {Q : Exit → Act → World → Prop} (hw : Region.wanted op (yielded ops a.tmps) = true) (t t' : TypeId) (x y : Operand) (ho : op.op = .binOp .eql t x y t')
    (X : Array Value) (hx : a.eval x = .agg X) (hy : a.eval y = .agg X) (he : ∀ w, (binOp .eql t (.agg X) (.agg X)).run Try.prog w = .ok (.bool true) w) (hg : Try.prog.eqGuardType Try.prog.depth t = false)
    (hK : wpList Try.prog ops Q rest (a.put op.dst (.bool true)) w) : wpList Try.prog ops Q (op :: rest) a w := by
  refine wpList_step fun K hK' => ?_
  rw [if_pos hw]
  unfold Oper.wp execOp
  simp only [ho, hx, hy, Sem.run_bind, run_eqGuard_agg _ _ _ _ _ _ _ hg, Result.andThen_ok, he]
  exact hK' _ _ hK
end Go.Proofs.Ytlcnhmlcmedonaa
