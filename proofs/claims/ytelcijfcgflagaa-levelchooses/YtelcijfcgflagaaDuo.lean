/-
  Laws for the walk, not a claim by itself: a call and another operation ahead of it in the text, either of which may come up first. By the verifier.
-/
import Derived.Test.YtelcijfcgflagaaReg3
namespace Go.Proofs.Ytelcijfcgflagaa
open Go.RowKit
section
variable {ops : Array Oper} {Q : Exit → Act → World → Prop} {md : Region.Mode} {S : World → Prop}
/-- A call and another operation may come up, the other ahead of it in the text. -/
theorem duo2_at {i j : Nat} {oi o : Oper} {fuel : Nat} {listed : Array Bool} {a : Act} {w : World} (d di : Option Tmp) (f : FuncId) (xs : Array Operand) (tys : Array TypeId) (hi : ops[i]? = some o) (hd : o.dst = d) (hii : ops[j]? = some oi) (hdi : oi.dst = di)
    (hop : o.op = .call { callee := .value (.func f), args := xs, argTypes := tys }) (hw : Region.wanted o (yielded ops a.tmps) = true) (hwi : Region.wanted oi (yielded ops a.tmps) = true) (hr : Region.ready md ops listed = [j, i])
    (vi : Value) (w1 : World) (h1 : (execOp a.eval oi).run Try.prog w = .ok (.value vi) w1) (hS1 : S w1) (k1 : S w1 → wpAnyH Try.prog md ops Q S fuel (listed.setIfInBounds j true) (a.put di vi) w1)
    (vs : Array Value) (hv : xs.toList.map a.eval = vs.toList) {fn : Func} (hf : Try.prog.funcs[f]? = some fn) (hg : (fn.name == "runtime.NumGoroutine") = false) (hb : fn.body.isNone = false)
    (hc : Calls Try.prog f vs w fun e w' => ∃ v, e = .returned v ∧ S w' ∧ (S w' → wpAnyH Try.prog md ops Q S fuel (listed.setIfInBounds i true) (a.put d v) w')) : wpAnyH Try.prog md ops Q S (fuel + 1) listed a w := by
  have hv' : xs.map a.eval = vs := Array.toList_inj.1 (by simpa using hv)
  subst hdi hd hv'
  clear hv
  refine wpAnyH_all hr (by simp) (fun k hk => ?_)
  have hk' : k = i ∨ k = j := (show k = j ∨ k = i by simpa using hk).symm
  rcases hk' with rfl | rfl
  · unfold wpOp
    simp only [hi, hw, if_true]
    refine .inl ?_
    unfold Oper.wp
    have hx : (execOp a.eval o).run Try.prog w = .ok (.enter f (xs.map a.eval)) w := by
      have hg' : ¬ fn.name = "runtime.NumGoroutine" := by simpa using hg
      have hb' : ¬ fn.body = none := fun e => by rw [e] at hb; cases hb
      simp [execOp, hop, resolve, Act.eval, Deferred.ofValue, invoke, callFunc, run_program, hf, hg', hb']
    rw [hx]
    refine hc.mono ?_
    rintro e w' ⟨v, rfl, hS, hn⟩
    exact ⟨hS, hn hS⟩
  · unfold wpOp
    simp only [hii, hwi, if_true]
    refine .inl ?_
    unfold Oper.wp
    rw [h1]
    exact ⟨hS1, k1 hS1⟩
end
end Go.Proofs.Ytelcijfcgflagaa
