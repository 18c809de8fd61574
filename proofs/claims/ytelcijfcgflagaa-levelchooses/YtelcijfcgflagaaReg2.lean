/-
  Laws for the walk, not a claim by itself: stores, whole loads and two ready operations in a region that draws its order. By the verifier.
-/
import Derived.Test.YtelcijfcgflagaaReg
namespace Go.Proofs.Ytelcijfcgflagaa
open Go.RowKit
section
variable {ops : Array Oper} {Q : Exit → Act → World → Prop} {md : Region.Mode} {S : World → Prop}
/-- A store that alone may come up. -/
theorem mute_at {i : Nat} {o : Oper} {fuel : Nat} {listed : Array Bool} {a : Act} {w : World} (d : Option Tmp) (hi : ops[i]? = some o) (hd : o.dst = d) (hw : Region.wanted o (yielded ops a.tmps) = true) (hr : Region.ready md ops listed = [i])
    (w' : World) (hx : (execOp a.eval o).run Try.prog w = .ok .skip w') (hS : S w') (h : S w' → wpAnyH Try.prog md ops Q S fuel (listed.setIfInBounds i true) (a.put d undef) w') : wpAnyH Try.prog md ops Q S (fuel + 1) listed a w := by
  subst hd
  refine wpAnyH_all hr (by simp) (fun j hj => ?_)
  obtain rfl : j = i := by simpa using hj
  unfold wpOp
  simp only [hi, hw, if_true]
  refine .inl ?_
  unfold Oper.wp
  rw [hx]
  exact ⟨hS, h hS⟩
/-- Either of two operations may come up. -/
theorem pair_at {i j : Nat} {oi oj : Oper} {fuel : Nat} {listed : Array Bool} {a : Act} {w : World} (di dj : Option Tmp) (hi : ops[i]? = some oi) (hj : ops[j]? = some oj) (hdi : oi.dst = di) (hdj : oj.dst = dj)
    (hr : Region.ready md ops listed = [i, j]) (hwi : Region.wanted oi (yielded ops a.tmps) = true) (hwj : Region.wanted oj (yielded ops a.tmps) = true)
    (vi vj : Value) (w1 w1' : World) (h1 : (execOp a.eval oi).run Try.prog w = .ok (.value vi) w1) (h1' : (execOp a.eval oj).run Try.prog w = .ok (.value vj) w1') (hS : S w1 ∧ S w1')
    (k1 : S w1 → wpAnyH Try.prog md ops Q S fuel (listed.setIfInBounds i true) (a.put di vi) w1)
    (k2 : S w1' → wpAnyH Try.prog md ops Q S fuel (listed.setIfInBounds j true) (a.put dj vj) w1') : wpAnyH Try.prog md ops Q S (fuel + 1) listed a w := by
  subst hdi hdj
  refine wpAnyH_all hr (by simp) (fun k hk => ?_)
  have hk' : k = i ∨ k = j := by simpa using hk
  rcases hk' with rfl | rfl
  · unfold wpOp
    simp only [hi, hwi, if_true]
    refine .inl ?_
    unfold Oper.wp
    rw [h1]
    exact ⟨hS.1, k1 hS.1⟩
  · unfold wpOp
    simp only [hj, hwj, if_true]
    refine .inl ?_
    unfold Oper.wp
    rw [h1']
    exact ⟨hS.2, k2 hS.2⟩
end
section
variable {o : Oper} {a : Act} {w : World}
theorem rowload_run (ty : TypeId) (x : Operand) (ho : o.op = .load ty x) (b off : Nat) (cs : List Value) (hx : a.eval x = .pointer (some ⟨b, off, none⟩)) (d : TypeDesc) (hr : w.rangeAt b off cs) (hu : Try.prog.underlying ty = some d) (hd : d.isRow = true) (hi : (Try.prog.info? ty).map (·.size) = some cs.length) :
    (execOp a.eval o).run Try.prog w = .ok (.value (.agg cs.toArray)) w := by
  unfold execOp
  simp only [ho, hx, Instr.loadAt, Instr.sureAddr, Sem.run_bind, Sem.run_pure, Result.andThen_ok, run_loadVar_mid w b off ty cs d hr hu hd hi]
theorem bld_run (t : TypeId) (parts : Array (Nat × Operand)) (ho : o.op = .build t parts) (cells : Array Value) (hf : Try.prog.built t (parts.map fun (i, x) => (i, a.eval x)).toList = some cells) :
    (execOp a.eval o).run Try.prog w = .ok (.value (.agg cells)) w := by
  unfold execOp
  simp only [ho, Sem.run_bind, run_build w t _ cells hf, Result.andThen_ok]
  rfl
theorem put_mute (t : TypeId) (x v : Operand) (hop : o.op = .store t x v) (X V : Value) (hx : a.eval x = X) (hv : a.eval v = V) {w' : World} (hr : (Instr.storeAt t X V).run Try.prog w = .ok () w') :
    (execOp a.eval o).run Try.prog w = .ok .skip w' := by
  simp [execOp, hop, hx, hv, hr, Result.andThen]
end
end Go.Proofs.Ytelcijfcgflagaa
