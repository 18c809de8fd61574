/-
  Laws for the walk, not a claim by itself: steps of a region that draws its order where several operations may come up. By the verifier.
-/
import Derived.Test.YtblphlcnbnklmaaGreatDoorBase
import Derived.Test.YtblphlcnbnklmaaGreatDoorReg
namespace Go.Proofs.YtblphlcnbnklmaaGreatDoor
open Go.RowKit
section
variable {ops : Array Oper} {Q : Exit → Act → World → Prop} {md : Region.Mode} {S : World → Prop}
/-- A new row comes up: its block and the world behind it are letters. -/
theorem all_alloc {i : Nat} {o : Oper} {rs : List Nat} {fuel : Nat} {listed : Array Bool} {a : Act} {w : World} (d : Option Tmp) (ty : TypeId) (ho : ops[i]? = some o) (hd : o.dst = d) (hop : o.op = .alloc ty) (hw : Region.wanted o (yielded ops a.tmps) = true)
    (k : IntKind) (N : Nat) (hz : (Tryz.prog.info? ty).bind (·.zero) = some (.agg (cl k N fun _ => 0).toArray))
    (h : ∀ (X : Nat) (W : World), w.heap.size ≤ X → IRow W X k N (fun _ => 0) → Below w.heap.size w W → S W ∧ (S W → wpAnyH Tryz.prog md ops Q S fuel (listed.setIfInBounds i true) (a.put d (.pointer (some ⟨X, 0, none⟩))) W))
    (hs : AllReadyH Tryz.prog md ops Q S fuel listed a w rs) : AllReadyH Tryz.prog md ops Q S fuel listed a w (i :: rs) := by
  subst hd
  refine AllReadyH.cons ho (fun K hK => ?_) hs
  rw [if_pos hw]
  unfold Oper.wp execOp
  cases hi : Tryz.prog.info? ty with
  | none => simp [hi] at hz
  | some i =>
    have hz' : i.zero = some (.agg (cl k N fun _ => 0).toArray) := by simpa [hi] using hz
    have h' := h w.heap.size _ (Nat.le_refl _) (IRow.new w ty k N fun _ => 0) ((Below.refl _ _).alloc (Nat.le_refl _) _)
    simp only [hop]
    simp [Instr.alloc, zeroValue, typeInfo, hi, hz', newVar, newRow, Value.cells, Result.andThen]
    exact hK.out _ _ h'.1 h'.2
/-- A whole row is stored. -/
theorem all_store {i : Nat} {o : Oper} {rs : List Nat} {fuel : Nat} {listed : Array Bool} {a : Act} {w : World} (d : Option Tmp) (ty : TypeId) (x y : Operand) (ho : ops[i]? = some o) (hd : o.dst = d) (hop : o.op = .store ty x y) (hw : Region.wanted o (yielded ops a.tmps) = true)
    (b : Nat) (k : IntKind) (N : Nat) (f g : Nat → Int) (hx : a.eval x = .pointer (some ⟨b, 0, none⟩)) (hy : a.eval y = .agg (cl k N f).toArray)
    (hr : IRow w b k N g) (hi : (Tryz.prog.info? ty).map (·.size) = some N)
    (h : ∀ W : World, IRow W b k N f → But b w W → S W ∧ (S W → wpAnyH Tryz.prog md ops Q S fuel (listed.setIfInBounds i true) (a.put d undef) W))
    (hs : AllReadyH Tryz.prog md ops Q S fuel listed a w rs) : AllReadyH Tryz.prog md ops Q S fuel listed a w (i :: rs) := by
  subst hd
  refine AllReadyH.cons ho (fun K hK => ?_) hs
  rw [if_pos hw]
  have h0 : IRow (w.setCells b 0 (cl k N f)) b k N f := by
    have := hr.rec.store (cl k N f) (by rw [cl_len, cl_len])
    refine ⟨fun j hj => ?_, fun j => by rw [World.frozen?_setCells]; exact hr.2.1 j, this.2.2⟩
    have := this.1 j _ (cl_at k N f j hj)
    rw [Nat.zero_add] at this
    exact this
  refine wp_store_mid ty x y hop b 0 (cl k N f).toArray hx hy ?_ ?_ (all_oneCell_toArray (cl_one k N f)) ?_
  · have := hr.rec.2.1; rw [cl_len] at this; simpa [cl_len] using this
  · simpa [cl_len] using hi
  · have h' := h _ h0 (But.cells _ _ _)
    exact hK.out _ _ h'.1 h'.2
/-- A call. -/
theorem all_call {i : Nat} {o : Oper} {rs : List Nat} {fuel : Nat} {listed : Array Bool} {a : Act} {w : World} (d : Option Tmp) (f : FuncId) (xs : Array Operand) (tys : Array TypeId) (ho : ops[i]? = some o) (hd : o.dst = d)
    (hop : o.op = .call { callee := .value (.func f), args := xs, argTypes := tys }) (hw : Region.wanted o (yielded ops a.tmps) = true)
    (vs : Array Value) (hv : xs.toList.map a.eval = vs.toList) {fn : Func} (hf : Tryz.prog.funcs[f]? = some fn) (hg : (fn.name == "runtime.NumGoroutine") = false) (hb : fn.body.isNone = false)
    (hc : Calls Tryz.prog f vs w fun e w' => ∃ v, e = .returned v ∧ S w' ∧ (S w' → wpAnyH Tryz.prog md ops Q S fuel (listed.setIfInBounds i true) (a.put d v) w'))
    (hs : AllReadyH Tryz.prog md ops Q S fuel listed a w rs) : AllReadyH Tryz.prog md ops Q S fuel listed a w (i :: rs) := by
  have hv' : xs.map a.eval = vs := Array.toList_inj.1 (by simpa using hv)
  subst hd hv'
  clear hv
  refine AllReadyH.cons ho (fun K hK => ?_) hs
  rw [if_pos hw]
  unfold Oper.wp
  have hx : (execOp a.eval o).run Tryz.prog w = .ok (.enter f (xs.map a.eval)) w := by
    have hg' : ¬ fn.name = "runtime.NumGoroutine" := by simpa using hg
    have hb' : ¬ fn.body = none := fun e => by rw [e] at hb; cases hb
    simp [execOp, hop, resolve, Act.eval, Deferred.ofValue, invoke, callFunc, run_program, hf, hg', hb']
  rw [hx]
  refine hc.mono ?_
  rintro e w' ⟨v, rfl, hS, hn⟩
  exact hK.out _ _ hS hn
end
end Go.Proofs.YtblphlcnbnklmaaGreatDoor
