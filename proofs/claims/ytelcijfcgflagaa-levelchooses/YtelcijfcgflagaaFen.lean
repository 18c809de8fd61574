/-
  Laws, not a claim by itself: operations on whole structs and rows in a fence. By the verifier.
-/
import Derived.Test.YtelcijfcgflagaaIter
import Derived.Test.YtelcijfcgflagaaReg2
namespace Go.Proofs.Ytelcijfcgflagaa
open Go.RowKit Go.Shelf
attribute [local go_sem] Oper.semAt_some
section
variable {F : Fence} {n : Nat} {ops : Array Oper} {rest : List Oper} {o : Oper} {a : Act} {w w' : World} {Q : Exit → Act → World → Prop}
/-- An operation in a fence, its run known. -/
theorem fen_run (hg : o.guard = none) (hd : ∀ c, o.op ≠ .defer c) (ha : o.about Try.prog w a.eval = none) (v : Value) (hx : (execOp a.eval o).run Try.prog w = .ok (.value v) w') (hK : wpListIn F n Try.prog ops Q rest (a.put o.dst v) w') : wpListIn F n Try.prog ops Q (o :: rest) a w := by
  refine wpListIn_plain hg fun K hK' => ?_
  unfold Oper.wpIn
  refine ⟨fun f hf => (by rw [ha] at hf; cases hf), ?_⟩
  rw [Oper.semAt_plain F _ _ hd, hx]
  exact hK' _ _ hK
theorem fen_mute (hg : o.guard = none) (hd : ∀ c, o.op ≠ .defer c) (ha : o.about Try.prog w a.eval = none) (hx : (execOp a.eval o).run Try.prog w = .ok .skip w') (hK : wpListIn F n Try.prog ops Q rest (a.put o.dst undef) w') : wpListIn F n Try.prog ops Q (o :: rest) a w := by
  refine wpListIn_plain hg fun K hK' => ?_
  unfold Oper.wpIn
  refine ⟨fun f hf => (by rw [ha] at hf; cases hf), ?_⟩
  rw [Oper.semAt_plain F _ _ hd, hx]
  exact hK' _ _ hK
/-- A struct is boxed. -/
theorem fen_box (hg : o.guard = none) (ty : TypeId) (x : Operand) (ho : o.op = .box ty x) (cs : List Value) (H : Nat) (hH : w.heap.size = H) (hx : a.eval x = .agg cs.toArray)
    (hK : ∀ W, Rec19 W H 0 cs → Below H w W → W.heap.size = H + 1 → wpListIn F n Try.prog ops Q rest (a.put o.dst (.pointer (some ⟨H, 0, none⟩))) W) : wpListIn F n Try.prog ops Q (o :: rest) a w := by
  subst hH
  refine fen_run hg (by rw [ho]; intro c hc; cases hc) (by simp [Oper.about, ho]) (.pointer (some ⟨w.heap.size, 0, none⟩)) (w' := w.alloc (.cells cs.toArray ty)) ?_ (hK _ (Rec19.new w ty cs) ((Below.refl _ _).alloc (Nat.le_refl _) _) (by simp))
  unfold execOp
  simp only [ho, hx]
  simp [Instr.box, newVar, newRow, Value.cells, Result.andThen]
/-- A whole array or struct is loaded. -/
theorem fen_load (hg : o.guard = none) (ty : TypeId) (x : Operand) (ho : o.op = .load ty x)
    (b off : Nat) (cs : List Value) (hx : a.eval x = .pointer (some ⟨b, off, none⟩)) (d : TypeDesc) (hr : w.rangeAt b off cs) (hu : Try.prog.underlying ty = some d) (hd : d.isRow = true) (hi : (Try.prog.info? ty).map (·.size) = some cs.length)
    (hK : wpListIn F n Try.prog ops Q rest (a.put o.dst (.agg cs.toArray)) w) : wpListIn F n Try.prog ops Q (o :: rest) a w :=
  fen_run hg (by rw [ho]; intro c hc; cases hc) (by simp [Oper.about, ho]) _ (rowload_run ty x ho b off cs hx d hr hu hd hi) hK
/-- A struct is built. -/
theorem fen_build (hg : o.guard = none) (t : TypeId) (parts : Array (Nat × Operand)) (ho : o.op = .build t parts) (cells : Array Value) (hf : Try.prog.built t (parts.map fun (i, x) => (i, a.eval x)).toList = some cells)
    (hK : wpListIn F n Try.prog ops Q rest (a.put o.dst (.agg cells)) w) : wpListIn F n Try.prog ops Q (o :: rest) a w :=
  fen_run hg (by rw [ho]; intro c hc; cases hc) (by simp [Oper.about, ho]) _ (bld_run t parts ho cells hf) hK
end
end Go.Proofs.Ytelcijfcgflagaa
