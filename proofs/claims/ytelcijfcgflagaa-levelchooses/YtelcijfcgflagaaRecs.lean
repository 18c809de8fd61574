/-
  Laws for the walk, not a claim by itself: records that are boxed, made, stored in part; slices built of values. By the verifier.
-/
import Derived.Test.YtelcijfcgflagaaOff
import Derived.Great.BuildSlice
namespace Go.Proofs.Ytelcijfcgflagaa
open Go.RowKit
theorem below_sh {B : Nat} {u v w : World} (hB : B ≤ u.heap.size) (h : Below B u v) (k : Below v.heap.size v w) : Below B u w := h.trans (k.mono (Nat.le_trans hB h.size))
/-- A parameter of several cells is boxed: the world behind it is a letter. -/
theorem wpList_box_rec {ops : Array Oper} {rest : List Oper} {op : Oper} {a : Act} {w : World} {Q : Exit → Act → World → Prop} (hgd : op.guard = none) (ty : TypeId) (x : Operand) (ho : op.op = .box ty x) (cs : List Value) (hx : a.eval x = .agg cs.toArray) (H : Nat) (hH : w.heap.size = H)
    (hK : ∀ W, Rec19 W H 0 cs → Below H w W → W.heap.size = H + 1 → wpList Try.prog ops Q rest (a.put op.dst (.pointer (some ⟨H, 0, none⟩))) W) : wpList Try.prog ops Q (op :: rest) a w := by
  subst hH
  refine wpList_plain hgd fun K hK' => ?_
  unfold Oper.wp execOp
  simp only [ho, hx]
  simp [Instr.box, newVar, newRow, Value.cells, Result.andThen]
  exact hK' _ _ (hK _ (Rec19.new w ty cs) ((Below.refl _ _).alloc (Nat.le_refl _) _) (by simp))
/-- A new variable of several cells: the world behind it is a letter. -/
theorem wpList_alloc_rec {ops : Array Oper} {rest : List Oper} {op : Oper} {a : Act} {w : World} {Q : Exit → Act → World → Prop} (hgd : op.guard = none) (ty : TypeId) (ho : op.op = .alloc ty) (cs : List Value) (H : Nat) (hH : w.heap.size = H)
    (hz : (Try.prog.info? ty).bind (·.zero) = some (.agg cs.toArray))
    (hK : ∀ W, Rec19 W H 0 cs → Below H w W → W.heap.size = H + 1 → wpList Try.prog ops Q rest (a.put op.dst (.pointer (some ⟨H, 0, none⟩))) W) : wpList Try.prog ops Q (op :: rest) a w := by
  subst hH
  refine wpList_plain hgd fun K hK' => ?_
  unfold Oper.wp execOp
  cases hi : Try.prog.info? ty with
  | none => simp [hi] at hz
  | some i =>
    have hz' : i.zero = some (.agg cs.toArray) := by simpa [hi] using hz
    simp only [ho]
    simp [Instr.alloc, zeroValue, typeInfo, hi, hz', newVar, newRow, Value.cells, Result.andThen]
    exact hK' _ _ (hK _ (Rec19.new w ty cs) ((Below.refl _ _).alloc (Nat.le_refl _) _) (by simp))
/-- cs with vs laid over it from o on. -/
def laidL (cs : List Value) (o : Nat) (vs : List Value) : List Value := cs.take o ++ vs ++ cs.drop (o + vs.length)
theorem laidL_len (cs : List Value) (o : Nat) (vs : List Value) (h : o + vs.length ≤ cs.length) : (laidL cs o vs).length = cs.length := by
  unfold laidL; simp; omega
theorem Rec19.lay {W : World} {n : Nat} {cs : List Value} (h : Rec19 W n 0 cs) (o : Nat) (vs : List Value) (ho : o + vs.length ≤ cs.length) : Rec19 (W.setCells n o vs) n 0 (laidL cs o vs) := by
  refine ⟨fun j v hj => ?_, ?_, by rw [size_cells]; exact h.2.2⟩
  · rw [Nat.zero_add]
    have hl : j < cs.length := by rw [← laidL_len cs o vs ho]; exact (List.getElem?_eq_some_iff.1 hj).1
    unfold laidL at hj
    by_cases a : o ≤ j ∧ j < o + vs.length
    · have := World.cell?_setCells_in n vs o W (fun i hi => by have := (h.2.1 (o + i) (by omega)).1; rwa [Nat.zero_add] at this) (j - o) (by omega)
      rw [show o + (j - o) = j by omega] at this
      rw [this, ← hj, List.append_assoc, List.getElem?_append_right (by simp; omega), List.getElem?_append_left (by simp; omega), List.length_take, Nat.min_eq_left (by omega), List.getElem?_eq_getElem (by omega)]
    · rw [World.cell?_setCells_out n _ _ _ _ (fun _ _ => by show j < o ∨ o + vs.length ≤ j; omega)]
      have c : ∀ u, cs[j]? = some u → W.cell? ⟨n, j, none⟩ = some u := fun u hu => by have := h.1 j u hu; rwa [Nat.zero_add] at this
      apply c
      rw [← hj]
      by_cases b : j < o
      · rw [List.append_assoc, List.getElem?_append_left (by simp; omega), List.getElem?_take, if_pos b]
      · rw [List.getElem?_append_right (by simp; omega), List.getElem?_drop]
        congr 1
        simp
        omega
  · intro j hj
    rw [laidL_len cs o vs ho] at hj
    exact World.there_setCells h.2.1 n o vs j hj
/-- A part of a record is stored: the world behind it is a letter. -/
theorem wpList_put_rec {ops : Array Oper} {rest : List Oper} {op : Oper} {a : Act} {w : World} {Q : Exit → Act → World → Prop} (hgd : op.guard = none) (ty : TypeId) (x y : Operand) (ho : op.op = .store ty x y)
    (n o : Nat) (cs vs cs' : List Value) (v : Value) (hx : a.eval x = .pointer (some ⟨n, o, none⟩)) (hy : a.eval y = v) (hv : v.cells.toList = vs)
    (h : Rec19 w n 0 cs) (hl : o + vs.length ≤ cs.length) (hc : laidL cs o vs = cs') (hi : (Try.prog.info? ty).map (·.size) = some vs.length) (h1 : ∀ v ∈ vs, v.oneCell' = true)
    (hK : ∀ W2, Rec19 W2 n 0 cs' → But n w W2 → W2.heap.size = w.heap.size → wpList Try.prog ops Q rest (a.put op.dst undef) W2) : wpList Try.prog ops Q (op :: rest) a w := by
  subst hc hv
  refine wpList_plain hgd fun K hK' => ?_
  have st := run_storeCells_cells (P := Try.prog) n o v.cells.toList 0 w (fun j hj => by have := (h.2.1 (o + j) (by omega)).1; simpa using this) (fun j hj => by have := (h.2.1 (o + j) (by omega)).2; simpa using this) h1
  unfold Oper.wp execOp
  cases hq : Try.prog.info? ty with
  | none => simp [hq] at hi
  | some i =>
    have hs : v.cells.size = i.size := by simp [hq] at hi; omega
    simp only [Nat.add_zero] at st
    simp only [ho, hx, hy, Instr.storeAt, Instr.sureAddr, Sem.run_bind, Sem.run_pure, Result.andThen_ok]
    simp [storeVar, sizeOf, typeInfo, hq, hs, st, Result.andThen]
    exact hK' _ _ (hK _ (h.lay o _ hl) (But.cells _ _ _) (size_cells _ _ _ _))
theorem wpList_bs {ops : Array Oper} {rest : List Oper} {o : Oper} {a : Act} {w : World} {Q : Exit → Act → World → Prop} (hg : o.guard = none) (t e : TypeId) (len : Nat) (parts : Array (Nat × Operand)) (ho : o.op = .buildSlice t len parts) (sz by' : Nat) (z : Value) (cells : Array Value) (vs : List (Nat × Value))
    (hu : Try.prog.underlying t = some (.slice e)) (hinfo : (Try.prog.info? e).map (fun i => (i.zero, i.size, i.bytes)) = some (some z, sz, by')) (hsmall : ¬ len * sz > 2 ^ 24) (hpos : ¬ len * sz = 0)
    (hv : (parts.map fun (i, x) => (i, a.eval x)).toList = vs) (hf : Instr.fill (fun i => some (i * sz, sz)) ((Array.range (len * sz)).map (z.cells[· % z.cells.size]!)) vs = some cells)
    (h : wpList Try.prog ops Q rest (a.put o.dst (.slice (some ⟨w.heap.size, 0, none⟩) len len)) (w.alloc (.cells cells e))) : wpList Try.prog ops Q (o :: rest) a w := by
  obtain ⟨ie, hie, hz0, hz1, _⟩ := info_parts hinfo
  exact wpList_buildSlice hg t e len parts ho cells ie z hu hie hz0 (by rw [hz1]; exact hsmall) (by rw [hz1]; exact hpos) (by rw [hv, hz1]; exact hf) h
theorem bsl_run {a : Act} {w : World} {o : Oper} (t e : TypeId) (len : Nat) (parts : Array (Nat × Operand)) (ho : o.op = .buildSlice t len parts) (sz by' : Nat) (z : Value) (cells : Array Value) (vs : List (Nat × Value))
    (hu : Try.prog.underlying t = some (.slice e)) (hinfo : (Try.prog.info? e).map (fun i => (i.zero, i.size, i.bytes)) = some (some z, sz, by')) (hsmall : ¬ len * sz > 2 ^ 24) (hpos : ¬ len * sz = 0)
    (hv : (parts.map fun (i, x) => (i, a.eval x)).toList = vs) (hf : Instr.fill (fun i => some (i * sz, sz)) ((Array.range (len * sz)).map (z.cells[· % z.cells.size]!)) vs = some cells) :
    (execOp a.eval o).run Try.prog w = .ok (.value (.slice (some ⟨w.heap.size, 0, none⟩) len len)) (w.alloc (.cells cells e)) := by
  obtain ⟨ie, hie, hz0, hz1, _⟩ := info_parts hinfo
  unfold execOp
  simp only [ho, Sem.run_bind, run_buildSlice w t e len _ cells ie z hu hie hz0 (by rw [hz1]; exact hsmall) (by rw [hz1]; exact hpos) (by rw [hv, hz1]; exact hf), Result.andThen_ok]
  rfl
end Go.Proofs.Ytelcijfcgflagaa
