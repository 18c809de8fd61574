/-
  Walks, not a claim by itself: a record of 19 cells, loaded and stored whole. By the verifier.
-/
import Derived.Test.YtjofoeelkeacgaaRec
import Derived.Deep.MidRow
namespace Go.Proofs.Ytjofoeelkeacgaa
open Go.RowKit
/-- The cells of a record lie in a block, and may be written. -/
def Rec19 (W : World) (n o : Nat) (cs : List Value) : Prop := W.rangeAt n o cs ∧ W.there n o cs.length ∧ n < W.heap.size
theorem Rec19.but {W W' : World} {n o b : Nat} {cs : List Value} (h : Rec19 W n o cs) (hB : But b W W') (hn : n ≠ b) : Rec19 W' n o cs :=
  ⟨fun j v hj => (hB.cell (p := ⟨n, o + j, none⟩) h.2.2 hn).trans (h.1 j v hj), fun j hj => by rw [hB.cell (p := ⟨n, o + j, none⟩) h.2.2 hn, hB.frozen (p := ⟨n, o + j, none⟩) h.2.2 hn]; exact h.2.1 j hj, Nat.lt_of_lt_of_le h.2.2 hB.size⟩
theorem Rec19.below {W W' : World} {n o : Nat} {cs : List Value} (h : Rec19 W n o cs) (hB : Below W.heap.size W W') : Rec19 W' n o cs :=
  ⟨fun j v hj => (hB.cell (p := ⟨n, o + j, none⟩) h.2.2).trans (h.1 j v hj), fun j hj => by rw [hB.cell (p := ⟨n, o + j, none⟩) h.2.2, hB.frozen (p := ⟨n, o + j, none⟩) h.2.2]; exact h.2.1 j hj, Nat.lt_of_lt_of_le h.2.2 hB.size⟩
theorem Rec19.new (w : World) (T : TypeId) (cs : List Value) : Rec19 (w.alloc (.cells cs.toArray T)) w.heap.size 0 cs := by
  have g : ∀ j, (w.alloc (.cells cs.toArray T)).cell? ⟨w.heap.size, 0 + j, none⟩ = cs[j]? := fun j => by rw [World.cell?_alloc_at _ _ _ _ rfl]; simp
  refine ⟨fun j v hj => (g j).trans hj, fun j hj => ⟨?_, by simp [go_sem]⟩, by simp⟩
  rw [g j, List.getElem?_eq_getElem hj]
  rfl
theorem Rec19.store {W : World} {n o : Nat} {cs : List Value} (h : Rec19 W n o cs) (vs : List Value) (hl : cs.length = vs.length) : Rec19 (W.setCells n o vs) n o vs :=
  ⟨World.rangeAt_setCells_same W n o vs (hl ▸ h.2.1), World.there_setCells (hl ▸ h.2.1) n o vs, Nat.lt_of_lt_of_le h.2.2 (But.cells vs o W).size⟩
/-- A whole record is stored: the world behind it is a letter. -/
theorem Rec19.run_store {W : World} {n o : Nat} {cs : List Value} (h : Rec19 W n o cs) (ty : TypeId) (vs : List Value) (hl : cs.length = vs.length) (hi : (Try.prog.info? ty).map (·.size) = some vs.length) (h1 : ∀ v ∈ vs, v.oneCell' = true) :
    ∃ W2, (Instr.storeAt ty (.pointer (some ⟨n, o, none⟩)) (.agg vs.toArray)).run Try.prog W = .ok () W2 ∧ Rec19 W2 n o vs ∧ But n W W2 := by
  refine ⟨_, run_storeAt_mid (P := Try.prog) W n o ty vs.toArray ?_ ?_ (all_oneCell_toArray h1), ?_, ?_⟩
  · simpa [hl] using h.2.1
  · simpa using hi
  · exact h.store vs hl
  · exact But.cells _ _ _
theorem Rec19.run_load {W : World} {n o : Nat} {cs : List Value} (h : Rec19 W n o cs) (ty : TypeId) (d : TypeDesc) (hu : Try.prog.underlying ty = some d) (hd : d.isRow = true) (hi : (Try.prog.info? ty).map (·.size) = some cs.length) :
    (loadVar ty ⟨n, o, none⟩).run Try.prog W = .ok (.agg cs.toArray) W := run_loadVar_mid (P := Try.prog) W n o ty cs d h.1 hu hd hi
/-- A store of a whole record, for the walk. -/
theorem wpList_store_rec {ops : Array Oper} {rest : List Oper} {op : Oper} {a : Act} {w : World} {Q : Exit → Act → World → Prop} (hgd : op.guard = none) (ty : TypeId) (x y : Operand) (ho : op.op = .store ty x y)
    (n o : Nat) (cs vs : List Value) (hx : a.eval x = .pointer (some ⟨n, o, none⟩)) (hy : a.eval y = .agg vs.toArray)
    (h : Rec19 w n o cs) (hl : cs.length = vs.length) (hi : (Try.prog.info? ty).map (·.size) = some vs.length) (h1 : ∀ v ∈ vs, v.oneCell' = true)
    (hK : ∀ W2, Rec19 W2 n o vs → But n w W2 → wpList Try.prog ops Q rest (a.put op.dst undef) W2) : wpList Try.prog ops Q (op :: rest) a w := by
  refine wpList_store_mid (P := Try.prog) hgd ty x y ho n o vs.toArray hx hy ?_ ?_ (all_oneCell_toArray h1) (hK _ ?_ ?_)
  · simpa [hl] using h.2.1
  · simpa using hi
  · exact h.store vs hl
  · exact But.cells _ _ _
/-- A load of a whole record, for the walk. -/
theorem wpList_load_rec {ops : Array Oper} {rest : List Oper} {op : Oper} {a : Act} {w : World} {Q : Exit → Act → World → Prop} (hgd : op.guard = none) (ty : TypeId) (x : Operand) (ho : op.op = .load ty x)
    (n o : Nat) (cs : List Value) (hx : a.eval x = .pointer (some ⟨n, o, none⟩)) (d : TypeDesc) (hu : Try.prog.underlying ty = some d) (hd : d.isRow = true) (hi : (Try.prog.info? ty).map (·.size) = some cs.length)
    (h : Rec19 w n o cs) (hK : wpList Try.prog ops Q rest (a.put op.dst (.agg cs.toArray)) w) : wpList Try.prog ops Q (op :: rest) a w :=
  wpList_load_mid (P := Try.prog) hgd ty x ho n o hx cs d h.1 hu hd hi hK
/-- No record's cells. -/
def zero19 : List Value := [.int .u64 0, .int .u64 0, .int .u64 0, .int .u64 0, .int .u64 0, .int .u64 0, .int .u64 0, .int .u64 0, .int .u64 0, .int .u64 0, .int .u64 0, .int .u64 0, .int .u64 0, .int .u32 0, .int .u32 0, .int .u32 0, .int .u16 0, .int .u16 0, .int .u64 0]
theorem zero19_one : ∀ v ∈ zero19, v.oneCell' = true := by decide
end Go.Proofs.Ytjofoeelkeacgaa
