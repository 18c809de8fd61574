/-
  Plain notions and laws for the walk, not a claim by itself: rows of numbers in a block, worlds that are the same but for one block, whole arrays made, loaded and stored. By the verifier.
-/
import Derived.Test.YtelcijfcgflagaaRows
import Derived.WalkKit
import Derived.WalkSpells
import Derived.RowKit3
import Derived.Below
import Derived.Laws.IdiomCopy
import Derived.Deep.Light
import Derived.Deep.QuietTactic
import Derived.BigQuiet
import Derived.WalkSmall
import Derived.Laws.BitsAllLaws
import Derived.Deep.MidRow
import Derived.Deep.RegionHeld3
import Derived.Deep.OwnRows
import Derived.Laws.BytesArg
import Derived.Deep.DeepFit
namespace Go.Proofs.Ytelcijfcgflagaa
open Go.RowKit

/-- The worlds are the same but for block b and new ones. -/
structure But (b : Nat) (w w' : World) : Prop where
  os : w'.os = w.os
  tape : w'.tape = w.tape
  output : w'.output = w.output
  size : w.heap.size ≤ w'.heap.size
  block : ∀ k, k < w.heap.size → k ≠ b → w'.heap[k]? = w.heap[k]?
theorem But.refl (b : Nat) (w : World) : But b w w := ⟨rfl, rfl, rfl, Nat.le_refl _, fun _ _ _ => rfl⟩
theorem But.trans {b : Nat} {u v w : World} (h : But b u v) (k : But b v w) : But b u w :=
  ⟨k.os.trans h.os, k.tape.trans h.tape, k.output.trans h.output, Nat.le_trans h.size k.size, fun i hi hn => (k.block i (Nat.lt_of_lt_of_le hi h.size) hn).trans (h.block i hi hn)⟩
theorem But.of {b : Nat} {w w' : World} (h : Below w.heap.size w w') : But b w w' := ⟨h.os, h.tape, h.output, h.size, fun k hk _ => h.block k hk⟩
theorem But.below {b B : Nat} {w w' : World} (h : But b w w') (h1 : B ≤ b) (h2 : B ≤ w.heap.size) : Below B w w' := ⟨h.os, h.tape, h.output, h.size, fun k hk => h.block k (by omega) (by omega)⟩
theorem But.alloc {b : Nat} {w w' : World} (h : But b w w') (o : Obj) : But b w (w'.alloc o) := h.trans (But.of ((Below.refl _ _).alloc (Nat.le_refl _) _))
theorem But.drew {b : Nat} {w w' : World} (h : But b w w') : But b w w'.drew := h.trans (But.of (Below.refl _ _).drew)
theorem But.cell {b : Nat} {w w' : World} (h : But b w w') {p : Addr} (h1 : p.block < w.heap.size) (h2 : p.block ≠ b) : w'.cell? p = w.cell? p := World.cell?_of_block (w := w) (h.block p.block h1 h2)
theorem But.frozen {b : Nat} {w w' : World} (h : But b w w') {p : Addr} (h1 : p.block < w.heap.size) (h2 : p.block ≠ b) : w'.frozen? p = w.frozen? p := World.frozen?_of_block (w := w) (h.block p.block h1 h2)
theorem But.set {b : Nat} (w : World) (o : Nat) (v : Value) : But b w (w.setCell ⟨b, o, none⟩ v) :=
  ⟨rfl, rfl, rfl, by simp [World.setCell], fun k _ hn => Below.heap_setCell w ⟨b, o, none⟩ v k hn⟩
theorem But.put {b : Nat} {w w' : World} (h : But b w w') {p : Addr} (hp : p.block = b ∨ w.heap.size ≤ p.block) (v : Value) : But b w (w'.setCell p v) :=
  ⟨h.os, h.tape, h.output, by simp [World.setCell]; exact h.size, fun k hk hn => (Below.heap_setCell w' p v k (by rcases hp with rfl | hp <;> omega)).trans (h.block k hk hn)⟩
theorem But.cells {b : Nat} : ∀ (vs : List Value) (o : Nat) (w : World), But b w (w.setCells b o vs)
  | [], _, w => But.refl b w
  | v :: vs, o, w => (But.set w o v).trans (But.cells vs (o + 1) _)

theorem size_cells (b : Nat) : ∀ (vs : List Value) (o : Nat) (w : World), (w.setCells b o vs).heap.size = w.heap.size
  | [], _, _ => rfl
  | v :: vs, o, w => (size_cells b vs (o + 1) _).trans (by simp [World.setCell])
/-- The cells of a record lie in a block, and may be written. -/
def Rec19 (W : World) (n o : Nat) (cs : List Value) : Prop := W.rangeAt n o cs ∧ W.there n o cs.length ∧ n < W.heap.size
theorem Rec19.but {W W' : World} {n o b : Nat} {cs : List Value} (h : Rec19 W n o cs) (hB : But b W W') (hn : n ≠ b) : Rec19 W' n o cs :=
  ⟨fun j v hj => (hB.cell (p := ⟨n, o + j, none⟩) h.2.2 hn).trans (h.1 j v hj), fun j hj => by rw [hB.cell (p := ⟨n, o + j, none⟩) h.2.2 hn, hB.frozen (p := ⟨n, o + j, none⟩) h.2.2 hn]; exact h.2.1 j hj, Nat.lt_of_lt_of_le h.2.2 hB.size⟩
theorem Rec19.below {W W' : World} {n o : Nat} {cs : List Value} (h : Rec19 W n o cs) (hB : Below W.heap.size W W') : Rec19 W' n o cs :=
  ⟨fun j v hj => (hB.cell (p := ⟨n, o + j, none⟩) h.2.2).trans (h.1 j v hj), fun j hj => by rw [hB.cell (p := ⟨n, o + j, none⟩) h.2.2, hB.frozen (p := ⟨n, o + j, none⟩) h.2.2]; exact h.2.1 j hj, Nat.lt_of_lt_of_le h.2.2 hB.size⟩
theorem Rec19.new (w : World) (T : TypeId) (cs : List Value) : Rec19 (w.alloc (.cells cs.toArray T)) w.heap.size 0 cs := by
  have g : ∀ j, (w.alloc (.cells cs.toArray T)).cell? ⟨w.heap.size, 0 + j, none⟩ = cs[j]? := fun j => by rw [World.cell?_alloc_at _ _ _ _ rfl]; simp
  refine ⟨fun j v hj => (g j).trans hj, fun j hj => ⟨?_, by simp [go_sem]⟩, by simp⟩
  rw [g j, List.getElem?_eq_getElem hj]
  rfl
theorem Rec19.store {W : World} {n o : Nat} {cs : List Value} (h : Rec19 W n o cs) (vs : List Value) (hl : cs.length = vs.length) : Rec19 (W.setCells n o vs) n o vs :=
  ⟨World.rangeAt_setCells_same W n o vs (hl ▸ h.2.1), World.there_setCells (hl ▸ h.2.1) n o vs, Nat.lt_of_lt_of_le h.2.2 (But.cells vs o W).size⟩
/-- A whole record is stored: the world behind it is a letter. -/
theorem Rec19.run_store {W : World} {n o : Nat} {cs : List Value} (h : Rec19 W n o cs) (ty : TypeId) (vs : List Value) (hl : cs.length = vs.length) (hi : (Try.prog.info? ty).map (·.size) = some vs.length) (h1 : ∀ v ∈ vs, v.oneCell' = true) :
    ∃ W2, (Instr.storeAt ty (.pointer (some ⟨n, o, none⟩)) (.agg vs.toArray)).run Try.prog W = .ok () W2 ∧ Rec19 W2 n o vs ∧ But n W W2 := by
  refine ⟨_, run_storeAt_mid (P := Try.prog) W n o ty vs.toArray ?_ ?_ (all_oneCell_toArray h1), ?_, ?_⟩
  · simpa [hl] using h.2.1
  · simpa using hi
  · exact h.store vs hl
  · exact But.cells _ _ _
theorem Rec19.run_load {W : World} {n o : Nat} {cs : List Value} (h : Rec19 W n o cs) (ty : TypeId) (d : TypeDesc) (hu : Try.prog.underlying ty = some d) (hd : d.isRow = true) (hi : (Try.prog.info? ty).map (·.size) = some cs.length) :
    (loadVar ty ⟨n, o, none⟩).run Try.prog W = .ok (.agg cs.toArray) W := run_loadVar_mid (P := Try.prog) W n o ty cs d h.1 hu hd hi
/-- A store of a whole record, for the walk. -/
theorem wpList_store_rec {ops : Array Oper} {rest : List Oper} {op : Oper} {a : Act} {w : World} {Q : Exit → Act → World → Prop} (hgd : op.guard = none) (ty : TypeId) (x y : Operand) (ho : op.op = .store ty x y)
    (n o : Nat) (cs vs : List Value) (hx : a.eval x = .pointer (some ⟨n, o, none⟩)) (hy : a.eval y = .agg vs.toArray)
    (h : Rec19 w n o cs) (hl : cs.length = vs.length) (hi : (Try.prog.info? ty).map (·.size) = some vs.length) (h1 : ∀ v ∈ vs, v.oneCell' = true)
    (hK : ∀ W2, Rec19 W2 n o vs → But n w W2 → wpList Try.prog ops Q rest (a.put op.dst undef) W2) : wpList Try.prog ops Q (op :: rest) a w := by
  refine wpList_store_mid (P := Try.prog) hgd ty x y ho n o vs.toArray hx hy ?_ ?_ (all_oneCell_toArray h1) (hK _ ?_ ?_)
  · simpa [hl] using h.2.1
  · simpa using hi
  · exact h.store vs hl
  · exact But.cells _ _ _
/-- A load of a whole record, for the walk. -/
theorem wpList_load_rec {ops : Array Oper} {rest : List Oper} {op : Oper} {a : Act} {w : World} {Q : Exit → Act → World → Prop} (hgd : op.guard = none) (ty : TypeId) (x : Operand) (ho : op.op = .load ty x)
    (n o : Nat) (cs : List Value) (hx : a.eval x = .pointer (some ⟨n, o, none⟩)) (d : TypeDesc) (hu : Try.prog.underlying ty = some d) (hd : d.isRow = true) (hi : (Try.prog.info? ty).map (·.size) = some cs.length)
    (h : Rec19 w n o cs) (hK : wpList Try.prog ops Q rest (a.put op.dst (.agg cs.toArray)) w) : wpList Try.prog ops Q (op :: rest) a w :=
  wpList_load_mid (P := Try.prog) hgd ty x ho n o hx cs d h.1 hu hd hi hK

/-! Rows of numbers of one kind. -/
/-- N numbers as cells. -/
def cl (k : IntKind) (N : Nat) (f : Nat → Int) : List Value := (List.range N).map fun j => .int k (f j)
theorem cl_len (k : IntKind) (N : Nat) (f : Nat → Int) : (cl k N f).length = N := by simp [cl]
theorem cl_at (k : IntKind) (N : Nat) (f : Nat → Int) (j : Nat) (h : j < N) : (cl k N f)[j]? = some (.int k (f j)) := by
  unfold cl; rw [List.getElem?_map, List.getElem?_range h]; rfl
theorem cl_at' {k : IntKind} {N : Nat} {f : Nat → Int} {j : Nat} {v : Value} (h : (cl k N f)[j]? = some v) : j < N ∧ v = .int k (f j) := by
  by_cases e : j < N
  · rw [cl_at k N f j e] at h; injection h with h; exact ⟨e, h.symm⟩
  · rw [List.getElem?_eq_none (by rw [cl_len]; omega)] at h; cases h
theorem cl_one (k : IntKind) (N : Nat) (f : Nat → Int) : ∀ v ∈ cl k N f, v.oneCell' = true := by
  intro v hv; unfold cl at hv; rw [List.mem_map] at hv; obtain ⟨j, _, rfl⟩ := hv; rfl
theorem cl_congr (k : IntKind) (N : Nat) (f g : Nat → Int) (h : ∀ j, j < N → f j = g j) : cl k N f = cl k N g := by
  unfold cl; refine List.map_congr_left fun j hj => ?_; rw [h j (List.mem_range.1 hj)]
/-- N numbers lie in block b, which may be written. -/
def IRow (u : World) (b : Nat) (k : IntKind) (N : Nat) (f : Nat → Int) : Prop := (∀ j, j < N → u.cell? ⟨b, j, none⟩ = some (.int k (f j))) ∧ (∀ j, u.frozen? ⟨b, j, none⟩ = false) ∧ b < u.heap.size
theorem IRow.rec {u : World} {b : Nat} {k : IntKind} {N : Nat} {f : Nat → Int} (h : IRow u b k N f) : Rec19 u b 0 (cl k N f) :=
  ⟨fun j v hj => by obtain ⟨hn, rfl⟩ := cl_at' hj; rw [Nat.zero_add]; exact h.1 j hn, fun j hj => by rw [cl_len] at hj; rw [Nat.zero_add]; exact ⟨by rw [h.1 j hj]; rfl, h.2.1 j⟩, h.2.2⟩
theorem IRow.congr {u : World} {b : Nat} {k : IntKind} {N : Nat} {f g : Nat → Int} (h : IRow u b k N f) (e : ∀ j, j < N → f j = g j) : IRow u b k N g :=
  ⟨fun j hj => by rw [h.1 j hj, e j hj], h.2⟩
theorem IRow.but {u v : World} {b c : Nat} {k : IntKind} {N : Nat} {f : Nat → Int} (h : IRow u b k N f) (hb : But c u v) (hn : b ≠ c) : IRow v b k N f :=
  ⟨fun j hj => (hb.cell (p := ⟨b, j, none⟩) h.2.2 hn).trans (h.1 j hj), fun j => (hb.frozen (p := ⟨b, j, none⟩) h.2.2 hn).trans (h.2.1 j), Nat.lt_of_lt_of_le h.2.2 hb.size⟩
theorem IRow.below {u v : World} {b : Nat} {k : IntKind} {N : Nat} {f : Nat → Int} (h : IRow u b k N f) (hb : Below u.heap.size u v) : IRow v b k N f :=
  ⟨fun j hj => (hb.cell (p := ⟨b, j, none⟩) h.2.2).trans (h.1 j hj), fun j => (hb.frozen (p := ⟨b, j, none⟩) h.2.2).trans (h.2.1 j), Nat.lt_of_lt_of_le h.2.2 hb.size⟩
theorem IRow.alloc {u : World} {b : Nat} {k : IntKind} {N : Nat} {f : Nat → Int} (h : IRow u b k N f) (o : Obj) : IRow (u.alloc o) b k N f := h.below ((Below.refl _ _).alloc (Nat.le_refl _) _)
theorem IRow.drew {u : World} {b : Nat} {k : IntKind} {N : Nat} {f : Nat → Int} (h : IRow u b k N f) : IRow u.drew b k N f := h
/-- f, but for one place. -/
def upd (f : Nat → Int) (i : Nat) (v : Int) (j : Nat) : Int := if j = i then v else f j
theorem IRow.set {u : World} {b : Nat} {k : IntKind} {N : Nat} {f : Nat → Int} (h : IRow u b k N f) (i : Nat) (v : Int) : IRow (u.setCell ⟨b, i, none⟩ (.int k v)) b k N (upd f i v) := by
  refine ⟨fun j hj => ?_, fun j => by simp [h.2.1], by simp [World.setCell]; exact h.2.2⟩
  unfold upd
  by_cases e : j = i
  · subst e
    rw [World.cell?_setCell_same' _ _ _ (by rw [h.1 _ hj]; rfl), if_pos rfl]
  · rw [World.cell?_setCell_other _ (a := ⟨b, i, none⟩) (b := ⟨b, j, none⟩) _ (fun q => e (by injection q with _ q; exact q.symm)), if_neg e, h.1 j hj]
theorem IRow.new (w : World) (T : TypeId) (k : IntKind) (N : Nat) (f : Nat → Int) : IRow (w.alloc (.cells (cl k N f).toArray T)) w.heap.size k N f := by
  refine ⟨fun j hj => ?_, fun j => by simp [go_sem], by simp⟩
  rw [World.cell?_alloc_at _ _ _ _ rfl]
  simpa using cl_at k N f j hj
/-- A new variable that is a row: the world behind it is a letter. -/
theorem wpList_alloc_row {ops : Array Oper} {rest : List Oper} {op : Oper} {a : Act} {w : World} {Q : Exit → Act → World → Prop} (hgd : op.guard = none) (ty : TypeId) (ho : op.op = .alloc ty) (k : IntKind) (N : Nat) (H : Nat) (hH : w.heap.size = H)
    (hz : (Try.prog.info? ty).bind (·.zero) = some (.agg (cl k N fun _ => 0).toArray))
    (hK : ∀ W, IRow W H k N (fun _ => 0) → Below H w W → W.heap.size = H + 1 → wpList Try.prog ops Q rest (a.put op.dst (.pointer (some ⟨H, 0, none⟩))) W) : wpList Try.prog ops Q (op :: rest) a w := by
  subst hH
  refine wpList_plain hgd fun K hK' => ?_
  unfold Oper.wp execOp
  cases hi : Try.prog.info? ty with
  | none => simp [hi] at hz
  | some i =>
    have hz' : i.zero = some (.agg (cl k N fun _ => 0).toArray) := by simpa [hi] using hz
    simp only [ho]
    simp [Instr.alloc, zeroValue, typeInfo, hi, hz', newVar, newRow, Value.cells, Result.andThen]
    exact hK' _ _ (hK _ (IRow.new w ty k N fun _ => 0) ((Below.refl _ _).alloc (Nat.le_refl _) _) (by simp))
/-- A whole row is stored. -/
theorem wpList_store_row {ops : Array Oper} {rest : List Oper} {op : Oper} {a : Act} {w : World} {Q : Exit → Act → World → Prop} (hgd : op.guard = none) (ty : TypeId) (x y : Operand) (ho : op.op = .store ty x y)
    (b : Nat) (k : IntKind) (N : Nat) (f g : Nat → Int) (hx : a.eval x = .pointer (some ⟨b, 0, none⟩)) (hy : a.eval y = .agg (cl k N f).toArray)
    (h : IRow w b k N g) (hi : (Try.prog.info? ty).map (·.size) = some N)
    (hK : ∀ W2, IRow W2 b k N f → But b w W2 → W2.heap.size = w.heap.size → wpList Try.prog ops Q rest (a.put op.dst undef) W2) : wpList Try.prog ops Q (op :: rest) a w := by
  refine wpList_store_mid (P := Try.prog) hgd ty x y ho b 0 (cl k N f).toArray hx hy ?_ ?_ (all_oneCell_toArray (cl_one k N f)) (hK _ ?_ (But.cells _ _ _) ?_)
  · have := h.rec.2.1; rw [cl_len] at this; simpa [cl_len] using this
  · simpa [cl_len] using hi
  · have := h.rec.store (cl k N f) (by rw [cl_len, cl_len])
    refine ⟨fun j hj => ?_, fun j => by rw [World.frozen?_setCells]; exact h.2.1 j, this.2.2⟩
    have := this.1 j _ (cl_at k N f j hj)
    rw [Nat.zero_add] at this
    exact this
  · exact size_cells _ _ _ _
/-- A whole row is loaded. -/
theorem wpList_load_irow {ops : Array Oper} {rest : List Oper} {op : Oper} {a : Act} {w : World} {Q : Exit → Act → World → Prop} (hgd : op.guard = none) (ty : TypeId) (x : Operand) (ho : op.op = .load ty x)
    (b : Nat) (k : IntKind) (N : Nat) (f : Nat → Int) (hx : a.eval x = .pointer (some ⟨b, 0, none⟩)) (d : TypeDesc) (hu : Try.prog.underlying ty = some d) (hd : d.isRow = true) (hi : (Try.prog.info? ty).map (·.size) = some N)
    (h : IRow w b k N f) (hK : wpList Try.prog ops Q rest (a.put op.dst (.agg (cl k N f).toArray)) w) : wpList Try.prog ops Q (op :: rest) a w :=
  wpList_load_rec hgd ty x ho b 0 (cl k N f) hx d hu hd (by rw [cl_len]; exact hi) h.rec hK
theorem IRow.run_load {W : World} {b : Nat} {k : IntKind} {N : Nat} {f : Nat → Int} (h : IRow W b k N f) (ty : TypeId) (d : TypeDesc) (hu : Try.prog.underlying ty = some d) (hd : d.isRow = true) (hi : (Try.prog.info? ty).map (·.size) = some N) :
    (loadVar ty ⟨b, 0, none⟩).run Try.prog W = .ok (.agg (cl k N f).toArray) W := h.rec.run_load ty d hu hd (by rw [cl_len]; exact hi)
/-- A store at another place of the same block. -/
theorem keep_off {u : World} {b o p : Nat} {v : Value} {x : Option Value} (c : u.cell? ⟨b, p, none⟩ = x) (h : o ≠ p) : ((u.setCell ⟨b, o, none⟩ v).drew).cell? ⟨b, p, none⟩ = x :=
  (World.cell?_setCell_other u (a := ⟨b, o, none⟩) (b := ⟨b, p, none⟩) v (fun q => h (by injection q))).trans c
theorem keep_off' {u : World} {b o p : Nat} {v : Value} {x : Option Value} (c : u.cell? ⟨b, p, none⟩ = x) (h : o ≠ p) : (u.setCell ⟨b, o, none⟩ v).cell? ⟨b, p, none⟩ = x :=
  (World.cell?_setCell_other u (a := ⟨b, o, none⟩) (b := ⟨b, p, none⟩) v (fun q => h (by injection q))).trans c
end Go.Proofs.Ytelcijfcgflagaa
