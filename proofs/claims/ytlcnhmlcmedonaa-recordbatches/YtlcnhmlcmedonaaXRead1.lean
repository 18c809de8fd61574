/-
  Walks, not a claim by itself: what record.readBatch at accounts makes and keeps. By the verifier.
-/
import Derived.Test.YtlcnhmlcmedonaaChunk2
import Derived.Test.YtlcnhmlcmedonaaBNil
import Derived.Test.YtlcnhmlcmedonaaAOf
import Derived.Test.YtlcnhmlcmedonaaXSame
namespace Go.Proofs.Ytlcnhmlcmedonaa
open Go.RowKit Go.Shelf
attribute [local go_sem] Oper.semAt_some
theorem makeA (w : World) (c : Nat) (hc : c ≤ 8) : ∃ cs, (Instr.makeSlice 39 (.int .i64 0) (.int .i64 c)).run Try.prog w = .ok (.slice (some ⟨w.heap.size, 0, none⟩) 0 c) (w.alloc (.cells cs 28)) ∧ (w.alloc (.cells cs 28)).ownsRow w.heap.size 28 19 (.slice (some ⟨w.heap.size, 0, none⟩) 0 c) 0 [] := by
  have hi : ((Try.prog.info? 28).map fun i => (i.zero, i.size, i.bytes)) = some (some (.agg zero19.toArray), 19, 128) := by kernel_rfl
  obtain ⟨i, hi, hj⟩ := Option.map_eq_some_iff.1 hi
  simp only [Prod.mk.injEq] at hj
  obtain ⟨hz, hs, hb⟩ := hj
  obtain ⟨W0, hmk0, hown0, hg0⟩ := run_make_own (P := Try.prog) w w.heap.size 39 28 i (.agg zero19.toArray) 19 Try.underlying39 hi hz hs .i64 .i64 c (by rw [hb]; omega) (by unfold maxLen; omega) (Nat.le_refl _)
  have h1 := run_make (P := Try.prog) w 39 28 i (.agg zero19.toArray) Try.underlying39 hi hz .i64 .i64 0 c (by first | omega | (unfold maxLen; omega) | (rw [hb]; omega)) (by first | omega | (unfold maxLen; omega) | (rw [hb]; omega)) (by first | omega | (unfold maxLen; omega) | (rw [hb]; omega)) (by first | omega | (unfold maxLen; omega) | (rw [hb]; omega))
  have e := h1.symm.trans hmk0
  injection e with _ e
  exact ⟨_, h1, by rw [e]; exact hown0⟩
/-- The records of pieces. -/
def recCells {c : Nat} (f : Nat → Int) (l : List (Fin c)) : List Value := l.flatMap fun x => (recOf fun j => f (x.1 * 128 + j)).cells
theorem recCells_snoc {c : Nat} (f : Nat → Int) (l : List (Fin c)) (x : Fin c) : recCells f (l ++ [x]) = recCells f l ++ (recOf fun j => f (x.1 * 128 + j)).cells := by simp [recCells]
theorem keeps_below {W W' : World} (h : Below W.heap.size W W') : KeepsOthers W W' := by
  exact ⟨h.size, fun j o hj _ => (h.block j (Array.getElem?_eq_some_iff.1 hj).1).trans hj⟩
theorem own_weak {w : World} {base base' : Nat} {e : TypeId} {sz : Nat} {v : Value} {n : Nat} {xs : List Value} (h : w.ownsRow base e sz v n xs) (hb : base' ≤ base) : w.ownsRow base' e sz v n xs := by
  refine ⟨h.1, ?_⟩
  rcases h.2 with h0 | ⟨g, cap, cur, hv, hb', rest⟩
  · exact .inl h0
  · exact .inr ⟨g, cap, cur, hv, Nat.le_trans hb hb', rest⟩
theorem kc_put {Bs Bn n₀ : Nat} {w : World} (hn : n₀ ≤ w.heap.size) (hs : Bs < w.heap.size) (hb : Bn < w.heap.size) (W : World) (l : Nat) (o o' : Obj) (hl : w.heap.size ≤ l) (h : W.heap[l]? = some o) (h1 : o.isCells = false) (h2 : o.isWalk = false) : Kc Bs Bn n₀ W (W.putObj l o') :=
  ⟨belowK_b hn W l o o' hl h h1 h2, World.cell?_of_block (World.putObj_heap_other (by show Bs ≠ l; omega)), World.cell?_of_block (World.putObj_heap_other (by show Bn ≠ l; omega))⟩
/-- What holds while the pieces come. -/
def rbI (w : World) (b off c C : Nat) (f : Nat → Int) (pre : List (Fin c)) (W : World) : Prop := (∃ v, Boxed W (w.heap.size + 1 + 1) 39 v ∧ W.ownsRow (w.heap.size + 1) 28 19 v pre.length (recCells f pre) ∧ True) ∧ W.cell? ⟨w.heap.size, 0, none⟩ = some (.func (.func 39) #[] #[]) ∧ Below w.heap.size w W ∧ Boxed W (w.heap.size + 1 + 1 + 1) 31 (.slice (some ⟨b, off, none⟩) (c * 128) C) ∧ Boxed W (w.heap.size + 1 + 1 + 1 + 1) 3 (.int .i64 128)
theorem boxed_keep {A B : World} {row : Option Nat} {p : Nat} {t : TypeId} {v : Value} (h : Boxed A p t v) (hg : A.grownBy B row) (hr : ∀ r, row = some r → ∃ o : Obj, A.heap[r]? = some o ∧ o.isCells = false) : Boxed B p t v := by
  refine h.kept hg (fun e' => ?_)
  obtain ⟨o, ho, hc⟩ := hr p e'.symm
  rw [show A.heap[p]? = _ from h] at ho; cases ho; cases hc
theorem boxed_below {A B : World} {p : Nat} {t : TypeId} {v : Value} (h : Boxed A p t v) (hB : Below A.heap.size A B) : Boxed B p t v := (hB.block p h.lt).trans h
theorem rbI_own (w : World) (b off c C : Nat) (f : Nat → Int) (B : Nat) (hB : w.heap.size ≤ B) : OwnFrom (β := List (Fin c)) B (rbI w b off c C f) := by
  intro pre X Y row hs hg hr
  have hr' : ∀ r, row = some r → ∃ o : Obj, X.heap[r]? = some o ∧ o.isCells = false := fun r e => (hr r e).2
  refine ⟨?_, cell_kept hs.2.1 hg hr', ?_, boxed_keep hs.2.2.2.1 hg hr', boxed_keep hs.2.2.2.2 hg hr'⟩
  · exact holdsRow_own (β := List (Fin c)) (w.heap.size + 1) (w.heap.size + 1 + 1) 39 28 19 (fun pre => pre.length) (fun pre => recCells f pre) (fun _ _ => True) pre X Y row hs.1 hg hr'
  · exact ownFrom_below (β := Unit) (n₀ := w.heap.size) (B := B) (w₀ := w) (Nat.le_refl _) hB () X Y row hs.2.2.1 hg hr
theorem rb_step (w W w3 : World) (b off c C : Nat) (f : Nat → Int) (pre : List (Fin c)) (x : Fin c) (v : Value) (hc : c ≤ 8) (hlt : pre.length < c) (hv : Boxed W (w.heap.size + 1 + 1) 39 v) (hrow : W.ownsRow (w.heap.size + 1) 28 19 v pre.length (recCells f pre))
    (hF : W.cell? ⟨w.heap.size, 0, none⟩ = some (.func (.func 39) #[] #[])) (hB : Below w.heap.size w W) (hS : Boxed W (w.heap.size + 1 + 1 + 1) 31 (.slice (some ⟨b, off, none⟩) (c * 128) C)) (hN : Boxed W (w.heap.size + 1 + 1 + 1 + 1) 3 (.int .i64 128)) (hB3 : Below W.heap.size W w3) (R : Fld) (hR : R = recOf fun j => f (x.1 * 128 + j)) :
    ∃ g' cap' w4, (Builtin.append_ #[39, 39] 39 #[v, .slice (some ⟨w3.heap.size, 0, none⟩) 1 1]).run Try.prog (w3.alloc (.cells R.cells.toArray 28)) = .ok (.slice (some ⟨g', 0, none⟩) (pre.length + 1) cap') w4 ∧
      w3.cell? ⟨w.heap.size + 1 + 1, 0, none⟩ = some v ∧ (w3.alloc (.cells R.cells.toArray 28)).cell? ⟨w.heap.size + 1 + 1, 0, none⟩ = some v ∧ w4.cell? ⟨w.heap.size + 1 + 1, 0, none⟩ = some v ∧ w4.frozen? ⟨w.heap.size + 1 + 1, 0, none⟩ = false ∧
      Hid (KeepsOthers W (w4.setCell ⟨w.heap.size + 1 + 1, 0, none⟩ (.slice (some ⟨g', 0, none⟩) (pre.length + 1) cap')) ∧ Kc (w.heap.size + 1 + 1 + 1) (w.heap.size + 1 + 1 + 1 + 1) w.heap.size W (w4.setCell ⟨w.heap.size + 1 + 1, 0, none⟩ (.slice (some ⟨g', 0, none⟩) (pre.length + 1) cap')) ∧ rbI w b off c C f (pre ++ [x]) (w4.setCell ⟨w.heap.size + 1 + 1, 0, none⟩ (.slice (some ⟨g', 0, none⟩) (pre.length + 1) cap'))) := by
  have hi : ((Try.prog.info? 28).map fun i => (i.zero, i.size, i.bytes)) = some (some (.agg zero19.toArray), 19, 128) := by kernel_rfl
  obtain ⟨i, hi, hj⟩ := Option.map_eq_some_iff.1 hi
  simp only [Prod.mk.injEq] at hj
  obtain ⟨hz, hs, hb⟩ := hj
  have hsz := hB3.size
  have l2 := hv.lt
  have l3 := hN.lt
  have hv3 := boxed_below hv hB3
  have hS3 := boxed_below hS hB3
  have hN3 := boxed_below hN hB3
  have hrow3 := own_below hrow hB3
  have n1 : (39 : TypeId) ≠ 28 := by decide
  have n2 : (31 : TypeId) ≠ 28 := by decide
  have n3 : (3 : TypeId) ≠ 28 := by decide
  obtain ⟨v', w4, hrun, hown', hgrow, _⟩ := run_append_own (P := Try.prog) (w3.alloc (.cells R.cells.toArray 28)) (w.heap.size + 1) 39 39 28 i (.agg zero19.toArray) 19 128 Try.underlying39 hi hz hs hb rfl (by decide) v pre.length (recCells f pre) (hrow3.alloc _) ⟨w3.heap.size, 0, none⟩ 1 1 R.cells rfl
    (fun j u hj => by rw [Addr.add_mid, Nat.zero_add, World.cell?_alloc_at _ _ _ _ rfl]; simpa using hj) R.cells_one (by unfold maxLen; omega) (by omega) (by simp; omega)
  obtain ⟨g', cap', rfl⟩ := ownsRow_succ hown'
  obtain ⟨b1, b2, r2, k2, e2⟩ := Boxed.appended hv3 n1 hrow3 (by omega) (by omega) hown' hgrow
  have hS4 := ((hS3.alloc (.cells R.cells.toArray 28)).kept hgrow ((hS3.not_row n2 hrow3))).other (B' := w.heap.size + 1 + 1) (by omega) (.slice (some ⟨g', 0, none⟩) (pre.length + 1) cap')
  have hN4 := ((hN3.alloc (.cells R.cells.toArray 28)).kept hgrow ((hN3.not_row n3 hrow3))).other (B' := w.heap.size + 1 + 1) (by omega) (.slice (some ⟨g', 0, none⟩) (pre.length + 1) cap')
  have E : Below w.heap.size W (w4.setCell ⟨w.heap.size + 1 + 1, 0, none⟩ (.slice (some ⟨g', 0, none⟩) (pre.length + 1) cap')) := (hB3.mono hB.size).trans (e2.mono (by omega))
  have hF4 : (w4.setCell ⟨w.heap.size + 1 + 1, 0, none⟩ (.slice (some ⟨g', 0, none⟩) (pre.length + 1) cap')).cell? ⟨w.heap.size, 0, none⟩ = some (.func (.func 39) #[] #[]) := by
    have a1 := (hB3.cell (p := ⟨w.heap.size, 0, none⟩) (by show w.heap.size < W.heap.size; omega)).trans hF
    exact (e2.cell (p := ⟨w.heap.size, 0, none⟩) (by show w.heap.size < w.heap.size + 1; omega)).trans a1
  refine ⟨g', cap', w4, hrun, hv3.cell, (hv3.alloc _).cell, b1.cell, b1.frozen, (keeps_below hB3).trans k2, ⟨E, hS4.cell.trans hS.cell.symm, hN4.cell.trans hN.cell.symm⟩, ⟨_, b2, ?_, trivial⟩, hF4, hB.trans E, hS4, hN4⟩
  rw [recCells_snoc, ← hR, List.length_append]
  exact r2
/-- What readBatch answers. -/
def RBPost (w : World) (c : Nat) (f : Nat → Int) (e : Ending) (w' : World) : Prop := ∃ v, e = .returned (.tuple #[v, .int .i64 0]) ∧ w'.ownsRow w.heap.size 28 19 v c (recCells f (upTo c c)) ∧ Below w.heap.size w w'
end Go.Proofs.Ytlcnhmlcmedonaa
