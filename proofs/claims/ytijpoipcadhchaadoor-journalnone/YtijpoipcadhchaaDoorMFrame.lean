/-
  The frame of the rows' proofs, not a claim by itself: the table of fields as it is laid; a start that meets it. By the verifier.
-/
import Derived.Test.YtijpoipcadhchaaDoorMChk
import Derived.ProofKit
import Derived.LaidMore
import Derived.OpenShut
import Derived.ShutString
import Derived.ChangeOld
import Derived.Below
import Derived.Lib.SmallJoins
import Derived.Stop.Joined
namespace Go.Proofs.YtijpoipcadhchaaDoor
open Go.ChangeShapes Go.WideShapes Go.ChangeAt Go.WideMaps Go.WideElems Go.RowKit Go.Joins

theorem gFields : Tryd.prog.globalNamed "exchequer/header.fields" = some 0 := by kernel_rfl
theorem tFields : (Tryd.prog.globals[0]?).map (·.type) = some 133 := by kernel_rfl
/-- What the rows list. -/
abbrev laidL : List (String × DataW Unit) := [("exchequer/header.fields", Rows.laid_exchequer_header_fields)]
/-- The door's own heap meets the condition. -/
theorem door_met (os : Os) (args : Array Value) : laidMetH Tryd.prog laidL ((World.doorLaid Tryd.prog 400 os).forCall (fun _ _ => 0) ⟨#[], args, []⟩).memory :=
  laidMetH_of_parts3 (fuel := 8) (laidMet_of_run' 8 (by kernel_rfl) (by kernel_rfl)) (by kernel_rfl) (by kernel_rfl)
section
variable {H : Type} {enc : TypeId × Value → H}
theorem first_of {L : List Value} {o n : Nat} {v : Value} (h : (L.drop o).take n = [v]) : L[o]? = some v := by
  have := congrArg (·[0]?) h
  simp only [List.getElem?_take, List.getElem?_drop] at this
  split at this
  · simpa using this
  · simp at this
theorem first_in {L : List Value} {o i m n : Nat} {v : Value} (h : (((L.drop o).take m).drop i).take n = [v]) : L[o + i]? = some v := by
  have := first_of h
  rw [List.getElem?_take] at this
  split at this
  · simpa using this
  · simp at this
/-- A field of the table, read as three numbers, holds them. -/
theorem open_field {W : World} {base : Nat} {sp : Nat → Bool} {held : Bool} {L : List Value} {n o m : Nat} {y : DataW H × List MemPlace} {a b c : Int} (h : DataW.trod enc Tryd.prog W base sp held n 132 ((L.drop o).take m) = some y)
    (hy : y.1 = .agg [.lit (.int .i64 a), .lit (.int .i64 b), .lit (.int .i64 c)]) : L[o]? = some (.int .i64 a) ∧ L[o + 1]? = some (.int .i64 b) ∧ L[o + 2]? = some (.int .i64 c) := by
  obtain ⟨xs, k, _, rfl, _, hlen, hf⟩ := DataW.trod_struct Tryd.underlying132 h
  match xs, hlen with
  | [y0, y1, y2], _ =>
    obtain ⟨x0, e0, r0, _⟩ := DataW.trod_int Tryd.underlying3 (hf 0 _ rfl)
    obtain ⟨x1, e1, r1, _⟩ := DataW.trod_int Tryd.underlying3 (hf 1 _ rfl)
    obtain ⟨x2, e2, r2, _⟩ := DataW.trod_int Tryd.underlying3 (hf 2 _ rfl)
    rw [r0, r1, r2] at hy
    simp at hy
    obtain ⟨rfl, rfl, rfl⟩ := hy
    exact ⟨first_in (i := 0) e0, first_in (i := 1) e1, first_in (i := 2) e2⟩
end
/-- The datum of the k-th field. -/
theorem datum_at (k : Nat) (hk : k < 13) : ∀ (l : List (DataW Unit)), (.agg l : DataW Unit) = Rows.laid_exchequer_header_fields → l[k]? = some (.agg [.lit (.int .i64 (fat k)), .lit (.int .i64 (fle k)), .lit (.int .i64 (fmo k))]) := by
  intro l h
  unfold Rows.laid_exchequer_header_fields at h
  injection h with h
  subst h
  match k, hk with
  | 0, _ | 1, _ | 2, _ | 3, _ | 4, _ | 5, _ | 6, _ | 7, _ | 8, _ | 9, _ | 10, _ | 11, _ | 12, _ => rfl
  | k + 13, hk => omega
/-- What the condition gives the walks. -/
theorem of_laid {W : World} (h : laidMetH Tryd.prog laidL W) : Tab W := by
  rw [MakeChecks.laidMetH_plain _ _ _ (by kernel_rfl)] at h
  obtain ⟨ps, ⟨g0, t0, cs0, f0, p0, q0, hg0, ht0, hv0, hd0, _, _⟩, _, _⟩ := h
  obtain rfl := Option.some.inj (gFields.symm.trans hg0)
  obtain rfl := Option.some.inj (tFields.symm.trans ht0)
  obtain ⟨xs, m1, _, hx1, _, hn3, hel⟩ := DataW.trod_array Tryd.underlying133 hd0
  have c3 : Tryd.prog.cellsOf 132 = 3 := by kernel_rfl
  simp only [Prod.mk.injEq] at hx1
  have key : ∀ k, k < 13 → W.cell? ⟨0, k * 3, none⟩ = some (.int .i64 (fat k)) ∧ W.cell? ⟨0, k * 3 + 1, none⟩ = some (.int .i64 (fle k)) ∧ W.cell? ⟨0, k * 3 + 2, none⟩ = some (.int .i64 (fmo k)) := by
    intro k hk
    have hk' := hel k hk
    rw [c3, List.getElem?_eq_getElem (by omega)] at hk'
    have hd := datum_at k hk _ hx1.1.symm
    rw [List.getElem?_map, List.getElem?_eq_getElem (by omega)] at hd
    obtain ⟨a, b, c⟩ := open_field hk' (by simpa using hd)
    have v : ∀ j, W.cell? ⟨0, j, none⟩ = cs0.toList[j]? := fun j => by rw [World.var?_cell hg0 hv0 j]; simp
    exact ⟨(v _).trans a, (v _).trans b, (v _).trans c⟩
  exact ⟨key, World.block_lt_of_cell? W _ (key 0 (by omega)).1⟩
end Go.Proofs.YtijpoipcadhchaaDoor
