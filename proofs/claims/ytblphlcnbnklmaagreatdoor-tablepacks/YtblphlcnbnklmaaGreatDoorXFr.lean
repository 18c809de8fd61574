/-
  The frame of the rows' proofs, not a claim by itself: the library's table as it is laid; a start that meets it. By the verifier.
-/
import Derived.Test.YtblphlcnbnklmaaGreatDoorIB
import Derived.ProofKit
import Derived.LaidMore
import Derived.OpenShut
import Derived.ShutString
import Derived.ChangeOld
import Derived.Below
import Derived.Lib.SmallJoins
import Derived.Stop.Joined
namespace Go.Proofs.YtblphlcnbnklmaaGreatDoor
open Go.ChangeShapes Go.WideShapes Go.ChangeAt Go.WideMaps Go.WideElems Go.RowKit Go.Joins
theorem gTab : Tryz.prog.globalNamed "math/bits.deBruijn64tab" = some 1 := by kernel_rfl
theorem tTab : (Tryz.prog.globals[1]?).map (·.type) = some 279 := by kernel_rfl
/-- What the rows list. -/
abbrev flaidL : List (String × DataW Unit) := [("math/bits.deBruijn64tab", Rows.laid_math_bits_deBruijn64tab)]
/-- The door's own heap meets the condition. -/
theorem door_met (os : Os) (args : Array Value) : laidMetH Tryz.prog flaidL ((World.doorLaid Tryz.prog 400 os).forCall (fun _ _ => 0) ⟨#[], args, []⟩).memory :=
  laidMetH_of_parts3 (fuel := 8) (laidMet_of_run' 8 (by kernel_rfl) (by kernel_rfl)) (by kernel_rfl) (by kernel_rfl)
theorem tab_data : Rows.laid_math_bits_deBruijn64tab = .agg (Lib.deBruijn64tab.map fun (x : Nat) => (.lit (.int .u8 (x : Int)) : DataW Unit)) := by rfl
theorem one_of {L : List Value} {o n : Nat} {v : Value} (h : (L.drop o).take n = [v]) : L[o]? = some v := by
  have := congrArg (·[0]?) h
  simp only [List.getElem?_take, List.getElem?_drop] at this
  split at this
  · simpa using this
  · simp at this
set_option maxRecDepth 100000 in
/-- What the condition gives the walks. -/
theorem of_laid {W : World} (h : laidMetH Tryz.prog flaidL W) : DTab W ∧ 0 < W.heap.size := by
  rw [MakeChecks.laidMetH_plain _ _ _ (by kernel_rfl)] at h
  obtain ⟨ps, ⟨g0, t0, cs0, f0, p0, q0, hg0, ht0, hv0, hd0, _, _⟩, _, _⟩ := h
  obtain rfl := Option.some.inj (gTab.symm.trans hg0)
  obtain rfl := Option.some.inj (tTab.symm.trans ht0)
  obtain ⟨xs, m1, _, hx1, _, hn3, hel⟩ := DataW.trod_array Tryz.underlying279 hd0
  have c1 : Tryz.prog.cellsOf 5 = 1 := by kernel_rfl
  simp only [Prod.mk.injEq] at hx1
  have key : DTab W := by
    intro k hk
    have hk' := hel k hk
    rw [c1, Nat.mul_one, List.getElem?_eq_getElem (by omega)] at hk'
    obtain ⟨x, e, r, _⟩ := DataW.trod_int Tryz.underlying5 hk'
    have hd := hx1.1
    rw [tab_data] at hd
    injection hd with hd
    have hd' := congrArg (·[k]?) hd
    simp only [List.getElem?_map] at hd'
    have hl : k < Lib.deBruijn64tab.length := hk
    have hx : k < xs.length := by omega
    rw [List.getElem?_eq_getElem hl, List.getElem?_eq_getElem hx] at hd'
    simp only [Option.map_some, Option.some.injEq] at hd'
    rw [r] at hd'
    simp at hd'
    have v : W.cell? ⟨1, k, none⟩ = cs0.toList[k]? := by rw [World.var?_cell hg0 hv0 k]; simp
    rw [v, one_of e, ← hd']
    simp [List.getD, hl]
  exact ⟨key, Nat.lt_of_le_of_lt (Nat.zero_le _) (World.block_lt_of_cell? W ⟨1, 0, none⟩ (key 0 (by omega)))⟩
end Go.Proofs.YtblphlcnbnklmaaGreatDoor
