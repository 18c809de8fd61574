/-
  Proved: LevelKnown: a closed statement: in whatever memory in which the two tables are as their texts lay them, on every schedule, the statement's function returns true. The tables are tied to the program's text (the card).
-/
import Derived.Test.YtelcijfcgflagaaDoorLvZo
import Derived.Test.YtelcijfcgflagaaDoorBFrame
import Derived.LaidMore
import Derived.Stop.Joined
import Derived.Test.YtelcijfcgflagaaDoorRows
import Derived.Test.YtelcijfcgflagaaDoorLvZd
import Derived.ProofKit
import Derived.OpenShut
import Derived.ShutString
import Derived.ChangeOld
import Derived.Below
import Derived.Carry
import Derived.Lib.SmallJoins
import Derived.Test.YtelcijfcgflagaaDoorTie
import Derived.Test.YtelcijfcgflagaaDoorCards
namespace Go.Proofs.YtelcijfcgflagaaDoor
open Go.ChangeShapes Go.WideShapes Go.ChangeAt Go.WideMaps Go.WideElems Go.RowKit Go.Joins
theorem gRoom : Tryd.prog.globalNamed "exchequer/level.room" = some 0 := by kernel_rfl
theorem tRoom : (Tryd.prog.globals[0]?).map (·.type) = some 56 := by kernel_rfl
/-- What the rows list. -/
abbrev flaidL : List (String × DataW Unit) := [("exchequer/level.room", Rows.laid_exchequer_level_room)]
/-- The door's own heap meets the condition. -/
theorem door_met (os : Os) (args : Array Value) : laidMetH Tryd.prog flaidL ((World.doorLaid Tryd.prog 400 os).forCall (fun _ _ => 0) ⟨#[], args, []⟩).memory :=
  laidMetH_of_parts3 (fuel := 8) (laidMet_of_run' 8 (by kernel_rfl) (by kernel_rfl)) (by kernel_rfl) (by kernel_rfl)
theorem one_of {L : List Value} {o n : Nat} {v : Value} (h : (L.drop o).take n = [v]) : L[o]? = some v := by
  have := congrArg (·[0]?) h
  simp only [List.getElem?_take, List.getElem?_drop] at this
  split at this
  · simpa using this
  · simp at this
set_option maxRecDepth 100000 in
/-- What the condition gives the walks. -/
theorem of_laid {W : World} (h : laidMetH Tryd.prog flaidL W) : Room W := by
  rw [MakeChecks.laidMetH_plain _ _ _ (by kernel_rfl)] at h
  obtain ⟨ps, ⟨g0, t0, cs0, f0, p0, q0, hg0, ht0, hv0, hd0, _, _⟩, _⟩ := h
  obtain rfl := Option.some.inj (gRoom.symm.trans hg0)
  obtain rfl := Option.some.inj (tRoom.symm.trans ht0)
  obtain ⟨xs, m1, _, hx1, _, hn3, hel⟩ := DataW.trod_array Tryd.underlying56 hd0
  have c1 : Tryd.prog.cellsOf 3 = 1 := by kernel_rfl
  simp only [Prod.mk.injEq] at hx1
  have hd : Rows.laid_exchequer_level_room = (.agg (xs.map (·.1)) : DataW Unit) := hx1.1
  have key : ∀ k (v : Int), ([4, 8, 16] : List Int)[k]? = some v → W.cell? ⟨0, k, none⟩ = some (.int .i64 v) := by
    intro k v hv
    have hk : k < 3 := (List.getElem?_eq_some_iff.1 hv).1
    have hk' := hel k hk
    rw [c1, Nat.mul_one, List.getElem?_eq_getElem (by omega)] at hk'
    obtain ⟨x, e, r, _⟩ := DataW.trod_int Tryd.underlying3 hk'
    have hd2 : ([.lit (.int .i64 4), .lit (.int .i64 8), .lit (.int .i64 16)] : List (DataW Unit)) = xs.map (·.1) := by
      have := hd
      unfold Rows.laid_exchequer_level_room at this
      injection this
    have hd' := congrArg (·[k]?) hd2
    have hx : k < xs.length := by omega
    rw [List.getElem?_map, List.getElem?_eq_getElem hx] at hd'
    simp only [Option.map_some] at hd'
    rw [r] at hd'
    have q : W.cell? ⟨0, k, none⟩ = cs0.toList[k]? := by rw [World.var?_cell hg0 hv0 k]; simp
    rw [q, one_of e]
    rcases (show k = 0 ∨ k = 1 ∨ k = 2 by omega) with rfl | rfl | rfl <;> simp_all
  refine ⟨fun j v hj => ?_, World.block_lt_of_cell? W ⟨0, 0, none⟩ (key 0 4 rfl)⟩
  rw [Nat.zero_add]
  have hj3 : j < 3 := (List.getElem?_eq_some_iff.1 hj).1
  rcases (show j = 0 ∨ j = 1 ∨ j = 2 by omega) with rfl | rfl | rfl
  · rw [key 0 4 rfl]; exact hj
  · rw [key 1 8 rfl]; exact hj
  · rw [key 2 16 rfl]; exact hj
end Go.Proofs.YtelcijfcgflagaaDoor
namespace Go.Proofs.YtelcijfcgflagaaDoor
open Go.ChangeShapes Go.WideShapes Go.ChangeAt Go.WideMaps Go.WideElems Go.RowKit Go.Joins
set_option maxRecDepth 100000 in
theorem levelKnown_lifted (os : Os) (started : os.Started) (H : Type) (enc : TypeId × Value → H) :
    ReturnsInHanded {} Tryd.checked os 4 .any (fun w args => (Rows.levelKnownSpec.pre enc Tryd.prog Tryd.f4 [] false w args ∧ laidMetH Tryd.prog flaidL w) ∧ sizedMet enc Tryd.prog Tryd.f4 (OpenSpec.ofChange Rows.levelKnownSpec) false w args)
      (Rows.levelKnownSpec.post enc Tryd.prog Tryd.f4 false true false false) := by
  refine returnsInHanded_of_change_and (C := Tryd.checked) (X := fun w _ => laidMetH Tryd.prog flaidL w) (fun _ _ _ hh h => h.of_heap hh) own_knob started (by kernel_rfl) Tryd.func4
    (ChangeSpec.witness_shaped (enc := enc) (C := Tryd.checked) (os := os) (X := fun w _ => laidMetH Tryd.prog flaidL w) false (World.doorLaid Tryd.prog 400 os) #[] 8 rfl (World.shaped_of_RefB (by kernel_rfl) (by kernel_rfl)) (by kernel_rfl) (by kernel_rfl) (by kernel_rfl) (door_met os _)) ?_
  intro W base args ds gs before hval0 hW _ _ hL _
  have hW' := hW
  obtain ⟨p, q, hA0, hV, rfl, hfz, hnd⟩ := hW
  have hA : DataW.TrodAll enc Tryd.prog W 0 (fun _ => true) true Tryd.f4.params.toList args.toList ds p := hA0
  rw [Tryd.params4] at hA
  obtain ⟨rfl, rfl, rfl⟩ := trodAll_none hA
  obtain ⟨rfl, rfl⟩ := trodVars_none hV
  clear hA0 hval0
  refine (lknown_any (of_laid hL)).mono fun e W' ⟨he, bel⟩ => ?_
  subst he
  exact ⟨_, rfl, _, _, _, [], [], [], hW', trodAll_mk1 (shut_bool Tryd.underlying4 _), trodAll_mk0, rfl, bel.frame _, fun h => by cases h⟩
theorem levelKnown_holds : Rows.LevelKnownSaid :=
  OpenClaim.holds_of_wide 4 Tryd.f4 rfl rfl rfl rfl rfl rfl rfl ⟨rfl, rfl, rfl, rfl, rfl⟩ rfl rfl rfl rfl rfl (by kernel_rfl) Tryd.func4 (by kernel_rfl)
    (of_decide_eq_true (by kernel_rfl)) (by unfold Func.isWrapper; first | (rw [if_pos (by decide +kernel)]; kernel_rfl) | (rw [if_neg (by decide +kernel)]; exact ⟨rfl, rfl⟩))
    (fun os started H enc _ => levelKnown_lifted os started H enc)
theorem levelKnown_card : Rows.LevelKnownCardSaid :=
  Claim7.holds_tied_plain_at .later [] [.data] true (true, "eef40a6bcdf71fc3c94c0f78d7a078071b0ffa80f01849bb1a6d833281dbfd2f") false
    levelKnown_holds (fun _ h => by cases h) (by kernel_rfl) (fun _ h => by cases h) levelKnown_row_tie rfl ⟨rfl, rfl⟩ (by kernel_rfl) rfl
    (fun f fn hf hfn => by
      obtain rfl : f = 4 := Option.some.inj ((show Tryd.prog.funcNamed "exchequer/exchequerlaw15.LevelKnown" = some 4 by kernel_rfl).symm.trans hf) |>.symm
      obtain rfl : fn = Tryd.f4 := (Option.some.inj (Tryd.func4.symm.trans hfn)).symm
      exact ⟨by kernel_rfl, fun j t ht => by
        rw [Tryd.params4] at ht
        simp at ht⟩)
    (by kernel_rfl)
#print axioms levelKnown_card
end Go.Proofs.YtelcijfcgflagaaDoor
