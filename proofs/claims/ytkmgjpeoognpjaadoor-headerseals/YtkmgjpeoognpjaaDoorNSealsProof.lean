/-
  Proved: HeaderSeals: for every message, in whatever memory in which the program's table of fields is as its text lays it, on every schedule, the statement's function returns true: Seal answers the reference's code and the reference's bytes, in new memory, and leaves the message and what lies behind its body as they were. The table is tied to the program's text (the card).
-/
import Derived.Test.YtkmgjpeoognpjaaDoorNSeals
import Derived.Test.YtkmgjpeoognpjaaDoorMArg
import Derived.Test.YtkmgjpeoognpjaaDoorTie
import Derived.Test.YtkmgjpeoognpjaaDoorCards
namespace Go.Proofs.YtkmgjpeoognpjaaDoor
open Go.ChangeShapes Go.WideShapes Go.ChangeAt Go.WideMaps Go.WideElems Go.RowKit Go.Joins

theorem seals_any (h : Nat → Int) (a : Option Addr) (n C : Nat) (f : Nat → Int) (w : World) (hT : Tab w) (hA : Arg w a n f) (hW : Words h) :
    Calls Tryd.prog 3 #[.agg (msg h a n C).toArray] w fun e w' => e = .returned (.bool true) ∧ Below w.heap.size w w' := by
  by_cases l : 3000 < n
  · exact seals_far h a n C w l
  · by_cases hl : 1024 < n
    · exact seals_long h a n C f w hT hA (by omega) hl
    · by_cases ho : okH (upd h 2 (n : Nat)) = true
      · exact seals_ok h a n C f w hT hA (by omega) hl ho hW
      · exact seals_arg h a n C f w hT hA (by omega) hl (by simpa using ho)
/-- The zero message. -/
def zmsg : Value := .agg #[.int .i64 0, .int .i64 0, .int .i64 0, .int .i64 0, .int .i64 0, .int .i64 0, .int .i64 0, .int .i64 0, .int .i64 0, .int .u64 0, .int .u64 0, .int .i64 0, .int .i64 0, .int .u64 0, .int .i64 0, .int .i64 0, .slice none 0 0]
set_option maxRecDepth 100000 in
theorem seals_lifted (os : Os) (started : os.Started) (H : Type) (enc : TypeId × Value → H) :
    ReturnsInHanded {} Tryd.checked os 3 .any (fun w args => (Rows.headerSealsSpec.pre enc Tryd.prog Tryd.f3 [] false w args ∧ laidMetH Tryd.prog laidL w) ∧ sizedMet enc Tryd.prog Tryd.f3 (OpenSpec.ofChange Rows.headerSealsSpec) false w args)
      (Rows.headerSealsSpec.post enc Tryd.prog Tryd.f3 false true false false) := by
  refine returnsInHanded_of_change_and (C := Tryd.checked) (X := fun w _ => laidMetH Tryd.prog laidL w) (fun _ _ _ hh h => h.of_heap hh) own_knob started (by kernel_rfl) Tryd.func3
    (ChangeSpec.witness_shaped (enc := enc) (C := Tryd.checked) (os := os) (X := fun w _ => laidMetH Tryd.prog laidL w) false (World.doorLaid Tryd.prog 400 os) #[zmsg] 8 rfl (World.shaped_of_RefB (by kernel_rfl) (by kernel_rfl)) (by kernel_rfl) (by kernel_rfl) (by kernel_rfl) (door_met os _)) ?_
  intro W base args ds gs before hval0 hW _ _ hL _
  have hval : ∀ (j : Nat) t v, Tryd.f3.params[j]? = some t → args[j]? = some v → Value.okWide Tryd.prog W .any base t v := hval0
  have hW' := hW
  obtain ⟨p, q, hA0, hV, rfl, hfz, hnd⟩ := hW
  have hA : DataW.TrodAll enc Tryd.prog W 0 (fun _ => true) true Tryd.f3.params.toList args.toList ds p := hA0
  rw [Tryd.params3] at hA hval
  obtain ⟨v0, d0, rfl, rfl, h0⟩ := trodAll_one hA
  obtain ⟨rfl, rfl⟩ := trodVars_none hV
  have k0 := h0
  have lt0 : ∀ x ∈ p, x.block < W.heap.size := by obtain ⟨m, hm⟩ := k0; exact DataW.trod_lt m _ _ _ hm
  obtain ⟨g, a, n, C, zs, rfl, hw, r0⟩ := open_msgarg (hval 0 29 v0 rfl rfl) h0
  clear hA0 hval0
  refine (seals_any g a n C _ W (of_laid hL) r0.arg hw).mono fun e W' ⟨he, bel⟩ => ?_
  subst he
  exact ⟨_, rfl, _, _, _, [], _, [], hW', trodAll_mk1 (shut_bool Tryd.underlying4 _), trodAll_mk1 (Below.trod laid_out (by kernel_rfl) (of_decide_eq_true (by kernel_rfl)) k0 bel lt0), rfl, bel.frame _, fun h => by cases h⟩
theorem seals_holds : Rows.HeaderSealsSaid :=
  OpenClaim.holds_of_wide 3 Tryd.f3 rfl rfl rfl rfl rfl rfl rfl ⟨rfl, rfl, rfl, rfl, rfl⟩ rfl rfl rfl rfl rfl (by kernel_rfl) Tryd.func3 (by kernel_rfl)
    (of_decide_eq_true (by kernel_rfl)) (by unfold Func.isWrapper; first | (rw [if_pos (by decide +kernel)]; kernel_rfl) | (rw [if_neg (by decide +kernel)]; exact ⟨rfl, rfl⟩))
    (fun os started H enc _ => seals_lifted os started H enc)
theorem seals_card : Rows.HeaderSealsCardSaid :=
  Claim7.holds_tied_plain_at .later [] [.data] true (true, "cc3ed1c7d1dbcebd47f7302bbe530830782934dc8c687881450630bfe9d439d2") false
    seals_holds (fun _ h => by cases h) (by kernel_rfl) (fun _ h => by cases h) headerSeals_row_tie rfl ⟨rfl, rfl⟩ (by kernel_rfl) rfl
    (fun f fn hf hfn => by
      obtain rfl : f = 3 := Option.some.inj ((show Tryd.prog.funcNamed "exchequer/exchequerlaw04.HeaderSeals" = some 3 by kernel_rfl).symm.trans hf) |>.symm
      obtain rfl : fn = Tryd.f3 := (Option.some.inj (Tryd.func3.symm.trans hfn)).symm
      exact ⟨by kernel_rfl, fun j t ht => by
        rw [Tryd.params3] at ht
        have hm : t ∈ [29] := by simpa using Array.mem_of_getElem? ht
        have hall : ([29].all fun u => !Tryd.prog.wantsStandIn u) = true := by kernel_rfl
        exact (show Tryd.prog.wantsStandIn t = false by simpa using List.all_eq_true.1 hall t hm)⟩)
    (by kernel_rfl)
#print axioms seals_card
end Go.Proofs.YtkmgjpeoognpjaaDoor
