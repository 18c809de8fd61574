/-
  Proved: HeaderBack: for every message and all bytes, in whatever memory in which the program's table of fields is as its text lays it, on every schedule, the statement's function returns true: what is sealed is opened as it was, and what is opened is sealed as the same bytes. The table is tied to the program's text (the card).
-/
import Derived.Test.YtkmgjpeoognpjaaDoorMBk
import Derived.Test.YtkmgjpeoognpjaaDoorMArg
import Derived.Test.YtkmgjpeoognpjaaDoorTie
import Derived.Test.YtkmgjpeoognpjaaDoorCards
namespace Go.Proofs.YtkmgjpeoognpjaaDoor
open Go.ChangeShapes Go.WideShapes Go.ChangeAt Go.WideMaps Go.WideElems Go.RowKit Go.Joins

theorem back_any (h : Nat → Int) (a b : Option Addr) (n C m C' : Nat) (f f2 : Nat → Int) (w : World) (hT : Tab w) (hA : Arg w a n f) (hB : Arg w b m f2) (hC : n ≤ C) (hC' : m ≤ C') (hW : Words h) :
    Calls Tryd.prog 6 #[.agg (msg h a n C).toArray, .slice b m C'] w fun e w' => e = .returned (.bool true) ∧ Below w.heap.size w w' := by
  by_cases l : 3000 < n ∨ 3000 < m
  · exact back_long h a b n C m C' w hT l
  · by_cases hc : openCode m f2 = 0
    · by_cases hl : 1024 < n
      · exact back_long_ok h a b n C m C' f2 w hT hB hC' (by omega) (by omega) hl hc
      · by_cases ho : okH (upd h 2 (n : Nat)) = true
        · exact back_ok_ok h a b n C m C' f f2 w hT hA hB hC hC' (by omega) (by omega) hl ho hW hc
        · exact back_arg_ok h a b n C m C' f2 w hT hB hC' (by omega) (by omega) hl (by simpa using ho) hc
    · by_cases hl : 1024 < n
      · exact back_long_no h a b n C m C' f2 w hT hB hC' (by omega) (by omega) hl hc
      · by_cases ho : okH (upd h 2 (n : Nat)) = true
        · exact back_ok_no h a b n C m C' f f2 w hT hA hB hC hC' (by omega) (by omega) hl ho hW hc
        · exact back_arg_no h a b n C m C' f2 w hT hB hC' (by omega) (by omega) hl (by simpa using ho) hc
/-- The zero message. -/
def zmsg : Value := .agg #[.int .i64 0, .int .i64 0, .int .i64 0, .int .i64 0, .int .i64 0, .int .i64 0, .int .i64 0, .int .i64 0, .int .i64 0, .int .u64 0, .int .u64 0, .int .i64 0, .int .i64 0, .int .u64 0, .int .i64 0, .int .i64 0, .slice none 0 0]
set_option maxRecDepth 100000 in
theorem back_lifted (os : Os) (started : os.Started) (H : Type) (enc : TypeId × Value → H) :
    ReturnsInHanded {} Tryd.checked os 6 .any (fun w args => (Rows.headerBackSpec.pre enc Tryd.prog Tryd.f6 [] false w args ∧ laidMetH Tryd.prog laidL w) ∧ sizedMet enc Tryd.prog Tryd.f6 (OpenSpec.ofChange Rows.headerBackSpec) false w args)
      (Rows.headerBackSpec.post enc Tryd.prog Tryd.f6 false true false false) := by
  refine returnsInHanded_of_change_and (C := Tryd.checked) (X := fun w _ => laidMetH Tryd.prog laidL w) (fun _ _ _ hh h => h.of_heap hh) own_knob started (by kernel_rfl) Tryd.func6
    (ChangeSpec.witness_shaped (enc := enc) (C := Tryd.checked) (os := os) (X := fun w _ => laidMetH Tryd.prog laidL w) false (World.doorLaid Tryd.prog 400 os) #[zmsg, .slice none 0 0] 8 rfl (World.shaped_of_RefB (by kernel_rfl) (by kernel_rfl)) (by kernel_rfl) (by kernel_rfl) (by kernel_rfl) (door_met os _)) ?_
  intro W base args ds gs before hval0 hW _ _ hL _
  have hval : ∀ (j : Nat) t v, Tryd.f6.params[j]? = some t → args[j]? = some v → Value.okWide Tryd.prog W .any base t v := hval0
  have hW' := hW
  obtain ⟨p, q, hA0, hV, rfl, hfz, hnd⟩ := hW
  have hA : DataW.TrodAll enc Tryd.prog W 0 (fun _ => true) true Tryd.f6.params.toList args.toList ds p := hA0
  rw [Tryd.params6] at hA hval
  obtain ⟨v0, v1, d0, d1, p0, p1, rfl, rfl, rfl, h0, h1⟩ := trodAll_two hA
  obtain ⟨rfl, rfl⟩ := trodVars_none hV
  have k0 := h0
  have k1 := h1
  have lt0 : ∀ x ∈ p0, x.block < W.heap.size := by obtain ⟨m, hm⟩ := k0; exact DataW.trod_lt m _ _ _ hm
  have lt1 : ∀ x ∈ p1, x.block < W.heap.size := by obtain ⟨m, hm⟩ := k1; exact DataW.trod_lt m _ _ _ hm
  obtain ⟨g, a, n, C, zs, rfl, hw, r0⟩ := open_msgarg (hval 0 29 v0 rfl rfl) h0
  obtain ⟨a1, len1, cap1, rfl⟩ := okWide_slice Tryd.underlying27 (hval 1 27 v1 rfl rfl)
  obtain ⟨z1, r1⟩ := open_row h1
  clear hA0 hval0
  refine (back_any g a a1 n C len1 cap1 _ _ W (of_laid hL) r0.arg r1.arg r0.cap r1.cap hw).mono fun e W' ⟨he, bel⟩ => ?_
  subst he
  exact ⟨_, rfl, _, _, _, [], _, [], hW', trodAll_mk1 (shut_bool Tryd.underlying4 _), trodAll_mk2 (Below.trod laid_out (by kernel_rfl) (of_decide_eq_true (by kernel_rfl)) k0 bel lt0) (Below.trod laid_out (by kernel_rfl) (of_decide_eq_true (by kernel_rfl)) k1 bel lt1), rfl, bel.frame _, fun h => by cases h⟩
theorem back_holds : Rows.HeaderBackSaid :=
  OpenClaim.holds_of_wide 6 Tryd.f6 rfl rfl rfl rfl rfl rfl rfl ⟨rfl, rfl, rfl, rfl, rfl⟩ rfl rfl rfl rfl rfl (by kernel_rfl) Tryd.func6 (by kernel_rfl)
    (of_decide_eq_true (by kernel_rfl)) (by unfold Func.isWrapper; first | (rw [if_pos (by decide +kernel)]; kernel_rfl) | (rw [if_neg (by decide +kernel)]; exact ⟨rfl, rfl⟩))
    (fun os started H enc _ => back_lifted os started H enc)
theorem back_card : Rows.HeaderBackCardSaid :=
  Claim7.holds_tied_plain_at .later [] [.data] true (true, "cc3ed1c7d1dbcebd47f7302bbe530830782934dc8c687881450630bfe9d439d2") false
    back_holds (fun _ h => by cases h) (by kernel_rfl) (fun _ h => by cases h) headerBack_row_tie rfl ⟨rfl, rfl⟩ (by kernel_rfl) rfl
    (fun f fn hf hfn => by
      obtain rfl : f = 6 := Option.some.inj ((show Tryd.prog.funcNamed "exchequer/exchequerlaw04.HeaderBack" = some 6 by kernel_rfl).symm.trans hf) |>.symm
      obtain rfl : fn = Tryd.f6 := (Option.some.inj (Tryd.func6.symm.trans hfn)).symm
      exact ⟨by kernel_rfl, fun j t ht => by
        rw [Tryd.params6] at ht
        have hm : t ∈ [29, 27] := by simpa using Array.mem_of_getElem? ht
        have hall : ([29, 27].all fun u => !Tryd.prog.wantsStandIn u) = true := by kernel_rfl
        exact (show Tryd.prog.wantsStandIn t = false by simpa using List.all_eq_true.1 hall t hm)⟩)
    (by kernel_rfl)
#print axioms back_card
end Go.Proofs.YtkmgjpeoognpjaaDoor
