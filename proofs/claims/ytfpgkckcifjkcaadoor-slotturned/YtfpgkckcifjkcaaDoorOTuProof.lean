/-
  Proved: SlotTurned: for every message and all turns, in whatever memory in which the program's table of fields is as its text lays it, on every schedule, the statement's function returns true: with bytes turned a slot never has another prepare than it had, but where seals are right again. The table is tied to the program's text (the card).
-/
import Derived.Test.YtfpgkckcifjkcaaDoorOTu
import Derived.Deep.Strs
import Derived.Test.YtfpgkckcifjkcaaDoorMArg
import Derived.Test.YtfpgkckcifjkcaaDoorTie
import Derived.Test.YtfpgkckcifjkcaaDoorCards
namespace Go.Proofs.YtfpgkckcifjkcaaDoor
open Go.ChangeShapes Go.WideShapes Go.ChangeAt Go.WideMaps Go.WideElems Go.RowKit Go.Joins

section
variable {H : Type} {enc : TypeId × Value → H}
set_option maxRecDepth 100000 in
/-- Turns that came in, opened. -/
theorem open_turns {W : World} {a : Option Addr} {len cap : Nat} {d : DataW H} {p : List MemPlace} (h : DataW.Trod enc Tryd.prog W 0 (fun _ => true) true 56 (.slice a len cap) d p) : ∃ (Hd : Nat → Bool) (X Y : Nat → Int), TArg3 W a len Hd X Y := by
  obtain ⟨fuel, hf⟩ := h
  rcases DataW.trod_slice Tryd.underlying56 hf with ⟨hcs, _⟩ | ⟨x, l, c, elems, rest, m, _, hcs, _, _, hl, _, hlen, hel, _, _⟩
  · simp [Value.cells] at hcs
    obtain ⟨rfl, rfl, rfl⟩ := hcs
    exact ⟨fun _ => false, fun _ => 0, fun _ => 0, .inl rfl⟩
  · simp [Value.cells] at hcs
    obtain ⟨rfl, rfl, rfl⟩ := hcs
    have hc : Tryd.prog.cellsOf 58 = 3 := by kernel_rfl
    have h1 : Tryd.prog.cellsOf 4 = 1 := by kernel_rfl
    have h3 : Tryd.prog.cellsOf 3 = 1 := by kernel_rfl
    have h8 : Tryd.prog.cellsOf 5 = 1 := by kernel_rfl
    have key : ∀ i, i < len → ∃ (Hd : Bool) (X Y : Int), W.cell? (x.add (i * 3)) = some (.bool Hd) ∧ W.cell? ((x.add (i * 3)).add 1) = some (.int .i64 X) ∧ W.cell? ((x.add (i * 3)).add 2) = some (.int .u8 Y) ∧ 0 ≤ Y ∧ Y < 256 := by
      intro i hi
      have e := hel i hi
      rw [hc, List.getElem?_eq_getElem (by omega)] at e
      obtain ⟨cs, hcs, htr⟩ := Option.bind_eq_some_iff.1 e
      obtain ⟨_, hlen2, hcell⟩ := World.cells?_some hcs
      obtain ⟨y0, y1, y2, k, _, _, t0, t1, t2⟩ := Go.Deep.trod_struct3 Tryd.underlying58 htr
      match cs, hlen2 with
      | [c0, c1, c2], _ =>
        obtain ⟨Hd, eH, _⟩ := DataW.trod_bool Tryd.underlying4 t0
        obtain ⟨X, eX, _, _⟩ := DataW.trod_int Tryd.underlying3 t1
        obtain ⟨Y, eY, _, wY⟩ := DataW.trod_int Tryd.underlying5 t2
        simp [h1] at eH
        simp [h3] at eX
        simp [h8] at eY
        subst eH eX eY
        refine ⟨Hd, X, Y, ?_, ?_, ?_, byte_of_wf wY⟩
        · have := hcell 0 (by omega)
          rw [show (x.add (i * 3)).add 0 = x.add (i * 3) from by simp [Addr.add]] at this
          simpa using this
        · simpa using hcell 1 (by omega)
        · simpa using hcell 2 (by omega)
    by_cases h0 : len = 0
    · exact ⟨fun _ => false, fun _ => 0, fun _ => 0, .inl h0⟩
    obtain ⟨b, off, spot⟩ := x
    obtain ⟨H0, X0, Y0, c0, _⟩ := key 0 (by omega)
    have hspot : spot = none := by simpa [Addr.add] using World.cell?_spot c0
    subst hspot
    have key' : ∀ i, i < len → ∃ (z : Bool × Int × Int), W.cell? ⟨b, off + i * 3, none⟩ = some (.bool z.1) ∧ W.cell? ⟨b, off + i * 3 + 1, none⟩ = some (.int .i64 z.2.1) ∧ W.cell? ⟨b, off + i * 3 + 2, none⟩ = some (.int .u8 z.2.2) ∧ 0 ≤ z.2.2 ∧ z.2.2 < 256 := fun i hi => by
      obtain ⟨Hd, X, Y, q⟩ := key i hi
      rw [Addr.add_mid, Addr.add_mid, Addr.add_mid] at q
      exact ⟨(Hd, X, Y), q⟩
    refine ⟨fun i => if h : i < len then (Classical.choose (key' i h)).1 else false, fun i => if h : i < len then (Classical.choose (key' i h)).2.1 else 0, fun i => if h : i < len then (Classical.choose (key' i h)).2.2 else 0, .inr ⟨b, off, rfl, fun i hi => ?_, ?_⟩⟩
    · have s := Classical.choose_spec (key' i hi)
      simp only [dif_pos hi]
      exact s
    · rw [Addr.add_mid] at c0
      exact World.block_lt_of_cell? W _ c0
end
theorem turned_all (h : Nat → Int) (a t : Option Addr) (n C m C' : Nat) (f : Nat → Int) (Hd : Nat → Bool) (X Y : Nat → Int) (w : World) (hT : Tab w) (hA : Arg w a n f) (hC : n ≤ C) (ht : TArg3 w t m Hd X Y) (hW : Words h) :
    Calls Tryd.prog 7 #[.agg (msg h a n C).toArray, .slice t m C'] w fun e w' => e = .returned (.bool true) ∧ Below w.heap.size w w' := by
  by_cases l : 1024 < n
  · exact tu_far_a h a t n C m C' w hT l
  · by_cases l2 : 40 < m
    · exact tu_far_b h a t n C m C' w hT (by omega) l2
    · by_cases ho : okH (upd h 2 (n : Nat)) = true
      · by_cases hp : isPrep h (ofI (h 5)) = true
        · exact tu_main h a t n C m C' f Hd X Y w hT hA hC ht hW (by omega) (by omega) ho hp
        · exact tu_not h a t n C m C' f w hT hA hC hW (by omega) (by omega) ho (by simpa using hp)
      · exact tu_arg h a t n C m C' w hT (by omega) (by omega) (by simpa using ho)
/-- The zero message. -/
def zmsg : Value := .agg #[.int .i64 0, .int .i64 0, .int .i64 0, .int .i64 0, .int .i64 0, .int .i64 0, .int .i64 0, .int .i64 0, .int .i64 0, .int .u64 0, .int .u64 0, .int .i64 0, .int .i64 0, .int .u64 0, .int .i64 0, .int .i64 0, .slice none 0 0]
set_option maxRecDepth 100000 in
theorem turned_lifted (os : Os) (started : os.Started) (H : Type) (enc : TypeId × Value → H) :
    ReturnsInHanded {} Tryd.checked os 7 .any (fun w args => (Rows.slotTurnedSpec.pre enc Tryd.prog Tryd.f7 [] false w args ∧ laidMetH Tryd.prog laidL w) ∧ sizedMet enc Tryd.prog Tryd.f7 (OpenSpec.ofChange Rows.slotTurnedSpec) false w args)
      (Rows.slotTurnedSpec.post enc Tryd.prog Tryd.f7 false true false false) := by
  refine returnsInHanded_of_change_and (C := Tryd.checked) (X := fun w _ => laidMetH Tryd.prog laidL w) (fun _ _ _ hh h => h.of_heap hh) own_knob started (by kernel_rfl) Tryd.func7
    (ChangeSpec.witness_shaped (enc := enc) (C := Tryd.checked) (os := os) (X := fun w _ => laidMetH Tryd.prog laidL w) false (World.doorLaid Tryd.prog 400 os) #[zmsg, .slice none 0 0] 8 rfl (World.shaped_of_RefB (by kernel_rfl) (by kernel_rfl)) (by kernel_rfl) (by kernel_rfl) (by kernel_rfl) (door_met os _)) ?_
  intro W base args ds gs before hval0 hW _ _ hL _
  have hval : ∀ (j : Nat) t v, Tryd.f7.params[j]? = some t → args[j]? = some v → Value.okWide Tryd.prog W .any base t v := hval0
  have hW' := hW
  obtain ⟨p, q, hA0, hV, rfl, hfz, hnd⟩ := hW
  have hA : DataW.TrodAll enc Tryd.prog W 0 (fun _ => true) true Tryd.f7.params.toList args.toList ds p := hA0
  rw [Tryd.params7] at hA hval
  obtain ⟨v0, v1, d0, d1, p0, p1, rfl, rfl, rfl, h0, h1⟩ := trodAll_two hA
  obtain ⟨rfl, rfl⟩ := trodVars_none hV
  have k0 := h0
  have k1 := h1
  have lt0 : ∀ x ∈ p0, x.block < W.heap.size := by obtain ⟨m, hm⟩ := k0; exact DataW.trod_lt m _ _ _ hm
  have lt1 : ∀ x ∈ p1, x.block < W.heap.size := by obtain ⟨m, hm⟩ := k1; exact DataW.trod_lt m _ _ _ hm
  obtain ⟨g, a, n, C, zs, rfl, hw, r0⟩ := open_msgarg (hval 0 29 v0 rfl rfl) h0
  obtain ⟨a1, len1, cap1, rfl⟩ := okWide_slice Tryd.underlying56 (hval 1 56 v1 rfl rfl)
  obtain ⟨Hd, X, Y, r1⟩ := open_turns h1
  clear hA0 hval0
  refine (turned_all g a a1 n C len1 cap1 _ Hd X Y W (of_laid hL) r0.arg r0.cap r1 hw).mono fun e W' ⟨he, bel⟩ => ?_
  subst he
  exact ⟨_, rfl, _, _, _, [], _, [], hW', trodAll_mk1 (shut_bool Tryd.underlying4 _), trodAll_mk2 (Below.trod laid_out (by kernel_rfl) (of_decide_eq_true (by kernel_rfl)) k0 bel lt0) (Below.trod laid_out (by kernel_rfl) (of_decide_eq_true (by kernel_rfl)) k1 bel lt1), rfl, bel.frame _, fun h => by cases h⟩
theorem turned_holds : Rows.SlotTurnedSaid :=
  OpenClaim.holds_of_wide 7 Tryd.f7 rfl rfl rfl rfl rfl rfl rfl ⟨rfl, rfl, rfl, rfl, rfl⟩ rfl rfl rfl rfl rfl (by kernel_rfl) Tryd.func7 (by kernel_rfl)
    (of_decide_eq_true (by kernel_rfl)) (by unfold Func.isWrapper; first | (rw [if_pos (by decide +kernel)]; kernel_rfl) | (rw [if_neg (by decide +kernel)]; exact ⟨rfl, rfl⟩))
    (fun os started H enc _ => turned_lifted os started H enc)
theorem turned_card : Rows.SlotTurnedCardSaid :=
  Claim7.holds_tied_plain_at .later [] [.data] true (true, "30fdee2a9f5b818a4d6c8e0ee227299e584b14f70d542d197cb76125cbd0d4bc") false
    turned_holds (fun _ h => by cases h) (by kernel_rfl) (fun _ h => by cases h) slotTurned_row_tie rfl ⟨rfl, rfl⟩ (by kernel_rfl) rfl
    (fun f fn hf hfn => by
      obtain rfl : f = 7 := Option.some.inj ((show Tryd.prog.funcNamed "exchequer/exchequerlaw07.SlotTurned" = some 7 by kernel_rfl).symm.trans hf) |>.symm
      obtain rfl : fn = Tryd.f7 := (Option.some.inj (Tryd.func7.symm.trans hfn)).symm
      exact ⟨by kernel_rfl, fun j t ht => by
        rw [Tryd.params7] at ht
        have hm : t ∈ [29, 56] := by simpa using Array.mem_of_getElem? ht
        have hall : ([29, 56].all fun u => !Tryd.prog.wantsStandIn u) = true := by kernel_rfl
        exact (show Tryd.prog.wantsStandIn t = false by simpa using List.all_eq_true.1 hall t hm)⟩)
    (by kernel_rfl)
#print axioms turned_card
end Go.Proofs.YtfpgkckcifjkcaaDoor
