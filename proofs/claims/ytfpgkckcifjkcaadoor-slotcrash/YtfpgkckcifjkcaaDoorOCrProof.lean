/-
  Proved: SlotCrash: for every message, all keeps and every number of a torn sector, in whatever memory in which the program's table of fields is as its text lays it, on every schedule, the statement's function returns true: whatever a crash leaves of a prepare that was being written into an empty slot, the slot is Empty, Torn, or has just that prepare, but where a seal is right of other bytes. The table is tied to the program's text (the card).
-/
import Derived.Test.YtfpgkckcifjkcaaDoorOCr
import Derived.Deep.Strs
import Derived.Test.YtfpgkckcifjkcaaDoorMArg
import Derived.Test.YtfpgkckcifjkcaaDoorTie
import Derived.Test.YtfpgkckcifjkcaaDoorCards
namespace Go.Proofs.YtfpgkckcifjkcaaDoor
open Go.ChangeShapes Go.WideShapes Go.ChangeAt Go.WideMaps Go.WideElems Go.RowKit Go.Joins

section
variable {H : Type} {enc : TypeId × Value → H}
set_option maxRecDepth 100000 in
/-- Bools that came in, opened. -/
theorem open_flags {W : World} {a : Option Addr} {len cap : Nat} {d : DataW H} {p : List MemPlace} (h : DataW.Trod enc Tryd.prog W 0 (fun _ => true) true 51 (.slice a len cap) d p) : ∃ B : Nat → Bool, KArg W a len B := by
  obtain ⟨fuel, hf⟩ := h
  rcases DataW.trod_slice Tryd.underlying51 hf with ⟨hcs, _⟩ | ⟨x, l, c, elems, rest, m, _, hcs, _, _, hl, _, hlen, hel, _, _⟩
  · simp [Value.cells] at hcs
    obtain ⟨rfl, rfl, rfl⟩ := hcs
    exact ⟨fun _ => false, .inl rfl⟩
  · simp [Value.cells] at hcs
    obtain ⟨rfl, rfl, rfl⟩ := hcs
    have hb : Tryd.prog.cellsOf 4 = 1 := by kernel_rfl
    have key : ∀ i, i < len → ∃ Z : Bool, W.cell? (x.add i) = some (.bool Z) := by
      intro i hi
      have e := hel i hi
      rw [hb, Nat.mul_one, List.getElem?_eq_getElem (by omega)] at e
      obtain ⟨cs, hcs, htr⟩ := Option.bind_eq_some_iff.1 e
      obtain ⟨_, hlen2, hcell⟩ := World.cells?_some hcs
      obtain ⟨Z, eZ, _⟩ := DataW.trod_bool Tryd.underlying4 htr
      subst eZ
      refine ⟨Z, ?_⟩
      have := hcell 0 (by omega)
      rw [show (x.add i).add 0 = x.add i from by simp [Addr.add]] at this
      simpa using this
    by_cases h0 : len = 0
    · exact ⟨fun _ => false, .inl h0⟩
    obtain ⟨b, off, spot⟩ := x
    obtain ⟨Z0, c0⟩ := key 0 (by omega)
    have hspot : spot = none := by simpa [Addr.add] using World.cell?_spot c0
    subst hspot
    have key' : ∀ i, i < len → ∃ Z : Bool, W.cell? ⟨b, off + i, none⟩ = some (.bool Z) := fun i hi => by
      have := key i hi
      rw [Addr.add_mid] at this
      exact this
    rw [Addr.add_mid] at c0
    refine ⟨fun i => if h : i < len then Classical.choose (key' i h) else false, .inr ⟨b, off, rfl, fun i hi => ?_, World.block_lt_of_cell? W _ c0⟩⟩
    have s := Classical.choose_spec (key' i hi)
    simp only [dif_pos hi]
    exact s
end
theorem crash_all (h : Nat → Int) (a t : Option Addr) (n C m C' : Nat) (tear : Int) (f : Nat → Int) (K : Nat → Bool) (w : World) (hT : Tab w) (hA : Arg w a n f) (hC : n ≤ C) (ht : KArg w t m K) (hW : Words h) :
    Calls Tryd.prog 6 #[.agg (msg h a n C).toArray, .slice t m C', .int .i64 tear] w fun e w' => e = .returned (.bool true) ∧ Below w.heap.size w w' := by
  by_cases l : 1024 < n
  · exact cr_far_a h a t n C m C' tear w hT l
  · by_cases l2 : 10 < m
    · exact cr_far_b h a t n C m C' tear w hT (by omega) l2
    · by_cases ho : okH (upd h 2 (n : Nat)) = true
      · by_cases hp : isPrep h (ofI (h 5)) = true
        · exact cr_main h a t n C m C' tear f K w hT hA hC ht hW (by omega) (by omega) ho hp
        · exact cr_not h a t n C m C' tear f w hT hA hC hW (by omega) (by omega) ho (by simpa using hp)
      · exact cr_arg h a t n C m C' tear w hT (by omega) (by omega) (by simpa using ho)
/-- The zero message. -/
def zmsg : Value := .agg #[.int .i64 0, .int .i64 0, .int .i64 0, .int .i64 0, .int .i64 0, .int .i64 0, .int .i64 0, .int .i64 0, .int .i64 0, .int .u64 0, .int .u64 0, .int .i64 0, .int .i64 0, .int .u64 0, .int .i64 0, .int .i64 0, .slice none 0 0]
set_option maxRecDepth 100000 in
theorem crash_lifted (os : Os) (started : os.Started) (H : Type) (enc : TypeId × Value → H) :
    ReturnsInHanded {} Tryd.checked os 6 .any (fun w args => (Rows.slotCrashSpec.pre enc Tryd.prog Tryd.f6 [] false w args ∧ laidMetH Tryd.prog laidL w) ∧ sizedMet enc Tryd.prog Tryd.f6 (OpenSpec.ofChange Rows.slotCrashSpec) false w args)
      (Rows.slotCrashSpec.post enc Tryd.prog Tryd.f6 false true false false) := by
  refine returnsInHanded_of_change_and (C := Tryd.checked) (X := fun w _ => laidMetH Tryd.prog laidL w) (fun _ _ _ hh h => h.of_heap hh) own_knob started (by kernel_rfl) Tryd.func6
    (ChangeSpec.witness_shaped (enc := enc) (C := Tryd.checked) (os := os) (X := fun w _ => laidMetH Tryd.prog laidL w) false (World.doorLaid Tryd.prog 400 os) #[zmsg, .slice none 0 0, .int .i64 0] 8 rfl (World.shaped_of_RefB (by kernel_rfl) (by kernel_rfl)) (by kernel_rfl) (by kernel_rfl) (by kernel_rfl) (door_met os _)) ?_
  intro W base args ds gs before hval0 hW _ _ hL _
  have hval : ∀ (j : Nat) t v, Tryd.f6.params[j]? = some t → args[j]? = some v → Value.okWide Tryd.prog W .any base t v := hval0
  have hW' := hW
  obtain ⟨p, q, hA0, hV, rfl, hfz, hnd⟩ := hW
  have hA : DataW.TrodAll enc Tryd.prog W 0 (fun _ => true) true Tryd.f6.params.toList args.toList ds p := hA0
  rw [Tryd.params6] at hA hval
  obtain ⟨v0, v1, v2, d0, d1, d2, p0, p1, p2, rfl, rfl, rfl, h0, h1, h2⟩ := trodAll_three hA
  obtain ⟨rfl, rfl⟩ := trodVars_none hV
  have k0 := h0
  have k1 := h1
  have k2 := h2
  have lt0 : ∀ x ∈ p0, x.block < W.heap.size := by obtain ⟨m, hm⟩ := k0; exact DataW.trod_lt m _ _ _ hm
  have lt1 : ∀ x ∈ p1, x.block < W.heap.size := by obtain ⟨m, hm⟩ := k1; exact DataW.trod_lt m _ _ _ hm
  have lt2 : ∀ x ∈ p2, x.block < W.heap.size := by obtain ⟨m, hm⟩ := k2; exact DataW.trod_lt m _ _ _ hm
  obtain ⟨x2, rfl⟩ := okWide_int Tryd.underlying3 (hval 2 3 v2 rfl rfl)
  obtain ⟨g, a, n, C, zs, rfl, hw, r0⟩ := open_msgarg (hval 0 29 v0 rfl rfl) h0
  obtain ⟨a1, len1, cap1, rfl⟩ := okWide_slice Tryd.underlying51 (hval 1 51 v1 rfl rfl)
  obtain ⟨K, r1⟩ := open_flags h1
  clear hA0 hval0
  refine (crash_all g a a1 n C len1 cap1 x2 _ K W (of_laid hL) r0.arg r0.cap r1 hw).mono fun e W' ⟨he, bel⟩ => ?_
  subst he
  exact ⟨_, rfl, _, _, _, [], _, [], hW', trodAll_mk1 (shut_bool Tryd.underlying4 _), trodAll_mk3 (Below.trod laid_out (by kernel_rfl) (of_decide_eq_true (by kernel_rfl)) k0 bel lt0) (Below.trod laid_out (by kernel_rfl) (of_decide_eq_true (by kernel_rfl)) k1 bel lt1) (Below.trod laid_out (by kernel_rfl) (of_decide_eq_true (by kernel_rfl)) k2 bel lt2), rfl, bel.frame _, fun h => by cases h⟩
theorem crash_holds : Rows.SlotCrashSaid :=
  OpenClaim.holds_of_wide 6 Tryd.f6 rfl rfl rfl rfl rfl rfl rfl ⟨rfl, rfl, rfl, rfl, rfl⟩ rfl rfl rfl rfl rfl (by kernel_rfl) Tryd.func6 (by kernel_rfl)
    (of_decide_eq_true (by kernel_rfl)) (by unfold Func.isWrapper; first | (rw [if_pos (by decide +kernel)]; kernel_rfl) | (rw [if_neg (by decide +kernel)]; exact ⟨rfl, rfl⟩))
    (fun os started H enc _ => crash_lifted os started H enc)
theorem crash_card : Rows.SlotCrashCardSaid :=
  Claim7.holds_tied_plain_at .later [] [.data] true (true, "30fdee2a9f5b818a4d6c8e0ee227299e584b14f70d542d197cb76125cbd0d4bc") false
    crash_holds (fun _ h => by cases h) (by kernel_rfl) (fun _ h => by cases h) slotCrash_row_tie rfl ⟨rfl, rfl⟩ (by kernel_rfl) rfl
    (fun f fn hf hfn => by
      obtain rfl : f = 6 := Option.some.inj ((show Tryd.prog.funcNamed "exchequer/exchequerlaw07.SlotCrash" = some 6 by kernel_rfl).symm.trans hf) |>.symm
      obtain rfl : fn = Tryd.f6 := (Option.some.inj (Tryd.func6.symm.trans hfn)).symm
      exact ⟨by kernel_rfl, fun j t ht => by
        rw [Tryd.params6] at ht
        have hm : t ∈ [29, 51, 3] := by simpa using Array.mem_of_getElem? ht
        have hall : ([29, 51, 3].all fun u => !Tryd.prog.wantsStandIn u) = true := by kernel_rfl
        exact (show Tryd.prog.wantsStandIn t = false by simpa using List.all_eq_true.1 hall t hm)⟩)
    (by kernel_rfl)
#print axioms crash_card
end Go.Proofs.YtfpgkckcifjkcaaDoor
