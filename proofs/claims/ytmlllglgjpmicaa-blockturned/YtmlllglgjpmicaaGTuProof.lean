/-
  Proved: BlockTurned: for every block and every turns, in whatever memory, on every schedule, the statement's function returns true: a block of whose bytes some are turned is not read, but where the seal that stands there is that of the bytes behind it again. No condition.
-/
import Derived.Test.YtmlllglgjpmicaaGTu
import Derived.Test.YtmlllglgjpmicaaGArg
namespace Go.Proofs.Ytmlllglgjpmicaa
open Go.ChangeShapes Go.WideShapes Go.ChangeAt Go.RowKit Go.Joins

variable {H : Type} {enc : TypeId × Value → H}
/-- Turns that came in, opened. -/
theorem open_turns {W : World} {a : Option Addr} {len cap : Nat} {d : DataW H} {p : List MemPlace} (h : DataW.Trod enc Try.prog W 0 (fun _ => true) true 46 (.slice a len cap) d p) : ∃ X Y : Nat → Int, TArg W a len X Y := by
  obtain ⟨fuel, hf⟩ := h
  rcases DataW.trod_slice Try.underlying46 hf with ⟨hcs, _⟩ | ⟨x, l, c, elems, rest, m, _, hcs, _, _, hl, _, hlen, hel, _, _⟩
  · simp [Value.cells] at hcs
    obtain ⟨rfl, rfl, rfl⟩ := hcs
    exact ⟨fun _ => 0, fun _ => 0, .inl rfl⟩
  · simp [Value.cells] at hcs
    obtain ⟨rfl, rfl, rfl⟩ := hcs
    have hc : Try.prog.cellsOf 49 = 2 := by kernel_rfl
    have h3 : Try.prog.cellsOf 3 = 1 := by kernel_rfl
    have h8 : Try.prog.cellsOf 5 = 1 := by kernel_rfl
    have key : ∀ i, i < len → ∃ X Y : Int, W.cell? (x.add (i * 2)) = some (.int .i64 X) ∧ W.cell? ((x.add (i * 2)).add 1) = some (.int .u8 Y) ∧ 0 ≤ Y ∧ Y < 256 := by
      intro i hi
      have e := hel i hi
      rw [hc, List.getElem?_eq_getElem (by omega)] at e
      obtain ⟨cs, hcs, htr⟩ := Option.bind_eq_some_iff.1 e
      obtain ⟨_, hlen2, hcell⟩ := World.cells?_some hcs
      obtain ⟨y0, y1, k, _, _, t0, t1⟩ := trod_struct2 Try.underlying49 htr
      match cs, hlen2 with
      | [c0, c1], _ =>
        obtain ⟨X, eX, _, _⟩ := DataW.trod_int Try.underlying3 t0
        obtain ⟨Y, eY, _, wY⟩ := DataW.trod_int Try.underlying5 t1
        simp [h3] at eX
        simp [h8] at eY
        subst eX eY
        refine ⟨X, Y, ?_, ?_, byte_of_wf wY⟩
        · have := hcell 0 (by omega)
          rw [show (x.add (i * 2)).add 0 = x.add (i * 2) from by simp [Addr.add]] at this
          simpa using this
        · simpa using hcell 1 (by omega)
    by_cases h0 : len = 0
    · exact ⟨fun _ => 0, fun _ => 0, .inl h0⟩
    obtain ⟨b, off, spot⟩ := x
    obtain ⟨X0, Y0, c0, _⟩ := key 0 (by omega)
    have hspot : spot = none := by simpa [Addr.add] using World.cell?_spot c0
    subst hspot
    have key' : ∀ i, i < len → ∃ X Y : Int, W.cell? ⟨b, off + i * 2, none⟩ = some (.int .i64 X) ∧ W.cell? ⟨b, off + i * 2 + 1, none⟩ = some (.int .u8 Y) ∧ 0 ≤ Y ∧ Y < 256 := fun i hi => by
      have := key i hi
      rw [Addr.add_mid, Addr.add_mid] at this
      exact this
    refine ⟨fun i => if h : i < len then Classical.choose (key' i h) else 0, fun i => if h : i < len then Classical.choose (Classical.choose_spec (key' i h)) else 0, .inr ⟨b, off, rfl, fun i hi => ?_, ?_⟩⟩
    · have s := Classical.choose_spec (Classical.choose_spec (key' i hi))
      simp only [dif_pos hi]
      exact s
    · rw [Addr.add_mid] at c0
      exact World.block_lt_of_cell? W _ c0
set_option maxRecDepth 100000 in
theorem turned_lifted (os : Os) (started : os.Started) (H : Type) (enc : TypeId × Value → H) :
    ReturnsInHanded {} Try.checked os 7 .any (Rows.blockTurnedSpec.pre6 enc Try.prog Try.f7 Rows.blockTurnedRow.domain false) (Rows.blockTurnedSpec.post enc Try.prog Try.f7 false true false false) := by
  refine returnsInHanded_of_change (C := Try.checked) own_knob started (by kernel_rfl) Try.func7
    (ChangeSpec.witness6 (enc := enc) (C := Try.checked) false ⟨#[], #[.agg #[.int .i64 0, .int .i64 0, .int .i64 0, .slice none 0 0, .slice none 0 0], .slice none 0 0], []⟩ 8 (by kernel_rfl) (by kernel_rfl) (by kernel_rfl) (by kernel_rfl)) ?_
  intro W base args ds gs before hval0 hW hcnd _
  have hval : ∀ (j : Nat) t v, Try.f7.params[j]? = some t → args[j]? = some v → Value.okWide Try.prog W .any base t v := hval0
  have hW' := hW
  obtain ⟨p, q, hA0, hV, rfl, hfz, hnd⟩ := hW
  have hA : DataW.TrodAll enc Try.prog W 0 (fun _ => true) true Try.f7.params.toList args.toList ds p := hA0
  rw [Try.params7] at hA hval
  obtain ⟨v0, v1, d0, d1, p0, p1, rfl, rfl, rfl, h0, h1⟩ := trodAll_two hA
  obtain ⟨rfl, rfl⟩ := trodVars_none hV
  obtain ⟨a1, len1, cap1, rfl⟩ := okWide_slice Try.underlying46 (hval 1 46 v1 rfl rfl)
  have k0 := h0
  have k1 := h1
  have lt0 : ∀ x ∈ p0, x.block < W.heap.size := by obtain ⟨m, hm⟩ := k0; exact DataW.trod_lt m _ _ _ hm
  have lt1 : ∀ x ∈ p1, x.block < W.heap.size := by obtain ⟨m, hm⟩ := k1; exact DataW.trod_lt m _ _ _ hm
  obtain ⟨s, a0, C0, b0, D0, rfl, hs⟩ := open_blkarg (hval 0 27 v0 rfl rfl) h0
  obtain ⟨X1, Y1, r1⟩ := open_turns h1
  clear hA0 hval0
  refine (turned_any s a0 b0 a1 C0 D0 len1 cap1 X1 Y1 W hs r1).mono fun e W' ⟨he, bel⟩ => ?_
  subst he
  exact ⟨_, rfl, _, _, _, [], _, [], hW', trodAll_mk1 (shut_bool Try.underlying4 _), trodAll_mk2 (Below.trod laid_out (by kernel_rfl) (of_decide_eq_true (by kernel_rfl)) k0 bel lt0) (Below.trod laid_out (by kernel_rfl) (of_decide_eq_true (by kernel_rfl)) k1 bel lt1), rfl, bel.frame _, fun h => by cases h⟩

theorem turned_holds : Rows.BlockTurnedSaid :=
  OpenClaim.holds_of_wide 7 Try.f7 rfl rfl rfl rfl rfl rfl rfl ⟨rfl, rfl, rfl, rfl, rfl⟩ rfl rfl rfl rfl rfl (by kernel_rfl) Try.func7 (by kernel_rfl)
    (of_decide_eq_true (by kernel_rfl)) (by unfold Func.isWrapper; first | (rw [if_pos (by decide +kernel)]; kernel_rfl) | (rw [if_neg (by decide +kernel)]; exact ⟨rfl, rfl⟩))
    (fun os started H enc _ => turned_lifted os started H enc)
#print axioms turned_holds
end Go.Proofs.Ytmlllglgjpmicaa
