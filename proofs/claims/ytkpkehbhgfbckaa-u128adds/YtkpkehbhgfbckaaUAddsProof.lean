/-
  Proved: U128Adds: for every list of numbers, in whatever memory, on every schedule, the statement's function returns true: all numbers of a list come to what the document says, and the list stays as it was. No condition.
-/
import Derived.Test.YtkpkehbhgfbckaaUAdds
import Derived.Test.YtkpkehbhgfbckaaFrame
namespace Go.Proofs.Ytkpkehbhgfbckaa
open Go.ChangeShapes Go.WideShapes Go.ChangeAt Go.RowKit Go.Joins

variable {H : Type} {enc : TypeId × Value → H}
/-- Numbers that came in, opened. -/
theorem open_nums {W : World} {a : Option Addr} {len cap : Nat} {d : DataW H} {p : List MemPlace} (h : DataW.Trod enc Try.prog W 0 (fun _ => true) true 31 (.slice a len cap) d p) : ∃ F : Nat → Int, NArg W a len F := by
  obtain ⟨fuel, hf⟩ := h
  rcases DataW.trod_slice Try.underlying31 hf with ⟨hcs, _⟩ | ⟨x, l, c, elems, rest, m, _, hcs, _, _, hl, _, hlen, hel, _, _⟩
  · simp [Value.cells] at hcs
    obtain ⟨rfl, rfl, rfl⟩ := hcs
    exact ⟨fun _ => 0, .inl rfl⟩
  · simp [Value.cells] at hcs
    obtain ⟨rfl, rfl, rfl⟩ := hcs
    have hc : Try.prog.cellsOf 24 = 2 := by kernel_rfl
    have h8 : Try.prog.cellsOf 22 = 1 := by kernel_rfl
    have key : ∀ i, i < len → ∃ X Y : Int, W.cell? (x.add (i * 2)) = some (.int .u64 X) ∧ W.cell? ((x.add (i * 2)).add 1) = some (.int .u64 Y) ∧ Word X ∧ Word Y := by
      intro i hi
      have e := hel i hi
      rw [hc, List.getElem?_eq_getElem (by omega)] at e
      obtain ⟨cs, hcs, htr⟩ := Option.bind_eq_some_iff.1 e
      obtain ⟨_, hlen2, hcell⟩ := World.cells?_some hcs
      obtain ⟨y0, y1, k, _, _, t0, t1⟩ := trod_struct2 Try.underlying24 htr
      match cs, hlen2 with
      | [c0, c1], _ =>
        obtain ⟨X, eX, _, wX⟩ := DataW.trod_int Try.underlying22 t0
        obtain ⟨Y, eY, _, wY⟩ := DataW.trod_int Try.underlying22 t1
        simp [h8] at eX
        simp [h8] at eY
        subst eX eY
        refine ⟨X, Y, ?_, ?_, word_of_wf wX, word_of_wf wY⟩
        · have := hcell 0 (by omega)
          rw [show (x.add (i * 2)).add 0 = x.add (i * 2) from by simp [Addr.add]] at this
          simpa using this
        · simpa using hcell 1 (by omega)
    by_cases h0 : len = 0
    · exact ⟨fun _ => 0, .inl h0⟩
    obtain ⟨b, off, spot⟩ := x
    obtain ⟨X0, Y0, c0, _⟩ := key 0 (by omega)
    have hspot : spot = none := by simpa [Addr.add] using World.cell?_spot c0
    subst hspot
    have key' : ∀ j, j < len * 2 → ∃ X : Int, W.cell? ⟨b, off + j, none⟩ = some (.int .u64 X) ∧ Word X := fun j hj => by
      obtain ⟨X, Y, h1, h2, h3, h4⟩ := key (j / 2) (by omega)
      rw [Addr.add_mid, Addr.add_mid] at h2
      rw [Addr.add_mid] at h1
      by_cases e : j % 2 = 0
      · rw [show j / 2 * 2 = j by omega] at h1
        exact ⟨X, h1, h3⟩
      · rw [show off + j / 2 * 2 + 1 = off + j by omega] at h2
        exact ⟨Y, h2, h4⟩
    refine ⟨fun j => if h : j < len * 2 then Classical.choose (key' j h) else 0, .inr ⟨b, off, rfl, fun j hj => ?_, fun j hj => ?_, ?_⟩⟩
    · have s := Classical.choose_spec (key' j hj)
      simp only [dif_pos hj]
      exact s.1
    · have s := Classical.choose_spec (key' j hj)
      simp only [dif_pos hj]
      exact s.2
    · rw [Addr.add_mid] at c0
      exact World.block_lt_of_cell? W _ c0
set_option maxRecDepth 100000 in
theorem adds_lifted (os : Os) (started : os.Started) (H : Type) (enc : TypeId × Value → H) :
    ReturnsInHanded {} Try.checked os 4 .any (Rows.u128AddsSpec.pre6 enc Try.prog Try.f4 Rows.u128AddsRow.domain false) (Rows.u128AddsSpec.post enc Try.prog Try.f4 false true false false) := by
  refine returnsInHanded_of_change (C := Try.checked) own_knob started (by kernel_rfl) Try.func4
    (ChangeSpec.witness6 (enc := enc) (C := Try.checked) false ⟨#[], #[.slice none 0 0], []⟩ 8 (by kernel_rfl) (by kernel_rfl) (by kernel_rfl) (by kernel_rfl)) ?_
  intro W base args ds gs before hval0 hW hcnd _
  have hval : ∀ (j : Nat) t v, Try.f4.params[j]? = some t → args[j]? = some v → Value.okWide Try.prog W .any base t v := hval0
  have hW' := hW
  obtain ⟨p, q, hA0, hV, rfl, hfz, hnd⟩ := hW
  have hA : DataW.TrodAll enc Try.prog W 0 (fun _ => true) true Try.f4.params.toList args.toList ds p := hA0
  rw [Try.params4] at hA hval
  obtain ⟨v0, d0, rfl, rfl, h0⟩ := trodAll_one hA
  obtain ⟨rfl, rfl⟩ := trodVars_none hV
  obtain ⟨a0, len0, cap0, rfl⟩ := okWide_slice Try.underlying31 (hval 0 31 v0 rfl rfl)
  have k0 := h0
  have lt0 : ∀ x ∈ p, x.block < W.heap.size := by obtain ⟨m, hm⟩ := k0; exact DataW.trod_lt m _ _ _ hm
  obtain ⟨F, r0⟩ := open_nums h0
  clear hA0 hval0
  refine (adds_all a0 len0 cap0 F W r0).mono fun e W' ⟨he, bel⟩ => ?_
  subst he
  exact ⟨_, rfl, _, _, _, [], _, [], hW', trodAll_mk1 (shut_bool Try.underlying4 _), trodAll_mk1 (Below.trod laid_out (by kernel_rfl) (of_decide_eq_true (by kernel_rfl)) k0 bel lt0), rfl, bel.frame _, fun h => by cases h⟩

theorem adds_holds : Rows.U128AddsSaid :=
  OpenClaim.holds_of_wide 4 Try.f4 rfl rfl rfl rfl rfl rfl rfl ⟨rfl, rfl, rfl, rfl, rfl⟩ rfl rfl rfl rfl rfl (by kernel_rfl) Try.func4 (by kernel_rfl)
    (of_decide_eq_true (by kernel_rfl)) (by unfold Func.isWrapper; first | (rw [if_pos (by decide +kernel)]; kernel_rfl) | (rw [if_neg (by decide +kernel)]; exact ⟨rfl, rfl⟩))
    (fun os started H enc _ => adds_lifted os started H enc)
#print axioms adds_holds
end Go.Proofs.Ytkpkehbhgfbckaa
