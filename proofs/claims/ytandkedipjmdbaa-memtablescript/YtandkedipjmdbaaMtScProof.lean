/-
  Proved: MemtableScript: for every list of acts, in whatever memory, on every schedule, the statement's function returns true: all calls of a table answer what the reference's answer, and behind each of them the table has what the reference's has; what is handed in stays and is not kept, what is told is new memory. No condition.
-/
import Derived.Test.YtandkedipjmdbaaMtSc
import Derived.Test.YtandkedipjmdbaaMtArg
namespace Go.Proofs.Ytandkedipjmdbaa
open Go.ChangeShapes Go.WideShapes Go.ChangeAt Go.WideMaps Go.WideElems Go.RowKit Go.Joins
section
variable {H : Type} {enc : TypeId × Value → H}
theorem struct4 {t : TypeId} {f0 f1 f2 f3 : Field} {w : World} {fuel : Nat} {cs : List Value} {x : DataW H × List MemPlace} (ht : Try.prog.underlying t = some (.struct #[f0, f1, f2, f3])) (h : DataW.trod enc Try.prog w 0 (fun _ => true) true fuel t cs = some x) :
    ∃ y0 y1 y2 y3 n, DataW.trod enc Try.prog w 0 (fun _ => true) true n f0.type ((cs.drop f0.offset).take (Try.prog.cellsOf f0.type)) = some y0 ∧ DataW.trod enc Try.prog w 0 (fun _ => true) true n f1.type ((cs.drop f1.offset).take (Try.prog.cellsOf f1.type)) = some y1 ∧ DataW.trod enc Try.prog w 0 (fun _ => true) true n f2.type ((cs.drop f2.offset).take (Try.prog.cellsOf f2.type)) = some y2 ∧ DataW.trod enc Try.prog w 0 (fun _ => true) true n f3.type ((cs.drop f3.offset).take (Try.prog.cellsOf f3.type)) = some y3 := by
  obtain ⟨xs, n, _, rfl, hl, hlen, hf⟩ := DataW.trod_struct ht h
  match xs, hlen with
  | [y0, y1, y2, y3], _ => exact ⟨y0, y1, y2, y3, n, by simpa using hf 0 f0 rfl, by simpa using hf 1 f1 rfl, by simpa using hf 2 f2 rfl, by simpa using hf 3 f3 rfl⟩
set_option maxRecDepth 100000 in
/-- Acts that came in, opened. -/
theorem open_acts4 {W : World} {a : Option Addr} {len cap : Nat} {d : DataW H} {p : List MemPlace} (h : DataW.Trod enc Try.prog W 0 (fun _ => true) true 22 (.slice a len cap) d p) : ∃ ps : List AV, ps.length = len ∧ LA W a ps := by
  obtain ⟨fuel, hf⟩ := h
  rcases DataW.trod_slice Try.underlying22 hf with ⟨hcs, _⟩ | ⟨x, l, c, elems, rest, m, _, hcs, _, _, hl, _, hlen, hel, _, _⟩
  · simp [Value.cells] at hcs
    obtain ⟨rfl, rfl, rfl⟩ := hcs
    exact ⟨[], rfl, fun x hx => (by cases hx), fun i x hx => (by cases hx)⟩
  · simp [Value.cells] at hcs
    obtain ⟨rfl, rfl, rfl⟩ := hcs
    have hc : Try.prog.cellsOf 35 = 4 := by kernel_rfl
    have h3 : Try.prog.cellsOf 33 = 1 := by kernel_rfl
    have h4 : Try.prog.cellsOf 3 = 1 := by kernel_rfl
    have key : ∀ i, i < len → ∃ y : AV, (Txt W [] y.k y.tk ∧ Txt W [] y.v y.tv) ∧ ∀ j v, y.cs[j]? = some v → W.cell? ((x.add (i * 4)).add j) = some v := by
      intro i hi
      have e := hel i hi
      rw [hc, List.getElem?_eq_getElem (by omega)] at e
      obtain ⟨cs, hcs, htr⟩ := Option.bind_eq_some_iff.1 e
      obtain ⟨_, hlen2, hcell⟩ := World.cells?_some hcs
      obtain ⟨y0, y1, y2, y3, k, t0, t1, t2, t3⟩ := struct4 Try.underlying35 htr
      match cs, hlen2 with
      | [c0, c1, c2, c3], _ =>
        obtain ⟨X, eX, _, _⟩ := DataW.trod_int Try.underlying3 t0
        obtain ⟨Y, eY, _, _⟩ := DataW.trod_int Try.underlying3 t1
        obtain ⟨v0, s0, e0, T0⟩ := open_txt t2
        obtain ⟨v1, s1, e1, T1⟩ := open_txt t3
        simp [h4] at eX
        simp [h4] at eY
        simp [h3] at e0
        simp [h3] at e1
        subst eX eY e0 e1
        refine ⟨⟨X, Y, c2, c3, s0, s1⟩, ⟨T0, T1⟩, fun j v hj => ?_⟩
        have hj3 : j < 4 := (List.getElem?_eq_some_iff.1 hj).1
        have := hcell j (by omega)
        rw [this]
        exact hj
    by_cases h0 : len = 0
    · exact ⟨[], h0.symm, fun x hx => (by cases hx), fun i x hx => (by cases hx)⟩
    obtain ⟨b, off, spot⟩ := x
    have hspot : spot = none := by
      obtain ⟨y, _, h1⟩ := key 0 (by omega)
      have := h1 0 _ rfl
      simpa [Addr.add] using World.cell?_spot this
    subst hspot
    have key2 : ∀ i, i < len → ∃ y : AV, (Txt W [] y.k y.tk ∧ Txt W [] y.v y.tv) ∧ W.rangeAt b (off + i * 4) y.cs := fun i hi => by
      obtain ⟨y, h1, h2⟩ := key i hi
      refine ⟨y, h1, fun j v hj => ?_⟩
      have := h2 j v hj
      rwa [Addr.add_mid, Addr.add_mid] at this
    let f : Nat → AV := fun i => if hi : i < len then Classical.choose (key2 i hi) else ⟨0, 0, undef, undef, .empty, .empty⟩
    have hf' : ∀ i, i < len → (Txt W [] (f i).k (f i).tk ∧ Txt W [] (f i).v (f i).tv) ∧ W.rangeAt b (off + i * 4) (f i).cs := fun i hi => by
      have := Classical.choose_spec (key2 i hi)
      simp only [f, dif_pos hi]
      exact this
    refine ⟨(List.range len).map f, by simp, fun y hy => ?_, fun i y hi => ⟨b, off, rfl, ?_, ?_⟩⟩
    · obtain ⟨i, hi, rfl⟩ := List.mem_map.1 hy
      exact (hf' i (List.mem_range.1 hi)).1
    · have hl2 : i < len := by simpa using (List.getElem?_eq_some_iff.1 hi).1
      rw [List.getElem?_map, List.getElem?_range hl2] at hi
      injection hi with hi
      rw [← hi]
      exact (hf' i hl2).2
    · have := (hf' 0 (by omega)).2 0 _ rfl
      exact World.block_lt_of_cell? W _ this
end

set_option maxRecDepth 100000 in
theorem script_lifted (os : Os) (started : os.Started) (H : Type) (enc : TypeId × Value → H) :
    ReturnsInHanded {} Try.checked os 3 .any (Rows.memtableScriptSpec.pre6 enc Try.prog Try.f3 Rows.memtableScriptRow.domain false) (Rows.memtableScriptSpec.post enc Try.prog Try.f3 false true false false) := by
  refine returnsInHanded_of_change (C := Try.checked) own_knob started (by kernel_rfl) Try.func3
    (ChangeSpec.witness6 (enc := enc) (C := Try.checked) false ⟨#[], #[.slice none 0 0], []⟩ 8 (by kernel_rfl) (by kernel_rfl) (by kernel_rfl) (by kernel_rfl)) ?_
  intro W base args ds gs before hval0 hW hcnd _
  have hval : ∀ (j : Nat) t v, Try.f3.params[j]? = some t → args[j]? = some v → Value.okWide Try.prog W .any base t v := hval0
  have hW' := hW
  obtain ⟨p, q, hA0, hV, rfl, hfz, hnd⟩ := hW
  have hA : DataW.TrodAll enc Try.prog W 0 (fun _ => true) true Try.f3.params.toList args.toList ds p := hA0
  rw [Try.params3] at hA hval
  obtain ⟨v0, d0, rfl, rfl, h0⟩ := trodAll_one hA
  obtain ⟨rfl, rfl⟩ := trodVars_none hV
  obtain ⟨a0, len0, cap0, rfl⟩ := okWide_slice Try.underlying22 (hval 0 22 v0 rfl rfl)
  have k0 := h0
  have lt0 : ∀ x ∈ p, x.block < W.heap.size := by obtain ⟨m, hm⟩ := k0; exact DataW.trod_lt m _ _ _ hm
  obtain ⟨ps, hpl, hps⟩ := open_acts4 h0
  clear hA0 hval0
  refine (script_any W a0 ps len0 cap0 hpl hps).mono fun e W' ⟨he, bel⟩ => ?_
  subst he
  exact ⟨_, rfl, _, _, _, [], _, [], hW', trodAll_mk1 (shut_bool Try.underlying4 _), trodAll_mk1 (Below.trod laid_out (by kernel_rfl) (of_decide_eq_true (by kernel_rfl)) k0 bel lt0), rfl, bel.frame _, fun h => by cases h⟩

theorem script_holds : Rows.MemtableScriptSaid :=
  OpenClaim.holds_of_wide 3 Try.f3 rfl rfl rfl rfl rfl rfl rfl ⟨rfl, rfl, rfl, rfl, rfl⟩ rfl rfl rfl rfl rfl (by kernel_rfl) Try.func3 (by kernel_rfl)
    (of_decide_eq_true (by kernel_rfl)) (by unfold Func.isWrapper; first | (rw [if_pos (by decide +kernel)]; kernel_rfl) | (rw [if_neg (by decide +kernel)]; exact ⟨rfl, rfl⟩))
    (fun os started H enc _ => script_lifted os started H enc)
#print axioms script_holds
end Go.Proofs.Ytandkedipjmdbaa
