/-
  The frame of the rows' proofs, not a claim by itself: pairs that came in, opened. By the verifier.
-/
import Derived.Test.YtgpafmgncolnmaaMgA
import Derived.Test.YtgpafmgncolnmaaBFrame
namespace Go.Proofs.Ytgpafmgncolnmaa
open Go.ChangeShapes Go.WideShapes Go.ChangeAt Go.WideMaps Go.WideElems Go.RowKit Go.Joins
theorem range_pcs {W : World} {b off : Nat} {ps : List PV} (h : ∀ i x, ps[i]? = some x → W.rangeAt b (off + i * 3) x.cs) : W.rangeAt b off (pcs ps) := fun j v hj => by
  have hl := (List.getElem?_eq_some_iff.1 hj).1
  rw [pcs_len] at hl
  have hi : j / 3 < ps.length := by omega
  have e := pcs_at ps (j / 3) (j % 3) _ (List.getElem?_eq_getElem hi) (by omega)
  rw [show j / 3 * 3 + j % 3 = j by omega, hj] at e
  have := h (j / 3) _ (List.getElem?_eq_getElem hi) (j % 3) v e.symm
  rwa [show off + j / 3 * 3 + j % 3 = off + j by omega] at this
section
variable {H : Type} {enc : TypeId × Value → H}
theorem struct3 {t : TypeId} {f0 f1 f2 : Field} {w : World} {fuel : Nat} {cs : List Value} {x : DataW H × List MemPlace} (ht : Try.prog.underlying t = some (.struct #[f0, f1, f2])) (h : DataW.trod enc Try.prog w 0 (fun _ => true) true fuel t cs = some x) :
    ∃ y0 y1 y2 n, DataW.trod enc Try.prog w 0 (fun _ => true) true n f0.type ((cs.drop f0.offset).take (Try.prog.cellsOf f0.type)) = some y0 ∧ DataW.trod enc Try.prog w 0 (fun _ => true) true n f1.type ((cs.drop f1.offset).take (Try.prog.cellsOf f1.type)) = some y1 ∧ DataW.trod enc Try.prog w 0 (fun _ => true) true n f2.type ((cs.drop f2.offset).take (Try.prog.cellsOf f2.type)) = some y2 := by
  obtain ⟨xs, n, _, rfl, hl, hlen, hf⟩ := DataW.trod_struct ht h
  match xs, hlen with
  | [y0, y1, y2], _ => exact ⟨y0, y1, y2, n, by simpa using hf 0 f0 rfl, by simpa using hf 1 f1 rfl, by simpa using hf 2 f2 rfl⟩
set_option maxRecDepth 100000 in
/-- Bytes within what came in. -/
theorem open_txt {W : World} {fuel : Nat} {cs : List Value} {y : DataW H × List MemPlace} (h : DataW.trod enc Try.prog W 0 (fun _ => true) true fuel 23 cs = some y) : ∃ v t, cs = [v] ∧ Txt W [] v t := by
  rcases open_ints Try.underlying23 Try.underlying5 (by kernel_rfl) h with ⟨hcs, _⟩ | ⟨x, l, c, zs, hcs, _, hl, hm, hz, _, hcell, hwz⟩
  · exact ⟨_, _, hcs, Txt.nil W [] 0⟩
  · have R : IsRow W (some x) l c zs := .inr ⟨_, rfl, hl, by simpa using hz, hcell, hwz⟩
    exact ⟨_, _, hcs, Txt.of R.arg⟩
set_option maxRecDepth 100000 in
/-- Pairs that came in, opened. -/
theorem open_pairs {W : World} {a : Option Addr} {len cap : Nat} {d : DataW H} {p : List MemPlace} (h : DataW.Trod enc Try.prog W 0 (fun _ => true) true 27 (.slice a len cap) d p) : ∃ ps : List PV, ps.length = len ∧ Lst W a ps := by
  obtain ⟨fuel, hf⟩ := h
  rcases DataW.trod_slice Try.underlying27 hf with ⟨hcs, _⟩ | ⟨x, l, c, elems, rest, m, _, hcs, _, _, hl, _, hlen, hel, _, _⟩
  · simp [Value.cells] at hcs
    obtain ⟨rfl, rfl, rfl⟩ := hcs
    exact ⟨[], rfl, fun x hx => (by cases hx), fun h => absurd rfl h⟩
  · simp [Value.cells] at hcs
    obtain ⟨rfl, rfl, rfl⟩ := hcs
    have hc : Try.prog.cellsOf 32 = 3 := by kernel_rfl
    have h3 : Try.prog.cellsOf 23 = 1 := by kernel_rfl
    have h4 : Try.prog.cellsOf 4 = 1 := by kernel_rfl
    have key : ∀ i, i < len → ∃ y : PV, PVOk W [] y ∧ ∀ j v, y.cs[j]? = some v → W.cell? ((x.add (i * 3)).add j) = some v := by
      intro i hi
      have e := hel i hi
      rw [hc, List.getElem?_eq_getElem (by omega)] at e
      obtain ⟨cs, hcs, htr⟩ := Option.bind_eq_some_iff.1 e
      obtain ⟨_, hlen2, hcell⟩ := World.cells?_some hcs
      obtain ⟨y0, y1, y2, k, t0, t1, t2⟩ := struct3 Try.underlying32 htr
      match cs, hlen2 with
      | [c0, c1, c2], _ =>
        obtain ⟨v0, s0, e0, T0⟩ := open_txt t0
        obtain ⟨v1, s1, e1, T1⟩ := open_txt t1
        obtain ⟨b2, e2, _⟩ := DataW.trod_bool Try.underlying4 t2
        simp [h3] at e0
        simp [h3] at e1
        simp [h4] at e2
        subst e0 e1 e2
        refine ⟨⟨c0, c1, ⟨s0, s1, b2⟩⟩, ⟨T0, T1⟩, fun j v hj => ?_⟩
        have hj3 : j < 3 := (List.getElem?_eq_some_iff.1 hj).1
        have := hcell j (by omega)
        rw [this]
        exact hj
    by_cases h0 : len = 0
    · exact ⟨[], h0.symm, fun x hx => (by cases hx), fun h => absurd rfl h⟩
    obtain ⟨b, off, spot⟩ := x
    have hspot : spot = none := by
      obtain ⟨y, _, h1⟩ := key 0 (by omega)
      have := h1 0 _ rfl
      simpa [Addr.add] using World.cell?_spot this
    subst hspot
    have key2 : ∀ i, i < len → ∃ y : PV, PVOk W [] y ∧ W.rangeAt b (off + i * 3) y.cs := fun i hi => by
      obtain ⟨y, h1, h2⟩ := key i hi
      refine ⟨y, h1, fun j v hj => ?_⟩
      have := h2 j v hj
      rwa [Addr.add_mid, Addr.add_mid] at this
    let f : Nat → PV := fun i => if hi : i < len then Classical.choose (key2 i hi) else ⟨undef, undef, ⟨.empty, .empty, false⟩⟩
    have hf' : ∀ i, i < len → PVOk W [] (f i) ∧ W.rangeAt b (off + i * 3) (f i).cs := fun i hi => by
      have := Classical.choose_spec (key2 i hi)
      simp only [f, dif_pos hi]
      exact this
    refine ⟨(List.range len).map f, by simp, fun y hy => ?_, fun _ => ⟨b, off, rfl, range_pcs (fun i y hi => ?_), ?_⟩⟩
    · obtain ⟨i, hi, rfl⟩ := List.mem_map.1 hy
      exact (hf' i (List.mem_range.1 hi)).1
    · have hl2 : i < len := by simpa using (List.getElem?_eq_some_iff.1 hi).1
      rw [List.getElem?_map, List.getElem?_range hl2] at hi
      injection hi with hi
      rw [← hi]
      exact (hf' i hl2).2
    · have := (hf' 0 (by omega)).2 0 _ rfl
      exact World.block_lt_of_cell? W _ this
end
end Go.Proofs.Ytgpafmgncolnmaa
