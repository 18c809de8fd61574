/-
  Laws, not a claim by itself: a slice of slices of pairs as an argument. By the verifier.
-/
import Derived.Test.YtgpafmgncolnmaaMgKn
import Derived.Test.YtgpafmgncolnmaaMgPa
namespace Go.Proofs.Ytgpafmgncolnmaa
open Go.ChangeShapes Go.WideShapes Go.ChangeAt Go.RowKit Go.Joins
section
variable {H : Type} {enc : TypeId × Value → H}
set_option maxRecDepth 100000 in
/-- How long a slice that came in may be. -/
theorem trod_cap {W : World} {a : Option Addr} {len cap : Nat} {d : DataW H} {p : List MemPlace} (h : DataW.Trod enc Try.prog W 0 (fun _ => true) true 27 (.slice a len cap) d p) : len ≤ cap := by
  obtain ⟨fuel, hf⟩ := h
  rcases DataW.trod_slice Try.underlying27 hf with ⟨hcs, _⟩ | ⟨x, l, c, elems, rest, m, _, hcs, _, _, hl, _⟩
  · simp [Value.cells] at hcs
    omega
  · simp [Value.cells] at hcs
    omega
set_option maxRecDepth 100000 in
/-- Lists that came in, opened. -/
theorem open_lists {W : World} {a : Option Addr} {len cap : Nat} {d : DataW H} {p : List MemPlace} (h : DataW.Trod enc Try.prog W 0 (fun _ => true) true 22 (.slice a len cap) d p) : ∃ ls : List LV, ls.length = len ∧ Lsts W a ls := by
  obtain ⟨fuel, hf⟩ := h
  rcases DataW.trod_slice Try.underlying22 hf with ⟨hcs, _⟩ | ⟨x, l, c, elems, rest, m, _, hcs, _, _, hl, _, hlen, hel, _, _⟩
  · simp [Value.cells] at hcs
    obtain ⟨rfl, rfl, rfl⟩ := hcs
    exact ⟨[], rfl, fun x hx => (by cases hx), fun h => absurd rfl h⟩
  · simp [Value.cells] at hcs
    obtain ⟨rfl, rfl, rfl⟩ := hcs
    have hc : Try.prog.cellsOf 27 = 1 := by kernel_rfl
    have key : ∀ i, i < len → ∃ y : LV, LOk W y ∧ W.cell? (x.add i) = some y.v := by
      intro i hi
      have e := hel i hi
      rw [hc, List.getElem?_eq_getElem (by omega)] at e
      obtain ⟨cs, hcs, htr⟩ := Option.bind_eq_some_iff.1 e
      obtain ⟨_, hlen2, hcell⟩ := World.cells?_some hcs
      match cs, hlen2 with
      | [c0], _ =>
        have hc0 := hcell 0 (by omega)
        rcases DataW.trod_slice Try.underlying27 htr with ⟨q, _⟩ | ⟨y, l, c, es, rs, n, _, q, _⟩
        · injection q with q
          subst q
          refine ⟨⟨none, 0, []⟩, ⟨⟨fun z hz => (by cases hz), fun z => absurd rfl z⟩, Nat.le_refl _⟩, ?_⟩
          show W.cell? (x.add i) = some (.slice none 0 0)
          simpa [Addr.add] using hc0
        · injection q with q
          subst q
          have T : DataW.Trod enc Try.prog W 0 (fun _ => true) true 27 (.slice (some y) l c) _ _ := ⟨m, htr⟩
          obtain ⟨ps, hpl, hps⟩ := open_pairs T
          have hcap := trod_cap T
          refine ⟨⟨some y, c, ps⟩, ⟨hps, by show ps.length ≤ c; omega⟩, ?_⟩
          unfold LV.v
          simp only [hpl]
          simpa [Addr.add] using hc0
    by_cases h0 : len = 0
    · exact ⟨[], h0.symm, fun x hx => (by cases hx), fun h => absurd rfl h⟩
    obtain ⟨b, off, spot⟩ := x
    have hspot : spot = none := by
      obtain ⟨y, _, h1⟩ := key 0 (by omega)
      simpa [Addr.add] using World.cell?_spot h1
    subst hspot
    have key2 : ∀ i, i < len → ∃ y : LV, LOk W y ∧ W.cell? ⟨b, off + i, none⟩ = some y.v := fun i hi => by
      obtain ⟨y, h1, h2⟩ := key i hi
      exact ⟨y, h1, by rwa [Addr.add_mid] at h2⟩
    let f : Nat → LV := fun i => if hi : i < len then Classical.choose (key2 i hi) else ⟨none, 0, []⟩
    have hf' : ∀ i, i < len → LOk W (f i) ∧ W.cell? ⟨b, off + i, none⟩ = some (f i).v := fun i hi => by
      have := Classical.choose_spec (key2 i hi)
      simp only [f, dif_pos hi]
      exact this
    refine ⟨(List.range len).map f, by simp, fun y hy => ?_, fun _ => ⟨b, off, rfl, fun j v hj => ?_, ?_⟩⟩
    · obtain ⟨i, hi, rfl⟩ := List.mem_map.1 hy
      exact (hf' i (List.mem_range.1 hi)).1
    · rw [List.map_map, List.getElem?_map] at hj
      by_cases hl2 : j < len
      · rw [List.getElem?_range hl2] at hj
        injection hj with hj
        rw [← hj]
        exact (hf' j hl2).2
      · rw [List.getElem?_eq_none (by simpa using hl2)] at hj
        cases hj
    · exact World.block_lt_of_cell? W _ (hf' 0 (by omega)).2
end
end Go.Proofs.Ytgpafmgncolnmaa
