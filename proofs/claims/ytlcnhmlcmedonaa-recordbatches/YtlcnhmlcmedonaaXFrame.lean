/-
  The frame of the rows' proofs, not a claim by itself: lists of records as arguments. By the verifier.
-/
import Derived.Test.YtlcnhmlcmedonaaXSame
import Derived.Test.YtlcnhmlcmedonaaBFrame
import Derived.Lib.SmallJoins
namespace Go.Proofs.Ytlcnhmlcmedonaa
open Go.ChangeShapes Go.WideShapes Go.ChangeAt Go.RowKit Go.Joins
theorem xword_of_wf {x : Int} (h : (Lit.int .u64 x).wf = true) : Word x := by
  simp [Lit.wf, IntKind.min, IntKind.max, IntKind.signed, IntKind.bits] at h
  exact ⟨by omega, by omega⟩
theorem xb32 {x : Int} (h : (Lit.int .u32 x).wf = true) : 0 ≤ x ∧ x < 4294967296 := by
  simp [Lit.wf, IntKind.min, IntKind.max, IntKind.signed, IntKind.bits] at h
  exact ⟨by omega, by omega⟩
theorem xb16 {x : Int} (h : (Lit.int .u16 x).wf = true) : 0 ≤ x ∧ x < 65536 := by
  simp [Lit.wf, IntKind.min, IntKind.max, IntKind.signed, IntKind.bits] at h
  exact ⟨by omega, by omega⟩
variable {H : Type} {enc : TypeId × Value → H}
theorem xfirst_of {L : List Value} {o n : Nat} {v : Value} (h : (L.drop o).take n = [v]) : L[o]? = some v := by
  have := congrArg (·[0]?) h
  simp only [List.getElem?_take, List.getElem?_drop] at this
  split at this
  · simpa using this
  · simp at this
theorem xint_at {W : World} {L : List Value} {n : Nat} {t : TypeId} {k : IntKind} {y : DataW H × List MemPlace} (o : Nat) (ht : Try.prog.underlying t = some (.int k))
    (h : DataW.trod enc Try.prog W 0 (fun _ => true) true n t ((L.drop o).take (Try.prog.cellsOf t)) = some y) : ∃ x : Int, L[o]? = some (.int k x) ∧ (Lit.int k x).wf = true := by
  obtain ⟨x, e, _, wf⟩ := DataW.trod_int ht h
  exact ⟨x, xfirst_of e, wf⟩
theorem xu128_at {W : World} {L : List Value} {n : Nat} {y : DataW H × List MemPlace} (o : Nat)
    (h : DataW.trod enc Try.prog W 0 (fun _ => true) true n 24 ((L.drop o).take (Try.prog.cellsOf 24)) = some y) : ∃ a b : Int, L[o]? = some (.int .u64 a) ∧ L[o + 1]? = some (.int .u64 b) ∧ Word a ∧ Word b := by
  have h2 : Try.prog.cellsOf 24 = 2 := by kernel_rfl
  rw [h2] at h
  obtain ⟨y0, y1, k, _, _, t0, t1⟩ := trod_struct2 Try.underlying24 h
  obtain ⟨a, e0, _, wa⟩ := DataW.trod_int Try.underlying22 t0
  obtain ⟨b, e1, _, wb⟩ := DataW.trod_int Try.underlying22 t1
  have f0 := xfirst_of e0
  have f1 := xfirst_of e1
  simp only [List.getElem?_take, List.getElem?_drop] at f0 f1
  refine ⟨a, b, by simpa using f0, by simpa using f1, xword_of_wf wa, xword_of_wf wb⟩
set_option maxRecDepth 10000 in
theorem acc_of_cells {W : World} {L : List Value} {n : Nat} {y : DataW H × List MemPlace} (hlen : L.length = 19) (h : DataW.trod enc Try.prog W 0 (fun _ => true) true n 28 L = some y) : ∃ a : Fld, L = a.cells ∧ a.wf := by
  obtain ⟨xs, m, _, _, _, hxl, hel⟩ := DataW.trod_struct Try.underlying28 h
  have hx : xs.length = 13 := hxl
  have g := fun (i : Nat) (f : Field) hfi (hi : i < 13) => (hel i f hfi).trans (List.getElem?_eq_getElem (l := xs) (i := i) (by omega))
  obtain ⟨h0, l0, c0, c1, w0, w1⟩ := xu128_at 0 (g 0 _ rfl (by omega))
  obtain ⟨h1, l1, c2, c3, w2, w3⟩ := xu128_at 2 (g 1 _ rfl (by omega))
  obtain ⟨h2, l2, c4, c5, w4, w5⟩ := xu128_at 4 (g 2 _ rfl (by omega))
  obtain ⟨h3, l3, c6, c7, w6, w7⟩ := xu128_at 6 (g 3 _ rfl (by omega))
  obtain ⟨h4, l4, c8, c9, w8, w9⟩ := xu128_at 8 (g 4 _ rfl (by omega))
  obtain ⟨h5, l5, c10, c11, w10, w11⟩ := xu128_at 10 (g 5 _ rfl (by omega))
  obtain ⟨p, c12, w12⟩ := xint_at 12 Try.underlying22 (g 6 _ rfl (by omega))
  obtain ⟨q, c13, w13⟩ := xint_at 13 Try.underlying25 (g 7 _ rfl (by omega))
  obtain ⟨r, c14, w14⟩ := xint_at 14 Try.underlying25 (g 8 _ rfl (by omega))
  obtain ⟨s, c15, w15⟩ := xint_at 15 Try.underlying25 (g 9 _ rfl (by omega))
  obtain ⟨t, c16, w16⟩ := xint_at 16 Try.underlying26 (g 10 _ rfl (by omega))
  obtain ⟨u, c17, w17⟩ := xint_at 17 Try.underlying26 (g 11 _ rfl (by omega))
  obtain ⟨v, c18, w18⟩ := xint_at 18 Try.underlying22 (g 12 _ rfl (by omega))
  refine ⟨⟨h0, l0, h1, l1, h2, l2, h3, l3, h4, l4, h5, l5, p, q, r, s, t, u, v⟩, ?_, ⟨w0, w1, w2, w3, w4, w5, w6, w7, w8, w9, w10, w11, xword_of_wf w12, xb32 w13, xb32 w14, xb32 w15, xb16 w16, xb16 w17, xword_of_wf w18⟩⟩
  refine List.ext_getElem? fun j => ?_
  match j with
  | 0 => exact c0
  | 1 => exact c1
  | 2 => exact c2
  | 3 => exact c3
  | 4 => exact c4
  | 5 => exact c5
  | 6 => exact c6
  | 7 => exact c7
  | 8 => exact c8
  | 9 => exact c9
  | 10 => exact c10
  | 11 => exact c11
  | 12 => exact c12
  | 13 => exact c13
  | 14 => exact c14
  | 15 => exact c15
  | 16 => exact c16
  | 17 => exact c17
  | 18 => exact c18
  | j + 19 => rw [List.getElem?_eq_none (by omega), List.getElem?_eq_none (by rw [Fld.cells_len]; omega)]
/-- Records that came in, opened. -/
theorem open_accs {W : World} {a : Option Addr} {len cap : Nat} {d : DataW H} {p : List MemPlace} (h : DataW.Trod enc Try.prog W 0 (fun _ => true) true 39 (.slice a len cap) d p) : ∃ acc : Nat → Fld, RArg W a len acc := by
  obtain ⟨fuel, hf⟩ := h
  rcases DataW.trod_slice Try.underlying39 hf with ⟨hcs, _⟩ | ⟨x, l, c, elems, rest, m, _, hcs, _, _, hl, _, hlen, hel, _, _⟩
  · simp [Value.cells] at hcs
    obtain ⟨rfl, rfl, rfl⟩ := hcs
    exact ⟨fun _ => recOf fun _ => 0, .inl rfl⟩
  · simp [Value.cells] at hcs
    obtain ⟨rfl, rfl, rfl⟩ := hcs
    have hc : Try.prog.cellsOf 28 = 19 := by kernel_rfl
    have key : ∀ i, i < len → ∃ r : Fld, (∀ j, j < 19 → W.cell? ((x.add (i * 19)).add j) = r.cells[j]?) ∧ r.wf := by
      intro i hi
      have e := hel i hi
      rw [hc, List.getElem?_eq_getElem (by omega)] at e
      obtain ⟨cs, hcs, htr⟩ := Option.bind_eq_some_iff.1 e
      obtain ⟨_, hlen2, hcell⟩ := World.cells?_some hcs
      obtain ⟨r, rfl, hw⟩ := acc_of_cells hlen2 htr
      exact ⟨r, hcell, hw⟩
    by_cases h0 : len = 0
    · exact ⟨fun _ => recOf fun _ => 0, .inl h0⟩
    obtain ⟨b, off, spot⟩ := x
    obtain ⟨r0, c0, _⟩ := key 0 (by omega)
    have c00 := c0 0 (by omega)
    rw [List.getElem?_eq_getElem (by rw [Fld.cells_len]; omega)] at c00
    have hspot : spot = none := by simpa [Addr.add] using World.cell?_spot c00
    subst hspot
    have key' : ∀ i, i < len → ∃ r : Fld, W.rangeAt b (off + i * 19) r.cells ∧ r.wf := fun i hi => by
      obtain ⟨r, hr, hw⟩ := key i hi
      refine ⟨r, fun j v hj => ?_, hw⟩
      have hj' : j < 19 := by
        rcases Nat.lt_or_ge j 19 with q | q
        · exact q
        · rw [List.getElem?_eq_none (by rw [Fld.cells_len]; omega)] at hj; cases hj
      have := hr j hj'
      rw [Addr.add_mid, Addr.add_mid] at this
      rw [this]
      exact hj
    refine ⟨fun i => if h : i < len then Classical.choose (key' i h) else recOf fun _ => 0, .inr ⟨b, off, rfl, fun i hi => ?_, fun i hi => ?_, ?_⟩⟩
    · have s := Classical.choose_spec (key' i hi)
      simp only [dif_pos hi]
      exact s.1
    · have s := Classical.choose_spec (key' i hi)
      simp only [dif_pos hi]
      exact s.2
    · rw [Addr.add_mid, Addr.add_mid] at c00
      exact World.block_lt_of_cell? W _ c00
set_option maxRecDepth 10000 in
theorem tra_of_cells {W : World} {L : List Value} {n : Nat} {y : DataW H × List MemPlace} (hlen : L.length = 19) (h : DataW.trod enc Try.prog W 0 (fun _ => true) true n 30 L = some y) : ∃ a : Fld, L = a.cells ∧ a.wf := by
  obtain ⟨xs, m, _, _, _, hxl, hel⟩ := DataW.trod_struct Try.underlying30 h
  have hx : xs.length = 13 := hxl
  have g := fun (i : Nat) (f : Field) hfi (hi : i < 13) => (hel i f hfi).trans (List.getElem?_eq_getElem (l := xs) (i := i) (by omega))
  obtain ⟨h0, l0, c0, c1, w0, w1⟩ := xu128_at 0 (g 0 _ rfl (by omega))
  obtain ⟨h1, l1, c2, c3, w2, w3⟩ := xu128_at 2 (g 1 _ rfl (by omega))
  obtain ⟨h2, l2, c4, c5, w4, w5⟩ := xu128_at 4 (g 2 _ rfl (by omega))
  obtain ⟨h3, l3, c6, c7, w6, w7⟩ := xu128_at 6 (g 3 _ rfl (by omega))
  obtain ⟨h4, l4, c8, c9, w8, w9⟩ := xu128_at 8 (g 4 _ rfl (by omega))
  obtain ⟨h5, l5, c10, c11, w10, w11⟩ := xu128_at 10 (g 5 _ rfl (by omega))
  obtain ⟨p, c12, w12⟩ := xint_at 12 Try.underlying22 (g 6 _ rfl (by omega))
  obtain ⟨q, c13, w13⟩ := xint_at 13 Try.underlying25 (g 7 _ rfl (by omega))
  obtain ⟨r, c14, w14⟩ := xint_at 14 Try.underlying25 (g 8 _ rfl (by omega))
  obtain ⟨s, c15, w15⟩ := xint_at 15 Try.underlying25 (g 9 _ rfl (by omega))
  obtain ⟨t, c16, w16⟩ := xint_at 16 Try.underlying26 (g 10 _ rfl (by omega))
  obtain ⟨u, c17, w17⟩ := xint_at 17 Try.underlying26 (g 11 _ rfl (by omega))
  obtain ⟨v, c18, w18⟩ := xint_at 18 Try.underlying22 (g 12 _ rfl (by omega))
  refine ⟨⟨h0, l0, h1, l1, h2, l2, h3, l3, h4, l4, h5, l5, p, q, r, s, t, u, v⟩, ?_, ⟨w0, w1, w2, w3, w4, w5, w6, w7, w8, w9, w10, w11, xword_of_wf w12, xb32 w13, xb32 w14, xb32 w15, xb16 w16, xb16 w17, xword_of_wf w18⟩⟩
  refine List.ext_getElem? fun j => ?_
  match j with
  | 0 => exact c0
  | 1 => exact c1
  | 2 => exact c2
  | 3 => exact c3
  | 4 => exact c4
  | 5 => exact c5
  | 6 => exact c6
  | 7 => exact c7
  | 8 => exact c8
  | 9 => exact c9
  | 10 => exact c10
  | 11 => exact c11
  | 12 => exact c12
  | 13 => exact c13
  | 14 => exact c14
  | 15 => exact c15
  | 16 => exact c16
  | 17 => exact c17
  | 18 => exact c18
  | j + 19 => rw [List.getElem?_eq_none (by omega), List.getElem?_eq_none (by rw [Fld.cells_len]; omega)]
/-- Records that came in, opened. -/
theorem open_tras {W : World} {a : Option Addr} {len cap : Nat} {d : DataW H} {p : List MemPlace} (h : DataW.Trod enc Try.prog W 0 (fun _ => true) true 40 (.slice a len cap) d p) : ∃ acc : Nat → Fld, RArg W a len acc := by
  obtain ⟨fuel, hf⟩ := h
  rcases DataW.trod_slice Try.underlying40 hf with ⟨hcs, _⟩ | ⟨x, l, c, elems, rest, m, _, hcs, _, _, hl, _, hlen, hel, _, _⟩
  · simp [Value.cells] at hcs
    obtain ⟨rfl, rfl, rfl⟩ := hcs
    exact ⟨fun _ => recOf fun _ => 0, .inl rfl⟩
  · simp [Value.cells] at hcs
    obtain ⟨rfl, rfl, rfl⟩ := hcs
    have hc : Try.prog.cellsOf 30 = 19 := by kernel_rfl
    have key : ∀ i, i < len → ∃ r : Fld, (∀ j, j < 19 → W.cell? ((x.add (i * 19)).add j) = r.cells[j]?) ∧ r.wf := by
      intro i hi
      have e := hel i hi
      rw [hc, List.getElem?_eq_getElem (by omega)] at e
      obtain ⟨cs, hcs, htr⟩ := Option.bind_eq_some_iff.1 e
      obtain ⟨_, hlen2, hcell⟩ := World.cells?_some hcs
      obtain ⟨r, rfl, hw⟩ := tra_of_cells hlen2 htr
      exact ⟨r, hcell, hw⟩
    by_cases h0 : len = 0
    · exact ⟨fun _ => recOf fun _ => 0, .inl h0⟩
    obtain ⟨b, off, spot⟩ := x
    obtain ⟨r0, c0, _⟩ := key 0 (by omega)
    have c00 := c0 0 (by omega)
    rw [List.getElem?_eq_getElem (by rw [Fld.cells_len]; omega)] at c00
    have hspot : spot = none := by simpa [Addr.add] using World.cell?_spot c00
    subst hspot
    have key' : ∀ i, i < len → ∃ r : Fld, W.rangeAt b (off + i * 19) r.cells ∧ r.wf := fun i hi => by
      obtain ⟨r, hr, hw⟩ := key i hi
      refine ⟨r, fun j v hj => ?_, hw⟩
      have hj' : j < 19 := by
        rcases Nat.lt_or_ge j 19 with q | q
        · exact q
        · rw [List.getElem?_eq_none (by rw [Fld.cells_len]; omega)] at hj; cases hj
      have := hr j hj'
      rw [Addr.add_mid, Addr.add_mid] at this
      rw [this]
      exact hj
    refine ⟨fun i => if h : i < len then Classical.choose (key' i h) else recOf fun _ => 0, .inr ⟨b, off, rfl, fun i hi => ?_, fun i hi => ?_, ?_⟩⟩
    · have s := Classical.choose_spec (key' i hi)
      simp only [dif_pos hi]
      exact s.1
    · have s := Classical.choose_spec (key' i hi)
      simp only [dif_pos hi]
      exact s.2
    · rw [Addr.add_mid, Addr.add_mid] at c00
      exact World.block_lt_of_cell? W _ c00
end Go.Proofs.Ytlcnhmlcmedonaa
