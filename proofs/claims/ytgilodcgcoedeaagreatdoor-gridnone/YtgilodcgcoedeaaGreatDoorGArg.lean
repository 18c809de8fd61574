/-
  The frame of the rows' proofs, not a claim by itself: a block as an argument. By the verifier.
-/
import Derived.Test.YtgilodcgcoedeaaGreatDoorGVal
import Derived.Test.YtgilodcgcoedeaaGreatDoorBFrame
namespace Go.Proofs.YtgilodcgcoedeaaGreatDoor
open Go.ChangeShapes Go.WideShapes Go.ChangeAt Go.RowKit Go.Joins
variable {H : Type} {enc : TypeId × Value → H}
theorem sfirst_of {L : List Value} {o n : Nat} {v : Value} (h : (L.drop o).take n = [v]) : L[o]? = some v := by
  have := congrArg (·[0]?) h
  simp only [List.getElem?_take, List.getElem?_drop] at this
  split at this
  · simpa using this
  · simp at this
theorem sint_at {W : World} {L : List Value} {n : Nat} {t : TypeId} {k : IntKind} {y : DataW H × List MemPlace} (o : Nat) (ht : Tryz.prog.underlying t = some (.int k))
    (h : DataW.trod enc Tryz.prog W 0 (fun _ => true) true n t ((L.drop o).take (Tryz.prog.cellsOf t)) = some y) : ∃ x : Int, L[o]? = some (.int k x) := by
  obtain ⟨x, e, _, wf⟩ := DataW.trod_int ht h
  exact ⟨x, sfirst_of e⟩
/-- Two numbers in a row. -/
theorem two_at {W : World} {L : List Value} {n : Nat} {t : TypeId} {f0 f1 : Field} {y : DataW H × List MemPlace} (ht : Tryz.prog.underlying t = some (.struct #[f0, f1])) (h0 : Tryz.prog.underlying f0.type = some (.int .i64)) (h1 : Tryz.prog.underlying f1.type = some (.int .i64)) (o0 : f0.offset = 0) (o1 : f1.offset = 1)
    (h : DataW.trod enc Tryz.prog W 0 (fun _ => true) true n t L = some y) : ∃ p q : Int, L[0]? = some (.int .i64 p) ∧ L[1]? = some (.int .i64 q) := by
  obtain ⟨y0, y1, k, _, _, t0, t1⟩ := trod_struct2 ht h
  rw [o0] at t0
  rw [o1] at t1
  obtain ⟨p, e0⟩ := sint_at 0 h0 t0
  obtain ⟨q, e1⟩ := sint_at 1 h1 t1
  exact ⟨p, q, e0, e1⟩
/-- Refs that came in. -/
theorem open_refs {W : World} {L : List Value} {n : Nat} {y : DataW H × List MemPlace} (h : DataW.trod enc Tryz.prog W 0 (fun _ => true) true n 42 L = some y) : ∃ (a : Option Addr) (k C : Nat) (hd : Nat → Int), L = [.slice a k C] ∧ HArg W a k hd ∧ k ≤ C := by
  rcases DataW.trod_slice Tryz.underlying42 h with ⟨hcs, _⟩ | ⟨x, l, c, elems, rest, m, _, hcs, _, _, hl, _, hlen, hel, _, _⟩
  · exact ⟨none, 0, 0, fun _ => 0, hcs, .inl rfl, Nat.le_refl _⟩
  · have hc : Tryz.prog.cellsOf 41 = 2 := by kernel_rfl
    have key : ∀ i, i < l → ∃ p q : Int, W.cell? ((x.add (i * 2)).add 0) = some (.int .i64 p) ∧ W.cell? ((x.add (i * 2)).add 1) = some (.int .i64 q) := by
      intro i hi
      have e := hel i hi
      rw [hc, List.getElem?_eq_getElem (by omega)] at e
      obtain ⟨cs, hcs, htr⟩ := Option.bind_eq_some_iff.1 e
      obtain ⟨_, hlen2, hcell⟩ := World.cells?_some hcs
      obtain ⟨p, q, e0, e1⟩ := two_at Tryz.underlying41 Tryz.underlying3 Tryz.underlying3 rfl rfl htr
      exact ⟨p, q, (hcell 0 (by omega)).trans e0, (hcell 1 (by omega)).trans e1⟩
    by_cases h0 : l = 0
    · exact ⟨some x, l, c, fun _ => 0, hcs, .inl h0, hl⟩
    obtain ⟨b, off, spot⟩ := x
    obtain ⟨p0, q0, c0, _⟩ := key 0 (by omega)
    have hspot : spot = none := by simpa [Addr.add] using World.cell?_spot c0
    subst hspot
    have key' : ∀ j, j < 2 * l → ∃ v : Int, W.cell? ⟨b, off + j, none⟩ = some (.int .i64 v) := fun j hj => by
      obtain ⟨p, q, e0, e1⟩ := key (j / 2) (by omega)
      rw [Addr.add_mid, Addr.add_mid] at e0 e1
      by_cases g : j % 2 = 0
      · exact ⟨p, by rw [show off + j = off + j / 2 * 2 + 0 by omega]; exact e0⟩
      · exact ⟨q, by rw [show off + j = off + j / 2 * 2 + 1 by omega]; exact e1⟩
    refine ⟨some ⟨b, off, none⟩, l, c, fun j => if g : j < 2 * l then Classical.choose (key' j g) else 0, hcs, .inr ⟨b, off, rfl, fun j hj => ?_, ?_⟩, hl⟩
    · have s := Classical.choose_spec (key' j hj)
      simp only [dif_pos hj]
      exact s
    · rw [Addr.add_mid, Addr.add_mid] at c0
      exact World.block_lt_of_cell? W _ c0
set_option maxRecDepth 10000 in
/-- A block that came in, opened. -/
theorem open_blkarg {W : World} {base : Nat} {v : Value} {d : DataW H} {p : List MemPlace} (hv : Value.okWide Tryz.prog W .any base 67 v) (h : DataW.Trod enc Tryz.prog W 0 (fun _ => true) true 67 v d p) :
    ∃ (s : Blk) (a : Option Addr) (C : Nat) (b : Option Addr) (D : Nat), v = blkV s a C b D ∧ BlkAt W s a C b D := by
  obtain ⟨cs, rfl, hsz⟩ := okWide_struct Tryz.underlying67 hv
  have h5 : Tryz.prog.cellsOf 67 = 5 := by kernel_rfl
  rw [h5] at hsz
  obtain ⟨fuel, hf⟩ := h
  have hL : (Value.agg cs).cells.toList = cs.toList := rfl
  rw [hL] at hf
  obtain ⟨xs, m, _, _, hl, hxl, hel⟩ := DataW.trod_struct Tryz.underlying67 hf
  rw [h5] at hl
  have hx : xs.length = 4 := hxl
  have g := fun (i : Nat) (f : Field) hfi (hi : i < 4) => (hel i f hfi).trans (List.getElem?_eq_getElem (l := xs) (i := i) (by omega))
  obtain ⟨x0, c0⟩ := sint_at 0 Tryz.underlying3 (g 0 _ rfl (by omega))
  have g1 := g 1 _ rfl (by omega)
  obtain ⟨x1, x2, e1, e2⟩ := two_at Tryz.underlying41 Tryz.underlying3 Tryz.underlying3 rfl rfl g1
  have c1 : cs.toList[1]? = some (.int .i64 x1) := by
    have e := e1
    simp only [List.getElem?_take, List.getElem?_drop] at e
    simp at e
    simpa using e.2
  have c2 : cs.toList[2]? = some (.int .i64 x2) := by
    have e := e2
    simp only [List.getElem?_take, List.getElem?_drop] at e
    simp at e
    simpa using e.2
  obtain ⟨a, k, C, hd, e3, hA, hk⟩ := open_refs (g 2 _ rfl (by omega))
  have c3 : cs.toList[3]? = some (.slice a k C) := sfirst_of e3
  obtain ⟨b, n, D, zs, e4, hR⟩ : ∃ (b : Option Addr) (n D : Nat) (zs : List Int), (cs.toList.drop 4).take (Tryz.prog.cellsOf 43) = [.slice b n D] ∧ IsRow W b n D zs := by
    rcases open_ints Tryz.underlying43 Tryz.underlying5 (by kernel_rfl) (g 3 _ rfl (by omega)) with ⟨hcs', _⟩ | ⟨x, l, c, zs, hcs', _, hl', hm, hz, _, hcell, hwz⟩
    · exact ⟨none, 0, 0, [], hcs', .inl ⟨rfl, rfl, rfl, rfl⟩⟩
    · exact ⟨some x, l, c, zs, hcs', .inr ⟨_, rfl, hl', by simpa using hz, hcell, hwz⟩⟩
  have c4 : cs.toList[4]? = some (.slice b n D) := sfirst_of e4
  refine ⟨⟨fun i => [x0, x1, x2].getD i 0, k, hd, n, fun j => zs.getD j 0⟩, a, C, b, D, ?_, hA, hk, hR.arg, hR.cap⟩
  have key : cs.toList = blkC ⟨fun i => [x0, x1, x2].getD i 0, k, hd, n, fun j => zs.getD j 0⟩ a C b D := by
    refine List.ext_getElem? fun j => ?_
    match j with
    | 0 => exact c0
    | 1 => exact c1
    | 2 => exact c2
    | 3 => exact c3
    | 4 => exact c4
    | j + 5 => rw [List.getElem?_eq_none (by omega), List.getElem?_eq_none (by rw [blkC_len]; omega)]
  unfold blkV
  rw [← key]
end Go.Proofs.YtgilodcgcoedeaaGreatDoor
