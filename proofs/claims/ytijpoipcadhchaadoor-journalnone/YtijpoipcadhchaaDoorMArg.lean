/-
  The frame of the rows' proofs, not a claim by itself: a message as an argument. By the verifier.
-/
import Derived.Test.YtijpoipcadhchaaDoorMSeal
import Derived.Test.YtijpoipcadhchaaDoorMFrame
import Derived.Test.YtijpoipcadhchaaDoorBFrame
namespace Go.Proofs.YtijpoipcadhchaaDoor
open Go.ChangeShapes Go.WideShapes Go.ChangeAt Go.RowKit Go.Joins
variable {H : Type} {enc : TypeId × Value → H}
theorem word_of_wf {x : Int} (h : (Lit.int .u64 x).wf = true) : Word x := by
  simp [Lit.wf, IntKind.min, IntKind.max, IntKind.signed, IntKind.bits] at h
  exact ⟨by omega, by omega⟩
theorem int_at {W : World} {L : List Value} {n : Nat} {t : TypeId} {k : IntKind} {y : DataW H × List MemPlace} (o : Nat) (ht : Tryd.prog.underlying t = some (.int k))
    (h : DataW.trod enc Tryd.prog W 0 (fun _ => true) true n t ((L.drop o).take (Tryd.prog.cellsOf t)) = some y) : ∃ x : Int, L[o]? = some (.int k x) ∧ (Lit.int k x).wf = true := by
  obtain ⟨x, e, _, wf⟩ := DataW.trod_int ht h
  exact ⟨x, first_of e, wf⟩
theorem u128_at {W : World} {L : List Value} {n : Nat} {y : DataW H × List MemPlace} (o : Nat)
    (h : DataW.trod enc Tryd.prog W 0 (fun _ => true) true n 24 ((L.drop o).take (Tryd.prog.cellsOf 24)) = some y) : ∃ a b : Int, L[o]? = some (.int .u64 a) ∧ L[o + 1]? = some (.int .u64 b) ∧ Word a ∧ Word b := by
  have h2 : Tryd.prog.cellsOf 24 = 2 := by kernel_rfl
  rw [h2] at h
  obtain ⟨y0, y1, k, _, _, t0, t1⟩ := trod_struct2 Tryd.underlying24 h
  obtain ⟨a, e0, _, wa⟩ := DataW.trod_int Tryd.underlying22 t0
  obtain ⟨b, e1, _, wb⟩ := DataW.trod_int Tryd.underlying22 t1
  have f0 := first_of e0
  have f1 := first_of e1
  simp only [List.getElem?_take, List.getElem?_drop] at f0 f1
  refine ⟨a, b, by simpa using f0, by simpa using f1, word_of_wf wa, word_of_wf wb⟩
set_option maxRecDepth 10000 in
theorem open_hdr {W : World} {L : List Value} {n : Nat} {y : DataW H × List MemPlace} (h : DataW.trod enc Tryd.prog W 0 (fun _ => true) true n 26 L = some y) : ∃ g : Nat → Int, L = hcs g ∧ Words g := by
  obtain ⟨xs, m, _, _, hl, hxl, hel⟩ := DataW.trod_struct Tryd.underlying26 h
  have h16 : Tryd.prog.cellsOf 26 = 16 := by kernel_rfl
  rw [h16] at hl
  have hx : xs.length = 15 := hxl
  have g := fun (i : Nat) (f : Field) hfi (hi : i < 15) => (hel i f hfi).trans (List.getElem?_eq_getElem (l := xs) (i := i) (by omega))
  obtain ⟨x0, c0, _⟩ := int_at 0 Tryd.underlying3 (g 0 _ rfl (by omega))
  obtain ⟨x1, c1, _⟩ := int_at 1 Tryd.underlying3 (g 1 _ rfl (by omega))
  obtain ⟨x2, c2, _⟩ := int_at 2 Tryd.underlying3 (g 2 _ rfl (by omega))
  obtain ⟨x3, c3, _⟩ := int_at 3 Tryd.underlying3 (g 3 _ rfl (by omega))
  obtain ⟨x4, c4, _⟩ := int_at 4 Tryd.underlying3 (g 4 _ rfl (by omega))
  obtain ⟨x5, c5, _⟩ := int_at 5 Tryd.underlying3 (g 5 _ rfl (by omega))
  obtain ⟨x6, c6, _⟩ := int_at 6 Tryd.underlying3 (g 6 _ rfl (by omega))
  obtain ⟨x7, c7, _⟩ := int_at 7 Tryd.underlying3 (g 7 _ rfl (by omega))
  obtain ⟨x8, c8, _⟩ := int_at 8 Tryd.underlying3 (g 8 _ rfl (by omega))
  obtain ⟨x9, x10, c9, c10, w9, w10⟩ := u128_at 9 (g 9 _ rfl (by omega))
  obtain ⟨x11, c11, _⟩ := int_at 11 Tryd.underlying3 (g 10 _ rfl (by omega))
  obtain ⟨x12, c12, _⟩ := int_at 12 Tryd.underlying3 (g 11 _ rfl (by omega))
  obtain ⟨x13, c13, w13⟩ := int_at 13 Tryd.underlying22 (g 12 _ rfl (by omega))
  obtain ⟨x14, c14, _⟩ := int_at 14 Tryd.underlying3 (g 13 _ rfl (by omega))
  obtain ⟨x15, c15, _⟩ := int_at 15 Tryd.underlying3 (g 14 _ rfl (by omega))
  refine ⟨fun j => [x0, x1, x2, x3, x4, x5, x6, x7, x8, x9, x10, x11, x12, x13, x14, x15].getD j 0, ?_, w9, w10, word_of_wf w13⟩
  refine List.ext_getElem? fun j => ?_
  match j with
  | 0 => exact c0
  | 1 => exact c1
  | 2 => exact c2
  | 3 => exact c3
  | 4 => exact c4
  | 5 => exact c5
  | 6 => exact c6
  | 7 => exact c7
  | 8 => exact c8
  | 9 => exact c9
  | 10 => exact c10
  | 11 => exact c11
  | 12 => exact c12
  | 13 => exact c13
  | 14 => exact c14
  | 15 => exact c15
  | j + 16 => rw [List.getElem?_eq_none (by omega), List.getElem?_eq_none (by rw [hcs_len]; omega)]
set_option maxRecDepth 100000 in
/-- A message that came in, opened. -/
theorem open_msgarg {W : World} {base : Nat} {v : Value} {d : DataW H} {p : List MemPlace} (hv : Value.okWide Tryd.prog W .any base 29 v) (h : DataW.Trod enc Tryd.prog W 0 (fun _ => true) true 29 v d p) :
    ∃ (g : Nat → Int) (a : Option Addr) (n C : Nat) (zs : List Int), v = .agg (msg g a n C).toArray ∧ Words g ∧ IsRow W a n C zs := by
  obtain ⟨cs, rfl, hsz⟩ := okWide_struct Tryd.underlying29 hv
  have h17 : Tryd.prog.cellsOf 29 = 17 := by kernel_rfl
  rw [h17] at hsz
  obtain ⟨fuel, hf⟩ := h
  obtain ⟨y0, y1, k, _, hl, t0, t1⟩ := trod_struct2 Tryd.underlying29 hf
  have hL : (Value.agg cs).cells.toList = cs.toList := rfl
  rw [hL] at t0 t1
  have h16 : Tryd.prog.cellsOf 26 = 16 := by kernel_rfl
  obtain ⟨g, hg, hw⟩ := open_hdr t0
  have fin : ∀ u : Value, (cs.toList.drop 16).take (Tryd.prog.cellsOf 27) = [u] → cs.toList = hcs g ++ [u] := by
    intro u hu
    have a : cs.toList.take 16 = hcs g := by
      have := hg
      simp only [List.drop_zero, h16] at this
      exact this
    have b : cs.toList.drop 16 = [u] := by
      have c1 : Tryd.prog.cellsOf 27 = 1 := by kernel_rfl
      rw [c1] at hu
      rw [← hu, List.take_of_length_le (by simp; omega)]
    rw [← List.take_append_drop 16 cs.toList, a, b]
  rcases open_ints Tryd.underlying27 Tryd.underlying5 (by kernel_rfl) t1 with ⟨hcs', _⟩ | ⟨x, l, c, zs, hcs', _, hl', hm, hz, _, hcell, hwz⟩
  · exact ⟨g, none, 0, 0, [], by rw [msg, ← fin _ hcs'], hw, .inl ⟨rfl, rfl, rfl, rfl⟩⟩
  · exact ⟨g, some x, l, c, zs, by rw [msg, ← fin _ hcs'], hw, .inr ⟨_, rfl, hl', by simpa using hz, hcell, hwz⟩⟩
end Go.Proofs.YtijpoipcadhchaaDoor
