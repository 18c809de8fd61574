/-
  The frame of the rows' proofs, not a claim by itself: acts that came in, opened. By the verifier.
-/
import Derived.Test.YtkncnpjhfcfmnaaDoorFOnce
import Derived.Test.YtkncnpjhfcfmnaaDoorFFrame
import Derived.Test.YtkncnpjhfcfmnaaDoorBFrame
namespace Go.Proofs.YtkncnpjhfcfmnaaDoor
open Go.ChangeShapes Go.WideShapes Go.ChangeAt Go.WideMaps Go.WideElems Go.RowKit Go.Joins
section
variable {H : Type} {enc : TypeId × Value → H}
theorem struct2 {t : TypeId} {f0 f1 : Field} {w : World} {fuel : Nat} {cs : List Value} {x : DataW H × List MemPlace} (ht : Tryd.prog.underlying t = some (.struct #[f0, f1])) (h : DataW.trod enc Tryd.prog w 0 (fun _ => true) true fuel t cs = some x) :
    ∃ y0 y1 n, DataW.trod enc Tryd.prog w 0 (fun _ => true) true n f0.type ((cs.drop f0.offset).take (Tryd.prog.cellsOf f0.type)) = some y0 ∧ DataW.trod enc Tryd.prog w 0 (fun _ => true) true n f1.type ((cs.drop f1.offset).take (Tryd.prog.cellsOf f1.type)) = some y1 := by
  obtain ⟨xs, n, _, rfl, hl, hlen, hf⟩ := DataW.trod_struct ht h
  match xs, hlen with
  | [y0, y1], _ => exact ⟨y0, y1, n, by simpa using hf 0 f0 rfl, by simpa using hf 1 f1 rfl⟩
set_option maxRecDepth 100000 in
/-- Acts that came in, opened. -/
theorem open_acts {W : World} {a : Option Addr} {len cap : Nat} {d : DataW H} {p : List MemPlace} (h : DataW.Trod enc Tryd.prog W 0 (fun _ => true) true 22 (.slice a len cap) d p) : ∃ (F : (Nat → Int) × (Nat → Int)), AArg W a len F.1 F.2 := by
  obtain ⟨fuel, hf⟩ := h
  rcases DataW.trod_slice Tryd.underlying22 hf with ⟨hcs, _⟩ | ⟨x, l, c, elems, rest, m, _, hcs, _, _, hl, _, hlen, hel, _, _⟩
  · simp [Value.cells] at hcs
    obtain ⟨rfl, rfl, rfl⟩ := hcs
    exact ⟨(fun _ => 0, fun _ => 0), fun i hi => by omega⟩
  · simp [Value.cells] at hcs
    obtain ⟨rfl, rfl, rfl⟩ := hcs
    have hc : Tryd.prog.cellsOf 36 = 2 := by kernel_rfl
    have h3 : Tryd.prog.cellsOf 3 = 1 := by kernel_rfl
    have key : ∀ i, i < len → ∃ (X Y : Int), W.cell? (x.add (i * 2)) = some (.int .i64 X) ∧ W.cell? ((x.add (i * 2)).add 1) = some (.int .i64 Y) := by
      intro i hi
      have e := hel i hi
      rw [hc, List.getElem?_eq_getElem (by omega)] at e
      obtain ⟨cs, hcs, htr⟩ := Option.bind_eq_some_iff.1 e
      obtain ⟨_, hlen2, hcell⟩ := World.cells?_some hcs
      obtain ⟨y0, y1, k, t0, t1⟩ := struct2 Tryd.underlying36 htr
      match cs, hlen2 with
      | [c0, c1], _ =>
        obtain ⟨X, eX, _, _⟩ := DataW.trod_int Tryd.underlying3 t0
        obtain ⟨Y, eY, _, _⟩ := DataW.trod_int Tryd.underlying3 t1
        simp [h3] at eX
        simp [h3] at eY
        subst eX eY
        refine ⟨X, Y, ?_, ?_⟩
        · have := hcell 0 (by omega)
          rw [show (x.add (i * 2)).add 0 = x.add (i * 2) from by simp [Addr.add]] at this
          simpa using this
        · simpa using hcell 1 (by omega)
    by_cases h0 : len = 0
    · exact ⟨(fun _ => 0, fun _ => 0), fun i hi => by omega⟩
    obtain ⟨b, off, spot⟩ := x
    have hspot : spot = none := by
      obtain ⟨X, Y, h1, _⟩ := key 0 (by omega)
      simpa [Addr.add] using World.cell?_spot h1
    subst hspot
    have key2 : ∀ i, i < len → ∃ (X Y : Int), W.cell? ⟨b, off + i * 2, none⟩ = some (.int .i64 X) ∧ W.cell? ⟨b, off + i * 2 + 1, none⟩ = some (.int .i64 Y) := fun i hi => by
      obtain ⟨X, Y, h1, h2⟩ := key i hi
      rw [Addr.add_mid] at h1 h2
      rw [Addr.add_mid] at h2
      exact ⟨X, Y, h1, h2⟩
    refine ⟨(fun i => if hi : i < len then Classical.choose (key2 i hi) else 0, fun i => if hi : i < len then Classical.choose (Classical.choose_spec (key2 i hi)) else 0), fun i hi => ?_⟩
    obtain ⟨g1, g2⟩ := Classical.choose_spec (Classical.choose_spec (key2 i hi))
    refine ⟨b, off, rfl, ?_, ?_, World.block_lt_of_cell? W _ g1⟩
    · simpa [hi] using g1
    · simpa [hi] using g2
end
end Go.Proofs.YtkncnpjhfcfmnaaDoor
