/-
  Walks, not a claim by itself: what the region 'x, y := Bytes(a), Bytes(b)' of the reference keeps. By the verifier.
-/
import Derived.Test.YtkpkehbhgfbckaaGate
import Derived.Test.YtkpkehbhgfbckaaRowF
namespace Go.Proofs.Ytkpkehbhgfbckaa
open Go.RowKit
theorem RowF.of {u : World} {b : Nat} {f : Nat → Int} (h : IRow u b .u8 16 f) : RowF u b f := ⟨h.1, h.2.2⟩
theorem bytes_cl (h l : Int) : BytesOf h l = .agg (cl .u8 16 (bf h l)).toArray := by
  unfold cl
  simp only [List.range, List.range.loop, List.map]
  rfl
theorem rbytes_cl (h l : Int) (w : World) (h1 : Word h) (h2 : Word l) :
    Calls Try.prog 30 #[U h l] w fun e w' => e = .returned (.agg (cl .u8 16 (bf h l)).toArray) ∧ Below w.heap.size w w' := by
  refine (rbytes_any h l w h1 h2).mono ?_
  rintro e w' ⟨rfl, hB⟩
  exact ⟨by rw [bytes_cl], hB⟩
theorem keepG {w0 W W' : World} {p q : Nat} {ah al bh bl : Value} (hp : p < w0.heap.size) (hq : q < w0.heap.size)
    (h : W.cell? ⟨p, 0, none⟩ = some ah ∧ W.cell? ⟨p, 1, none⟩ = some al ∧ W.cell? ⟨q, 0, none⟩ = some bh ∧ W.cell? ⟨q, 1, none⟩ = some bl ∧ Hid (Below w0.heap.size w0 W)) (hB : Below w0.heap.size W W') :
    W'.cell? ⟨p, 0, none⟩ = some ah ∧ W'.cell? ⟨p, 1, none⟩ = some al ∧ W'.cell? ⟨q, 0, none⟩ = some bh ∧ W'.cell? ⟨q, 1, none⟩ = some bl ∧ Hid (Below w0.heap.size w0 W') :=
  ⟨(hB.cell (p := ⟨p, 0, none⟩) hp).trans h.1, (hB.cell (p := ⟨p, 1, none⟩) hp).trans h.2.1, (hB.cell (p := ⟨q, 0, none⟩) hq).trans h.2.2.1, (hB.cell (p := ⟨q, 1, none⟩) hq).trans h.2.2.2.1, h.2.2.2.2.out.trans hB⟩
theorem sizeG {w0 W : World} {a b c d : Prop} (h : a ∧ b ∧ c ∧ d ∧ Hid (Below w0.heap.size w0 W)) : w0.heap.size ≤ W.heap.size := h.2.2.2.2.out.size
end Go.Proofs.Ytkpkehbhgfbckaa
