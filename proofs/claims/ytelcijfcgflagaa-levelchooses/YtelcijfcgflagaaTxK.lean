/-
  Laws, not a claim by itself: texts, and worlds that differ in no block of cells. By the verifier.
-/
import Derived.Test.YtelcijfcgflagaaTxC
import Derived.Test.YtelcijfcgflagaaHold
import Derived.Test.YtelcijfcgflagaaFen
namespace Go.Proofs.Ytelcijfcgflagaa
open Go.RowKit Go.Shelf
/-- All blocks of cells are as they were. -/
structure Cks (W W' : World) : Prop where
  size : W.heap.size ≤ W'.heap.size
  block : ∀ (k : Nat) (o : Obj), W.heap[k]? = some o → o.isCells = true → W'.heap[k]? = some o
  os : W'.os = W.os
  tape : W'.tape = W.tape
  output : W'.output = W.output
theorem Cks.below {W W' : World} (h : Below W.heap.size W W') : Cks W W' := ⟨h.size, fun k _ ho _ => (h.block k (Array.getElem?_eq_some_iff.1 ho).1).trans ho, h.os, h.tape, h.output⟩
theorem Cks.but {W W' : World} {l : Nat} (h : But l W W') (hl : ∃ r, W.heap[l]? = some (.loop r)) : Cks W W' := ⟨h.size, fun k o ho hc => (h.block k (Array.getElem?_eq_some_iff.1 ho).1 (fun e => by
  obtain ⟨r, hr⟩ := hl
  rw [e, hr] at ho
  injection ho with ho
  rw [← ho] at hc
  cases hc)).trans ho, h.os, h.tape, h.output⟩
theorem Cks.grown {W W' : World} {row : Option Nat} (h : W.grownBy W' row) (hr : ∀ r, row = some r → ∃ o : Obj, W.heap[r]? = some o ∧ o.isCells = false) : Cks W W' := ⟨h.size, fun k o ho hc => (h.block k (Array.getElem?_eq_some_iff.1 ho).1 (fun e => by
  obtain ⟨o', h1, h2⟩ := hr k e.symm
  rw [h1] at ho
  injection ho with ho
  rw [← ho, h2] at hc
  cases hc)).trans ho, h.os, h.tape, h.output⟩
theorem cell_cells {W : World} {p : Addr} {v : Value} (h : W.cell? p = some v) : ∃ o, W.heap[p.block]? = some o ∧ o.isCells = true := by
  unfold World.cell? at h
  cases e : W.heap[p.block]? with
  | none => simp [e] at h
  | some o =>
    refine ⟨o, rfl, ?_⟩
    cases o <;> first | rfl | (exfalso; simp [e] at h)
theorem Cks.cell {W W' : World} (k : Cks W W') {p : Addr} {v : Value} (h : W.cell? p = some v) : W'.cell? p = some v := by
  obtain ⟨o, ho, hc⟩ := cell_cells h
  exact (World.cell?_of_block (w := W) ((k.block _ o ho hc).trans ho.symm)).trans h
theorem Cks.frozen {W W' : World} (k : Cks W W') {p : Addr} {v : Value} (h : W.cell? p = some v) : W'.frozen? p = W.frozen? p := by
  obtain ⟨o, ho, hc⟩ := cell_cells h
  exact World.frozen?_of_block (w := W) ((k.block _ o ho hc).trans ho.symm)
theorem Rec19.cks {W W' : World} {n o : Nat} {cs : List Value} (h : Rec19 W n o cs) (k : Cks W W') : Rec19 W' n o cs := by
  refine ⟨fun j v hj => k.cell (h.1 j v hj), fun j hj => ?_, Nat.lt_of_lt_of_le h.2.2 k.size⟩
  have c := h.1 j _ (List.getElem?_eq_getElem hj)
  have d := (h.2.1 j hj).2
  exact ⟨by rw [k.cell c]; rfl, (k.frozen c).trans d⟩
theorem Cks.butN {W W' : World} {l : Nat} {o : Obj} (h : But l W W') (hl : W.heap[l]? = some o) (ho : o.isCells = false) : Cks W W' := ⟨h.size, fun k o' hk hc => (h.block k (Array.getElem?_eq_some_iff.1 hk).1 (fun e => by
  rw [e, hl] at hk
  injection hk with hk
  rw [← hk, ho] at hc
  cases hc)).trans hk, h.os, h.tape, h.output⟩
theorem Arg.cks {w w' : World} {a : Option Addr} {n : Nat} {f : Nat → Int} (h : Arg w a n f) (k : Cks w w') : Arg w' a n f := by
  rcases h with h | ⟨h0, b, off, rfl, hl⟩
  · exact .inl h
  · exact .inr ⟨h0, b, off, rfl, fun j hj => k.cell (hl.1 j hj), hl.2.1, Nat.lt_of_lt_of_le hl.2.2 k.size⟩
theorem Txt.cks {W W' : World} {N : List Nat} {s : Value} {t : ByteArray} (h : Txt W N s t) (k : Cks W W') : Txt W' N s t := by
  obtain ⟨a, C, f, hs, hA, ht, hn⟩ := h
  exact ⟨a, C, f, hs, hA.cks k, ht, hn⟩
theorem Fr.cks {W W' : World} {base : Nat} {s : Value} {t : ByteArray} (h : Fr W base s t) (k : Cks W W') : Fr W' base s t := by
  rcases h with h | ⟨g, F, hs, hb, h0, h1, h2, hR, ht, hF⟩
  · exact .inl h
  · have c := hR.1 0 (by omega)
    obtain ⟨o, ho, hc⟩ := cell_cells c
    have e := hsz_eq ((k.block g o ho hc).trans ho.symm)
    refine .inr ⟨g, F, by rw [e]; exact hs, hb, h0, by rw [e]; exact h1, by rw [e]; exact h2, ⟨fun j hj => ?_, fun j => ?_, Nat.lt_of_lt_of_le hR.2.2 k.size⟩, ht, by rw [e]; exact hF⟩
    · rw [e] at hj; exact k.cell (hR.1 j hj)
    · have := hR.2.1 j
      exact (World.frozen?_of_block (w := W) (a := ⟨g, j, none⟩) ((k.block g o ho hc).trans ho.symm)).trans this
theorem Fr.offT {W W' : World} {base : Nat} {s : Value} {t : ByteArray} {N : List Nat} (h : Fr W base s t) (k : Txt W N s t) (hO : Off N W W') : Fr W' base s t := by
  rcases h with h | ⟨g, F, hs, hb, h0, h1, h2, hR, ht, hF⟩
  · exact .inl h
  · have hg : g ∉ N := by
      obtain ⟨a, C, f, hs', _, _, hn⟩ := k
      rw [hs] at hs'
      injection hs' with ha
      exact hn h0 _ ha.symm
    have e := hsz_eq (hO.block g hR.2.2 hg)
    exact .inr ⟨g, F, by rw [e]; exact hs, hb, h0, by rw [e]; exact h1, by rw [e]; exact h2, by rw [e]; exact hR.off hO hg, ht, by rw [e]; exact hF⟩
theorem Fr.sl {W : World} {base : Nat} {s : Value} {t : ByteArray} (h : Fr W base s t) : ∃ a n C, s = .slice a n C := by
  rcases h with ⟨_, rfl⟩ | ⟨g, F, rfl, _⟩
  · exact ⟨_, _, _, rfl⟩
  · exact ⟨_, _, _, rfl⟩
end Go.Proofs.Ytelcijfcgflagaa
