/-
  Plain notions, not a claim by itself: worlds that are the same but for some blocks. By the verifier.
-/
import Derived.Test.YtelcijfcgflagaaBApp
import Derived.Test.YtelcijfcgflagaaReg
namespace Go.Proofs.Ytelcijfcgflagaa
open Go.RowKit
/-- The worlds are the same but for some blocks and new ones. -/
structure Off (bs : List Nat) (w w' : World) : Prop where
  os : w'.os = w.os
  tape : w'.tape = w.tape
  output : w'.output = w.output
  size : w.heap.size ≤ w'.heap.size
  block : ∀ k, k < w.heap.size → k ∉ bs → w'.heap[k]? = w.heap[k]?
theorem Off.refl (bs : List Nat) (w : World) : Off bs w w := ⟨rfl, rfl, rfl, Nat.le_refl _, fun _ _ _ => rfl⟩
theorem Off.trans {bs : List Nat} {u v w : World} (h : Off bs u v) (k : Off bs v w) : Off bs u w :=
  ⟨k.os.trans h.os, k.tape.trans h.tape, k.output.trans h.output, Nat.le_trans h.size k.size, fun i hi hn => (k.block i (Nat.lt_of_lt_of_le hi h.size) hn).trans (h.block i hi hn)⟩
theorem Off.mono {bs cs : List Nat} {w w' : World} (h : Off bs w w') (hs : ∀ b, b ∈ bs → b ∈ cs) : Off cs w w' := ⟨h.os, h.tape, h.output, h.size, fun k hk hn => h.block k hk (fun q => hn (hs k q))⟩
theorem Off.far {bs cs : List Nat} {u v w : World} (h : Off bs u v) (k : Off cs v w) (hc : ∀ b, b ∈ cs → b ∈ bs ∨ u.heap.size ≤ b) : Off bs u w :=
  ⟨k.os.trans h.os, k.tape.trans h.tape, k.output.trans h.output, Nat.le_trans h.size k.size, fun i hi hn => (k.block i (Nat.lt_of_lt_of_le hi h.size) (fun q => by rcases hc i q with q | q; exact hn q; omega)).trans (h.block i hi hn)⟩
theorem Off.of {bs : List Nat} {w w' : World} (h : Below w.heap.size w w') : Off bs w w' := ⟨h.os, h.tape, h.output, h.size, fun k hk _ => h.block k hk⟩
theorem Off.but {bs : List Nat} {b : Nat} {w w' : World} (h : But b w w') (hb : b ∈ bs) : Off bs w w' := ⟨h.os, h.tape, h.output, h.size, fun k hk hn => h.block k hk (fun q => hn (q ▸ hb))⟩
theorem Off.below {bs : List Nat} {B : Nat} {w w' : World} (h : Off bs w w') (h1 : ∀ b, b ∈ bs → B ≤ b) (h2 : B ≤ w.heap.size) : Below B w w' :=
  ⟨h.os, h.tape, h.output, h.size, fun k hk => h.block k (by omega) (fun q => by have := h1 k q; omega)⟩
theorem Off.alloc {bs : List Nat} {w w' : World} (h : Off bs w w') (o : Obj) : Off bs w (w'.alloc o) := h.trans (Off.of ((Below.refl _ _).alloc (Nat.le_refl _) _))
theorem Off.drew {bs : List Nat} {w w' : World} (h : Off bs w w') : Off bs w w'.drew := h.trans (Off.of (Below.refl _ _).drew)
theorem Off.cell {bs : List Nat} {w w' : World} (h : Off bs w w') {p : Addr} (h1 : p.block < w.heap.size) (h2 : p.block ∉ bs) : w'.cell? p = w.cell? p := World.cell?_of_block (w := w) (h.block p.block h1 h2)
theorem Off.frozen {bs : List Nat} {w w' : World} (h : Off bs w w') {p : Addr} (h1 : p.block < w.heap.size) (h2 : p.block ∉ bs) : w'.frozen? p = w.frozen? p := World.frozen?_of_block (w := w) (h.block p.block h1 h2)
theorem Off.set {bs : List Nat} {b : Nat} (w : World) (o : Nat) (v : Value) (hb : b ∈ bs) : Off bs w (w.setCell ⟨b, o, none⟩ v) := Off.but (But.set w o v) hb
theorem Off.grown {bs : List Nat} {w w' : World} {row : Option Nat} (h : w.grownBy w' row) (hr : ∀ r, row = some r → r ∈ bs) : Off bs w w' :=
  ⟨h.os, h.tape, h.output, h.size, fun k hk hn => h.block k hk (fun e => hn (hr k e.symm))⟩
theorem IRow.off {u v : World} {b : Nat} {bs : List Nat} {k : IntKind} {N : Nat} {f : Nat → Int} (h : IRow u b k N f) (hb : Off bs u v) (hn : b ∉ bs) : IRow v b k N f :=
  ⟨fun j hj => (hb.cell (p := ⟨b, j, none⟩) h.2.2 hn).trans (h.1 j hj), fun j => (hb.frozen (p := ⟨b, j, none⟩) h.2.2 hn).trans (h.2.1 j), Nat.lt_of_lt_of_le h.2.2 hb.size⟩
theorem Rec19.off {W W' : World} {n o : Nat} {bs : List Nat} {cs : List Value} (h : Rec19 W n o cs) (hB : Off bs W W') (hn : n ∉ bs) : Rec19 W' n o cs :=
  ⟨fun j v hj => (hB.cell (p := ⟨n, o + j, none⟩) h.2.2 hn).trans (h.1 j v hj), fun j hj => by rw [hB.cell (p := ⟨n, o + j, none⟩) h.2.2 hn, hB.frozen (p := ⟨n, o + j, none⟩) h.2.2 hn]; exact h.2.1 j hj, Nat.lt_of_lt_of_le h.2.2 hB.size⟩
theorem Rec19.cel {W : World} {n : Nat} {cs : List Value} (h : Rec19 W n 0 cs) (o : Nat) (v : Value) (ho : cs[o]? = some v) : W.cell? ⟨n, o, none⟩ = some v ∧ W.frozen? ⟨n, o, none⟩ = false := by
  have h1 := h.1 o v ho
  have hl : o < cs.length := by
    rcases Nat.lt_or_ge o cs.length with q | q
    · exact q
    · rw [List.getElem?_eq_none q] at ho; cases ho
  have h2 := (h.2.1 o hl).2
  rw [Nat.zero_add] at h1 h2
  exact ⟨h1, h2⟩
theorem Rec19.put {W : World} {n : Nat} {cs : List Value} (h : Rec19 W n 0 cs) (o : Nat) (v : Value) : Rec19 (W.setCell ⟨n, o, none⟩ v) n 0 (cs.set o v) := by
  refine ⟨fun j u hj => ?_, fun j hj => ?_, by simp [World.setCell]; exact h.2.2⟩
  · rw [Nat.zero_add]
    rw [List.getElem?_set] at hj
    by_cases e : o = j
    · subst e
      rw [if_pos rfl] at hj
      split at hj
      · rename_i hl
        injection hj with hj
        subst hj
        have := (h.2.1 o hl).1
        rw [Nat.zero_add] at this
        exact World.cell?_setCell_same' _ _ _ this
      · cases hj
    · rw [if_neg e] at hj
      rw [World.cell?_setCell_other _ (a := ⟨n, o, none⟩) (b := ⟨n, j, none⟩) _ (fun q => e (by injection q))]
      have := h.1 j u hj
      rw [Nat.zero_add] at this
      exact this
  · rw [List.length_set] at hj
    have := h.2.1 j hj
    rw [Nat.zero_add] at this ⊢
    refine ⟨?_, by simpa using this.2⟩
    by_cases e : o = j
    · subst e
      rw [World.cell?_setCell_same' _ _ _ this.1]
      rfl
    · rw [World.cell?_setCell_other _ (a := ⟨n, o, none⟩) (b := ⟨n, j, none⟩) _ (fun q => e (by injection q))]
      exact this.1

/-! Maps from numbers to sectors. -/
end Go.Proofs.Ytelcijfcgflagaa
