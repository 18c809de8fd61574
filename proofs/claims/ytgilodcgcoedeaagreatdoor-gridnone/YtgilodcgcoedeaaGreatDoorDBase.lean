/-
  Plain notions, not a claim by itself: worlds that are the same but for some blocks; maps from numbers to sectors; disks. By the verifier.
-/
import Derived.Test.YtgilodcgcoedeaaGreatDoorBApp
import Derived.Test.YtgilodcgcoedeaaGreatDoorReg
import Derived.Maps.Own
import Derived.Maps.Views
import Derived.Maps.OwnSet
import Derived.Lib.SlKeysI
namespace Go.Proofs.YtgilodcgcoedeaaGreatDoor
open Go.RowKit Go.Maps

/-- The worlds are the same but for some blocks and new ones. -/
structure Off (bs : List Nat) (w w' : World) : Prop where
  os : w'.os = w.os
  tape : w'.tape = w.tape
  output : w'.output = w.output
  size : w.heap.size ≤ w'.heap.size
  block : ∀ k, k < w.heap.size → k ∉ bs → w'.heap[k]? = w.heap[k]?
theorem Off.refl (bs : List Nat) (w : World) : Off bs w w := ⟨rfl, rfl, rfl, Nat.le_refl _, fun _ _ _ => rfl⟩
theorem Off.trans {bs : List Nat} {u v w : World} (h : Off bs u v) (k : Off bs v w) : Off bs u w :=
  ⟨k.os.trans h.os, k.tape.trans h.tape, k.output.trans h.output, Nat.le_trans h.size k.size, fun i hi hn => (k.block i (Nat.lt_of_lt_of_le hi h.size) hn).trans (h.block i hi hn)⟩
theorem Off.mono {bs cs : List Nat} {w w' : World} (h : Off bs w w') (hs : ∀ b, b ∈ bs → b ∈ cs) : Off cs w w' := ⟨h.os, h.tape, h.output, h.size, fun k hk hn => h.block k hk (fun q => hn (hs k q))⟩
theorem Off.far {bs cs : List Nat} {u v w : World} (h : Off bs u v) (k : Off cs v w) (hc : ∀ b, b ∈ cs → b ∈ bs ∨ u.heap.size ≤ b) : Off bs u w :=
  ⟨k.os.trans h.os, k.tape.trans h.tape, k.output.trans h.output, Nat.le_trans h.size k.size, fun i hi hn => (k.block i (Nat.lt_of_lt_of_le hi h.size) (fun q => by rcases hc i q with q | q; exact hn q; omega)).trans (h.block i hi hn)⟩
theorem Off.of {bs : List Nat} {w w' : World} (h : Below w.heap.size w w') : Off bs w w' := ⟨h.os, h.tape, h.output, h.size, fun k hk _ => h.block k hk⟩
theorem Off.but {bs : List Nat} {b : Nat} {w w' : World} (h : But b w w') (hb : b ∈ bs) : Off bs w w' := ⟨h.os, h.tape, h.output, h.size, fun k hk hn => h.block k hk (fun q => hn (q ▸ hb))⟩
theorem Off.below {bs : List Nat} {B : Nat} {w w' : World} (h : Off bs w w') (h1 : ∀ b, b ∈ bs → B ≤ b) (h2 : B ≤ w.heap.size) : Below B w w' :=
  ⟨h.os, h.tape, h.output, h.size, fun k hk => h.block k (by omega) (fun q => by have := h1 k q; omega)⟩
theorem Off.alloc {bs : List Nat} {w w' : World} (h : Off bs w w') (o : Obj) : Off bs w (w'.alloc o) := h.trans (Off.of ((Below.refl _ _).alloc (Nat.le_refl _) _))
theorem Off.drew {bs : List Nat} {w w' : World} (h : Off bs w w') : Off bs w w'.drew := h.trans (Off.of (Below.refl _ _).drew)
theorem Off.cell {bs : List Nat} {w w' : World} (h : Off bs w w') {p : Addr} (h1 : p.block < w.heap.size) (h2 : p.block ∉ bs) : w'.cell? p = w.cell? p := World.cell?_of_block (w := w) (h.block p.block h1 h2)
theorem Off.frozen {bs : List Nat} {w w' : World} (h : Off bs w w') {p : Addr} (h1 : p.block < w.heap.size) (h2 : p.block ∉ bs) : w'.frozen? p = w.frozen? p := World.frozen?_of_block (w := w) (h.block p.block h1 h2)
theorem Off.set {bs : List Nat} {b : Nat} (w : World) (o : Nat) (v : Value) (hb : b ∈ bs) : Off bs w (w.setCell ⟨b, o, none⟩ v) := Off.but (But.set w o v) hb
theorem Off.grown {bs : List Nat} {w w' : World} {row : Option Nat} (h : w.grownBy w' row) (hr : ∀ r, row = some r → r ∈ bs) : Off bs w w' :=
  ⟨h.os, h.tape, h.output, h.size, fun k hk hn => h.block k hk (fun e => hn (hr k e.symm))⟩
theorem IRow.off {u v : World} {b : Nat} {bs : List Nat} {k : IntKind} {N : Nat} {f : Nat → Int} (h : IRow u b k N f) (hb : Off bs u v) (hn : b ∉ bs) : IRow v b k N f :=
  ⟨fun j hj => (hb.cell (p := ⟨b, j, none⟩) h.2.2 hn).trans (h.1 j hj), fun j => (hb.frozen (p := ⟨b, j, none⟩) h.2.2 hn).trans (h.2.1 j), Nat.lt_of_lt_of_le h.2.2 hb.size⟩
theorem Rec19.off {W W' : World} {n o : Nat} {bs : List Nat} {cs : List Value} (h : Rec19 W n o cs) (hB : Off bs W W') (hn : n ∉ bs) : Rec19 W' n o cs :=
  ⟨fun j v hj => (hB.cell (p := ⟨n, o + j, none⟩) h.2.2 hn).trans (h.1 j v hj), fun j hj => by rw [hB.cell (p := ⟨n, o + j, none⟩) h.2.2 hn, hB.frozen (p := ⟨n, o + j, none⟩) h.2.2 hn]; exact h.2.1 j hj, Nat.lt_of_lt_of_le h.2.2 hB.size⟩
theorem Rec19.cel {W : World} {n : Nat} {cs : List Value} (h : Rec19 W n 0 cs) (o : Nat) (v : Value) (ho : cs[o]? = some v) : W.cell? ⟨n, o, none⟩ = some v ∧ W.frozen? ⟨n, o, none⟩ = false := by
  have h1 := h.1 o v ho
  have hl : o < cs.length := by
    rcases Nat.lt_or_ge o cs.length with q | q
    · exact q
    · rw [List.getElem?_eq_none q] at ho; cases ho
  have h2 := (h.2.1 o hl).2
  rw [Nat.zero_add] at h1 h2
  exact ⟨h1, h2⟩
theorem Rec19.put {W : World} {n : Nat} {cs : List Value} (h : Rec19 W n 0 cs) (o : Nat) (v : Value) : Rec19 (W.setCell ⟨n, o, none⟩ v) n 0 (cs.set o v) := by
  refine ⟨fun j u hj => ?_, fun j hj => ?_, by simp [World.setCell]; exact h.2.2⟩
  · rw [Nat.zero_add]
    rw [List.getElem?_set] at hj
    by_cases e : o = j
    · subst e
      rw [if_pos rfl] at hj
      split at hj
      · rename_i hl
        injection hj with hj
        subst hj
        have := (h.2.1 o hl).1
        rw [Nat.zero_add] at this
        exact World.cell?_setCell_same' _ _ _ this
      · cases hj
    · rw [if_neg e] at hj
      rw [World.cell?_setCell_other _ (a := ⟨n, o, none⟩) (b := ⟨n, j, none⟩) _ (fun q => e (by injection q))]
      have := h.1 j u hj
      rw [Nat.zero_add] at this
      exact this
  · rw [List.length_set] at hj
    have := h.2.1 j hj
    rw [Nat.zero_add] at this ⊢
    refine ⟨?_, by simpa using this.2⟩
    by_cases e : o = j
    · subst e
      rw [World.cell?_setCell_same' _ _ _ this.1]
      rfl
    · rw [World.cell?_setCell_other _ (a := ⟨n, o, none⟩) (b := ⟨n, j, none⟩) _ (fun q => e (by injection q))]
      exact this.1

/-! Maps from numbers to sectors. -/
/-- An element reads as itself. -/
def heldR (v : Value) : Option (DataW Value × List MemPlace) := some (.held v, [])
/-- A sector's bytes as Go has them. -/
def secV (f : Nat → Int) : Value := .agg (cl .u8 256 f).toArray
/-- Sector i of F. -/
def at256 (F : Nat → Int) (i : Nat) (j : Nat) : Int := F (i * 256 + j)
/-- What a map of old sectors has. -/
structure OldIs (D : DataW Value) (N : Nat) (lo : Nat → Bool) (ob : Nat → Int) : Prop where
  map : IsMap D
  only : ∀ i : Int, has D (.int .i64 i) = true → ∃ n : Nat, i = n ∧ n < N
  iff : ∀ n, n < N → has D (.int .i64 (n : Int)) = lo n
  val : ∀ n, n < N → lo n = true → ∀ z, D.atKey (.int .i64 (n : Int)) z = .held (secV (at256 ob n))
/-- Block m is such a map. -/
def MapOk (W : World) (m N : Nat) (lo : Nat → Bool) (ob : Nat → Int) : Prop := ∃ D n, W.ownsMap Tryz.prog 3 heldR m n D ∧ OldIs D N lo ob
theorem MapOk.lt {W : World} {m N : Nat} {lo : Nat → Bool} {ob : Nat → Int} (h : MapOk W m N lo ob) : m < W.heap.size := by
  obtain ⟨D, n, h, _⟩ := h
  exact h.lt
theorem own_same {W W' : World} {m n : Nat} {D : DataW Value} (h : W.ownsMap Tryz.prog 3 heldR m n D) (e : W'.heap[m]? = W.heap[m]?) : W'.ownsMap Tryz.prog 3 heldR m n D := by
  obtain ⟨es, clock, hb, r⟩ := h
  exact ⟨es, clock, e.trans hb, r⟩
theorem MapOk.same {W W' : World} {m N : Nat} {lo : Nat → Bool} {ob : Nat → Int} (h : MapOk W m N lo ob) (e : W'.heap[m]? = W.heap[m]?) : MapOk W' m N lo ob := by
  obtain ⟨D, n, h, k⟩ := h
  exact ⟨D, n, own_same h e, k⟩
theorem MapOk.off {W W' : World} {bs : List Nat} {m N : Nat} {lo : Nat → Bool} {ob : Nat → Int} (h : MapOk W m N lo ob) (hB : Off bs W W') (hm : m ∉ bs) : MapOk W' m N lo ob := h.same (hB.block m h.lt hm)
theorem MapOk.congr {W : World} {m N : Nat} {lo lo' : Nat → Bool} {ob ob' : Nat → Int} (h : MapOk W m N lo ob) (e1 : ∀ n, n < N → lo n = lo' n) (e2 : ∀ n, n < N → lo n = true → ∀ j, j < 256 → at256 ob n j = at256 ob' n j) : MapOk W m N lo' ob' := by
  obtain ⟨D, n, h, k⟩ := h
  refine ⟨D, n, h, k.map, k.only, fun i hi => (k.iff i hi).trans (e1 i hi), fun i hi hl z => ?_⟩
  rw [← e1 i hi] at hl
  rw [k.val i hi hl z]
  unfold secV
  rw [cl_congr .u8 256 _ _ (e2 i hi hl)]
theorem MapOk.new (W : World) (N : Nat) (ob : Nat → Int) : MapOk (W.alloc (.map #[] 0)) W.heap.size N (fun _ => false) ob :=
  ⟨.map [], 0, World.ownsMap_made W Tryz.prog _ heldR, ⟨isMap_empty, fun i h => by simp [has] at h, fun n _ => rfl, fun n _ h => by cases h⟩⟩
theorem keyed_int : Keyed Tryz.prog 3 := int_keyed Tryz.underlying3
theorem wf_i64 (i : Nat) (h : i < 9223372036854775808) : (Lit.int .i64 (i : Int)).wf = true := by
  simp [Lit.wf, IntKind.min, IntKind.max, IntKind.signed, IntKind.bits]
  omega
theorem key_nat (i : Nat) (h : i < 9223372036854775808) : keyOf Tryz.prog 3 (.int .i64 (i : Int)) = some (.int .i64 (i : Int)) := keyOf_int_mk Tryz.underlying3 (wf_i64 i h)
/-- The loose sectors, rising. -/
def looseL (N : Nat) (lo : Nat → Bool) : List Int := ((List.range N).filter lo).map fun (n : Nat) => (n : Int)
theorem looseL_nodup (N : Nat) (lo : Nat → Bool) : (looseL N lo).Nodup := by
  unfold looseL
  refine List.Pairwise.map _ (fun a b h => ?_) (List.nodup_range.filter lo)
  omega
theorem looseL_mem (N : Nat) (lo : Nat → Bool) (x : Int) : x ∈ looseL N lo ↔ ∃ n : Nat, x = n ∧ n < N ∧ lo n = true := by
  unfold looseL
  rw [List.mem_map]
  constructor
  · rintro ⟨n, hn, rfl⟩
    rw [List.mem_filter, List.mem_range] at hn
    exact ⟨n, rfl, hn⟩
  · rintro ⟨n, rfl, h1, h2⟩
    exact ⟨n, by rw [List.mem_filter, List.mem_range]; exact ⟨h1, h2⟩, rfl⟩
theorem looseL_len (N : Nat) (lo : Nat → Bool) : (looseL N lo).length ≤ N := by
  unfold looseL
  rw [List.length_map]
  have := List.length_filter_le lo (List.range N)
  rwa [List.length_range] at this
theorem looseL_sorted (N : Nat) (lo : Nat → Bool) : (looseL N lo).Pairwise (fun a b => a ≤ b) := by
  unfold looseL
  refine List.Pairwise.map _ (fun a b h => ?_) ((List.pairwise_lt_range (n := N)).filter lo)
  omega
end Go.Proofs.YtgilodcgcoedeaaGreatDoor
