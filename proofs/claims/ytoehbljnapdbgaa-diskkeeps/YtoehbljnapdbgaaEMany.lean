/-
  Laws, not a claim by itself: some disks at one fuse. By the verifier.
-/
import Derived.Test.YtoehbljnapdbgaaEKnown
namespace Go.Proofs.Ytoehbljnapdbgaa
open Go.RowKit Go.Maps
/-- f, but x at j. -/
def putN {α : Type} (f : Nat → α) (j : Nat) (x : α) (i : Nat) : α := if i = j then x else f i
theorem putN_same {α : Type} (f : Nat → α) (j : Nat) (x : α) : putN f j x j = x := if_pos rfl
theorem putN_other {α : Type} (f : Nat → α) (j : Nat) (x : α) (i : Nat) (h : i ≠ j) : putN f j x i = f i := if_neg h
/-- The blocks of disk i. -/
def blk (ds ss ms : Nat → Nat) (i : Nat) : List Nat := [ds i, ss i, ms i]
/-- n disks that were made behind w0. -/
structure Mk (w0 W : World) (n : Nat) (ds ss ms : Nat → Nat) (Ds : Nat → Dsk) : Prop where
  at' : ∀ i, i < n → DiskAt W (ds i) (ss i) (ms i) (Ds i)
  apart : ∀ i j, i < n → j < n → i ≠ j → ∀ x, x ∈ blk ds ss ms i → x ∉ blk ds ss ms j
  ge : ∀ i, i < n → ∀ x, x ∈ blk ds ss ms i → w0.heap.size ≤ x
  bel : Below w0.heap.size w0 W
theorem DiskAt.lt {W : World} {d s m : Nat} {D : Dsk} (h : DiskAt W d s m D) : ∀ x, x ∈ [d, s, m] → x < W.heap.size := fun x hx => by
  have h1 := h.dl
  have h2 := h.sl
  have h3 := h.ml
  simp at hx
  omega
theorem Mk.off {w0 W W' : World} {n : Nat} {ds ss ms : Nat → Nat} {Ds : Nat → Dsk} {bs : List Nat} (h : Mk w0 W n ds ss ms Ds) (hO : Off bs W W') (hb : ∀ i, i < n → ∀ x, x ∈ blk ds ss ms i → x ∉ bs) (hB : Below w0.heap.size W W') : Mk w0 W' n ds ss ms Ds :=
  { h with at' := fun i hi => (h.at' i hi).off hO (hb i hi _ (by simp [blk])) (hb i hi _ (by simp [blk])) (hb i hi _ (by simp [blk])), bel := h.bel.trans hB }
theorem Mk.below {w0 W W' : World} {n : Nat} {ds ss ms : Nat → Nat} {Ds : Nat → Dsk} (h : Mk w0 W n ds ss ms Ds) (hB : Below W.heap.size W W') : Mk w0 W' n ds ss ms Ds :=
  { h with at' := fun i hi => (h.at' i hi).below hB, bel := h.bel.trans (hB.mono h.bel.size) }
theorem blk_put {ds ss ms : Nat → Nat} {n d s m i : Nat} (h : i ≠ n) : blk (putN ds n d) (putN ss n s) (putN ms n m) i = blk ds ss ms i := by
  unfold blk
  rw [putN_other _ _ _ _ h, putN_other _ _ _ _ h, putN_other _ _ _ _ h]
theorem blk_put_same {ds ss ms : Nat → Nat} {n d s m : Nat} : blk (putN ds n d) (putN ss n s) (putN ms n m) n = [d, s, m] := by
  unfold blk
  rw [putN_same, putN_same, putN_same]
theorem Mk.add {w0 W W' : World} {n : Nat} {ds ss ms : Nat → Nat} {Ds : Nat → Dsk} {d s m : Nat} {D : Dsk} (h : Mk w0 W n ds ss ms Ds) (hB : Below W.heap.size W W') (hD : DiskAt W' d s m D) (h1 : W.heap.size ≤ d) (h2 : W.heap.size ≤ s) (h3 : W.heap.size ≤ m) :
    Mk w0 W' (n + 1) (putN ds n d) (putN ss n s) (putN ms n m) (putN Ds n D) := by
  have new : ∀ x, x ∈ [d, s, m] → W.heap.size ≤ x := fun x hx => by simp at hx; omega
  refine ⟨fun i hi => ?_, fun i j hi hj hij x hx => ?_, fun i hi x hx => ?_, h.bel.trans (hB.mono h.bel.size)⟩
  · by_cases e : i = n
    · subst e
      rw [putN_same, putN_same, putN_same, putN_same]
      exact hD
    · rw [putN_other _ _ _ _ e, putN_other _ _ _ _ e, putN_other _ _ _ _ e, putN_other _ _ _ _ e]
      exact (h.at' i (by omega)).below hB
  · by_cases e : i = n
    · subst e
      rw [blk_put_same] at hx
      rw [blk_put (fun q => hij q.symm)]
      intro hy
      have := (h.at' j (by omega)).lt x hy
      have := new x hx
      omega
    · rw [blk_put e] at hx
      by_cases e' : j = n
      · subst e'
        rw [blk_put_same]
        intro hy
        have := (h.at' i (by omega)).lt x hx
        have := new x hy
        omega
      · rw [blk_put e']
        exact h.apart i j (by omega) (by omega) hij x hx
  · by_cases e : i = n
    · subst e
      rw [blk_put_same] at hx
      exact Nat.le_trans h.bel.size (new x hx)
    · rw [blk_put e] at hx
      exact h.ge i (by omega) x hx
/-- The pointers to n disks. -/
def ptrs (ds : Nat → Nat) (n : Nat) : List Value := (List.range n).map fun i => .pointer (some ⟨ds i, 0, none⟩)
theorem ptrs_len (ds : Nat → Nat) (n : Nat) : (ptrs ds n).length = n := by simp [ptrs]
theorem ptrs_at (ds : Nat → Nat) (n i : Nat) (h : i < n) : (ptrs ds n)[i]? = some (.pointer (some ⟨ds i, 0, none⟩)) := by
  unfold ptrs; rw [List.getElem?_map, List.getElem?_range h]; rfl
theorem ptrs_succ (ds : Nat → Nat) (n d : Nat) : ptrs ds n ++ [.pointer (some ⟨d, 0, none⟩)] = ptrs (putN ds n d) (n + 1) := by
  unfold ptrs
  rw [List.range_succ, List.map_append]
  congr 1
  · refine List.map_congr_left fun i hi => ?_
    rw [putN_other _ _ _ _ (by have := List.mem_range.1 hi; omega)]
  · simp [putN_same]
/-- The list as the loop has it. -/
def PList (W : World) (base : Nat) (v : Value) (n : Nat) (ds : Nat → Nat) : Prop := W.ownsRow base 33 1 v n (ptrs ds n)
theorem PList.form {W : World} {base : Nat} {v : Value} {n : Nat} {ds : Nat → Nat} (h : PList W base v n ds) (hn : 0 < n) : ∃ g cap, v = .slice (some ⟨g, 0, none⟩) n cap ∧ base ≤ g ∧ DList W g n ds ∧ ∃ cur, W.heap[g]? = some (.cells cur 33 (0, 0)) := by
  rcases h.2 with ⟨_, h0⟩ | ⟨g, cap, cur, rfl, hbg, hg, hnc, _, hsz, htake⟩
  · omega
  refine ⟨g, cap, rfl, hbg, ⟨fun i hi => ?_, (Array.getElem?_eq_some_iff.1 hg).1⟩, cur, hg⟩
  rw [cell_of_row W g i cur 33 (0, 0) hg]
  have e := ptrs_at ds n i hi
  rw [← htake, List.getElem?_take, if_pos (by omega)] at e
  simpa using e
/-- A list of two or more lies in no disk's block. -/
theorem list_apart {W : World} {g n d s m : Nat} {ds : Nat → Nat} {D : Dsk} {cur : Array Value} (hL : DList W g n ds) (hn : 2 ≤ n) (hc : W.heap[g]? = some (.cells cur 33 (0, 0))) (h : DiskAt W d s m D) : g ∉ [d, s, m] := by
  intro hg
  simp at hg
  rcases hg with rfl | rfl | rfl
  · have c1 := (h.recd.cel 1 _ rfl).1
    rw [hL.1 1 (by omega)] at c1
    cases c1
  · have n1 := h.n1
    have c1 := h.row.1 0 (by omega)
    rw [hL.1 0 (by omega)] at c1
    cases c1
  · obtain ⟨Dt, n', ho, _⟩ := h.map
    obtain ⟨es, z, hes, _⟩ := ho
    rw [hc] at hes
    cases hes
theorem info_ptr : (Try.prog.info? 33).map (fun i => (i.zero, i.size, i.bytes)) = some (some (.pointer none), 1, 8) := by kernel_rfl
/-- A disk is put behind the list. -/
theorem plist_app (W : World) (n b d : Nat) (v : Value) (w0 : World) (ds : Nat → Nat) (ho : PList W w0.heap.size v n ds) (hb : W.cell? ⟨b, 0, none⟩ = some (.pointer (some ⟨d, 0, none⟩))) (hn : n ≤ 60) (hw : w0.heap.size ≤ W.heap.size) :
    ∃ v' W', (Builtin.append_ #[39, 39] 39 #[v, .slice (some ⟨b, 0, none⟩) 1 1]).run Try.prog W = .ok v' W' ∧ PList W' w0.heap.size v' (n + 1) (putN ds n d) ∧ W.grownBy W' v.ownBlock ∧ (v = .slice none 0 0 → PList W' W.heap.size v' (n + 1) (putN ds n d)) := by
  obtain ⟨i0, hi, hz0, hz1, hz2⟩ := info_parts info_ptr
  have hnews : ∀ j u, [Value.pointer (some ⟨d, 0, none⟩)][j]? = some u → W.cell? ((⟨b, 0, none⟩ : Addr).add j) = some u := fun j u hj => by
    cases j with
    | zero => rw [Addr.add_mid]; have e : Value.pointer (some ⟨d, 0, none⟩) = u := by simpa using hj
              rw [← e]; exact hb
    | succ j => simp at hj
  obtain ⟨v', W', h1, h2, h3, _⟩ := run_append_own (P := Try.prog) W w0.heap.size 39 39 33 i0 (.pointer none) 1 8 Try.underlying39 hi hz0 hz1 hz2 rfl (by decide) v n (ptrs ds n) ho ⟨b, 0, none⟩ 1 1 [.pointer (some ⟨d, 0, none⟩)] rfl hnews (fun u hu => by simp at hu; subst hu; rfl) (by unfold maxLen; omega) (by omega) hw
  rw [ptrs_succ] at h2
  refine ⟨v', W', h1, h2, h3, fun e => ?_⟩
  subst e
  have hn0 : n = 0 := by
    rcases ho.2 with ⟨_, h0⟩ | ⟨g, cap, cur, e, _⟩
    · exact h0
    · cases e
  subst hn0
  obtain ⟨v2, W2, k1, k2, _, _⟩ := run_append_own (P := Try.prog) W W.heap.size 39 39 33 i0 (.pointer none) 1 8 Try.underlying39 hi hz0 hz1 hz2 rfl (by decide) (.slice none 0 0) 0 (ptrs ds 0) (World.ownsRow_nil _ _ _ _) ⟨b, 0, none⟩ 1 1 [.pointer (some ⟨d, 0, none⟩)] rfl hnews (fun u hu => by simp at hu; subst hu; rfl) (by unfold maxLen; omega) (by omega) (Nat.le_refl _)
  rw [k1] at h1
  injection h1 with e1 e2
  subst e1 e2
  rw [ptrs_succ] at k2
  exact k2
/-- Disks and their list. -/
structure Row (w0 W : World) (v : Value) (n : Nat) (ds ss ms : Nat → Nat) (Ds : Nat → Dsk) : Prop where
  made : Mk w0 W n ds ss ms Ds
  lst : PList W w0.heap.size v n ds
  off : ∀ g, v.ownBlock = some g → ∀ i, i < n → g ∉ blk ds ss ms i
  nil : n = 0 → v = .slice none 0 0
theorem Row.add {w0 W W1 : World} {v : Value} {n : Nat} {ds ss ms : Nat → Nat} {Ds : Nat → Dsk} {d s m : Nat} {D : Dsk} (h : Row w0 W v n ds ss ms Ds) (hB : Below W.heap.size W W1) (hD : DiskAt W1 d s m D) (h1 : W.heap.size ≤ d) (h2 : W.heap.size ≤ s) (h3 : W.heap.size ≤ m) (hn : n ≤ 60) :
    ∃ v' W', (Builtin.append_ #[39, 39] 39 #[v, .slice (some ⟨W1.heap.size, 0, none⟩) 1 1]).run Try.prog (W1.alloc (.cells #[.pointer (some ⟨d, 0, none⟩)] 33)) = .ok v' W' ∧ Row w0 W' v' (n + 1) (putN ds n d) (putN ss n s) (putN ms n m) (putN Ds n D) := by
  obtain ⟨W2, hW2⟩ : ∃ W2, W1.alloc (.cells #[.pointer (some ⟨d, 0, none⟩)] 33) = W2 := ⟨_, rfl⟩
  have B2 : Below W1.heap.size W1 W2 := by rw [← hW2]; exact (Below.refl _ _).alloc (Nat.le_refl _) _
  have BW : Below W.heap.size W W2 := hB.trans (B2.mono hB.size)
  have M2 := h.made.add BW (hD.below B2) h1 h2 h3
  have cb : W2.cell? ⟨W1.heap.size, 0, none⟩ = some (.pointer (some ⟨d, 0, none⟩)) := by rw [← hW2, cell_of_row _ _ _ _ _ _ (heap_alloc_new _ _)]; rfl
  have lst2 : PList W2 w0.heap.size v n ds := by
    refine ⟨h.lst.1, ?_⟩
    rcases h.lst.2 with h0 | ⟨g, cap, cur, hv, hb, hg, rest⟩
    · exact .inl h0
    · exact .inr ⟨g, cap, cur, hv, hb, (BW.block g (Array.getElem?_eq_some_iff.1 hg).1).trans hg, rest⟩
  obtain ⟨v', W', hr, hP, hG, hN⟩ := plist_app W2 n W1.heap.size d v w0 ds lst2 cb hn M2.bel.size
  rw [hW2]
  refine ⟨v', W', hr, ?_⟩
  have vlt : ∀ g, v.ownBlock = some g → w0.heap.size ≤ g ∧ g < W.heap.size := World.ownsRow.lt h.lst
  have old : ∀ g, v.ownBlock = some g → ∀ i, i < n + 1 → g ∉ blk (putN ds n d) (putN ss n s) (putN ms n m) i := fun g hg i hi => by
    by_cases e : i = n
    · subst e
      rw [blk_put_same]
      have := (vlt g hg).2
      simp
      omega
    · rw [blk_put e]
      exact h.off g hg i (by omega)
  have M3 : Mk w0 W' (n + 1) (putN ds n d) (putN ss n s) (putN ms n m) (putN Ds n D) :=
    M2.off (bs := v.ownBlock.toList) (Off.grown hG (fun r e => by rw [e]; simp)) (fun i hi x hx hy => by
      have e : v.ownBlock = some x := fz_mem hy
      exact old x e i hi hx) ((Below.refl _ _).grown hG M2.bel.size (fun k hk => (vlt k hk).1))
  refine ⟨M3, hP, fun g hg i hi => ?_, fun e => by omega⟩
  obtain ⟨g', cap, rfl, _, hL, cur, hc⟩ := PList.form hP (by omega)
  have eg : g' = g := by simpa [Value.ownBlock] using hg
  subst eg
  by_cases h2n : 2 ≤ n + 1
  · exact list_apart hL h2n hc (M3.at' i hi)
  · have hn0 : n = 0 := by omega
    subst hn0
    have ev : v = .slice none 0 0 := h.nil rfl
    obtain ⟨g2, cap2, e2, hb2, _⟩ := PList.form (hN ev) (by omega)
    injection e2 with e2 _ _
    injection e2 with e2
    injection e2 with e2
    subst e2
    intro hx
    have := (M2.at' i hi).lt g' hx
    omega
end Go.Proofs.Ytoehbljnapdbgaa
