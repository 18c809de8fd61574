/-
  Laws for the walk, not a claim by itself: slices of lists, appended to. By the verifier.
-/
import Derived.Test.YtgpafmgncolnmaaMgOv
namespace Go.Proofs.Ytgpafmgncolnmaa
open Go.RowKit
/-- The cells of lists. -/
def lcs (ls : List LV) : List Value := ls.map LV.v
theorem lcs_len (ls : List LV) : (lcs ls).length = ls.length * 1 := by simp [lcs]
theorem lcs_app (a b : List LV) : lcs (a ++ b) = lcs a ++ lcs b := by simp [lcs]
theorem lcs_one (ls : List LV) : ∀ v ∈ lcs ls, v.oneCell' = true := by
  intro v hv
  obtain ⟨x, _, rfl⟩ := List.mem_map.1 hv
  rfl
/-- A slice of lists that was made behind base. -/
def OwnLs (w : World) (base : Nat) (v : Value) (ls : List LV) : Prop := w.ownsRow base 27 1 v ls.length (lcs ls)
theorem OwnLs.nil (w : World) (base : Nat) : OwnLs w base (.slice none 0 0) [] := World.ownsRow_nil w base _ 1
theorem OwnLs.off {w u : World} {base : Nat} {v : Value} {ls : List LV} {N : List Nat} (h : OwnLs w base v ls) (hO : Off N w u) (hn : ∀ g, v.ownBlock = some g → g ∉ N) : OwnLs u base v ls := by
  refine ⟨h.1, ?_⟩
  rcases h.2 with h0 | ⟨g, cap, cur, rfl, hb, hg, rest⟩
  · exact .inl h0
  · exact .inr ⟨g, cap, cur, rfl, hb, (hO.block g (Array.getElem?_eq_some_iff.1 hg).1 (hn g rfl)).trans hg, rest⟩
theorem OwnLs.below {w u : World} {base : Nat} {v : Value} {ls : List LV} (h : OwnLs w base v ls) (hB : Below w.heap.size w u) : OwnLs u base v ls := h.off (Off.of (bs := []) hB) (fun _ _ h => by cases h)
theorem OwnLs.form {w : World} {base : Nat} {v : Value} {ls : List LV} (h : OwnLs w base v ls) : (v = .slice none 0 0 ∧ ls = []) ∨ ∃ g cap, v = .slice (some ⟨g, 0, none⟩) ls.length cap ∧ base ≤ g ∧ ls.length ≤ cap ∧ g < w.heap.size ∧ Rec19 w g 0 (lcs ls) := by
  rcases h.2 with ⟨rfl, h0⟩ | ⟨g, cap, cur, rfl, hbg, hg, hnc, hcm, hsz, htake⟩
  · exact .inl ⟨rfl, List.eq_nil_of_length_eq_zero h0⟩
  · refine .inr ⟨g, cap, rfl, hbg, hnc, (Array.getElem?_eq_some_iff.1 hg).1, fun j u hj => ?_, fun j hj => ?_, (Array.getElem?_eq_some_iff.1 hg).1⟩
    · have := World.ownsRow.cellAt h j (by have := (List.getElem?_eq_some_iff.1 hj).1; rw [lcs_len] at this; exact this)
      rw [Nat.zero_add, this, hj]
    · have := World.ownsRow.cellAt h j (by rw [lcs_len] at hj; exact hj)
      rw [Nat.zero_add]
      exact ⟨by rw [this, List.getElem?_eq_getElem hj]; rfl, World.ownsRow.frozenAt h j⟩
theorem OwnLs.sl {w : World} {base : Nat} {v : Value} {ls : List LV} (h : OwnLs w base v ls) : ∃ a cap, v = .slice a ls.length cap := by
  rcases h.form with ⟨rfl, rfl⟩ | ⟨g, cap, rfl, _⟩
  · exact ⟨none, 0, rfl⟩
  · exact ⟨_, cap, rfl⟩
theorem OwnLs.lsts {W : World} {base : Nat} {ls : List LV} {a : Option Addr} {n cap : Nat} (h : OwnLs W base (.slice a n cap) ls) (hp : ∀ x ∈ ls, LOk W x) : Lsts W a ls := by
  refine ⟨hp, fun hne => ?_⟩
  rcases h.form with ⟨_, h0⟩ | ⟨g, cap', hv, _, _, hg, hR⟩
  · exact absurd h0 hne
  · injection hv with hv
    exact ⟨g, 0, hv, hR.1, hg⟩
/-- What becomes of a slice of lists. -/
structure InsL (W : World) (v : Value) (ls' : List LV) (v' : Value) (W' : World) : Prop where
  own : OwnLs W' 0 v' ls'
  off : Off v.ownBlock.toList W W'
  blk : ∀ g, v'.ownBlock = some g → v.ownBlock = some g ∨ W.heap.size ≤ g
/-- A list that lies in none of the blocks N. -/
def LokN (W : World) (N : List Nat) (x : LV) : Prop := (∀ y ∈ x.ps, PVOk W N y) ∧ (x.ps ≠ [] → ∃ b off, x.a = some ⟨b, off, none⟩ ∧ b ∉ N ∧ W.rangeAt b off (pcs x.ps) ∧ b < W.heap.size) ∧ x.ps.length ≤ x.c
theorem LokN.ok {W : World} {N : List Nat} {x : LV} (h : LokN W N x) : LOk W x := ⟨⟨fun y hy => (h.1 y hy).mono (fun b hb => by cases hb), fun hne => by obtain ⟨b, off, ha, _, hr, hb⟩ := h.2.1 hne; exact ⟨b, off, ha, hr, hb⟩⟩, h.2.2⟩
theorem LokN.off {W W' : World} {N : List Nat} {x : LV} (h : LokN W N x) (hO : Off N W W') : LokN W' N x := ⟨fun y hy => (h.1 y hy).off hO, fun hne => by
  obtain ⟨b, off, ha, hn, hr, hb⟩ := h.2.1 hne
  exact ⟨b, off, ha, hn, fun j v hj => (hO.cell (p := ⟨b, off + j, none⟩) hb hn).trans (hr j v hj), Nat.lt_of_lt_of_le hb hO.size⟩, h.2.2⟩
theorem LokN.below {W W' : World} {N : List Nat} {x : LV} (h : LokN W N x) (hB : Below W.heap.size W W') : LokN W' N x := ⟨fun y hy => (h.1 y hy).below hB, fun hne => by
  obtain ⟨b, off, ha, hn, hr, hb⟩ := h.2.1 hne
  exact ⟨b, off, ha, hn, fun j v hj => (hB.cell (p := ⟨b, off + j, none⟩) hb).trans (hr j v hj), Nat.lt_of_lt_of_le hb hB.size⟩, h.2.2⟩
theorem LokN.mono {W : World} {N M : List Nat} {x : LV} (h : LokN W N x) (hM : ∀ b, b ∈ M → b ∈ N ∨ W.heap.size ≤ b) : LokN W M x := ⟨fun y hy => (h.1 y hy).mono hM, fun hne => by
  obtain ⟨b, off, ha, hn, hr, hb⟩ := h.2.1 hne
  exact ⟨b, off, ha, fun q => (hM b q).elim hn (fun z => by omega), hr, hb⟩, h.2.2⟩
/-- A list of its own: where it lies. -/
theorem own_lok {W : World} {N : List Nat} {a : Option Addr} {n C : Nat} {qs : List PV} (h : OwnP W 0 (.slice a n C) qs) (hn : qs.length = n) (hp : ∀ x ∈ qs, PVOk W N x) (hb : ∀ g, (Value.slice a n C).ownBlock = some g → g ∉ N) : LokN W N ⟨a, C, qs⟩ := by
  refine ⟨hp, fun hne => ?_, ?_⟩
  · rcases h.form with ⟨_, h0⟩ | ⟨g, cap, hv, _, _, _, hg, hR⟩
    · exact absurd h0 hne
    · injection hv with hv
      subst hv
      exact ⟨g, 0, rfl, hb g rfl, hR.1, hg⟩
  · rcases h.form with ⟨_, h0⟩ | ⟨g, cap, hv, _, hc, _⟩
    · subst h0; exact Nat.zero_le _
    · injection hv with _ _ hv
      subst hv
      exact hc
theorem len_appL (ps qs : List LV) : (lcs ps ++ lcs qs).length = (ps.length + qs.length) * 1 := by rw [List.length_append, lcs_len, lcs_len]; omega
/-- append of pairs onto a slice of its own. -/
theorem app_lists (ty : TypeId) (W : World) (v : Value) (ps qs : List LV) (ad : Addr) (C : Nat) (ho : OwnLs W 0 v ps) (hA : ∀ j u, (lcs qs)[j]? = some u → W.cell? (ad.add j) = some u) (h1 : ∀ u ∈ lcs qs, u.oneCell' = true) (hq : 0 < qs.length) (hm : ps.length + qs.length ≤ 100000) :
    ∃ v' W', (Builtin.append_ #[22, 22] ty #[v, .slice (some ad) qs.length C]).run Try.prog W = .ok v' W' ∧ InsL W v (ps ++ qs) v' W' := by
  obtain ⟨i0, hi, hz0, hz1, hz2⟩ := info_parts info_list
  have hl : (lcs qs).length = qs.length * i0.size := by rw [lcs_len, hz1]
  have fin : ∀ C1, ps.length + qs.length ≤ C1 → C1 ≤ maxLen → InsL W v (ps ++ qs) (.slice (some ⟨W.heap.size, 0, none⟩) (ps.length + qs.length) C1) (W.drew.alloc (.cells ((lcs ps).toArray ++ (lcs qs).toArray ++ Builtin.zeroCells (Value.slice none 0 0).cells (C1 - (ps.length + qs.length))) 27)) := by
    intro C1 h2 h3
    refine ⟨⟨by rw [lcs_len], .inr ⟨W.heap.size, C1, _, by rw [List.length_append], Nat.zero_le _, heap_alloc_new W.drew _, by rw [List.length_append]; exact h2, h3, ?_, ?_⟩⟩, Off.of ((Below.refl W.heap.size W).drew.alloc (Nat.le_refl _) _), fun g hg => .inr ?_⟩
    · simp only [Array.size_append, List.size_toArray, size_zeroCells, lcs_len]
      show ps.length * 1 + qs.length * 1 + (C1 - (ps.length + qs.length)) * 1 = _
      omega
    · simp only [Array.toList_append]
      rw [List.length_append, lcs_app, ← len_appL]
      exact List.take_left
    · injection hg with hg
      exact Nat.le_of_eq hg
  rcases ho.2 with ⟨rfl, h0⟩ | ⟨x, cap, cur, rfl, hbg, hg, hnc, hcm, hcs, htake⟩
  · obtain rfl : ps = [] := List.eq_nil_of_length_eq_zero h0
    have hr := run_append_nil (P := Try.prog) W 22 ty 27 i0 (.slice none 0 0) under_lists hi hz0 ad qs.length C (lcs qs) hl hA hq (by simp at hm; omega) (by rw [hz2]; simp at hm; omega)
    have f := fin (grownCap W qs.length 0 27) (by simp; exact grownCap_ge W qs.length 0 _) (grownCap_le_maxLen W qs.length 0 _ (by unfold maxLen; simp at hm; omega))
    simp only [List.length_nil, Nat.zero_add] at f
    refine ⟨_, _, hr, ?_⟩
    simpa [lcs] using f
  · by_cases hroom : ps.length + qs.length ≤ cap
    · have hr := run_append_room (P := Try.prog) W 22 ty 27 i0 under_lists hi x ps.length cap cur hg ad qs.length C (lcs qs) hl hA h1 hroom (by rw [lcs_len, hcs, hz1]; omega)
      refine ⟨_, _, hr, ⟨⟨by rw [lcs_len], .inr ⟨x, cap, _, by rw [List.length_append], Nat.zero_le _, setRow_heap W x cur _ _ _ hg, by rw [List.length_append]; exact hroom, hcm, ?_, ?_⟩⟩, Off.but (setRow_but W x _) (by simp [Value.ownBlock]), fun g hg => .inl hg⟩⟩
      · simp only [List.size_toArray, List.length_append, List.length_take, List.length_drop, Array.length_toList, lcs_len, hz1]
        omega
      · rw [hz1, htake, List.length_append, lcs_app, ← len_appL]
        exact List.take_left
    · have holds : ∀ j u, (lcs ps)[j]? = some u → W.cell? ((⟨x, 0, none⟩ : Addr).add j) = some u := World.ownsRow.cells (g := x) ho rfl
      have hfit : Builtin.nextslicecap (ps.length + qs.length) cap * i0.bytes ≤ 281474976710656 := growslice_fits (by omega) (by rw [hz2]; omega)
      have hr := run_append_grow (P := Try.prog) W 22 ty 27 i0 (.slice none 0 0) under_lists hi hz0 ⟨x, 0, none⟩ ps.length cap (lcs ps) (by rw [lcs_len, hz1]) holds ad qs.length C (lcs qs) hl hA (by omega) (by omega) hfit
      exact ⟨_, _, hr, fin _ (grownCap_ge W _ cap _) (grownCap_le_maxLen W _ cap _ (by unfold maxLen; omega))⟩
end Go.Proofs.Ytgpafmgncolnmaa
