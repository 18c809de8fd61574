/-
  Plain notions, not a claim by itself: the least key that is behind another one. By the verifier.
-/
import Derived.Test.YtgpafmgncolnmaaMgFp
namespace Go.Proofs.Ytgpafmgncolnmaa
open Go.RowKit
/-- The keys that are asked for. -/
def BhK (b : ByteArray) (f : Bool) (k : ByteArray) : Prop := f = true ∨ cmpB b k < 0
/-- What the least one of a list is told as. -/
def LsQ (P : ByteArray → Prop) (l : List PV) (out : Value) (met : Bool) : Prop := (met = false ∧ out = .slice none 0 0 ∧ ∀ x ∈ l, ¬ P x.p.k) ∨ (met = true ∧ ∃ y ∈ l, out = y.k ∧ P y.p.k ∧ ∀ x ∈ l, P x.p.k → cmpB y.p.k x.p.k ≤ 0)
theorem LsQ.nil (P : ByteArray → Prop) : LsQ P [] (.slice none 0 0) false := .inl ⟨rfl, rfl, fun x hx => by cases hx⟩
theorem LsQ.skip {P : ByteArray → Prop} {l : List PV} {out : Value} {met : Bool} {x : PV} (h : LsQ P l out met) (hx : ¬ P x.p.k) : LsQ P (l ++ [x]) out met := by
  rcases h with ⟨h1, h2, h3⟩ | ⟨h1, y, hy, h2, h3, h4⟩
  · refine .inl ⟨h1, h2, fun z hz => ?_⟩
    rcases List.mem_append.1 hz with hz | hz
    · exact h3 z hz
    · rcases List.mem_singleton.1 hz with rfl
      exact hx
  · refine .inr ⟨h1, y, List.mem_append_left _ hy, h2, h3, fun z hz hp => ?_⟩
    rcases List.mem_append.1 hz with hz | hz
    · exact h4 z hz hp
    · rcases List.mem_singleton.1 hz with rfl
      exact absurd hp hx
theorem LsQ.new {P : ByteArray → Prop} {l : List PV} {out : Value} {x : PV} (h : LsQ P l out false) (hx : P x.p.k) : LsQ P (l ++ [x]) x.k true := by
  rcases h with ⟨_, _, h3⟩ | ⟨h1, _⟩
  · refine .inr ⟨rfl, x, by simp, rfl, hx, fun z hz hp => ?_⟩
    rcases List.mem_append.1 hz with hz | hz
    · exact absurd hp (h3 z hz)
    · rcases List.mem_singleton.1 hz with rfl
      rw [c_self]; exact Int.le_refl _
  · cases h1
/-- One that was met is held against the next one. -/
def LsY (P : ByteArray → Prop) (l : List PV) (y : PV) : Prop := y ∈ l ∧ P y.p.k ∧ ∀ x ∈ l, P x.p.k → cmpB y.p.k x.p.k ≤ 0
theorem LsQ.met {P : ByteArray → Prop} {l : List PV} {out : Value} (h : LsQ P l out true) : ∃ y, out = y.k ∧ LsY P l y := by
  rcases h with ⟨h1, _⟩ | ⟨_, y, hy, h2, h3, h4⟩
  · cases h1
  · exact ⟨y, h2, hy, h3, h4⟩
theorem LsY.less {P : ByteArray → Prop} {l : List PV} {x y : PV} (h : LsY P l y) (hx : P x.p.k) (hl : cmpB x.p.k y.p.k < 0) : LsQ P (l ++ [x]) x.k true := by
  refine .inr ⟨rfl, x, by simp, rfl, hx, fun z hz hp => ?_⟩
  rcases List.mem_append.1 hz with hz | hz
  · have := c_lt_le hl (h.2.2 z hz hp); omega
  · rcases List.mem_singleton.1 hz with rfl
    rw [c_self]; exact Int.le_refl _
theorem LsY.stay {P : ByteArray → Prop} {l : List PV} {x y : PV} (h : LsY P l y) (hl : ¬ cmpB x.p.k y.p.k < 0) : LsQ P (l ++ [x]) y.k true := by
  refine .inr ⟨rfl, y, List.mem_append_left _ h.1, rfl, h.2.1, fun z hz hp => ?_⟩
  rcases List.mem_append.1 hz with hz | hz
  · exact h.2.2 z hz hp
  · rcases List.mem_singleton.1 hz with rfl
    have := c_anti z.p.k y.p.k
    omega
/-- The n-th of the merged ones is the least one behind those ahead of it. -/
theorem LsQ.at {P : ByteArray → Prop} {l M : List PV} {out : Value} {met : Bool} (n : Nat) (hn : n ≤ M.length) (hs : SrtV M) (h1 : ∀ x ∈ M, x ∈ l) (h2 : ∀ x ∈ l, ∃ y ∈ M, y.p.k = x.p.k) (hP : ∀ j x, M[j]? = some x → (P x.p.k ↔ n ≤ j)) (h : LsQ P l out met) : met = decide (n < M.length) ∧ ∀ x, M[n]? = some x → ∃ y ∈ l, out = y.k ∧ y.p.k = x.p.k := by
  rcases h with ⟨rfl, _, h3⟩ | ⟨rfl, y, hy, rfl, h3, h4⟩
  · have no : ∀ x, M[n]? = some x → False := fun x hx => h3 x (h1 x (List.mem_of_getElem? hx)) ((hP n x hx).2 (Nat.le_refl _))
    refine ⟨?_, fun x hx => (no x hx).elim⟩
    by_cases q : n < M.length
    · exact (no _ (List.getElem?_eq_getElem q)).elim
    · simp [q]
  · obtain ⟨z, hz, ez⟩ := h2 y hy
    obtain ⟨j, hj⟩ := List.mem_iff_getElem?.1 hz
    have hj2 := (List.getElem?_eq_some_iff.1 hj).1
    have nj := (hP j z hj).1 (by rw [ez]; exact h3)
    refine ⟨by simp; omega, fun x hx => ⟨y, hy, rfl, ?_⟩⟩
    have a := h4 x (h1 x (List.mem_of_getElem? hx)) ((hP n x hx).2 (Nat.le_refl _))
    have b : cmpB x.p.k z.p.k ≤ 0 := by
      rcases Nat.lt_or_ge n j with q | q
      · obtain ⟨q1, q2⟩ := List.getElem?_eq_some_iff.1 hx
        obtain ⟨q3, q4⟩ := List.getElem?_eq_some_iff.1 hj
        have := List.pairwise_iff_getElem.1 hs n j q1 q3 q
        rw [q2, q4] at this
        omega
      · obtain rfl : n = j := by omega
        rw [hx] at hj
        injection hj with hj
        rw [hj, c_self]; exact Int.le_refl _
    rw [ez] at b
    have := c_anti y.p.k x.p.k
    exact (c_zero _ _).1 (by omega)
theorem bhk_first (M : List PV) (b : ByteArray) : ∀ j x, M[j]? = some x → (BhK b true x.p.k ↔ 0 ≤ j) := fun _ _ _ => ⟨fun _ => Nat.zero_le _, fun _ => .inl rfl⟩
theorem bhk_next {M : List PV} (hs : SrtV M) {n : Nat} {y : PV} (hy : M[n]? = some y) : ∀ j x, M[j]? = some x → (BhK y.p.k false x.p.k ↔ n + 1 ≤ j) := fun j x hx => by
  obtain ⟨q1, q2⟩ := List.getElem?_eq_some_iff.1 hx
  obtain ⟨q3, q4⟩ := List.getElem?_eq_some_iff.1 hy
  constructor
  · rintro (h | h)
    · cases h
    · rcases Nat.lt_trichotomy n j with q | q | q
      · exact q
      · subst q
        rw [← q2, q4, c_self] at h; omega
      · have := List.pairwise_iff_getElem.1 hs j n q1 q3 q
        rw [q2, q4] at this
        have := c_anti x.p.k y.p.k
        omega
  · intro h
    have := List.pairwise_iff_getElem.1 hs n j q3 q1 (by omega)
    rw [q2, q4] at this
    exact .inr this
theorem fv_at {M : List PV} (hs : SrtV M) {n : Nat} {x : PV} (h : M[n]? = some x) : fv M x.p.k = some x := by
  obtain ⟨y, hy⟩ := fv_of_mem (List.mem_of_getElem? h)
  obtain ⟨hm, e⟩ := fv_mem hy
  obtain ⟨j, hj⟩ := List.mem_iff_getElem?.1 hm
  obtain ⟨q1, q2⟩ := List.getElem?_eq_some_iff.1 hj
  obtain ⟨q3, q4⟩ := List.getElem?_eq_some_iff.1 h
  rcases Nat.lt_trichotomy n j with q | q | q
  · have := List.pairwise_iff_getElem.1 hs n j q3 q1 q
    rw [q2, q4, e, c_self] at this; omega
  · subst q
    rw [h] at hj
    injection hj with hj
    rw [hy, hj]
  · have := List.pairwise_iff_getElem.1 hs j n q1 q3 q
    rw [q2, q4, e, c_self] at this; omega
/-- The merged ones, and all. -/
theorem mrg_in (l : List PV) : (∀ x ∈ mrgP l, x ∈ l) ∧ ∀ x ∈ l, ∃ y ∈ mrgP l, y.p.k = x.p.k := by
  refine ⟨fun x hx => mem_mrgP hx, fun x hx => ?_⟩
  obtain ⟨y, hy⟩ := fv_of_mem hx
  rw [← fv_mrgP] at hy
  exact ⟨y, (fv_mem hy).1, (fv_mem hy).2⟩
end Go.Proofs.Ytgpafmgncolnmaa
