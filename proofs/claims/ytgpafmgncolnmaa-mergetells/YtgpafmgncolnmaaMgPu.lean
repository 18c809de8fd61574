/-
  Plain notions, not a claim by itself: what is left of lists that are made one. By the verifier.
-/
import Derived.Test.YtgpafmgncolnmaaMgHo
namespace Go.Proofs.Ytgpafmgncolnmaa
open Go.RowKit
/-- All pairs that are left. -/
def rest (V : Nat → LV) (L : Nat) : List PV := (List.range L).flatMap fun t => (V t).ps
/-- All pairs. -/
def allP (ls : List LV) : List PV := ls.flatMap LV.ps
theorem rest_V0 : ∀ (ls : List LV), rest (V0 ls) ls.length = allP ls := by
  intro ls
  have : ∀ k, k ≤ ls.length → rest (V0 ls) k = allP (ls.take k) := by
    intro k
    induction k with
    | zero => intro _; rfl
    | succ k ih =>
      intro hk
      unfold rest allP at ih ⊢
      rw [List.range_succ, List.flatMap_append, ih (by omega), List.take_succ_eq_append_getElem (by omega), List.flatMap_append]
      congr 1
      have e := V0_at (List.getElem?_eq_getElem (show k < ls.length by omega))
      simp [e]
  rw [this _ (Nat.le_refl _), List.take_length]
theorem mem_rest {V : Nat → LV} {L : Nat} {x : PV} : x ∈ rest V L ↔ ∃ t, t < L ∧ x ∈ (V t).ps := by
  unfold rest
  simp [List.mem_flatMap]
theorem fv_app (a b : List PV) (k : ByteArray) : fv (a ++ b) k = (fv a k).or (fv b k) := by unfold fv; rw [List.find?_append]
theorem rest_succ (V : Nat → LV) (L : Nat) : rest V (L + 1) = rest V L ++ (V L).ps := by
  unfold rest
  rw [List.range_succ, List.flatMap_append]
  simp
/-- What is told hangs on what each list tells. -/
theorem fv_rest_congr {V V' : Nat → LV} {k : ByteArray} : ∀ L, (∀ t, t < L → fv (V t).ps k = fv (V' t).ps k) → fv (rest V L) k = fv (rest V' L) k
  | 0, _ => rfl
  | L + 1, h => by
    rw [rest_succ, rest_succ, fv_app, fv_app, fv_rest_congr L (fun t ht => h t (by omega)), h L (by omega)]
theorem fv_rest_none {V : Nat → LV} {k : ByteArray} : ∀ L, (∀ t, t < L → fv (V t).ps k = none) → fv (rest V L) k = none
  | 0, _ => rfl
  | L + 1, h => by rw [rest_succ, fv_app, fv_rest_none L (fun t ht => h t (by omega)), h L (by omega)]; rfl
theorem fv_rest_some {V : Nat → LV} {k : ByteArray} {x : PV} {s : Nat} : ∀ L, s < L → (∀ t, t < s → fv (V t).ps k = none) → fv (V s).ps k = some x → fv (rest V L) k = some x
  | 0, h, _, _ => by omega
  | L + 1, h, h1, h2 => by
    rw [rest_succ, fv_app]
    by_cases e : s = L
    · subst e
      rw [fv_rest_none s h1, h2]
      rfl
    · rw [fv_rest_some L (by omega) h1 h2]
      rfl
theorem fv_cons_ne {a : PV} {r : List PV} {k : ByteArray} (h : a.p.k ≠ k) : fv (a :: r) k = fv r k := by
  unfold fv
  rw [List.find?_cons_of_neg (by simpa using h)]
theorem fv_cons_eq {a : PV} {r : List PV} {k : ByteArray} (h : a.p.k = k) : fv (a :: r) k = some a := by
  unfold fv
  rw [List.find?_cons_of_pos (by simpa using h)]
/-- The lists that are gone through, and the heap's order. -/
structure Mg (V : Nat → LV) (L : Nat) (hs : List Nat) : Prop where
  hf : HpF (kys V) hs 0
  nd : hs.Nodup
  mem : ∀ t, t ∈ hs ↔ t < L ∧ (V t).ps ≠ []
  srt : ∀ t, t < L → SrtV (V t).ps
theorem Mg.front {V : Nat → LV} {L s : Nat} {q : List Nat} {x : PV} {r : List PV} (h : Mg V L (s :: q)) (hx : (V s).ps = x :: r) :
    (∀ y ∈ rest V L, ¬ cmpB y.p.k x.p.k < 0) ∧ fv (rest V L) x.p.k = some x := by
  have top : ∀ t, t < L → ∀ y r', (V t).ps = y :: r' → ¬ ahd y.p.k x.p.k t s := fun t ht y r' e => by
    have hm := (h.mem t).2 ⟨ht, by rw [e]; simp⟩
    obtain ⟨i, hi⟩ := List.getElem?_of_mem hm
    have := h.hf.top (s := s) rfl i t hi
    unfold kys LV.k at this
    rw [e, hx] at this
    exact this
  have ge : ∀ t, t < L → ∀ y ∈ (V t).ps, ¬ cmpB y.p.k x.p.k < 0 := fun t ht y hy => by
    cases e : (V t).ps with
    | nil => rw [e] at hy; cases hy
    | cons z r' =>
      have h1 := top t ht z r' e
      unfold ahd at h1
      rw [e] at hy
      rcases List.mem_cons.1 hy with rfl | hy
      · omega
      · have h2 := (List.pairwise_cons.1 (e ▸ h.srt t ht)).1 y hy
        intro q
        exact h1 (.inl (c_trans h2 q))
  refine ⟨fun y hy => ?_, ?_⟩
  · obtain ⟨t, ht, hy⟩ := mem_rest.1 hy
    exact ge t ht y hy
  · have hs := (h.mem s).1 (by simp)
    refine fv_rest_some L hs.1 (fun t ht => ?_) (by rw [hx]; exact fv_cons_eq rfl)
    cases e : (V t).ps with
    | nil => rfl
    | cons z r' =>
      have h1 := top t (by omega) z r' e
      have h3 := c_anti z.p.k x.p.k
      have lt : cmpB x.p.k z.p.k < 0 := by
        unfold ahd at h1
        omega
      refine fv_none_of_lt fun y hy => ?_
      rcases List.mem_cons.1 hy with rfl | hy
      · exact lt
      · exact c_trans lt ((List.pairwise_cons.1 (e ▸ h.srt t (by omega))).1 y hy)
/-- One is taken. -/
theorem Mg.take {V : Nat → LV} {L s : Nat} {q hs' : List Nat} {x : PV} {r : List PV} (h : Mg V L (s :: q)) (hx : (V s).ps = x :: r) (hF : HpF (kys (updV V s (V s).tl)) hs' 0) (hn : hs'.Nodup) (hm : ∀ t, t ∈ hs' ↔ t ∈ s :: q ∧ (t = s → r ≠ [])) :
    Mg (updV V s (V s).tl) L hs' ∧ (∀ k, k ≠ x.p.k → fv (rest (updV V s (V s).tl) L) k = fv (rest V L) k) ∧ (∀ y ∈ rest (updV V s (V s).tl) L, y ∈ rest V L) ∧ (rest (updV V s (V s).tl) L).length + 1 = (rest V L).length := by
  have tl : (V s).tl.ps = r := by simp [LV.tl, hx]
  have hs := (h.mem s).1 (by simp)
  refine ⟨⟨hF, hn, fun t => ?_, fun t ht => ?_⟩, fun k hk => fv_rest_congr L fun t ht => ?_, fun y hy => ?_, ?_⟩
  · rw [hm t, h.mem t]
    by_cases e : t = s
    · subst e
      rw [updV_same, tl]
      constructor
      · rintro ⟨h1, h2⟩; exact ⟨h1.1, h2 rfl⟩
      · rintro ⟨h1, h2⟩; exact ⟨⟨h1, by rw [hx]; simp⟩, fun _ => h2⟩
    · rw [updV_other _ _ _ e]
      constructor
      · rintro ⟨h1, _⟩; exact h1
      · intro h1; exact ⟨h1, fun q => absurd q e⟩
  · by_cases e : t = s
    · subst e
      rw [updV_same, tl]
      exact (List.pairwise_cons.1 (hx ▸ h.srt t ht)).2
    · rw [updV_other _ _ _ e]; exact h.srt t ht
  · by_cases e : t = s
    · subst e
      rw [updV_same, tl, hx, fv_cons_ne (fun q => hk q.symm)]
    · rw [updV_other _ _ _ e]
  · obtain ⟨t, ht, hy⟩ := mem_rest.1 hy
    refine mem_rest.2 ⟨t, ht, ?_⟩
    by_cases e : t = s
    · subst e
      rw [updV_same, tl] at hy
      rw [hx]
      exact List.mem_cons_of_mem _ hy
    · rwa [updV_other _ _ _ e] at hy
  · have len : ∀ M, (s < M → (rest (updV V s (V s).tl) M).length + 1 = (rest V M).length) ∧ (M ≤ s → (rest (updV V s (V s).tl) M).length = (rest V M).length) := by
      intro M
      induction M with
      | zero => exact ⟨fun q => by omega, fun _ => rfl⟩
      | succ M ih =>
        rw [rest_succ, rest_succ, List.length_append, List.length_append]
        refine ⟨fun q => ?_, fun q => ?_⟩
        · by_cases e : M = s
          · subst e
            have := ih.2 (Nat.le_refl _)
            rw [updV_same, tl, hx, List.length_cons]
            omega
          · have := ih.1 (by omega)
            rw [updV_other _ _ _ e]
            omega
        · have := ih.2 (by omega)
          rw [updV_other _ _ _ (by omega)]
          omega
    exact (len L).1 hs.1
/-- What is told behind j pairs. -/
theorem os_at {V : Nat → LV} {L s j : Nat} {q : List Nat} {x : PV} {r os : List PV} (h : Mg V L (s :: q)) (hx : (V s).ps = x :: r) (ho : SrtV os) (hfv : ∀ k, fv (rest V L) k = fv (os.drop j) k) : os[j]? = some x := by
  obtain ⟨h1, h2⟩ := h.front hx
  have h3 := h2
  rw [hfv] at h3
  cases e : os.drop j with
  | nil => rw [e] at h3; cases h3
  | cons z m =>
    have hz : os[j]? = some z := by
      have := congrArg (fun l : List PV => l[0]?) e
      simpa using this
    have sm : SrtV (z :: m) := e ▸ (List.Pairwise.sublist (List.drop_sublist j os) ho)
    have xm := (fv_mem h3).1
    rw [e] at xm h3
    have zr : z ∈ rest V L := by
      have : fv (rest V L) z.p.k = some z := by rw [hfv, e]; exact fv_cons_eq rfl
      exact (fv_mem this).1
    have g1 := h1 z zr
    rcases List.mem_cons.1 xm with rfl | xm
    · exact hz
    · exact absurd ((List.pairwise_cons.1 sm).1 x xm) g1
theorem os_next {V : Nat → LV} {L j : Nat} {x : PV} {os : List PV} (ho : SrtV os) (hj : os[j]? = some x) (h1 : ∀ k, k ≠ x.p.k → fv (rest V L) k = fv (os.drop j) k) (h2 : ∀ y ∈ rest V L, cmpB x.p.k y.p.k < 0) : ∀ k, fv (rest V L) k = fv (os.drop (j + 1)) k := by
  have e : os.drop j = x :: os.drop (j + 1) := by
    obtain ⟨hl, hx⟩ := List.getElem?_eq_some_iff.1 hj
    rw [List.drop_eq_getElem_cons hl, hx]
  have sm : SrtV (x :: os.drop (j + 1)) := e ▸ (List.Pairwise.sublist (List.drop_sublist j os) ho)
  intro k
  by_cases q : k = x.p.k
  · subst q
    rw [fv_none_of_lt h2, fv_none_of_lt (List.pairwise_cons.1 sm).1]
  · rw [h1 k q, e, fv_cons_ne (fun z => q z.symm)]
/-- The least number of which something holds. -/
noncomputable def lst (P : Nat → Prop) : Nat := by
  classical
  exact if h : ∃ n, P n ∧ ∀ m, P m → n ≤ m then Classical.choose h else 0
theorem lst_spec {P : Nat → Prop} (h : ∃ n, P n) : P (lst P) ∧ ∀ m, P m → lst P ≤ m := by
  classical
  have : ∃ n, P n ∧ ∀ m, P m → n ≤ m := by
    obtain ⟨n, hn⟩ := h
    induction n using Nat.strongRecOn with
    | ind n ih =>
      by_cases q : ∃ m, m < n ∧ P m
      · obtain ⟨m, hm, hp⟩ := q
        exact ih m hm hp
      · exact ⟨n, hn, fun m hm => Nat.le_of_not_lt fun hl => q ⟨m, hl, hm⟩⟩
  unfold lst
  rw [dif_pos this]
  exact Classical.choose_spec this
end Go.Proofs.Ytgpafmgncolnmaa
