/-
  Plain notions, not a claim by itself: which levels may be. By the verifier.
-/
import Derived.Test.YtelcijfcgflagaaLvIter
namespace Go.Proofs.Ytelcijfcgflagaa
open Go.RowKit
/-- May bytes be a key? -/
def keyB (b : ByteArray) : Bool := decide (1 ≤ b.size) && decide (b.size ≤ 32)
/-- May a table stand in levels? -/
def sndR (r : Rn) : Bool := decide (1 ≤ r.ct) && keyB r.f && keyB r.l && decide (cmpB r.f r.l ≤ 0)
/-- Do tables stand one behind the other? -/
def chnR : List Rn → Bool
  | [] => true
  | [_] => true
  | r :: s :: t => decide (cmpB r.l s.f < 0) && chnR (s :: t)
/-- May levels be? -/
def mayB (ls : List (List Rn)) : Bool := decide (ls.length ≤ 4) && ls.all (fun l => l.all sndR) && (ls.drop 1).all chnR
def mayI (ls : List (List Rn)) : Int := if mayB ls then 0 else 2
theorem chnR_at : ∀ (l : List Rn), chnR l = true ↔ ∀ (k : Nat) (r s : Rn), l[k]? = some r → l[k + 1]? = some s → cmpB r.l s.f < 0
  | [] => by simp [chnR]
  | [_] => by simp [chnR]
  | a :: b :: t => by
    simp only [chnR, Bool.and_eq_true, decide_eq_true_eq, chnR_at (b :: t)]
    constructor
    · rintro ⟨h1, h2⟩ k r s hr hs
      cases k with
      | zero => simp at hr hs; subst hr hs; exact h1
      | succ k => exact h2 k r s (by simpa using hr) (by simpa using hs)
    · intro h
      exact ⟨h 0 a b rfl rfl, fun k r s hr hs => h (k + 1) r s (by simpa using hr) (by simpa using hs)⟩
theorem mayB_at (ls : List (List Rn)) : mayB ls = true ↔ ls.length ≤ 4 ∧ (∀ (i : Nat) (l : List Rn) (k : Nat) (r : Rn), ls[i]? = some l → l[k]? = some r → sndR r = true) ∧ ∀ (i : Nat) (l : List Rn) (k : Nat) (r s : Rn), 0 < i → ls[i]? = some l → l[k]? = some r → l[k + 1]? = some s → cmpB r.l s.f < 0 := by
  unfold mayB
  simp only [Bool.and_eq_true, decide_eq_true_eq, List.all_eq_true, and_assoc]
  refine and_congr Iff.rfl (and_congr ?_ ?_)
  · exact ⟨fun h i l k r hi hk => h l (List.mem_of_getElem? hi) r (List.mem_of_getElem? hk), fun h l hl r hr => by
      obtain ⟨i, hi, rfl⟩ := List.getElem_of_mem hl
      obtain ⟨k, hk, rfl⟩ := List.getElem_of_mem hr
      exact h i _ k _ (List.getElem?_eq_getElem hi) (List.getElem?_eq_getElem hk)⟩
  · constructor
    · intro h i l k r s h0 hi hr hs
      have := h l (by
        refine List.mem_of_getElem? (i := i - 1) ?_
        rw [List.getElem?_drop, show 1 + (i - 1) = i by omega]; exact hi)
      exact (chnR_at l).1 this k r s hr hs
    · intro h l hl
      obtain ⟨i, hi, rfl⟩ := List.getElem_of_mem hl
      refine (chnR_at _).2 fun k r s hr hs => h (1 + i) _ k r s (by omega) ?_ hr hs
      rw [← List.getElem?_drop]
      exact List.getElem?_eq_getElem hi
theorem rns_at {ls : List LR} {i : Nat} {l : List Rn} (h : (rns ls)[i]? = some l) : ∃ x, ls[i]? = some x ∧ l = x.rs.map RV.r := by
  unfold rns at h
  rw [List.getElem?_map] at h
  cases e : ls[i]? with
  | none => rw [e] at h; cases h
  | some x => rw [e] at h; injection h with h; exact ⟨x, rfl, h.symm⟩
theorem map_at {l : List RV} {k : Nat} {r : Rn} (h : (l.map RV.r)[k]? = some r) : ∃ y, l[k]? = some y ∧ r = y.r := by
  rw [List.getElem?_map] at h
  cases e : l[k]? with
  | none => rw [e] at h; cases h
  | some x => rw [e] at h; injection h with h; exact ⟨x, rfl, h.symm⟩
/-- The j-th table may stand where it stands. -/
def okJ (fl : List (Nat × RV)) (j : Nat) : Prop := ∀ i y, fl[j]? = some (i, y) → sndR y.r = true ∧ (0 < i → 0 < j → ∀ y', fl[j - 1]? = some (i, y') → cmpB y'.r.l y.r.f < 0)
theorem offL_mono (ls : List LR) : ∀ (i k : Nat), i ≤ k → k ≤ ls.length → offL ls i ≤ offL ls k := by
  intro i k h hk
  induction k with
  | zero => rw [show i = 0 by omega]; exact Nat.le_refl _
  | succ k ih =>
    by_cases e : i = k + 1
    · rw [e]; exact Nat.le_refl _
    · have := offL_succ ls k _ (List.getElem?_eq_getElem (by omega))
      have := ih (by omega) (by omega)
      omega
theorem okJ_of {ls : List LR} (h : mayB (rns ls) = true) (j : Nat) : okJ (flt 0 ls) j := by
  obtain ⟨_, h1, h2⟩ := (mayB_at _).1 h
  intro i y hy
  obtain ⟨i', k, x, hi, hk, hj, hm⟩ := flt_has 0 ls j i y hy
  obtain rfl : i = i' := by omega
  have e1 : (rns ls)[i]? = some (x.rs.map RV.r) := by unfold rns; rw [List.getElem?_map, hi]; rfl
  refine ⟨h1 i _ k _ e1 (by rw [List.getElem?_map, hk]; rfl), fun h0 hj0 y' hy' => ?_⟩
  obtain ⟨i2, k2, x2, hi2, hk2, hj2, hm2⟩ := flt_has 0 ls (j - 1) i y' hy'
  obtain rfl : i = i2 := by omega
  rw [hi] at hi2
  injection hi2 with hi2
  subst hi2
  obtain rfl : k = k2 + 1 := by omega
  exact h2 i _ k2 _ _ h0 e1 (by rw [List.getElem?_map, hk2]; rfl) (by rw [List.getElem?_map, hk]; rfl)
theorem may_of {ls : List LR} (hl : ls.length ≤ 4) (h : ∀ j, j < (flt 0 ls).length → okJ (flt 0 ls) j) : mayB (rns ls) = true := by
  refine (mayB_at _).2 ⟨by simpa [rns] using hl, fun i l k r hi hk => ?_, fun i l k r s h0 hi hr hs => ?_⟩
  · obtain ⟨x, hx, rfl⟩ := rns_at hi
    obtain ⟨y, hy, rfl⟩ := map_at hk
    have := flt_at 0 ls i k x y hx hy
    exact (h _ (List.getElem?_eq_some_iff.1 this).1 _ _ this).1
  · obtain ⟨x, hx, rfl⟩ := rns_at hi
    obtain ⟨y, hy, rfl⟩ := map_at hr
    obtain ⟨z, hz, rfl⟩ := map_at hs
    have f1 := flt_at 0 ls i k x y hx hy
    have f2 := flt_at 0 ls i (k + 1) x z hx hz
    rw [Nat.zero_add] at f1 f2
    exact (h _ (List.getElem?_eq_some_iff.1 f2).1 _ _ f2).2 h0 (by omega) y (by rw [show offL ls i + (k + 1) - 1 = offL ls i + k by omega]; exact f1)
end Go.Proofs.Ytelcijfcgflagaa
