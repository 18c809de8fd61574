/-
  Plain notions, not a claim by itself: copies, votes, and which copy is open. By the verifier.
-/
import Derived.Test.YtfapmogjmjlokaaSSup
namespace Go.Proofs.Ytfapmogjmjlokaa
open Go.RowKit
/-- Copy i of all copies. -/
def cp (F : Nat → Int) (i : Nat) (j : Nat) : Int := F (i * 512 + j)
attribute [local irreducible] eqN
/-- How many of the first p copies have these bytes. -/
def cnt (F : Nat → Int) (f : Nat → Int) : Nat → Nat
  | 0 => 0
  | p + 1 => cnt F f p + (if eqN 512 (cp F p) f = true then 1 else 0)
theorem cnt_le (F f : Nat → Int) : ∀ p, cnt F f p ≤ p
  | 0 => Nat.le_refl _
  | p + 1 => by have := cnt_le F f p; unfold cnt; split <;> omega
/-- How many copies are as copy i is. -/
def votes (F : Nat → Int) (i : Nat) : Nat := cnt F (cp F i) 4
/-- The Sequence that copy i says. -/
def seqO (F : Nat → Int) (i : Nat) : Int := rdN (behO (cp F i)) 0
def seqB (F : Nat → Int) : Option Nat → Int
  | none => 0
  | some q => seqO F q
/-- Which of the first p copies is open. -/
noncomputable def best (F : Nat → Int) : Nat → Option Nat
  | 0 => none
  | p + 1 => if 2 ≤ votes F p ∧ Whole (cp F p) ∧ seqB F (best F p) < seqO F p then some p else best F p
theorem best_succ (F : Nat → Int) (p : Nat) : best F (p + 1) = if 2 ≤ votes F p ∧ Whole (cp F p) ∧ seqB F (best F p) < seqO F p then some p else best F p := rfl
/-- Copy i has just these bytes. -/
def Has (F : Nat → Int) (i : Nat) (f : Nat → Int) : Prop := ∀ j, j < 512 → cp F i j = f j
theorem eqN_has {F f : Nat → Int} {i : Nat} : eqN 512 (cp F i) f = true ↔ Has F i f := eqN_iff 512 _ _
theorem best_none {F : Nat → Int} : ∀ p, (∀ i, i < p → ¬ (2 ≤ votes F i ∧ Whole (cp F i))) → best F p = none
  | 0, _ => rfl
  | p + 1, h => by
    rw [best_succ, if_neg (fun q => h p (by omega) ⟨q.1, q.2.1⟩)]
    exact best_none p (fun i hi => h i (by omega))
set_option maxRecDepth 100000 in
theorem best_some {F : Nat → Int} : ∀ p q, best F p = some q → q < p ∧ 2 ≤ votes F q ∧ Whole (cp F q)
  | 0, q, h => by cases h
  | p + 1, q, h => by
    rw [best_succ] at h
    by_cases c : 2 ≤ votes F p ∧ Whole (cp F p) ∧ seqB F (best F p) < seqO F p
    · rw [if_pos c] at h
      injection h with h
      subst h
      exact ⟨by omega, c.1, c.2.1⟩
    · rw [if_neg c] at h
      have := best_some p q h
      exact ⟨by omega, this.2⟩
theorem whole_seq {F : Nat → Int} {i : Nat} (h : Whole (cp F i)) : 1 ≤ seqO F i ∧ seqO F i ≤ mOp := h.2.2.2.2.1
theorem has_seq {F : Nat → Int} {i : Nat} {s : Sup} (m : s.May) (h : Has F i s.img) : Whole (cp F i) ∧ s.Eq (supOf (behO (cp F i))) ∧ seqO F i = s.x 0 := by
  obtain ⟨a, b⟩ := Whole.congr (fun j hj => (h j hj).symm) m.whole
  have e := m.read.trans b
  exact ⟨a, e, (e.2.2.1 0 (by omega)).symm⟩
set_option maxRecDepth 100000 in
/-- Where at least two copies are a superblock that may be, and all others that two agree upon are earlier ones, it is open. -/
theorem best_is {F : Nat → Int} {s : Sup} (m : s.May) (hv : ∀ i, i < 4 → Has F i s.img → 2 ≤ votes F i) (ho : ∀ i, i < 4 → ¬ Has F i s.img → 2 ≤ votes F i → Whole (cp F i) → seqO F i < s.x 0) :
    ∀ p, p ≤ 4 → (best F p = none → ∀ i, i < p → ¬ Has F i s.img) ∧ (∀ q, best F p = some q → (∃ i, i < p ∧ Has F i s.img) → Has F q s.img)
  | 0, _ => ⟨fun _ i hi => by omega, fun q h => by cases h⟩
  | p + 1, hp => by
    obtain ⟨I1, I2⟩ := best_is m hv ho p (by omega)
    have m0 : 1 ≤ s.x 0 := m.2.2.1.1
    by_cases c : 2 ≤ votes F p ∧ Whole (cp F p) ∧ seqB F (best F p) < seqO F p
    · have e : best F (p + 1) = some p := by rw [best_succ, if_pos c]
      rw [e]
      refine ⟨fun h => (by cases h), fun q h => ?_⟩
      injection h with h
      subst h
      rintro ⟨i, hi, hh⟩
      by_cases a : Has F p s.img
      · exact a
      · exfalso
        have hip : i < p := by
          rcases Nat.lt_or_ge i p with g | g
          · exact g
          · obtain rfl : i = p := by omega
            exact absurd hh a
        have lt := ho p (by omega) a c.1 c.2.1
        cases b : best F p with
        | none => exact I1 b i hip hh
        | some q =>
          have hq := I2 q b ⟨i, hip, hh⟩
          have sq := (has_seq m hq).2.2
          have c3 := c.2.2
          rw [b] at c3
          have c4 : seqO F q < seqO F p := c3
          omega
    · have e : best F (p + 1) = best F p := by rw [best_succ, if_neg c]
      rw [e]
      have key : Has F p s.img → ∃ q, best F p = some q ∧ Has F q s.img := fun a => by
        obtain ⟨w, _, sq⟩ := has_seq m a
        have v := hv p (by omega) a
        have nl : ¬ seqB F (best F p) < seqO F p := fun g => c ⟨v, w, g⟩
        cases b : best F p with
        | none => rw [b] at nl; exact absurd (show (0 : Int) < seqO F p by omega) nl
        | some q =>
          rw [b] at nl
          have nl' : ¬ seqO F q < seqO F p := nl
          obtain ⟨q1, q2, q3⟩ := best_some p q b
          refine ⟨q, rfl, ?_⟩
          by_cases g : Has F q s.img
          · exact g
          · exfalso
            have := ho q (by omega) g q2 q3
            omega
      refine ⟨fun b i hi hh => ?_, fun q b hx => ?_⟩
      · rcases Nat.lt_or_ge i p with g | g
        · exact I1 b i g hh
        · obtain rfl : i = p := by omega
          obtain ⟨q, b', _⟩ := key hh
          rw [b] at b'
          cases b'
      · obtain ⟨i, hi, hh⟩ := hx
        rcases Nat.lt_or_ge i p with g | g
        · exact I2 q b ⟨i, g, hh⟩
        · obtain rfl : i = p := by omega
          obtain ⟨q', b', h'⟩ := key hh
          rw [b] at b'
          injection b' with b'
          rw [b']; exact h'
set_option maxRecDepth 100000 in
theorem best_found {F : Nat → Int} {s : Sup} (m : s.May) (hv : ∀ i, i < 4 → Has F i s.img → 2 ≤ votes F i) (ho : ∀ i, i < 4 → ¬ Has F i s.img → 2 ≤ votes F i → Whole (cp F i) → seqO F i < s.x 0) (i : Nat) (hi : i < 4) (hh : Has F i s.img) : ∃ q, q < 4 ∧ best F 4 = some q ∧ Has F q s.img := by
  obtain ⟨I1, I2⟩ := best_is m hv ho 4 (Nat.le_refl _)
  cases b : best F 4 with
  | none => exact absurd hh (I1 b i hi)
  | some q => exact ⟨q, (best_some 4 q b).1, rfl, I2 q b ⟨i, hi, hh⟩⟩
/-- How many of four are true. -/
def sum4 (b : Nat → Bool) : Nat := 0 + (if b 0 = true then 1 else 0) + (if b 1 = true then 1 else 0) + (if b 2 = true then 1 else 0) + (if b 3 = true then 1 else 0)
theorem votes_sum (F : Nat → Int) (i : Nat) : votes F i = sum4 (fun k => eqN 512 (cp F k) (cp F i)) := rfl
theorem sum4_two (b : Nat → Bool) (i k : Nat) (hi : i < 4) (hk : k < 4) (hne : i ≠ k) (h1 : b i = true) (h2 : b k = true) : 2 ≤ sum4 b := by
  unfold sum4
  have e : i = 0 ∨ i = 1 ∨ i = 2 ∨ i = 3 := by omega
  have f : k = 0 ∨ k = 1 ∨ k = 2 ∨ k = 3 := by omega
  rcases e with rfl | rfl | rfl | rfl <;> rcases f with rfl | rfl | rfl | rfl <;> first | exact absurd rfl hne | (rw [h1, h2]; simp only [if_true]; omega)
theorem sum4_one (b : Nat → Bool) (i : Nat) (hi : i < 4) (h1 : b i = true) (h2 : ∀ k, k < 4 → k ≠ i → b k = false) : sum4 b = 1 := by
  unfold sum4
  have e : i = 0 ∨ i = 1 ∨ i = 2 ∨ i = 3 := by omega
  rcases e with rfl | rfl | rfl | rfl
  · rw [h1, h2 1 (by omega) (by omega), h2 2 (by omega) (by omega), h2 3 (by omega) (by omega)]; rfl
  · rw [h1, h2 0 (by omega) (by omega), h2 2 (by omega) (by omega), h2 3 (by omega) (by omega)]; rfl
  · rw [h1, h2 0 (by omega) (by omega), h2 1 (by omega) (by omega), h2 3 (by omega) (by omega)]; rfl
  · rw [h1, h2 0 (by omega) (by omega), h2 1 (by omega) (by omega), h2 2 (by omega) (by omega)]; rfl
theorem eqN_self (N : Nat) (f : Nat → Int) : eqN N f f = true := (eqN_iff _ _ _).2 (fun _ _ => rfl)
/-- Two copies that are alike have two votes. -/
theorem votes_two {F : Nat → Int} {i k : Nat} (hi : i < 4) (hk : k < 4) (hne : i ≠ k) (h : Has F k (cp F i)) : 2 ≤ votes F i := by
  rw [votes_sum]
  exact sum4_two (fun k => eqN 512 (cp F k) (cp F i)) i k hi hk hne (eqN_self 512 _) (eqN_has.2 h)
/-- A copy that is like no other one has one vote. -/
theorem votes_one {F : Nat → Int} {i : Nat} (hi : i < 4) (h : ∀ k, k < 4 → k ≠ i → ¬ Has F k (cp F i)) : votes F i = 1 := by
  rw [votes_sum]
  exact sum4_one (fun k => eqN 512 (cp F k) (cp F i)) i hi (eqN_self 512 _) (fun k hk hn => Bool.eq_false_iff.2 (fun g => h k hk hn (eqN_has.1 g)))
end Go.Proofs.Ytfapmogjmjlokaa
