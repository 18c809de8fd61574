/-
  Plain facts, not a claim by itself: words of bits. By the verifier.
-/
import Derived.Test.YtblphlcnbnklmaaGreatDoorBase
import Derived.Lib.TrailingZeros
namespace Go.Proofs.YtblphlcnbnklmaaGreatDoor
open Go.RowKit
/-- The first n bits from off on, as a number. -/
def bitsTo (p : Nat → Bool) (off : Nat) : Nat → Nat
  | 0 => 0
  | n + 1 => (if p (off + n) then 2 ^ n else 0) + bitsTo p off n
theorem bitsTo_lt (p : Nat → Bool) (off : Nat) : ∀ n, bitsTo p off n < 2 ^ n
  | 0 => by simp [bitsTo]
  | n + 1 => by
    have := bitsTo_lt p off n
    unfold bitsTo
    rw [Nat.pow_succ]
    split <;> omega
theorem bitsTo_bit (p : Nat → Bool) (off : Nat) : ∀ n i, (bitsTo p off n).testBit i = (decide (i < n) && p (off + i))
  | 0, i => by simp [bitsTo]
  | n + 1, i => by
    have lt := bitsTo_lt p off n
    have ih := bitsTo_bit p off n
    unfold bitsTo
    by_cases hp : p (off + n) = true
    · rw [if_pos hp]
      rcases Nat.lt_trichotomy i n with h | h | h
      · rw [Nat.testBit_two_pow_add_gt h, ih]
        simp [h, Nat.lt_succ_of_lt h]
      · subst h
        rw [Nat.testBit_two_pow_add_eq, ih]
        simp [hp]
      · rw [Nat.testBit_lt_two_pow]
        · have : ¬ i < n + 1 := by omega
          simp [this]
        · have : 2 ^ (n + 1) ≤ 2 ^ i := Nat.pow_le_pow_right (by decide) h
          rw [Nat.pow_succ] at this
          omega
    · rw [if_neg hp, Nat.zero_add, ih]
      rcases Nat.lt_trichotomy i n with h | h | h
      · simp [h, Nat.lt_succ_of_lt h]
      · subst h
        simp only [Bool.not_eq_true] at hp
        simp [hp]
      · have h1 : ¬ i < n + 1 := by omega
        have h2 : ¬ i < n := by omega
        simp [h1, h2]
/-- The j-th word. -/
def wd (p : Nat → Bool) (j : Nat) : Nat := bitsTo p (64 * j) 64
theorem wd_lt (p : Nat → Bool) (j : Nat) : wd p j < 18446744073709551616 := bitsTo_lt p (64 * j) 64
theorem wd_bit (p : Nat → Bool) (j i : Nat) : (wd p j).testBit i = (decide (i < 64) && p (64 * j + i)) := bitsTo_bit p (64 * j) 64 i
theorem wd_ext (p : Nat → Bool) (j x : Nat) (hx : x < 18446744073709551616) (h : ∀ i, i < 64 → x.testBit i = p (64 * j + i)) : x = wd p j := by
  apply Nat.eq_of_testBit_eq
  intro i
  rw [wd_bit]
  by_cases hi : i < 64
  · simp [hi, h i hi]
  · rw [Nat.testBit_lt_two_pow (Nat.lt_of_lt_of_le hx (Nat.pow_le_pow_right (n := 2) (by decide) (by omega : 64 ≤ i)))]
    simp [hi]
theorem wd_congr (p q : Nat → Bool) (j : Nat) (h : ∀ i, i < 64 → p (64 * j + i) = q (64 * j + i)) : wd p j = wd q j :=
  wd_ext q j _ (wd_lt p j) fun i hi => by rw [wd_bit]; simp [hi, h i hi]
/-- p, but for one place. -/
def updB (p : Nat → Bool) (i : Nat) (v : Bool) (j : Nat) : Bool := if j = i then v else p j
theorem wd_off (p : Nat → Bool) (k : Nat) (v : Bool) (j : Nat) (h : j ≠ k / 64) : wd (updB p k v) j = wd p j :=
  wd_congr _ _ _ fun i hi => by unfold updB; rw [if_neg (by omega)]
theorem pow_lt64 (i : Nat) (h : i < 64) : 2 ^ i < 18446744073709551616 := by
  have : 2 ^ i < 2 ^ 64 := (Nat.pow_lt_pow_iff_right (a := 2) (by decide)).2 h
  exact this
theorem wd_has (p : Nat → Bool) (k : Nat) : (wd p (k / 64) &&& 2 ^ (k % 64) = 0) = (p k = false) := by
  have hb := wd_bit p (k / 64) (k % 64)
  have e : 64 * (k / 64) + k % 64 = k := by omega
  have hl : k % 64 < 64 := by omega
  rw [e] at hb
  simp only [hl, decide_true, Bool.true_and] at hb
  apply propext
  constructor
  · intro h
    have : (wd p (k / 64) &&& 2 ^ (k % 64)).testBit (k % 64) = false := by rw [h]; simp
    rw [Nat.testBit_and, Nat.testBit_two_pow_self, Bool.and_true, hb] at this
    exact this
  · intro h
    apply Nat.eq_of_testBit_eq
    intro i
    rw [Nat.testBit_and, Nat.testBit_two_pow, Nat.zero_testBit]
    by_cases hi : k % 64 = i
    · subst hi
      rw [hb, h]
      rfl
    · simp [hi]
theorem wd_clear (p : Nat → Bool) (k : Nat) : wd p (k / 64) &&& (18446744073709551615 - 2 ^ (k % 64)) = wd (updB p k false) (k / 64) := by
  have hl : k % 64 < 64 := by omega
  have hp := pow_lt64 (k % 64) hl
  refine wd_ext _ _ _ (Nat.lt_of_le_of_lt Nat.and_le_left (wd_lt _ _)) fun i hi => ?_
  have e : 18446744073709551615 - 2 ^ (k % 64) = 2 ^ 64 - (2 ^ (k % 64) + 1) := by
    show 18446744073709551615 - 2 ^ (k % 64) = 18446744073709551616 - (2 ^ (k % 64) + 1)
    omega
  rw [Nat.testBit_and, wd_bit, e, Nat.testBit_two_pow_sub_succ hp, Nat.testBit_two_pow]
  unfold updB
  by_cases h : k % 64 = i
  · rw [if_pos (by omega)]
    simp [h, hi]
  · rw [if_neg (by omega)]
    simp [h, hi]
theorem wd_set (p : Nat → Bool) (k : Nat) : wd p (k / 64) ||| 2 ^ (k % 64) = wd (updB p k true) (k / 64) := by
  have hl : k % 64 < 64 := by omega
  have hp := pow_lt64 (k % 64) hl
  refine wd_ext _ _ _ (Nat.or_lt_two_pow (n := 64) (wd_lt _ _) hp) fun i hi => ?_
  rw [Nat.testBit_or, wd_bit, Nat.testBit_two_pow]
  unfold updB
  by_cases h : k % 64 = i
  · rw [if_pos (by omega)]
    simp [h]
  · rw [if_neg (by omega)]
    simp [h, hi]
theorem wd_or (p q : Nat → Bool) (j : Nat) : wd p j ||| wd q j = wd (fun i => p i || q i) j :=
  wd_ext _ _ _ (Nat.or_lt_two_pow (n := 64) (wd_lt _ _) (wd_lt _ _)) fun i hi => by rw [Nat.testBit_or, wd_bit, wd_bit]; simp [hi]
theorem wd_zero (p : Nat → Bool) (j : Nat) : (wd p j = 0) = (∀ i, i < 64 → p (64 * j + i) = false) := by
  apply propext
  constructor
  · intro h i hi
    have := wd_bit p j i
    rw [h] at this
    simpa [hi] using this.symm
  · intro h
    refine (wd_ext p j 0 (by decide) fun i hi => ?_).symm
    rw [h i hi, Nat.zero_testBit]
theorem odd_bit (c m i : Nat) : (2 ^ c * (2 * m + 1)).testBit i = (decide (c ≤ i) && (2 * m + 1).testBit (i - c)) := by
  rw [Nat.mul_comm, Nat.testBit_mul_two_pow]
/-- The lowest bit of a word. -/
theorem wd_low (p : Nat → Bool) (j : Nat) (h : wd p j ≠ 0) : Lib.ctz 64 (wd p j) < 64 ∧ p (64 * j + Lib.ctz 64 (wd p j)) = true ∧ ∀ i, i < Lib.ctz 64 (wd p j) → p (64 * j + i) = false := by
  unfold Lib.ctz
  rw [if_neg h]
  obtain ⟨m, hm, hc⟩ := Lib.ctzFrom_spec 64 (wd p j) (by omega) (wd_lt p j)
  have hb := wd_bit p j
  generalize Lib.ctzFrom 64 (wd p j) = c at *
  refine ⟨hc, ?_, fun i hi => ?_⟩
  · have := hb c
    rw [hm, odd_bit] at this
    simp [hc] at this
    exact this
  · have := hb i
    rw [hm, odd_bit] at this
    have h1 : ¬ c ≤ i := by omega
    have h2 : i < 64 := by omega
    simp [h1, h2] at this
    exact this
end Go.Proofs.YtblphlcnbnklmaaGreatDoor
