/-
  Walks, not a claim by itself: a block by the reference: its words. By the verifier.
-/
import Derived.Test.YtmlllglgjpmicaaHRot
import Derived.Test.YtmlllglgjpmicaaCPad
namespace Go.Proofs.Ytmlllglgjpmicaa
open Go.RowKit
theorem or_sum_nat (a b k : Nat) (hb : b < 2 ^ k) : (a * 2 ^ k) ||| b = a * 2 ^ k + b := by
  have h := Nat.shiftLeft_add_eq_or_of_lt hb a
  rw [Nat.shiftLeft_eq] at h
  exact h.symm
/-- high | low, the low one below the high one's last place: their sum. -/
theorem or_hi32 (a b : Int) (m : Int) (k : Nat) (hm : m = 2 ^ k) (h0 : 0 ≤ a) (h1 : 0 ≤ b) (h2 : b < m) (h3 : a * m + b < 4294967296) :
    bits .or .u32 (a * m) b = a * m + b := by
  subst hm
  obtain ⟨a, rfl⟩ := Int.eq_ofNat_of_zero_le h0
  obtain ⟨b, rfl⟩ := Int.eq_ofNat_of_zero_le h1
  have e : ((2 : Int) ^ k) = ((2 ^ k : Nat) : Int) := by simp
  rw [e] at h2 h3 ⊢
  have hb : b < 2 ^ k := by omega
  rw [show (a : Int) * ((2 ^ k : Nat) : Int) = ((a * 2 ^ k : Nat) : Int) from by simp] at h3 ⊢
  rw [u32_or_nat _ _ (by omega) (by omega), or_sum_nat a b k hb]
  simp
/-- The first i of a word's bytes. -/
def acc (g : Nat → Int) (t : Nat) : Nat → Int
  | 0 => 0
  | i + 1 => bits .or .u32 (acc g t i * 256 % 4294967296) (g (4 * t + i))
theorem or8 (a b : Int) (h0 : 0 ≤ a) (h1 : a < 16777216) (h2 : 0 ≤ b) (h3 : b < 256) : bits .or .u32 (a * 256 % 4294967296) b = a * 256 + b := by
  rw [Int.emod_eq_of_lt (by omega) (by omega)]
  exact or_hi32 a b 256 8 (by decide) h0 h2 h3 (by omega)
theorem acc_word (g : Nat → Int) (t : Nat) (h : ∀ i, i < 4 → 0 ≤ g (4 * t + i) ∧ g (4 * t + i) < 256) : acc g t 4 = word4 g t := by
  have b0 := h 0 (by omega)
  have b1 := h 1 (by omega)
  have b2 := h 2 (by omega)
  have b3 := h 3 (by omega)
  rw [Nat.add_zero] at b0
  have a1 : acc g t 1 = g (4 * t) := by
    show bits .or .u32 (0 * 256 % 4294967296) (g (4 * t + 0)) = _
    rw [Nat.add_zero]
    have := or8 0 (g (4 * t)) (by omega) (by omega) b0.1 b0.2
    rw [this]; omega
  have a2 : acc g t 2 = g (4 * t) * 256 + g (4 * t + 1) := by
    show bits .or .u32 (acc g t 1 * 256 % 4294967296) (g (4 * t + 1)) = _
    rw [a1]; exact or8 _ _ b0.1 (by omega) b1.1 b1.2
  have a3 : acc g t 3 = (g (4 * t) * 256 + g (4 * t + 1)) * 256 + g (4 * t + 2) := by
    show bits .or .u32 (acc g t 2 * 256 % 4294967296) (g (4 * t + 2)) = _
    rw [a2]; exact or8 _ _ (by omega) (by omega) b2.1 b2.2
  have a4 : acc g t 4 = ((g (4 * t) * 256 + g (4 * t + 1)) * 256 + g (4 * t + 2)) * 256 + g (4 * t + 3) := by
    show bits .or .u32 (acc g t 3 * 256 % 4294967296) (g (4 * t + 3)) = _
    rw [a3]; exact or8 _ _ (by omega) (by omega) b3.1 b3.2
  rw [a4]
  unfold word4
  have c1 : bits .or .u32 (g (4 * t) * 16777216) (g (4 * t + 1) * 65536) = (g (4 * t) * 256 + g (4 * t + 1)) * 65536 := by
    rw [or_hi32 _ _ 16777216 24 (by decide) b0.1 (by omega) (by omega) (by omega)]; omega
  rw [c1]
  have c2 : bits .or .u32 ((g (4 * t) * 256 + g (4 * t + 1)) * 65536) (g (4 * t + 2) * 256) = ((g (4 * t) * 256 + g (4 * t + 1)) * 256 + g (4 * t + 2)) * 256 := by
    rw [or_hi32 _ _ 65536 16 (by decide) (by omega) (by omega) (by omega) (by omega)]; omega
  rw [c2, or_hi32 _ _ 256 8 (by decide) (by omega) b3.1 b3.2 (by omega)]
/-- The words, t of all laid. -/
def schT (g : Nat → Int) (t : Nat) : Nat → Int := if t ≤ 16 then wrds g t else sch g (t - 16)
theorem schT_low (g : Nat → Int) (t : Nat) (h : t < 16) : upd (schT g t) t (word4 g t) = schT g (t + 1) := by
  unfold schT; rw [if_pos (by omega), if_pos (by omega), wrds_upd]
theorem schT_high (g : Nat → Int) (t : Nat) (h : 16 ≤ t) : upd (schT g t) t (nxt (schT g t) t) = schT g (t + 1) := by
  have e : ∀ t, 16 ≤ t → schT g t = sch g (t - 16) := fun t h => by
    unfold schT
    by_cases e : t = 16
    · subst e; rw [if_pos (by omega)]; rfl
    · rw [if_neg (by omega)]
  rw [e t h, e (t + 1) (by omega), show t + 1 - 16 = (t - 16) + 1 by omega]
  show _ = upd (sch g (t - 16)) (16 + (t - 16)) (nxt (sch g (t - 16)) (16 + (t - 16)))
  rw [show 16 + (t - 16) = t by omega]
theorem schT_end (g : Nat → Int) : schT g 64 = sch g 48 := by unfold schT; rw [if_neg (by omega)]
theorem schT_zero (g : Nat → Int) (t j : Nat) (h : t < 16) (hj : t ≤ j) : schT g t j = 0 := by unfold schT wrds; rw [if_pos (by omega), if_neg (by omega)]
end Go.Proofs.Ytmlllglgjpmicaa
