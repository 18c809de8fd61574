/-
  Plain facts, not a claim by itself: a set's bytes. By the verifier.
-/
import Derived.Test.YtkncnpjhfcfmnaaDoorFNew
namespace Go.Proofs.YtkncnpjhfcfmnaaDoor
open Go.RowKit
/-- A block's bits in its byte, where it is one of the first c. -/
def qd (h : Nat → Nat) (c j t : Nat) : Nat := if 4 * j + t < c then h (4 * j + t) * 4 ^ t else 0
/-- A byte of four blocks. -/
def byteN (h : Nat → Nat) (c j : Nat) : Nat := qd h c j 0 + qd h c j 1 + qd h c j 2 + qd h c j 3
theorem qd_lt (h : Nat → Nat) (hh : ∀ i, h i ≤ 2) (c j t : Nat) : qd h c j t ≤ 2 * 4 ^ t := by
  unfold qd
  split
  · exact Nat.mul_le_mul_right _ (hh _)
  · omega
theorem byteN_lt (h : Nat → Nat) (hh : ∀ i, h i ≤ 2) (c j : Nat) : byteN h c j < 256 := by
  have a := qd_lt h hh c j 0
  have b := qd_lt h hh c j 1
  have d := qd_lt h hh c j 2
  have e := qd_lt h hh c j 3
  unfold byteN
  omega
theorem byteN_low (h : Nat → Nat) (hh : ∀ i, h i ≤ 2) (k : Nat) : byteN h k (k / 4) < 4 ^ (k % 4) := by
  have a := qd_lt h hh k (k / 4) 0
  have b := qd_lt h hh k (k / 4) 1
  have d := qd_lt h hh k (k / 4) 2
  unfold byteN
  have z : ∀ t, k % 4 ≤ t → qd h k (k / 4) t = 0 := fun t ht => by unfold qd; rw [if_neg (by omega)]
  have lt : k % 4 < 4 := Nat.mod_lt _ (by decide)
  match e : k % 4 with
  | 0 => rw [z 0 (by omega), z 1 (by omega), z 2 (by omega), z 3 (by omega)]; decide
  | 1 => rw [z 1 (by omega), z 2 (by omega), z 3 (by omega)]; omega
  | 2 => rw [z 2 (by omega), z 3 (by omega)]; omega
  | 3 => rw [z 3 (by omega)]; omega
  | q + 4 => omega
theorem qd_same (h : Nat → Nat) (k j t : Nat) (hn : 4 * j + t ≠ k) : qd h (k + 1) j t = qd h k j t := by
  unfold qd
  by_cases e : 4 * j + t < k
  · rw [if_pos e, if_pos (by omega)]
  · rw [if_neg e, if_neg (by omega)]
theorem byteN_off (h : Nat → Nat) (k j : Nat) (hj : j ≠ k / 4) : byteN h (k + 1) j = byteN h k j := by
  unfold byteN
  rw [qd_same h k j 0 (by omega), qd_same h k j 1 (by omega), qd_same h k j 2 (by omega), qd_same h k j 3 (by omega)]
theorem qd_new (h : Nat → Nat) (k : Nat) : qd h (k + 1) (k / 4) (k % 4) = h k * 4 ^ (k % 4) := by
  unfold qd
  rw [if_pos (by omega), show 4 * (k / 4) + k % 4 = k by omega]
theorem qd_old (h : Nat → Nat) (k : Nat) : qd h k (k / 4) (k % 4) = 0 := by
  unfold qd
  rw [if_neg (by omega)]
theorem byteN_step (h : Nat → Nat) (k : Nat) : byteN h (k + 1) (k / 4) = byteN h k (k / 4) + h k * 4 ^ (k % 4) := by
  have a := qd_new h k
  have b := qd_old h k
  have s : ∀ t, t < 4 → t ≠ k % 4 → qd h (k + 1) (k / 4) t = qd h k (k / 4) t := fun t h1 h2 => qd_same h k (k / 4) t (by omega)
  have lt : k % 4 < 4 := Nat.mod_lt _ (by decide)
  generalize h k * 4 ^ (k % 4) = x at *
  unfold byteN
  generalize hm : k % 4 = m at *
  match m, lt with
  | 0, _ => rw [s 1 (by omega) (by omega), s 2 (by omega) (by omega), s 3 (by omega) (by omega), a, b]; omega
  | 1, _ => rw [s 0 (by omega) (by omega), s 2 (by omega) (by omega), s 3 (by omega) (by omega), a, b]; omega
  | 2, _ => rw [s 0 (by omega) (by omega), s 1 (by omega) (by omega), s 3 (by omega) (by omega), a, b]; omega
  | 3, _ => rw [s 0 (by omega) (by omega), s 1 (by omega) (by omega), s 2 (by omega) (by omega), a, b]; omega
/-- A set's bytes, of the first c blocks. -/
def byF (n : Nat) (h : Nat → Nat) (c j : Nat) : Int := if j = 0 then ((n % 256 : Nat) : Int) else if j = 1 then ((n / 256 : Nat) : Int) else ((byteN h c (j - 2) : Nat) : Int)
/-- How many bytes. -/
def szN (n : Nat) : Nat := 2 + (n + 3) / 4
theorem byF_step (n : Nat) (h : Nat → Nat) (k : Nat) : upd (byF n h k) (2 + k / 4) (((byteN h k (k / 4) + h k * 4 ^ (k % 4) : Nat) : Nat) : Int) = byF n h (k + 1) := by
  funext j
  unfold upd byF
  by_cases e : j = 2 + k / 4
  · subst e
    rw [if_pos rfl, if_neg (by omega), if_neg (by omega), show 2 + k / 4 - 2 = k / 4 by omega, byteN_step]
  · rw [if_neg e]
    by_cases e0 : j = 0
    · rw [if_pos e0, if_pos e0]
    · rw [if_neg e0, if_neg e0]
      by_cases e1 : j = 1
      · rw [if_pos e1, if_pos e1]
      · rw [if_neg e1, if_neg e1, byteN_off h k (j - 2) (by omega)]
theorem byF_at (n : Nat) (h : Nat → Nat) (k : Nat) : byF n h k (2 + k / 4) = ((byteN h k (k / 4) : Nat) : Int) := by
  unfold byF
  rw [if_neg (by omega), if_neg (by omega), show 2 + k / 4 - 2 = k / 4 by omega]
theorem byF_range (n : Nat) (h : Nat → Nat) (hh : ∀ i, h i ≤ 2) (hn : n ≤ 512) (c j : Nat) : 0 ≤ byF n h c j ∧ byF n h c j < 256 := by
  unfold byF
  split
  · omega
  · split
    · omega
    · have := byteN_lt h hh c (j - 2); omega
theorem pow24 (t : Nat) : (2 : Nat) ^ (t * 2) = 4 ^ t := by rw [Nat.mul_comm, Nat.pow_mul]
theorem or_step (h : Nat → Nat) (hh : ∀ i, h i ≤ 2) (k : Nat) : bits .or .u8 ((byteN h k (k / 4) : Nat) : Int) ((h k * 4 ^ (k % 4) : Nat) : Int) = ((byteN h k (k / 4) + h k * 4 ^ (k % 4) : Nat) : Int) := by
  have lo := byteN_low h hh k
  have hl : k % 4 < 4 := Nat.mod_lt _ (by decide)
  have p : (4 : Nat) ^ (k % 4) ≤ 64 := by
    have : (4 : Nat) ^ (k % 4) ≤ 4 ^ 3 := Nat.pow_le_pow_right (by decide) (by omega)
    exact this
  have m : h k * 4 ^ (k % 4) ≤ 2 * 64 := Nat.mul_le_mul (hh k) p
  rw [u8_or_nat _ _ (byteN_lt h hh _ _) (by omega), Nat.or_comm, nat_join (k % 4 * 2) _ _ (by rw [pow24]; exact Nat.mul_mod_left _ _) (by rw [pow24]; exact lo), Nat.add_comm]
theorem shl_step (h : Nat → Nat) (hh : ∀ i, h i ≤ 2) (k : Nat) : IntKind.u8.wrap (((h k : Nat) : Int) * 2 ^ (k % 4 * 2)) = ((h k * 4 ^ (k % 4) : Nat) : Int) := by
  have hl : k % 4 < 4 := Nat.mod_lt _ (by decide)
  have p : (4 : Nat) ^ (k % 4) ≤ 64 := by
    have : (4 : Nat) ^ (k % 4) ≤ 4 ^ 3 := Nat.pow_le_pow_right (by decide) (by omega)
    exact this
  have m : h k * 4 ^ (k % 4) ≤ 2 * 64 := Nat.mul_le_mul (hh k) p
  have e : ((2 : Int) ^ (k % 4 * 2)) = ((4 ^ (k % 4) : Nat) : Int) := by rw [← pow24]; simp
  rw [e, ← Int.natCast_mul, IntKind.wrap_u8']
  omega
end Go.Proofs.YtkncnpjhfcfmnaaDoor
