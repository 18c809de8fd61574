/-
  Plain facts, not a claim by itself: sums of bytes. By the verifier.
-/
import Derived.Test.YtkpkehbhgfbckaaReadsParts
namespace Go.Proofs.Ytkpkehbhgfbckaa
open Go.RowKit

/-- The number of the first n bytes, the lowest first. -/
def ps (f : Nat → Int) : Nat → Int
  | 0 => 0
  | n + 1 => ps f n + f n * 256 ^ n
theorem ps_succ (f : Nat → Int) (n : Nat) : ps f (n + 1) = ps f n + f n * 256 ^ n := rfl
theorem ps_bound (f : Nat → Int) : ∀ n : Nat, (∀ j, j < n → 0 ≤ f j ∧ f j < 256) → 0 ≤ ps f n ∧ ps f n < 256 ^ n := by
  intro n
  induction n with
  | zero => intro _; exact ⟨Int.le_refl 0, by simp [ps]⟩
  | succ n ih =>
    intro hf
    obtain ⟨i0, i1⟩ := ih (fun j hj => hf j (by omega))
    obtain ⟨h0, h1⟩ := hf n (by omega)
    have hp : (0 : Int) < 256 ^ n := Int.pow_pos (by decide)
    rw [Int.pow_succ, ps_succ]
    generalize (256 : Int) ^ n = p at *
    have m0 : 0 ≤ f n * p := Int.mul_nonneg h0 (Int.le_of_lt hp)
    have m1 : f n * p ≤ 255 * p := Int.mul_le_mul_of_nonneg_right (by omega) (Int.le_of_lt hp)
    exact ⟨by omega, by omega⟩
theorem ps_congr (f g : Nat → Int) : ∀ n : Nat, (∀ j, j < n → f j = g j) → ps f n = ps g n := by
  intro n
  induction n with
  | zero => intro _; rfl
  | succ n ih => intro h; rw [ps_succ, ps_succ, ih (fun j hj => h j (by omega)), h n (by omega)]
theorem ps_16 (f : Nat → Int) : ps f 16 = V (le8 fun j => f (8 + j)) (le8 f) := by
  have e : ps f 16 = f 0 * 256 ^ 0 + f 1 * 256 ^ 1 + f 2 * 256 ^ 2 + f 3 * 256 ^ 3 + f 4 * 256 ^ 4 + f 5 * 256 ^ 5 + f 6 * 256 ^ 6 + f 7 * 256 ^ 7 + f 8 * 256 ^ 8 + f 9 * 256 ^ 9 + f 10 * 256 ^ 10 + f 11 * 256 ^ 11 + f 12 * 256 ^ 12 + f 13 * 256 ^ 13 + f 14 * 256 ^ 14 + f 15 * 256 ^ 15 := by
    simp only [ps, Int.zero_add]
  rw [e]
  unfold V
  have eh : le8 (fun j => f (8 + j)) = f 8 + f 9 * 256 + f 10 * 65536 + f 11 * 16777216 + f 12 * 4294967296 + f 13 * 1099511627776 + f 14 * 281474976710656 + f 15 * 72057594037927936 := rfl
  rw [eh]
  unfold le8
  simp only [show (256 : Int) ^ 0 = 1 from by decide, show (256 : Int) ^ 1 = 256 from by decide, show (256 : Int) ^ 2 = 65536 from by decide, show (256 : Int) ^ 3 = 16777216 from by decide, show (256 : Int) ^ 4 = 4294967296 from by decide, show (256 : Int) ^ 5 = 1099511627776 from by decide, show (256 : Int) ^ 6 = 281474976710656 from by decide, show (256 : Int) ^ 7 = 72057594037927936 from by decide, show (256 : Int) ^ 8 = 18446744073709551616 from by decide, show (256 : Int) ^ 9 = 4722366482869645213696 from by decide, show (256 : Int) ^ 10 = 1208925819614629174706176 from by decide, show (256 : Int) ^ 11 = 309485009821345068724781056 from by decide, show (256 : Int) ^ 12 = 79228162514264337593543950336 from by decide, show (256 : Int) ^ 13 = 20282409603651670423947251286016 from by decide, show (256 : Int) ^ 14 = 5192296858534827628530496329220096 from by decide, show (256 : Int) ^ 15 = 1329227995784915872903807060280344576 from by decide]
  omega
/-- A number's bytes, as a function. -/
def bf (h l : Int) (j : Nat) : Int := (bytesL h l).getD j 0
theorem bf_byte (h l : Int) (h1 : Word h) (h2 : Word l) : ∀ j, j < 16 → 0 ≤ bf h l j ∧ bf h l j < 256 := bytes_byt h l h1 h2
theorem bf_16 (h l : Int) : ps (bf h l) 16 = V h l := by
  have e1 : le8 (fun j => bf h l (8 + j)) = h := le_hi h l
  have e2 : le8 (bf h l) = l := le_lo h l
  rw [ps_16, e1, e2]
/-- One more byte of a sum. -/
theorem add_step (a b z : Nat → Int) (c : Int) (k : Nat) (h : ps z k + c * 256 ^ k = ps a k + ps b k) :
    ps (fun j => if j = k then (a k + b k + c) % 256 else z j) (k + 1) + (a k + b k + c) / 256 * 256 ^ (k + 1) = ps a (k + 1) + ps b (k + 1) := by
  rw [ps_succ, ps_succ, ps_succ, ps_congr (fun j => if j = k then (a k + b k + c) % 256 else z j) z k (fun j hj => if_neg (by omega))]
  rw [if_pos rfl, Int.pow_succ]
  generalize (256 : Int) ^ k = p at *
  have e : (a k + b k + c) % 256 * p + (a k + b k + c) / 256 * (p * 256) = (a k + b k + c) * p := by
    rw [Int.mul_comm p 256, ← Int.mul_assoc, ← Int.add_mul]
    congr 1
    omega
  have e2 : (a k + b k + c) * p = a k * p + b k * p + c * p := by rw [Int.add_mul, Int.add_mul]
  omega
/-- One more byte of a difference. -/
theorem sub_step (a b z : Nat → Int) (c d m : Int) (k : Nat) (hm : m - d * 256 = a k - b k - c) (h : ps z k - c * 256 ^ k = ps a k - ps b k) :
    ps (fun j => if j = k then m else z j) (k + 1) - d * 256 ^ (k + 1) = ps a (k + 1) - ps b (k + 1) := by
  rw [ps_succ, ps_succ, ps_succ, ps_congr (fun j => if j = k then m else z j) z k (fun j hj => if_neg (by omega))]
  rw [if_pos rfl, Int.pow_succ]
  generalize (256 : Int) ^ k = p at *
  have e : m * p - d * (p * 256) = (m - d * 256) * p := by
    rw [Int.mul_comm p 256, ← Int.mul_assoc, ← Int.sub_mul]
  have e2 : (a k - b k - c) * p = a k * p - b k * p - c * p := by rw [Int.sub_mul, Int.sub_mul]
  rw [hm] at e
  omega
/-- Bytes that are the same from k + 1 on, and parted at k. -/
theorem ps_less (a b : Nat → Int) (k : Nat) (ha : ∀ j, j < k → 0 ≤ a j ∧ a j < 256) (hb : ∀ j, j < k → 0 ≤ b j ∧ b j < 256) (hlt : a k < b k) :
    ∀ n, k < n → (∀ j, k < j → j < n → a j = b j) → ps a n < ps b n := by
  intro n
  induction n with
  | zero => intro h; omega
  | succ n ih =>
    intro hk he
    by_cases g : k = n
    · subst g
      obtain ⟨a0, a1⟩ := ps_bound a k ha
      obtain ⟨b0, b1⟩ := ps_bound b k hb
      rw [ps_succ, ps_succ]
      generalize (256 : Int) ^ k = p at *
      have : (a k + 1) * p ≤ b k * p := Int.mul_le_mul_of_nonneg_right (by omega) (by omega)
      rw [Int.add_mul] at this
      omega
    · have := ih (by omega) (fun j h1 h2 => he j h1 (by omega))
      rw [ps_succ, ps_succ, he n (by omega) (by omega)]
      omega
end Go.Proofs.Ytkpkehbhgfbckaa
