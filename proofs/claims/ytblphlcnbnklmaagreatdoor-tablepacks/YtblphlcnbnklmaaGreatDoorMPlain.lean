/-
  Plain notions and laws, not a claim by itself: bytes of numbers, the lowest first. By the verifier.
-/
import Derived.Test.YtblphlcnbnklmaaGreatDoorBArg
import Derived.Test.YtblphlcnbnklmaaGreatDoorPlain
namespace Go.Proofs.YtblphlcnbnklmaaGreatDoor
open Go.RowKit
/-- A number without its lowest bytes. -/
def up8 (x : Int) (i : Nat) : Int := x / 256 ^ i
/-- The bytes of a number, the lowest first. -/
def byt (x : Int) (i : Nat) : Int := up8 x i % 256
theorem byt_byte (x : Int) (i : Nat) : 0 ≤ byt x i ∧ byt x i < 256 := by unfold byt; omega
theorem wrap_8 (k : Nat) (h : k < 8) : IntKind.i64.wrap (8 * (k : Int)) = 8 * (k : Int) := by rw [IntKind.wrap_i64]; omega
theorem byt_eq (x : Int) (k : Nat) : x / 2 ^ (8 * k) % 256 = byt x k := by
  unfold byt up8
  rw [Int.pow_mul]
  rfl
/-- The number of the first n bytes, the lowest first. -/
def ps (f : Nat → Int) : Nat → Int
  | 0 => 0
  | n + 1 => ps f n + f n * 256 ^ n
theorem ps_succ (f : Nat → Int) (n : Nat) : ps f (n + 1) = ps f n + f n * 256 ^ n := rfl
theorem ps_congr (f g : Nat → Int) : ∀ n : Nat, (∀ j, j < n → f j = g j) → ps f n = ps g n
  | 0, _ => rfl
  | n + 1, h => by rw [ps_succ, ps_succ, ps_congr f g n (fun j hj => h j (by omega)), h n (by omega)]
theorem ps_bound (f : Nat → Int) : ∀ n : Nat, (∀ j, j < n → 0 ≤ f j ∧ f j < 256) → 0 ≤ ps f n ∧ ps f n < 256 ^ n := by
  intro n
  induction n with
  | zero => intro _; exact ⟨Int.le_refl 0, by simp [ps]⟩
  | succ n ih =>
    intro hf
    obtain ⟨i0, i1⟩ := ih (fun j hj => hf j (by omega))
    obtain ⟨h0, h1⟩ := hf n (by omega)
    have hp : (0 : Int) < 256 ^ n := Int.pow_pos (by decide)
    rw [Int.pow_succ, ps_succ]
    generalize (256 : Int) ^ n = p at *
    have m0 : 0 ≤ f n * p := Int.mul_nonneg h0 (Int.le_of_lt hp)
    have m1 : f n * p ≤ 255 * p := Int.mul_le_mul_of_nonneg_right (by omega) (Int.le_of_lt hp)
    exact ⟨by omega, by omega⟩
theorem ps_8 (f : Nat → Int) (n : Nat) (hn : n ≤ 8) (hf : ∀ j, j < n → 0 ≤ f j ∧ f j < 256) : 0 ≤ ps f n ∧ ps f n < 18446744073709551616 := by
  obtain ⟨a, b⟩ := ps_bound f n hf
  refine ⟨a, Int.lt_of_lt_of_le b ?_⟩
  match n, hn with
  | 0, _ | 1, _ | 2, _ | 3, _ | 4, _ | 5, _ | 6, _ | 7, _ | 8, _ => decide
  | n + 9, h => omega
theorem shl_k (f : Nat → Int) (k : Nat) (hk : k < 8) (hf : ∀ j, j < k + 1 → 0 ≤ f j ∧ f j < 256) : IntKind.u64.wrap (f k * 2 ^ (8 * k)) = f k * 256 ^ k := by
  rw [Int.pow_mul, IntKind.wrap_u64]
  show f k * 256 ^ k % 18446744073709551616 = _
  rw [Int.emod_eq_of_lt]
  · exact Int.mul_nonneg (hf k (by omega)).1 (Int.le_of_lt (Int.pow_pos (by decide)))
  · have h1 := (ps_8 f (k + 1) (by omega) hf).2
    have h2 := (ps_8 f k (by omega) (fun j hj => hf j (by omega))).1
    rw [ps_succ] at h1
    omega
theorem or_k (f : Nat → Int) (k : Nat) (hk : k < 8) (hf : ∀ j, j < k + 1 → 0 ≤ f j ∧ f j < 256) : bits .or .u64 (ps f k) (f k * 256 ^ k) = ps f (k + 1) := by
  have h1 := (ps_8 f (k + 1) (by omega) hf).2
  obtain ⟨h2, h3⟩ := ps_bound f k (fun j hj => hf j (by omega))
  have e := hf k (by omega)
  rw [ps_succ] at h1 ⊢
  exact or_lo (f k) (ps f k) (256 ^ k) (8 * k) (by rw [Int.pow_mul]; rfl) e.1 h2 h3 (by omega)
/-- A number is that of its bytes. -/
theorem ps_byt (x : Int) (hx : 0 ≤ x) : ∀ n : Nat, ps (byt x) n = x % 256 ^ n
  | 0 => by simp [ps, Int.emod_one]
  | n + 1 => by
    rw [ps_succ, ps_byt x hx n]
    unfold byt up8
    have hp : (0 : Int) < 256 ^ n := Int.pow_pos (by decide)
    rw [Int.pow_succ]
    generalize (256 : Int) ^ n = p at *
    have a := Int.emod_add_mul_ediv x p
    have b := Int.emod_add_mul_ediv (x / p) 256
    have c := Int.emod_add_mul_ediv x (p * 256)
    rw [← Int.ediv_ediv_of_nonneg (Int.le_of_lt hp)] at c
    have d : p * (x / p) = p * (x / p % 256) + p * 256 * (x / p / 256) := by
      rw [Int.mul_assoc, ← Int.mul_add, b]
    rw [Int.mul_comm (x / p % 256) p]
    omega
theorem ps_byt_eq (x : Int) (n : Nat) (h0 : 0 ≤ x) (h1 : x < 256 ^ n) : ps (byt x) n = x := by
  rw [ps_byt x h0 n, Int.emod_eq_of_lt h0 h1]
/-- Bytes are those of their number. -/
theorem byt_ps (f : Nat → Int) : ∀ (n j : Nat), (∀ j, j < n → 0 ≤ f j ∧ f j < 256) → j < n → byt (ps f n) j = f j := by
  intro n
  induction n with
  | zero => intro j _ h; omega
  | succ n ih =>
    intro j hf hj
    obtain ⟨i0, i1⟩ := ps_bound f n (fun j hj => hf j (by omega))
    have hfn := hf n (by omega)
    rw [ps_succ]
    by_cases e : j = n
    · subst e
      unfold byt up8
      have hp : (0 : Int) < 256 ^ j := Int.pow_pos (by decide)
      rw [Int.add_mul_ediv_right _ _ (by omega), Int.ediv_eq_zero_of_lt i0 i1, Int.zero_add, Int.emod_eq_of_lt hfn.1 hfn.2]
    · rw [← ih j (fun j hj => hf j (by omega)) (by omega)]
      unfold byt up8
      obtain ⟨d, rfl⟩ : ∃ d, n = j + (d + 1) := ⟨n - j - 1, by omega⟩
      have hp : (0 : Int) < 256 ^ j := Int.pow_pos (by decide)
      rw [Int.pow_add, Int.pow_succ, show f (j + (d + 1)) * (256 ^ j * (256 ^ d * 256)) = (f (j + (d + 1)) * 256 ^ d * 256) * 256 ^ j from by
        rw [Int.mul_comm (256 ^ j) _, ← Int.mul_assoc, ← Int.mul_assoc], Int.add_mul_ediv_right _ _ (by omega), Int.add_mul_emod_self_right]
end Go.Proofs.YtblphlcnbnklmaaGreatDoor
