/-
  Plain facts on numbers, not a claim by itself: or of parted bits is a sum; masks. By the verifier.
-/
import Derived.Laws.Bits64b
namespace Go.Proofs.YtblphlcnbnklmaaGreatDoor

theorem or_sum_nat (a b k : Nat) (hb : b < 2 ^ k) : (a * 2 ^ k) ||| b = a * 2 ^ k + b := by
  have h := Nat.shiftLeft_add_eq_or_of_lt hb a
  rw [Nat.shiftLeft_eq] at h
  exact h.symm
/-- high | low, the low one below the high one's last place: their sum. -/
theorem or_hi (a b : Int) (m : Int) (k : Nat) (hm : m = 2 ^ k) (h0 : 0 ≤ a) (h1 : 0 ≤ b) (h2 : b < m) (h3 : a * m + b < 18446744073709551616) :
    bits .or .u64 (a * m) b = a * m + b := by
  subst hm
  obtain ⟨a, rfl⟩ := Int.eq_ofNat_of_zero_le h0
  obtain ⟨b, rfl⟩ := Int.eq_ofNat_of_zero_le h1
  have e : ((2 : Int) ^ k) = ((2 ^ k : Nat) : Int) := by simp
  rw [e] at h2 h3 ⊢
  have hb : b < 2 ^ k := by omega
  rw [show (a : Int) * ((2 ^ k : Nat) : Int) = ((a * 2 ^ k : Nat) : Int) from by simp] at h3 ⊢
  rw [bits_or_u64_nat _ _ (by omega) (by omega), or_sum_nat a b k hb]
  simp
/-- low | high. -/
theorem or_lo (a b : Int) (m : Int) (k : Nat) (hm : m = 2 ^ k) (h0 : 0 ≤ a) (h1 : 0 ≤ b) (h2 : b < m) (h3 : a * m + b < 18446744073709551616) :
    bits .or .u64 b (a * m) = b + a * m := by
  subst hm
  obtain ⟨a, rfl⟩ := Int.eq_ofNat_of_zero_le h0
  obtain ⟨b, rfl⟩ := Int.eq_ofNat_of_zero_le h1
  have e : ((2 : Int) ^ k) = ((2 ^ k : Nat) : Int) := by simp
  rw [e] at h2 h3 ⊢
  have hb : b < 2 ^ k := by omega
  rw [show (a : Int) * ((2 ^ k : Nat) : Int) = ((a * 2 ^ k : Nat) : Int) from by simp] at h3 ⊢
  rw [bits_or_u64_nat _ _ (by omega) (by omega), Nat.or_comm, or_sum_nat a b k hb]
  simp; omega
theorem and_mask32 (a : Int) (h0 : 0 ≤ a) (h : a < 18446744073709551616) : bits .and .u64 a 4294967295 = a % 4294967296 := by
  obtain ⟨a, rfl⟩ := Int.eq_ofNat_of_zero_le h0
  have h := bits_and_u64_nat a 4294967295 (by omega) (by omega)
  have e : a &&& 4294967295 = a % 4294967296 := Nat.and_two_pow_sub_one_eq_mod a 32
  rw [e] at h
  exact h
theorem wrap_u64_eq (a b : Int) (h : b = a % 18446744073709551616) : IntKind.u64.wrap a = b := by rw [IntKind.wrap_u64, h]

/-! The digits of a number. -/
def txtF : Nat → Nat → List Int
  | 0, _ => []
  | f + 1, n => if n < 10 then [48 + (n : Int)] else txtF f (n / 10) ++ [48 + ((n % 10 : Nat) : Int)]
def txt (n : Nat) : List Int := txtF (n + 1) n
theorem txtF_same : ∀ (f g n : Nat), n < f → n < g → txtF f n = txtF g n := by
  intro f
  induction f with
  | zero => intro g n h; omega
  | succ f ih =>
    intro g n hf hg
    match g, hg with
    | g + 1, hg =>
      unfold txtF
      by_cases h : n < 10
      · rw [if_pos h, if_pos h]
      · rw [if_neg h, if_neg h, ih g (n / 10) (by omega) (by omega)]
theorem txt_small (n : Nat) (h : n < 10) : txt n = [48 + (n : Int)] := by
  unfold txt txtF; rw [if_pos h]
theorem txt_great (n : Nat) (h : 10 ≤ n) : txt n = txt (n / 10) ++ [48 + ((n % 10 : Nat) : Int)] := by
  show txtF (n + 1) n = txtF (n / 10 + 1) (n / 10) ++ _
  rw [txtF, if_neg (by omega), txtF_same n (n / 10 + 1) (n / 10) (by omega) (by omega)]
/-- The digits of m ahead of those that were cut already. -/
def pre (m : Nat) (acc : List Int) : List Int := if m = 0 then acc else txt m ++ acc
theorem pre_start (n : Nat) : txt n = pre (n / 10) [48 + ((n % 10 : Nat) : Int)] := by
  unfold pre
  by_cases h : n < 10
  · rw [if_pos (by omega), txt_small n h, Nat.mod_eq_of_lt h]
  · rw [if_neg (by omega), txt_great n (by omega)]
theorem pre_step (m : Nat) (acc : List Int) (h : m ≠ 0) : pre m acc = pre (m / 10) ((48 + ((m % 10 : Nat) : Int)) :: acc) := by
  unfold pre
  rw [if_neg h]
  by_cases g : m < 10
  · rw [if_pos (by omega), txt_small m g, Nat.mod_eq_of_lt g]; rfl
  · rw [if_neg (by omega), txt_great m (by omega), List.append_assoc]; rfl
theorem drop_set (D : List Int) (k : Nat) (d : Int) (h : k < D.length) : (D.set k d).drop k = d :: D.drop (k + 1) := by
  rw [List.drop_set, if_neg (by omega), Nat.sub_self, List.drop_eq_getElem_cons h]; rfl
theorem getD_set (D : List Int) (k j : Nat) (d : Int) (h : k < D.length) : (D.set k d).getD j 0 = if k = j then d else D.getD j 0 := by
  rw [List.getD_eq_getElem?_getD, List.getElem?_set]
  by_cases e : k = j
  · subst e; simp [h]
  · simp [e, List.getD_eq_getElem?_getD]
end Go.Proofs.YtblphlcnbnklmaaGreatDoor
