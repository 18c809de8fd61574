/-
  Plain facts on numbers, not a claim by itself: a record's bytes lead back to the record, and 128 bytes to themselves. By the verifier.
-/
import Derived.Test.YtlcnhmlcmedonaaOfParts
namespace Go.Proofs.Ytlcnhmlcmedonaa
open Go.RowKit
theorem lay_lt (f : Nat → Int) (off n : Nat) (g : Nat → Int) (j : Nat) (h : j < off) : lay f off n g j = f j := if_pos h
theorem lay_in (f : Nat → Int) (off n : Nat) (g : Nat → Int) (j : Nat) (h1 : off ≤ j) (h2 : j < off + n) : lay f off n g j = g (j - off) := by
  unfold lay
  rw [if_neg (by omega), if_pos h2]
theorem ps_congr (f g : Nat → Int) : ∀ n : Nat, (∀ j, j < n → f j = g j) → ps f n = ps g n := by
  intro n
  induction n with
  | zero => intro _; rfl
  | succ n ih => intro h; rw [ps_succ, ps_succ, ih (fun j hj => h j (by omega)), h n (by omega)]
theorem ps_byt (x : Int) : ∀ n : Nat, ps (byt x) n = x % 256 ^ n := by
  intro n
  induction n with
  | zero => simp [ps]
  | succ n ih =>
    rw [ps_succ, ih]
    unfold byt up8
    have hp : (0 : Int) < 256 ^ n := Int.pow_pos (by decide)
    rw [Int.pow_succ]
    generalize (256 : Int) ^ n = p at *
    have e1 := Int.mul_ediv_add_emod x p
    have e2 := Int.mul_ediv_add_emod (x / p) 256
    have b1 := Int.emod_nonneg x (by omega : p ≠ 0)
    have b2 := Int.emod_lt_of_pos x hp
    have b3 := Int.emod_nonneg (x / p) (by decide : (256 : Int) ≠ 0)
    have b4 := Int.emod_lt_of_pos (x / p) (by decide : (0 : Int) < 256)
    clear ih
    generalize x % p = r at *
    generalize x / p % 256 = s at *
    generalize x / p / 256 = t at *
    generalize x / p = q at *
    have e3 : x = p * 256 * t + (r + s * p) := by
      rw [← e1, ← e2, Int.mul_add, ← Int.mul_assoc, Int.mul_comm s p]
      omega
    have m0 : 0 ≤ s * p := Int.mul_nonneg b3 (by omega)
    have m1 : s * p ≤ 255 * p := Int.mul_le_mul_of_nonneg_right (by omega) (by omega)
    rw [e3, Int.mul_add_emod_self_left, Int.emod_eq_of_lt (by omega) (by omega)]
theorem le8_ps (f : Nat → Int) : le8 f = ps f 8 := by
  have e : ps f 8 = f 0 * 256 ^ 0 + f 1 * 256 ^ 1 + f 2 * 256 ^ 2 + f 3 * 256 ^ 3 + f 4 * 256 ^ 4 + f 5 * 256 ^ 5 + f 6 * 256 ^ 6 + f 7 * 256 ^ 7 := by
    simp only [ps, Int.zero_add]
  rw [e]
  unfold le8
  simp only [show (256 : Int) ^ 0 = 1 from by decide, show (256 : Int) ^ 1 = 256 from by decide, show (256 : Int) ^ 2 = 65536 from by decide, show (256 : Int) ^ 3 = 16777216 from by decide, show (256 : Int) ^ 4 = 4294967296 from by decide, show (256 : Int) ^ 5 = 1099511627776 from by decide, show (256 : Int) ^ 6 = 281474976710656 from by decide, show (256 : Int) ^ 7 = 72057594037927936 from by decide]
  omega
theorem ps_back (f : Nat → Int) (x : Int) (n : Nat) (m : Int) (hm : m = 256 ^ n) (h : ∀ j, j < n → f j = byt x j) (h0 : 0 ≤ x) (h1 : x < m) : ps f n = x := by
  subst hm
  rw [ps_congr f (byt x) n h, ps_byt, Int.emod_eq_of_lt h0 h1]
theorem hi_back (f : Nat → Int) (x y : Int) (h : ∀ j, j < 16 → f j = wide x y j) (hx : Word x) : hi16 f = x := by
  unfold hi16
  rw [le8_ps]
  refine ps_back _ x 8 18446744073709551616 (by decide) (fun j hj => ?_) hx.1 hx.2
  show f (8 + j) = byt x j
  rw [h (8 + j) (by omega)]
  unfold wide
  rw [if_neg (by omega), show 8 + j - 8 = j by omega]
theorem lo_back (f : Nat → Int) (x y : Int) (h : ∀ j, j < 16 → f j = wide x y j) (hy : Word y) : lo16 f = y := by
  unfold lo16
  rw [le8_ps]
  refine ps_back _ y 8 18446744073709551616 (by decide) (fun j hj => ?_) hy.1 hy.2
  rw [h j (by omega)]
  unfold wide
  rw [if_pos hj]
/-- A byte of a number of bytes. -/
theorem byt_ps (f : Nat → Int) : ∀ n : Nat, (∀ j, j < n → 0 ≤ f j ∧ f j < 256) → ∀ i, i < n → byt (ps f n) i = f i := by
  intro n
  induction n with
  | zero => intro _ i hi; omega
  | succ n ih =>
    intro hf i hi
    obtain ⟨b0, b1⟩ := ps_bound f n (fun j hj => hf j (by omega))
    obtain ⟨f0, f1⟩ := hf n (by omega)
    rw [ps_succ]
    by_cases e : i = n
    · subst e
      unfold byt up8
      rw [Int.add_mul_ediv_right _ _ (by have : (0 : Int) < 256 ^ i := Int.pow_pos (by decide); omega), Int.ediv_eq_zero_of_lt b0 b1, Int.zero_add, Int.emod_eq_of_lt f0 f1]
    · rw [← ih (fun j hj => hf j (by omega)) i (by omega)]
      unfold byt up8
      obtain ⟨d, hd⟩ : ∃ d, n = i + (d + 1) := ⟨n - i - 1, by omega⟩
      have hp : (0 : Int) < 256 ^ i := Int.pow_pos (by decide)
      rw [hd, Int.pow_add, Int.pow_succ, show f (i + (d + 1)) * (256 ^ i * (256 ^ d * 256)) = (f (i + (d + 1)) * 256 ^ d * 256) * 256 ^ i by
        rw [Int.mul_comm (256 ^ i) _, ← Int.mul_assoc, ← Int.mul_assoc], Int.add_mul_ediv_right _ _ (by omega), Int.add_mul_emod_self_right]
theorem wide_back (f : Nat → Int) (hf : ∀ j, j < 16 → 0 ≤ f j ∧ f j < 256) (j : Nat) (hj : j < 16) : wide (hi16 f) (lo16 f) j = f j := by
  unfold wide hi16 lo16
  rw [le8_ps, le8_ps]
  by_cases h : j < 8
  · rw [if_pos h, byt_ps f 8 (fun i hi => hf i (by omega)) j h]
  · rw [if_neg h, byt_ps (fun j => f (8 + j)) 8 (fun i hi => hf (8 + i) (by omega)) (j - 8) (by omega)]
    show f (8 + (j - 8)) = f j
    rw [show 8 + (j - 8) = j by omega]
theorem img_0 (a : Fld) (j : Nat) (hj : j < 16) : a.img (0 + j) = wide a.h0 a.l0 j := by
  unfold Fld.img
  rw [lay_lt _ _ _ _ _ (by omega), lay_lt _ _ _ _ _ (by omega), lay_lt _ _ _ _ _ (by omega), lay_lt _ _ _ _ _ (by omega), lay_lt _ _ _ _ _ (by omega), lay_lt _ _ _ _ _ (by omega), lay_lt _ _ _ _ _ (by omega), lay_lt _ _ _ _ _ (by omega), lay_lt _ _ _ _ _ (by omega), lay_lt _ _ _ _ _ (by omega), lay_lt _ _ _ _ _ (by omega), lay_lt _ _ _ _ _ (by omega), lay_in _ _ _ _ _ (by omega) (by omega), show 0 + j - 0 = j by omega]
theorem img_1 (a : Fld) (j : Nat) (hj : j < 16) : a.img (16 + j) = wide a.h1 a.l1 j := by
  unfold Fld.img
  rw [lay_lt _ _ _ _ _ (by omega), lay_lt _ _ _ _ _ (by omega), lay_lt _ _ _ _ _ (by omega), lay_lt _ _ _ _ _ (by omega), lay_lt _ _ _ _ _ (by omega), lay_lt _ _ _ _ _ (by omega), lay_lt _ _ _ _ _ (by omega), lay_lt _ _ _ _ _ (by omega), lay_lt _ _ _ _ _ (by omega), lay_lt _ _ _ _ _ (by omega), lay_lt _ _ _ _ _ (by omega), lay_in _ _ _ _ _ (by omega) (by omega), show 16 + j - 16 = j by omega]
theorem img_2 (a : Fld) (j : Nat) (hj : j < 16) : a.img (32 + j) = wide a.h2 a.l2 j := by
  unfold Fld.img
  rw [lay_lt _ _ _ _ _ (by omega), lay_lt _ _ _ _ _ (by omega), lay_lt _ _ _ _ _ (by omega), lay_lt _ _ _ _ _ (by omega), lay_lt _ _ _ _ _ (by omega), lay_lt _ _ _ _ _ (by omega), lay_lt _ _ _ _ _ (by omega), lay_lt _ _ _ _ _ (by omega), lay_lt _ _ _ _ _ (by omega), lay_lt _ _ _ _ _ (by omega), lay_in _ _ _ _ _ (by omega) (by omega), show 32 + j - 32 = j by omega]
theorem img_3 (a : Fld) (j : Nat) (hj : j < 16) : a.img (48 + j) = wide a.h3 a.l3 j := by
  unfold Fld.img
  rw [lay_lt _ _ _ _ _ (by omega), lay_lt _ _ _ _ _ (by omega), lay_lt _ _ _ _ _ (by omega), lay_lt _ _ _ _ _ (by omega), lay_lt _ _ _ _ _ (by omega), lay_lt _ _ _ _ _ (by omega), lay_lt _ _ _ _ _ (by omega), lay_lt _ _ _ _ _ (by omega), lay_lt _ _ _ _ _ (by omega), lay_in _ _ _ _ _ (by omega) (by omega), show 48 + j - 48 = j by omega]
theorem img_4 (a : Fld) (j : Nat) (hj : j < 16) : a.img (64 + j) = wide a.h4 a.l4 j := by
  unfold Fld.img
  rw [lay_lt _ _ _ _ _ (by omega), lay_lt _ _ _ _ _ (by omega), lay_lt _ _ _ _ _ (by omega), lay_lt _ _ _ _ _ (by omega), lay_lt _ _ _ _ _ (by omega), lay_lt _ _ _ _ _ (by omega), lay_lt _ _ _ _ _ (by omega), lay_lt _ _ _ _ _ (by omega), lay_in _ _ _ _ _ (by omega) (by omega), show 64 + j - 64 = j by omega]
theorem img_5 (a : Fld) (j : Nat) (hj : j < 16) : a.img (80 + j) = wide a.h5 a.l5 j := by
  unfold Fld.img
  rw [lay_lt _ _ _ _ _ (by omega), lay_lt _ _ _ _ _ (by omega), lay_lt _ _ _ _ _ (by omega), lay_lt _ _ _ _ _ (by omega), lay_lt _ _ _ _ _ (by omega), lay_lt _ _ _ _ _ (by omega), lay_lt _ _ _ _ _ (by omega), lay_in _ _ _ _ _ (by omega) (by omega), show 80 + j - 80 = j by omega]
theorem img_6 (a : Fld) (j : Nat) (hj : j < 8) : a.img (96 + j) = byt a.p j := by
  unfold Fld.img
  rw [lay_lt _ _ _ _ _ (by omega), lay_lt _ _ _ _ _ (by omega), lay_lt _ _ _ _ _ (by omega), lay_lt _ _ _ _ _ (by omega), lay_lt _ _ _ _ _ (by omega), lay_lt _ _ _ _ _ (by omega), lay_in _ _ _ _ _ (by omega) (by omega), show 96 + j - 96 = j by omega]
theorem img_7 (a : Fld) (j : Nat) (hj : j < 4) : a.img (104 + j) = byt a.q j := by
  unfold Fld.img
  rw [lay_lt _ _ _ _ _ (by omega), lay_lt _ _ _ _ _ (by omega), lay_lt _ _ _ _ _ (by omega), lay_lt _ _ _ _ _ (by omega), lay_lt _ _ _ _ _ (by omega), lay_in _ _ _ _ _ (by omega) (by omega), show 104 + j - 104 = j by omega]
theorem img_8 (a : Fld) (j : Nat) (hj : j < 4) : a.img (108 + j) = byt a.r j := by
  unfold Fld.img
  rw [lay_lt _ _ _ _ _ (by omega), lay_lt _ _ _ _ _ (by omega), lay_lt _ _ _ _ _ (by omega), lay_lt _ _ _ _ _ (by omega), lay_in _ _ _ _ _ (by omega) (by omega), show 108 + j - 108 = j by omega]
theorem img_9 (a : Fld) (j : Nat) (hj : j < 4) : a.img (112 + j) = byt a.s j := by
  unfold Fld.img
  rw [lay_lt _ _ _ _ _ (by omega), lay_lt _ _ _ _ _ (by omega), lay_lt _ _ _ _ _ (by omega), lay_in _ _ _ _ _ (by omega) (by omega), show 112 + j - 112 = j by omega]
theorem img_10 (a : Fld) (j : Nat) (hj : j < 2) : a.img (116 + j) = byt a.t j := by
  unfold Fld.img
  rw [lay_lt _ _ _ _ _ (by omega), lay_lt _ _ _ _ _ (by omega), lay_in _ _ _ _ _ (by omega) (by omega), show 116 + j - 116 = j by omega]
theorem img_11 (a : Fld) (j : Nat) (hj : j < 2) : a.img (118 + j) = byt a.u j := by
  unfold Fld.img
  rw [lay_lt _ _ _ _ _ (by omega), lay_in _ _ _ _ _ (by omega) (by omega), show 118 + j - 118 = j by omega]
theorem img_12 (a : Fld) (j : Nat) (hj : j < 8) : a.img (120 + j) = byt a.v j := by
  unfold Fld.img
  rw [lay_in _ _ _ _ _ (by omega) (by omega), show 120 + j - 120 = j by omega]
theorem recOf_img (a : Fld) (ha : a.wf) : recOf a.img = a := by
  obtain ⟨k0, k1, k2, k3, k4, k5, k6, k7, k8, k9, k10, k11, k12, k13, k14, k15, k16, k17, k18⟩ := ha
  unfold recOf
  rw [hi_back (fun j => a.img (0 + j)) a.h0 a.l0 (fun j hj => img_0 a j hj) k0, lo_back (fun j => a.img (0 + j)) a.h0 a.l0 (fun j hj => img_0 a j hj) k1, hi_back (fun j => a.img (16 + j)) a.h1 a.l1 (fun j hj => img_1 a j hj) k2, lo_back (fun j => a.img (16 + j)) a.h1 a.l1 (fun j hj => img_1 a j hj) k3, hi_back (fun j => a.img (32 + j)) a.h2 a.l2 (fun j hj => img_2 a j hj) k4, lo_back (fun j => a.img (32 + j)) a.h2 a.l2 (fun j hj => img_2 a j hj) k5, hi_back (fun j => a.img (48 + j)) a.h3 a.l3 (fun j hj => img_3 a j hj) k6, lo_back (fun j => a.img (48 + j)) a.h3 a.l3 (fun j hj => img_3 a j hj) k7, hi_back (fun j => a.img (64 + j)) a.h4 a.l4 (fun j hj => img_4 a j hj) k8, lo_back (fun j => a.img (64 + j)) a.h4 a.l4 (fun j hj => img_4 a j hj) k9, hi_back (fun j => a.img (80 + j)) a.h5 a.l5 (fun j hj => img_5 a j hj) k10, lo_back (fun j => a.img (80 + j)) a.h5 a.l5 (fun j hj => img_5 a j hj) k11, ps_back (fun j => a.img (96 + j)) a.p 8 18446744073709551616 (by decide) (fun j hj => img_6 a j hj) k12.1 k12.2, ps_back (fun j => a.img (104 + j)) a.q 4 4294967296 (by decide) (fun j hj => img_7 a j hj) k13.1 k13.2, ps_back (fun j => a.img (108 + j)) a.r 4 4294967296 (by decide) (fun j hj => img_8 a j hj) k14.1 k14.2, ps_back (fun j => a.img (112 + j)) a.s 4 4294967296 (by decide) (fun j hj => img_9 a j hj) k15.1 k15.2, ps_back (fun j => a.img (116 + j)) a.t 2 65536 (by decide) (fun j hj => img_10 a j hj) k16.1 k16.2, ps_back (fun j => a.img (118 + j)) a.u 2 65536 (by decide) (fun j hj => img_11 a j hj) k17.1 k17.2, ps_back (fun j => a.img (120 + j)) a.v 8 18446744073709551616 (by decide) (fun j hj => img_12 a j hj) k18.1 k18.2]
theorem img_recOf (f : Nat → Int) (hf : ∀ j, j < 128 → 0 ≤ f j ∧ f j < 256) (j : Nat) (hj : j < 128) : (recOf f).img j = f j := by
  by_cases c0 : j < 16
  · obtain ⟨i, rfl⟩ : ∃ i, j = 0 + i := ⟨j - 0, by omega⟩
    rw [img_0 _ i (by omega)]
    exact wide_back (fun j => f (0 + j)) (fun j hj => hf (0 + j) (by omega)) i (by omega)
  by_cases c1 : j < 32
  · obtain ⟨i, rfl⟩ : ∃ i, j = 16 + i := ⟨j - 16, by omega⟩
    rw [img_1 _ i (by omega)]
    exact wide_back (fun j => f (16 + j)) (fun j hj => hf (16 + j) (by omega)) i (by omega)
  by_cases c2 : j < 48
  · obtain ⟨i, rfl⟩ : ∃ i, j = 32 + i := ⟨j - 32, by omega⟩
    rw [img_2 _ i (by omega)]
    exact wide_back (fun j => f (32 + j)) (fun j hj => hf (32 + j) (by omega)) i (by omega)
  by_cases c3 : j < 64
  · obtain ⟨i, rfl⟩ : ∃ i, j = 48 + i := ⟨j - 48, by omega⟩
    rw [img_3 _ i (by omega)]
    exact wide_back (fun j => f (48 + j)) (fun j hj => hf (48 + j) (by omega)) i (by omega)
  by_cases c4 : j < 80
  · obtain ⟨i, rfl⟩ : ∃ i, j = 64 + i := ⟨j - 64, by omega⟩
    rw [img_4 _ i (by omega)]
    exact wide_back (fun j => f (64 + j)) (fun j hj => hf (64 + j) (by omega)) i (by omega)
  by_cases c5 : j < 96
  · obtain ⟨i, rfl⟩ : ∃ i, j = 80 + i := ⟨j - 80, by omega⟩
    rw [img_5 _ i (by omega)]
    exact wide_back (fun j => f (80 + j)) (fun j hj => hf (80 + j) (by omega)) i (by omega)
  by_cases c6 : j < 104
  · obtain ⟨i, rfl⟩ : ∃ i, j = 96 + i := ⟨j - 96, by omega⟩
    rw [img_6 _ i (by omega)]
    exact byt_ps (fun j => f (96 + j)) 8 (fun j hj => hf (96 + j) (by omega)) i (by omega)
  by_cases c7 : j < 108
  · obtain ⟨i, rfl⟩ : ∃ i, j = 104 + i := ⟨j - 104, by omega⟩
    rw [img_7 _ i (by omega)]
    exact byt_ps (fun j => f (104 + j)) 4 (fun j hj => hf (104 + j) (by omega)) i (by omega)
  by_cases c8 : j < 112
  · obtain ⟨i, rfl⟩ : ∃ i, j = 108 + i := ⟨j - 108, by omega⟩
    rw [img_8 _ i (by omega)]
    exact byt_ps (fun j => f (108 + j)) 4 (fun j hj => hf (108 + j) (by omega)) i (by omega)
  by_cases c9 : j < 116
  · obtain ⟨i, rfl⟩ : ∃ i, j = 112 + i := ⟨j - 112, by omega⟩
    rw [img_9 _ i (by omega)]
    exact byt_ps (fun j => f (112 + j)) 4 (fun j hj => hf (112 + j) (by omega)) i (by omega)
  by_cases c10 : j < 118
  · obtain ⟨i, rfl⟩ : ∃ i, j = 116 + i := ⟨j - 116, by omega⟩
    rw [img_10 _ i (by omega)]
    exact byt_ps (fun j => f (116 + j)) 2 (fun j hj => hf (116 + j) (by omega)) i (by omega)
  by_cases c11 : j < 120
  · obtain ⟨i, rfl⟩ : ∃ i, j = 118 + i := ⟨j - 118, by omega⟩
    rw [img_11 _ i (by omega)]
    exact byt_ps (fun j => f (118 + j)) 2 (fun j hj => hf (118 + j) (by omega)) i (by omega)
  by_cases c12 : j < 128
  · obtain ⟨i, rfl⟩ : ∃ i, j = 120 + i := ⟨j - 120, by omega⟩
    rw [img_12 _ i (by omega)]
    exact byt_ps (fun j => f (120 + j)) 8 (fun j hj => hf (120 + j) (by omega)) i (by omega)
  omega
end Go.Proofs.Ytlcnhmlcmedonaa
