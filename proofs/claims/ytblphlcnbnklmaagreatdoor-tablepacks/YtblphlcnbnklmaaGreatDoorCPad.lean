/-
  Plain facts, not a claim by itself: the bytes of a digest's blocks. By the verifier.
-/
import Derived.Test.YtblphlcnbnklmaaGreatDoorCBeh
namespace Go.Proofs.YtblphlcnbnklmaaGreatDoor
open Go.RowKit

/-- The words that a digest begins with. -/
def H0 : S8 := ⟨0x6a09e667, 0xbb67ae85, 0x3c6ef372, 0xa54ff53a, 0x510e527f, 0x9b05688c, 0x1f83d9ab, 0x5be0cd19⟩
/-- The words behind one more block. -/
def comp (s : S8) (g : Nat → Int) : S8 := s.plus (rnds KF (sch g 48) s 64)
/-- The words behind m blocks. -/
def hs (f : Nat → Int) : Nat → S8
  | 0 => H0
  | m + 1 => comp (hs f m) (fun j => f (64 * m + j))
theorem wrds_congr (f g : Nat → Int) (h : ∀ j, j < 64 → f j = g j) : wrds f 16 = wrds g 16 := by
  funext j
  unfold wrds
  by_cases e : j < 16
  · rw [if_pos e, if_pos e]
    unfold word4
    rw [h _ (by omega), h _ (by omega), h _ (by omega), h _ (by omega)]
  · rw [if_neg e, if_neg e]
theorem sch_congr (f g : Nat → Int) (h : ∀ j, j < 64 → f j = g j) : ∀ t, sch f t = sch g t
  | 0 => wrds_congr f g h
  | t + 1 => by unfold sch; rw [sch_congr f g h t]
theorem comp_congr (s : S8) (f g : Nat → Int) (h : ∀ j, j < 64 → f j = g j) : comp s f = comp s g := by unfold comp; rw [sch_congr f g h]
theorem hs_congr (f g : Nat → Int) : ∀ m, (∀ j, j < 64 * m → f j = g j) → hs f m = hs g m
  | 0, _ => rfl
  | m + 1, h => by
    unfold hs
    rw [hs_congr f g m (fun j hj => h j (by omega))]
    exact comp_congr _ _ _ (fun j hj => h _ (by omega))
/-- How many blocks n bytes make. -/
def nblk (n : Nat) : Nat := (n + 8) / 64 + 1
/-- The bytes of the blocks of n bytes. -/
def padF (f : Nat → Int) (n j : Nat) : Int := if j < n then f j else if j = n then 128 else if j < 64 * nblk n - 8 then 0 else ((8 * n : Nat) : Int) / 256 ^ (64 * nblk n - 1 - j) % 256
/-- The last bytes, the count of bits laid as far as k. -/
def lastF (f : Nat → Int) (n e k j : Nat) : Int := if e ≤ j + k ∧ j < e then ((8 * n : Nat) : Int) / 256 ^ (e - 1 - j) % 256 else upd (over (fun _ => 0) 0 (n % 64) (fun j => f (64 * (n / 64) + j))) (n % 64) 128 j
theorem lastF_step (f : Nat → Int) (n e k : Nat) (he : k + 1 ≤ e) : upd (lastF f n e k) (e - 1 - k) (((8 * n : Nat) : Int) / 256 ^ k % 256) = lastF f n e (k + 1) := by
  funext j
  unfold upd lastF
  by_cases h : j = e - 1 - k
  · rw [if_pos h, if_pos (by omega), show e - 1 - j = k by omega]
  · rw [if_neg h]
    by_cases g : e ≤ j + k ∧ j < e
    · rw [if_pos g, if_pos (by omega)]
    · rw [if_neg g, if_neg (by omega)]
/-- Where the last bytes end. -/
def eOf (n : Nat) : Nat := if n % 64 < 56 then 64 else 128
theorem nblk_eq (n : Nat) : 64 * nblk n = 64 * (n / 64) + eOf n := by
  unfold nblk eOf
  by_cases h : n % 64 < 56
  · rw [if_pos h]; omega
  · rw [if_neg h]; omega
theorem lastF_pad (f : Nat → Int) (n j : Nat) (hj : j < eOf n) : lastF f n (eOf n) 8 j = padF f n (64 * (n / 64) + j) := by
  have e0 := nblk_eq n
  have e1 : n % 64 < eOf n - 8 := by unfold eOf; split <;> omega
  unfold lastF padF upd over
  by_cases h : eOf n ≤ j + 8 ∧ j < eOf n
  · rw [if_pos h, if_neg (by omega), if_neg (by omega), if_neg (by omega), e0, show 64 * (n / 64) + eOf n - 1 - (64 * (n / 64) + j) = eOf n - 1 - j by omega]
  · rw [if_neg h]
    by_cases h1 : j = n % 64
    · rw [if_pos h1, if_neg (by omega), if_pos (by omega)]
    · rw [if_neg h1]
      by_cases h2 : j < n % 64
      · rw [if_pos (by omega), if_pos (by omega), Nat.sub_zero]
      · rw [if_neg (by omega), if_neg (by omega), if_neg (by omega), if_pos (by omega)]
theorem padF_low (f : Nat → Int) (n j : Nat) (h : j < n) : padF f n j = f j := by unfold padF; rw [if_pos h]
theorem hs_pad (f : Nat → Int) (n m : Nat) (h : 64 * m ≤ n) : hs f m = hs (padF f n) m := hs_congr _ _ m (fun j hj => (padF_low f n j (by omega)).symm)
theorem hs_last (f : Nat → Int) (n m : Nat) (h : 64 * m < eOf n) : comp (hs (padF f n) (n / 64 + m)) (fun j => lastF f n (eOf n) 8 (64 * m + j)) = hs (padF f n) (n / 64 + m + 1) := by
  show _ = comp _ _
  have e2 : eOf n = 64 ∨ eOf n = 128 := by unfold eOf; split <;> omega
  refine comp_congr _ _ _ (fun j hj => ?_)
  rw [lastF_pad f n (64 * m + j) (by omega), show 64 * (n / 64) + (64 * m + j) = 64 * (n / 64 + m) + j by omega]
theorem lastF_byte (f : Nat → Int) (n e k j : Nat) (h : ∀ j, j < n → 0 ≤ f j ∧ f j < 256) : 0 ≤ lastF f n e k j ∧ lastF f n e k j < 256 := by
  unfold lastF upd over
  split
  · omega
  · split
    · omega
    · split
      · exact h _ (by omega)
      · exact ⟨Int.le_refl 0, by show (0 : Int) < 256; omega⟩
/-- A digest's words. -/
def dig (n : Nat) (f : Nat → Int) : S8 := hs (padF f n) (nblk n)
theorem nblk_at (n : Nat) : nblk n = n / 64 + eOf n / 64 := by
  have := nblk_eq n
  have e2 : eOf n = 64 ∨ eOf n = 128 := by unfold eOf; split <;> omega
  omega
theorem dig_congr (n : Nat) (f g : Nat → Int) (h : ∀ j, j < n → f j = g j) : dig n f = dig n g := by
  unfold dig
  congr 1
  funext j
  unfold padF
  by_cases e : j < n
  · rw [if_pos e, if_pos e, h j e]
  · rw [if_neg e, if_neg e]
theorem IRow.eight {W : World} {p : Nat} {s : S8} (h : IRow W p .u32 8 s.at) : (W.cell? ⟨p, 0, none⟩ = some (.int .u32 s.a) ∧ W.cell? ⟨p, 1, none⟩ = some (.int .u32 s.b) ∧ W.cell? ⟨p, 2, none⟩ = some (.int .u32 s.c) ∧ W.cell? ⟨p, 3, none⟩ = some (.int .u32 s.d) ∧ W.cell? ⟨p, 4, none⟩ = some (.int .u32 s.e) ∧ W.cell? ⟨p, 5, none⟩ = some (.int .u32 s.f) ∧ W.cell? ⟨p, 6, none⟩ = some (.int .u32 s.g) ∧ W.cell? ⟨p, 7, none⟩ = some (.int .u32 s.h)) ∧ (∀ j, W.frozen? ⟨p, j, none⟩ = false) :=
  ⟨⟨h.1 0 (by omega), h.1 1 (by omega), h.1 2 (by omega), h.1 3 (by omega), h.1 4 (by omega), h.1 5 (by omega), h.1 6 (by omega), h.1 7 (by omega)⟩, h.2.1⟩
/-- Eight words stored one by one. -/
def st8 (W : World) (p : Nat) (s : S8) : World := (((((((W.setCell ⟨p, 0, none⟩ (.int .u32 s.a)).setCell ⟨p, 1, none⟩ (.int .u32 s.b)).setCell ⟨p, 2, none⟩ (.int .u32 s.c)).setCell ⟨p, 3, none⟩ (.int .u32 s.d)).setCell ⟨p, 4, none⟩ (.int .u32 s.e)).setCell ⟨p, 5, none⟩ (.int .u32 s.f)).setCell ⟨p, 6, none⟩ (.int .u32 s.g)).setCell ⟨p, 7, none⟩ (.int .u32 s.h)
theorem IRow.st8 {W : World} {p : Nat} {g : Nat → Int} (h : IRow W p .u32 8 g) (s : S8) : IRow (st8 W p s) p .u32 8 s.at :=
  ((((((((h.set 0 s.a).set 1 s.b).set 2 s.c).set 3 s.d).set 4 s.e).set 5 s.f).set 6 s.g).set 7 s.h).congr (fun j hj => by
    match j, hj with
    | 0, _ | 1, _ | 2, _ | 3, _ | 4, _ | 5, _ | 6, _ | 7, _ => rfl
    | j + 8, hj => omega)
theorem But.st8 (W : World) (p : Nat) (s : S8) : But p W (st8 W p s) :=
  (((((((But.set W 0 _).trans (But.set _ 1 _)).trans (But.set _ 2 _)).trans (But.set _ 3 _)).trans (But.set _ 4 _)).trans (But.set _ 5 _)).trans (But.set _ 6 _)).trans (But.set _ 7 _)
end Go.Proofs.YtblphlcnbnklmaaGreatDoor
