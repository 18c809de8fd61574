/-
  Walks, not a claim by itself: what bytes say of blocks. By the verifier.
-/
import Derived.Test.YtkncnpjhfcfmnaaDoorFByt
namespace Go.Proofs.YtkncnpjhfcfmnaaDoor
open Go.RowKit Go.Shelf
attribute [local go_sem] Oper.semAt_some
/-- What bytes say of a block. -/
def sdN (f : Nat → Int) (i : Nat) : Nat := (f (2 + i / 4)).toNat / 4 ^ (i % 4) % 4
theorem sdN_lt (f : Nat → Int) (i : Nat) : sdN f i < 4 := Nat.mod_lt _ (by decide)
theorem sd_and (f : Nat → Int) (i : Nat) (h0 : 0 ≤ f (2 + i / 4)) (h1 : f (2 + i / 4) < 256) : bits .and .u8 (f (2 + i / 4) / 2 ^ (i % 4 * 2)) 3 = ((sdN f i : Nat) : Int) := by
  obtain ⟨x, hx⟩ := Int.eq_ofNat_of_zero_le h0
  unfold sdN
  rw [hx]
  have e : ((2 : Int) ^ (i % 4 * 2)) = ((4 ^ (i % 4) : Nat) : Int) := by rw [← pow24]; simp
  rw [e, ← Int.natCast_ediv]
  have hl : x / 4 ^ (i % 4) < 256 := Nat.lt_of_le_of_lt (Nat.div_le_self _ _) (by omega)
  have := u8_and_nat (x / 4 ^ (i % 4)) 3 hl (by decide)
  rw [nat_mask2] at this
  exact this
set_option maxRecDepth 100000 in
theorem said1_ok (W : World) (Bb bb off L C : Nat) (f : Nat → Int) (i : Nat) (hi : i < 65536) (c : W.cell? ⟨Bb, 0, none⟩ = some (.slice (some ⟨bb, off, none⟩) L C)) (l : Lies W bb off L f) (hl : 2 + i / 4 < L) :
    Calls Tryd.prog 53 #[.int .i64 ((i : Int) + 1), .pointer (some ⟨Bb, 0, none⟩)] W fun e w' => e = .returned (.int .i64 ((sdN f i : Nat) : Int)) ∧ w' = W := by
  have ST := hidIt (stand_ok i hi W)
  have l1 := l.1 (2 + i / 4) hl
  have l2 := l.2.1 (2 + i / 4) hl
  have e1 : (2 + (i : Int) / 4).toNat = 2 + i / 4 := by omega
  have e2 : (0 : Int) ≤ 2 + (i : Int) / 4 := by omega
  have e3 : 2 + (i : Int) / 4 < (L : Int) := by omega
  have e4 : (0 : Int) ≤ (i : Int) % 4 * 2 := by omega
  have e5 : (i : Int) % 4 * 2 ≤ 8 := by omega
  have e6 : ((i : Int) % 4 * 2).toNat = i % 4 * 2 := by omega
  have e7 := sd_and f i l2.1 l2.2
  have s1 := sdN_lt f i
  have e8 : IntKind.i64.wrap ((sdN f i : Nat) : Int) = ((sdN f i : Nat) : Int) := by rw [IntKind.wrap_i64]; omega
  clear l l2
  go_enter Tryd.func53, Tryd.ntmps53
  go_wp2_with (go_at_call 43; refine ST.out.mono ?_; rintro e w' ⟨rfl, hw⟩; subst w')
  go_ret
  exact ⟨rfl, rfl⟩
theorem said_ok (W : World) (p : Option Addr) (L C : Nat) (n : Int) : Calls Tryd.prog 40 #[.slice p L C, .int .i64 n] W fun e w' => e = .returned (eachV (W.heap.size + 1)) ∧ w' = ((W.alloc (.cells #[.slice p L C] 38)).alloc (.cells #[.int .i64 n] 3)).alloc (.cells #[.func (.func 53) #[] #[.pointer (some ⟨W.heap.size, 0, none⟩)]] 58) := by
  have T := hidIt fun (u : World) (x : Value) => ((callsIn_wide (n := 1)).1 (through_in Fence.wide 1 trivial rfl n 53 #[] #[x] u))
  go_enter Tryd.func40, Tryd.ntmps40
  go_wp2_with (go_at_call 50; refine (T.out _ _).mono ?_; rintro e w' ⟨rfl, hw⟩; subst hw)
  go_ret
  exact ⟨by simp [eachV], rfl⟩
theorem equal_any (a a' : Option Addr) (n m C C' : Nat) (f g : Nat → Int) (w : World) (hf : Arg w a n f) (hg : Arg w a' m g) :
    Calls Tryd.prog 41 #[.slice a n C, .slice a' m C'] w fun e w' => e = .returned (.bool (decide (txtN n f = txtN m g))) ∧ w' = w := by
  have c1 := conv_arg w a n C f hf
  have c2 := conv_arg w a' m C' g hg
  clear hf hg
  generalize txtN n f = x at c1 ⊢
  generalize txtN m g = y at c2 ⊢
  go_enter Tryd.func41, Tryd.ntmps41
  go_wp2
  rw [bytes_beq]
  go_ret
  exact ⟨rfl, rfl⟩
theorem i64_or_nat (a b : Nat) (ha : a < 4294967296) (hb : b < 4294967296) : bits .or .i64 (a : Int) (b : Int) = ((a ||| b : Nat) : Int) := by
  have hx : a ||| b < 2 ^ 32 := Nat.or_lt_two_pow (by omega) (by omega)
  show IntKind.i64.wrap ((BitVec.ofInt 64 (a : Int) ||| BitVec.ofInt 64 (b : Int)).toNat : Int) = _
  rw [BitVec.toNat_or, ofInt_u64 a (by omega), ofInt_u64 b (by omega), IntKind.wrap_i64]
  omega
/-- How many blocks bytes say. -/
def rdC (f : Nat → Int) : Nat := (f 0).toNat + 256 * (f 1).toNat
theorem rdC_or (f : Nat → Int) (h0 : 0 ≤ f 0 ∧ f 0 < 256) (h1 : 0 ≤ f 1 ∧ f 1 < 256) : bits .or .i64 (f 0) (f 1 * 256) = ((rdC f : Nat) : Int) := by
  obtain ⟨x, hx⟩ := Int.eq_ofNat_of_zero_le h0.1
  obtain ⟨y, hy⟩ := Int.eq_ofNat_of_zero_le h1.1
  unfold rdC
  have x1 : x < 256 := by omega
  have y1 : y < 256 := by omega
  rw [hx, hy]
  rw [show ((y : Int) * 256) = ((y * 256 : Nat) : Int) by simp, i64_or_nat x (y * 256) (by omega) (by omega), Nat.or_comm, nat_join 8 (y * 256) x (by omega) (by omega)]
  simp
  omega
/-- The blocks, as far as they were read. -/
def rdH (f : Nat → Int) (n k i : Nat) : Nat := if i < k then putS (sdN f i) else iniH n i
theorem rdH_zero (f : Nat → Int) (n : Nat) : rdH f n 0 = iniH n := by funext i; simp [rdH]
theorem rdH_step (f : Nat → Int) (n k : Nat) : setH (rdH f n k) k (sdN f k) = rdH f n (k + 1) := by
  funext j
  unfold setH rdH
  by_cases e : j = k
  · subst e; rw [if_pos rfl, if_pos (by omega)]
  · rw [if_neg e]
    by_cases e2 : j < k
    · rw [if_pos e2, if_pos (by omega)]
    · rw [if_neg e2, if_neg (by omega)]
theorem rdH_sok (f : Nat → Int) (n k : Nat) (h1 : 1 ≤ n) (h2 : n ≤ 512) (hk : k ≤ n) : SOk n (rdH f n k) := ⟨h1, h2, fun i hi => by unfold rdH iniH; rw [if_neg (by omega), if_neg (by omega)], fun i => by
  unfold rdH
  split
  · exact putS_le _
  · exact (ini_sok n h1 h2).le i⟩
end Go.Proofs.YtkncnpjhfcfmnaaDoor
