/-
  Walks, not a claim by itself: block's take, takeRef, takeRefs, noRefs and noughts. By the verifier.
-/
import Derived.Test.YtblphlcnbnklmaaGreatDoorGVal
import Derived.Test.YtblphlcnbnklmaaGreatDoorReg
namespace Go.Proofs.YtblphlcnbnklmaaGreatDoor
open Go.RowKit
theorem bits_or_u32_nat (a b : Nat) (ha : a < 4294967296) (hb : b < 4294967296) : bits .or .u32 (a : Int) (b : Int) = ((a ||| b : Nat) : Int) := by
  have hx : a ||| b < 2 ^ 32 := Nat.or_lt_two_pow (by omega) (by omega)
  have h1 : (BitVec.ofInt 32 (a : Int)).toNat = a := by
    rw [BitVec.ofInt_natCast, BitVec.toNat_ofNat]; exact Nat.mod_eq_of_lt (by omega)
  have h2 : (BitVec.ofInt 32 (b : Int)).toNat = b := by
    rw [BitVec.ofInt_natCast, BitVec.toNat_ofNat]; exact Nat.mod_eq_of_lt (by omega)
  show IntKind.u32.wrap ((BitVec.ofInt 32 (a : Int) ||| BitVec.ofInt 32 (b : Int)).toNat : Int) = _
  rw [BitVec.toNat_or, h1, h2, IntKind.wrap_u32]
  omega
theorem or_lo32 (a b : Int) (m : Int) (k : Nat) (hm : m = 2 ^ k) (h0 : 0 ≤ a) (h1 : 0 ≤ b) (h2 : b < m) (h3 : a * m + b < 4294967296) : bits .or .u32 b (a * m) = b + a * m := by
  subst hm
  obtain ⟨a, rfl⟩ := Int.eq_ofNat_of_zero_le h0
  obtain ⟨b, rfl⟩ := Int.eq_ofNat_of_zero_le h1
  have e : ((2 : Int) ^ k) = ((2 ^ k : Nat) : Int) := by simp
  rw [e] at h2 h3 ⊢
  have hb : b < 2 ^ k := by omega
  rw [show (a : Int) * ((2 ^ k : Nat) : Int) = ((a * 2 ^ k : Nat) : Int) from by simp] at h3 ⊢
  rw [bits_or_u32_nat _ _ (by omega) (by omega), Nat.or_comm, or_sum_nat a b k hb]
  simp; omega
theorem ps_4 (f : Nat → Int) (n : Nat) (hn : n ≤ 4) (hf : ∀ j, j < n → 0 ≤ f j ∧ f j < 256) : 0 ≤ ps f n ∧ ps f n < 4294967296 := by
  obtain ⟨a, b⟩ := ps_bound f n hf
  refine ⟨a, Int.lt_of_lt_of_le b ?_⟩
  match n, hn with
  | 0, _ | 1, _ | 2, _ | 3, _ | 4, _ => decide
  | n + 5, h => omega
theorem shl_k32 (f : Nat → Int) (k : Nat) (hk : k < 4) (hf : ∀ j, j < k + 1 → 0 ≤ f j ∧ f j < 256) : f k * 2 ^ (8 * k) % 4294967296 = f k * 256 ^ k := by
  rw [Int.pow_mul]
  show f k * 256 ^ k % 4294967296 = _
  rw [Int.emod_eq_of_lt]
  · exact Int.mul_nonneg (hf k (by omega)).1 (Int.le_of_lt (Int.pow_pos (by decide)))
  · have h1 := (ps_4 f (k + 1) (by omega) hf).2
    have h2 := (ps_4 f k (by omega) (fun j hj => hf j (by omega))).1
    rw [ps_succ] at h1
    omega
theorem or_k32 (f : Nat → Int) (k : Nat) (hk : k < 4) (hf : ∀ j, j < k + 1 → 0 ≤ f j ∧ f j < 256) : bits .or .u32 (ps f k) (f k * 256 ^ k) = ps f (k + 1) := by
  have h1 := (ps_4 f (k + 1) (by omega) hf).2
  obtain ⟨h2, h3⟩ := ps_bound f k (fun j hj => hf j (by omega))
  have e := hf k (by omega)
  rw [ps_succ] at h1 ⊢
  exact or_lo32 (f k) (ps f k) (256 ^ k) (8 * k) (by rw [Int.pow_mul]; rfl) e.1 h2 h3 (by omega)
def t1Rel (w : World) (f : Nat → Int) (acc i : Value) (wr : World) : Prop := ∃ k : Nat, k ≤ 4 ∧ i = .int .i64 k ∧ acc = .int .u32 (ps f k) ∧ wr = w
set_option maxRecDepth 100000 in
set_option maxHeartbeats 1000000 in
theorem take_any (w : World) (r q m c : Nat) (f : Nat → Int) (h : Lies w r q 4 f) (hm : 4 < m) (hc : m ≤ c) :
    Calls Tryz.prog 157 #[.slice (some ⟨r, q, none⟩) m c] w fun e w' => e = .returned (.tuple #[.int .i64 (ps f 4), .slice (some ⟨r, q + 4, none⟩) (m - 4) (c - 4)]) ∧ Below w.heap.size w w' := by
  have HL := hidIt h
  obtain ⟨p0, p1⟩ := ps_4 f 4 (by omega) (fun j hj => h.2.1 j hj)
  have PB : Hid (0 ≤ ps f 4 ∧ ps f 4 < 4294967296) := ⟨p0, p1⟩
  clear h p0 p1
  have i1 : (4 : Int) ≤ (m : Int) := by omega
  have i2 : (4 : Int) ≤ (c : Int) := by omega
  have i3 : ¬ c = 4 := by omega
  go_enter Tryz.func157, Tryz.ntmps157
  go_wp2_with fail
  go_loopw [4, 10] (fun acc i wr => t1Rel w f acc i wr) (fun _ i _ => 4 - (RowKit.intOf i).toNat)
  case atStart => exact ⟨0, by omega, rfl, rfl, rfl⟩
  case round =>
    obtain ⟨k, hk, rfl, rfl, rfl⟩ := hrel
    by_cases hlt : k < 4
    · have gk := HL.out.1 k hlt
      obtain ⟨g0, g1⟩ := HL.out.2.1 k hlt
      have w8 := wrap_8 k (by omega)
      have j0 : (k : Int) < 4 := by omega
      have j4 : (0 : Int) ≤ (k : Int) := by omega
      go_wp2_with fail
      refine ⟨⟨k + 1, by omega, by go_num, ?_, rfl⟩, by simp [RowKit.intOf]; omega⟩
      rw [shl_k32 f k (by omega) (fun j hj => HL.out.2.1 _ (by omega)), or_k32 f k (by omega) (fun j hj => HL.out.2.1 _ (by omega))]
    · obtain rfl : k = 4 := by omega
      rw [show ((4 : Nat) : Int) = 4 from rfl]
      have wr1 : IntKind.i64.wrap (ps f 4) = ps f 4 := by rw [IntKind.wrap_i64]; have := PB.out; omega
      have WB := hidIt ((Below.refl wr.heap.size wr).drew)
      go_wp2_with fail
      try (go_region; go_wp2_with fail)
      go_ret2
      exact ⟨rfl, WB.out⟩
end Go.Proofs.YtblphlcnbnklmaaGreatDoor
