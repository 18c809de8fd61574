/-
  Walks, not a claim by itself: words turned right. By the verifier.
-/
import Derived.Test.YtblphlcnbnklmaaGreatDoorBArg
namespace Go.Proofs.YtblphlcnbnklmaaGreatDoor
open Go.RowKit

/-- A word turned right. -/
def rotr (x : Int) (n : Nat) : Int := bits .or .u32 (x * 2 ^ (32 - n) % 4294967296) (x / 2 ^ n)
theorem and31 (n : Nat) (h1 : 1 ≤ n) (h2 : n ≤ 31) : bits .and .u64 (IntKind.u64.wrap (-(n : Int))) 31 = ((32 - n : Nat) : Int) := by
  match n, h1, h2 with
  | 1, _, _ | 2, _, _ | 3, _, _ | 4, _, _ | 5, _, _ | 6, _, _ | 7, _, _ | 8, _, _ | 9, _, _ | 10, _, _ | 11, _, _ | 12, _, _ | 13, _, _ | 14, _, _ | 15, _, _ | 16, _, _ | 17, _, _ | 18, _, _ | 19, _, _ | 20, _, _ | 21, _, _ | 22, _, _ | 23, _, _ | 24, _, _ | 25, _, _ | 26, _, _ | 27, _, _ | 28, _, _ | 29, _, _ | 30, _, _ | 31, _, _ => rfl
  | n + 32, _, h => omega

set_option maxRecDepth 100000 in
set_option maxHeartbeats 1000000 in
theorem rl_any (x : Int) (n : Nat) (w : World) (h1 : 1 ≤ n) (h2 : n ≤ 31) :
    Calls Tryz.prog 236 #[.int .u32 x, .int .i64 (-(n : Int))] w fun e w' => e = .returned (.int .u32 (rotr x n)) ∧ w' = w := by
  have e2 := and31 n h1 h2
  have e3 : (0 : Int) ≤ ((32 - n : Nat) : Int) := by omega
  have e4 : ((32 - n : Nat) : Int) < 32 := by omega
  have e5 : (0 : Int) ≤ 32 - ((32 - n : Nat) : Int) := by omega
  have e6 : 32 - ((32 - n : Nat) : Int) < 32 := by omega
  go_enter Tryz.func236, Tryz.ntmps236
  go_wp2
  go_ret
  rw [show 32 - (32 - n) = n by omega]
  exact ⟨rfl, rfl⟩
set_option maxHeartbeats 1000000 in
theorem right_any (x : Int) (n : Nat) (w : World) (h1 : 1 ≤ n) (h2 : n ≤ 31) :
    Calls Tryz.prog 222 #[.int .u32 x, .int .i64 n] w fun e w' => e = .returned (.int .u32 (rotr x n)) ∧ w' = w := by
  go_enter Tryz.func222, Tryz.ntmps222
  go_wp2_with (go_at_call 236; refine (rl_any x n _ h1 h2).mono ?_; rintro e w' ⟨rfl, rfl⟩)
  go_ret
  exact ⟨rfl, rfl⟩
theorem right_of (x i : Int) (w : World) (h1 : 1 ≤ i) (h2 : i ≤ 31) :
    Calls Tryz.prog 222 #[.int .u32 x, .int .i64 i] w fun e w' => e = .returned (.int .u32 (rotr x i.toNat)) ∧ w' = w := by
  obtain ⟨n, rfl⟩ := Int.eq_ofNat_of_zero_le (show 0 ≤ i by omega)
  exact right_any x n w (by omega) (by omega)
end Go.Proofs.YtblphlcnbnklmaaGreatDoor
