/-
  Walks, not a claim by itself: the reference's right. By the verifier.
-/
import Derived.Test.YtmlllglgjpmicaaCRot
namespace Go.Proofs.Ytmlllglgjpmicaa
open Go.RowKit
theorem or_comm32 (a b : Int) : bits .or .u32 a b = bits .or .u32 b a := by
  show IntKind.u32.wrap ((BitVec.ofInt 32 a ||| BitVec.ofInt 32 b).toNat : Int) = IntKind.u32.wrap ((BitVec.ofInt 32 b ||| BitVec.ofInt 32 a).toNat : Int)
  rw [BitVec.or_comm]
set_option maxRecDepth 100000 in
set_option maxHeartbeats 1000000 in
theorem hright_any (x : Int) (n : Nat) (w : World) (h1 : 1 ≤ n) (h2 : n ≤ 31) :
    Calls Try.prog 56 #[.int .u32 x, .int .i64 n] w fun e w' => e = .returned (.int .u32 (rotr x n)) ∧ ∃ q, w' = w.drewN q := by
  have e1 : (0 : Int) ≤ (n : Int) := by omega
  have e2 : (n : Int) < 32 := by omega
  have e3 : (0 : Int) ≤ 32 - (n : Int) := by omega
  have e4 : 32 - (n : Int) < 32 := by omega
  have e5 : (32 - (n : Int)).toNat = 32 - n := by omega
  go_enter Try.func56, Try.ntmps56
  go_wp2
  go_quiet (fail)
  go_wp2
  rw [or_comm32]
  go_ret
  exact ⟨rfl, nq, rfl⟩
theorem hright_of (x i : Int) (w : World) (h1 : 1 ≤ i) (h2 : i ≤ 31) :
    Calls Try.prog 56 #[.int .u32 x, .int .i64 i] w fun e w' => e = .returned (.int .u32 (rotr x i.toNat)) ∧ ∃ q, w' = w.drewN q := by
  obtain ⟨n, rfl⟩ := Int.eq_ofNat_of_zero_le (show 0 ≤ i by omega)
  exact hright_any x n w (by omega) (by omega)
end Go.Proofs.Ytmlllglgjpmicaa
