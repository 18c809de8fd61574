/-
  Walks, not a claim by itself: the kit's Pick. By the verifier.
-/
import Derived.Test.YtmlllglgjpmicaaBCopy
namespace Go.Proofs.Ytmlllglgjpmicaa
open Go.RowKit
theorem ret_int {k : IntKind} {a b : Int} (h : a = b) : Ending.returned (.int k a) = .returned (.int k b) := by rw [h]
/-- What Pick answers: a place. -/
def PickPost (n : Nat) (w : World) (e : Ending) (w' : World) : Prop := ∃ r : Nat, r < n ∧ e = .returned (.int .i64 r) ∧ w' = w
set_option maxHeartbeats 1000000 in
theorem pick_any (x : Int) (n : Nat) (w : World) (h1 : 1 ≤ n) (h2 : n ≤ 1000000) :
    Calls Try.prog 24 #[.int .i64 x, .int .i64 n] w (PickPost n w) := by
  have e1 : ¬ (n : Int) < 1 := by omega
  have e2 : ¬ (n : Int) = 0 := by omega
  have e3 : ¬ n = 0 := by omega
  have b1 : x.tmod n < n := Int.tmod_lt_of_pos x (by omega)
  have b2 : -(n : Int) < x.tmod n := by have := Int.lt_tmod_of_pos x (show (0 : Int) < n by omega); omega
  by_cases h : x.tmod n < 0
  · have w1 : IntKind.i64.wrap (x.tmod n) = x.tmod n := by rw [IntKind.wrap_i64]; omega
    go_enter Try.func24, Try.ntmps24
    go_wp2
    go_ret
    exact ⟨(x.tmod n + n).toNat, by omega, ret_int (by omega), rfl⟩
  · have w1 : IntKind.i64.wrap (x.tmod n) = x.tmod n := by rw [IntKind.wrap_i64]; omega
    go_enter Try.func24, Try.ntmps24
    go_wp2
    go_ret
    exact ⟨(x.tmod n).toNat, by omega, ret_int (by omega), rfl⟩
end Go.Proofs.Ytmlllglgjpmicaa
