/-
  Walks, not a claim by itself: math/bits.Mul at small numbers; bytes.Repeat's buffer. By the verifier.
-/
import Derived.Test.YtfapmogjmjlokaaBCopy
import Derived.Test.YtfapmogjmjlokaaCRgt
import Derived.Lib.MakeNoZero
import Derived.Laws.Externs
namespace Go.Proofs.Ytfapmogjmjlokaa
open Go.RowKit
set_option maxRecDepth 100000 in
theorem mul64_2 (w : World) : Calls Try.prog 82 #[.int .u64 512, .int .u64 2] w fun e w' => e = .returned (.tuple #[.int .u64 0, .int .u64 1024]) ∧ w' = w := by
  go_enter Try.func82, Try.ntmps82
  go_wp2
  go_ret2
  exact ⟨rfl, rfl⟩
set_option maxRecDepth 100000 in
theorem mul64_4 (w : World) : Calls Try.prog 82 #[.int .u64 512, .int .u64 4] w fun e w' => e = .returned (.tuple #[.int .u64 0, .int .u64 2048]) ∧ w' = w := by
  go_enter Try.func82, Try.ntmps82
  go_wp2
  go_ret2
  exact ⟨rfl, rfl⟩
set_option maxRecDepth 100000 in
theorem mul_2 (w : World) : Calls Try.prog 64 #[.int .u64 512, .int .u64 2] w fun e w' => e = .returned (.tuple #[.int .u64 0, .int .u64 1024]) ∧ w' = w := by
  go_enter Try.func64, Try.ntmps64
  go_wp2_with (go_at_call 82; refine (mul64_2 _).mono ?_; rintro e w1 ⟨rfl, rfl⟩)
  go_ret2
  exact ⟨rfl, rfl⟩
set_option maxRecDepth 100000 in
theorem mul_4 (w : World) : Calls Try.prog 64 #[.int .u64 512, .int .u64 4] w fun e w' => e = .returned (.tuple #[.int .u64 0, .int .u64 2048]) ∧ w' = w := by
  go_enter Try.func64, Try.ntmps64
  go_wp2_with (go_at_call 82; refine (mul64_4 _).mono ?_; rintro e w1 ⟨rfl, rfl⟩)
  go_ret2
  exact ⟨rfl, rfl⟩
/-- The buffer that is made. -/
theorem nozero_run (w : World) (n : Nat) (hn : n ≤ 100000) : ∃ cs : Array Value, (callFunc 65 #[.int .i64 (n : Int)]).run Try.prog w = .ok (.value (.slice (some ⟨w.heap.size, 0, none⟩) n cs.size)) (w.drew.drew.alloc (.cells cs 5)) ∧ n ≤ cs.size := by
  obtain ⟨cs, hr, hle, _⟩ := Lib.run_makeNoZero (P := Try.prog) w #[3] 27 5 Try.underlying27 n (by omega)
  refine ⟨cs, ?_, hle⟩
  rw [run_callFunc_extern Try.func65 (by kernel_rfl) (by kernel_rfl) (by kernel_rfl) (e := Extern.BytealgMakeNoZero.makeNoZero #[3] #[27]) (by kernel_rfl), hr]
  rfl
end Go.Proofs.Ytfapmogjmjlokaa
