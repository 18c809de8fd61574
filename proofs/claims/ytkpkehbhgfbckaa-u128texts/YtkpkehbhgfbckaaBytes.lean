/-
  Walks, not a claim by itself: which bytes u128.Bytes hands back. By the verifier.
-/
import Derived.Test.YtkpkehbhgfbckaaNums
import Derived.Deep.Light
import Derived.Deep.QuietTactic
import Derived.BigQuiet
import Derived.WalkSmall
namespace Go.Proofs.Ytkpkehbhgfbckaa
open Go.RowKit

/-- The bytes of a number as Go has them, the lowest first. -/
abbrev BytesOf (h l : Int) : Value := .agg #[.int .u8 (l % 256), .int .u8 (l / 256 % 256), .int .u8 (l / 65536 % 256), .int .u8 (l / 16777216 % 256), .int .u8 (l / 4294967296 % 256), .int .u8 (l / 1099511627776 % 256), .int .u8 (l / 281474976710656 % 256), .int .u8 (l / 72057594037927936), .int .u8 (h % 256), .int .u8 (h / 256 % 256), .int .u8 (h / 65536 % 256), .int .u8 (h / 16777216 % 256), .int .u8 (h / 4294967296 % 256), .int .u8 (h / 1099511627776 % 256), .int .u8 (h / 281474976710656 % 256), .int .u8 (h / 72057594037927936)]

set_option maxRecDepth 100000 in
set_option maxHeartbeats 4000000 in
theorem bytes_any (h l : Int) (w : World) (h1 : Word h) (h2 : Word l) :
    Calls Try.prog 29 #[U h l] w fun e w' => e = .returned (BytesOf h l) ∧ Below w.heap.size w w' := by
  obtain ⟨a1, a2⟩ := h1
  obtain ⟨b1, b2⟩ := h2
  go_enter Try.func29, Try.ntmps29
  go_wp2
  refine wp_loop_rounds 9 ?_
  iterate 9 (rw [rounds_succ]; go_wp2)
  exact bodyPost_ret (v := BytesOf h l) (by simp [results, Try.results29, go_sem]) rfl ⟨rfl, (((Below.refl _ _).alloc (Nat.le_refl _) _).alloc (by simp) _).alloc (by simp; omega) _⟩
end Go.Proofs.Ytkpkehbhgfbckaa
