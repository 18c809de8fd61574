/-
  Walks, not a claim by itself: u128.word. By the verifier.
-/
import Derived.Test.YtlcnhmlcmedonaaTake
namespace Go.Proofs.Ytlcnhmlcmedonaa
open Go.RowKit

theorem ret_int {k : IntKind} {a b : Int} (h : a = b) : Ending.returned (.int k a) = .returned (.int k b) := by rw [h]
theorem or_zero (b : Int) (h0 : 0 ≤ b) (h1 : b < 18446744073709551616) : bits .or .u64 0 b = b := by
  have := or_hi 0 b 18446744073709551616 64 (by decide) (by omega) h0 h1 (by omega)
  simpa using this
set_option maxRecDepth 100000 in
set_option maxHeartbeats 4000000 in
theorem word_any (b off cap : Nat) (b0 b1 b2 b3 b4 b5 b6 b7 : Int) (w : World)
    (c0 : w.cell? ⟨b, off, none⟩ = some (.int .u8 b0)) (c1 : w.cell? ⟨b, off + 1, none⟩ = some (.int .u8 b1)) (c2 : w.cell? ⟨b, off + 2, none⟩ = some (.int .u8 b2)) (c3 : w.cell? ⟨b, off + 3, none⟩ = some (.int .u8 b3))
    (c4 : w.cell? ⟨b, off + 4, none⟩ = some (.int .u8 b4)) (c5 : w.cell? ⟨b, off + 5, none⟩ = some (.int .u8 b5)) (c6 : w.cell? ⟨b, off + 6, none⟩ = some (.int .u8 b6)) (c7 : w.cell? ⟨b, off + 7, none⟩ = some (.int .u8 b7))
    (h0 : 0 ≤ b0 ∧ b0 < 256) (h1 : 0 ≤ b1 ∧ b1 < 256) (h2 : 0 ≤ b2 ∧ b2 < 256) (h3 : 0 ≤ b3 ∧ b3 < 256) (h4 : 0 ≤ b4 ∧ b4 < 256) (h5 : 0 ≤ b5 ∧ b5 < 256) (h6 : 0 ≤ b6 ∧ b6 < 256) (h7 : 0 ≤ b7 ∧ b7 < 256) :
    Calls Try.prog 59 #[.slice (some ⟨b, off, none⟩) 8 cap] w fun e w' => e = .returned (.int .u64 (b0 + b1 * 256 + b2 * 65536 + b3 * 16777216 + b4 * 4294967296 + b5 * 1099511627776 + b6 * 281474976710656 + b7 * 72057594037927936)) ∧ w' = w := by
  obtain ⟨p0, q0⟩ := h0; obtain ⟨p1, q1⟩ := h1; obtain ⟨p2, q2⟩ := h2; obtain ⟨p3, q3⟩ := h3
  obtain ⟨p4, q4⟩ := h4; obtain ⟨p5, q5⟩ := h5; obtain ⟨p6, q6⟩ := h6; obtain ⟨p7, q7⟩ := h7
  go_enter Try.func59, Try.ntmps59
  go_wp2
  refine wp_loop_rounds 9 ?_
  iterate 9 (rw [rounds_succ]; go_wp2)
  go_ret
  exact ⟨ret_int (by rw [or_zero b0 p0 (by omega), or_lo b1 _ 256 8 (by decide) p1 (by omega) (by omega) (by omega), or_lo b2 _ 65536 16 (by decide) p2 (by omega) (by omega) (by omega), or_lo b3 _ 16777216 24 (by decide) p3 (by omega) (by omega) (by omega), or_lo b4 _ 4294967296 32 (by decide) p4 (by omega) (by omega) (by omega), or_lo b5 _ 1099511627776 40 (by decide) p5 (by omega) (by omega) (by omega), or_lo b6 _ 281474976710656 48 (by decide) p6 (by omega) (by omega) (by omega), or_lo b7 _ 72057594037927936 56 (by decide) p7 (by omega) (by omega) (by omega)]), rfl⟩

/-- The number of eight bytes, the lowest first. -/
def le8 (f : Nat → Int) : Int := f 0 + f 1 * 256 + f 2 * 65536 + f 3 * 16777216 + f 4 * 4294967296 + f 5 * 1099511627776 + f 6 * 281474976710656 + f 7 * 72057594037927936
theorem le8_word (f : Nat → Int) (hf : ∀ j, j < 8 → 0 ≤ f j ∧ f j < 256) : Word (le8 f) := by
  have h0 := hf 0 (by omega); have h1 := hf 1 (by omega); have h2 := hf 2 (by omega); have h3 := hf 3 (by omega)
  have h4 := hf 4 (by omega); have h5 := hf 5 (by omega); have h6 := hf 6 (by omega); have h7 := hf 7 (by omega)
  unfold Word le8
  omega
theorem word_row (b off cap : Nat) (f : Nat → Int) (w : World) (hc : ∀ j, j < 8 → w.cell? ⟨b, off + j, none⟩ = some (.int .u8 (f j))) (hf : ∀ j, j < 8 → 0 ≤ f j ∧ f j < 256) :
    Calls Try.prog 59 #[.slice (some ⟨b, off, none⟩) 8 cap] w fun e w' => e = .returned (.int .u64 (le8 f)) ∧ w' = w :=
  word_any b off cap (f 0) (f 1) (f 2) (f 3) (f 4) (f 5) (f 6) (f 7) w (hc 0 (by omega)) (hc 1 (by omega)) (hc 2 (by omega)) (hc 3 (by omega)) (hc 4 (by omega)) (hc 5 (by omega)) (hc 6 (by omega)) (hc 7 (by omega))
    (hf 0 (by omega)) (hf 1 (by omega)) (hf 2 (by omega)) (hf 3 (by omega)) (hf 4 (by omega)) (hf 5 (by omega)) (hf 6 (by omega)) (hf 7 (by omega))
end Go.Proofs.Ytlcnhmlcmedonaa
