/-
  Walks, not a claim by itself: the examples that the laws ask of every program ('awake') come out true. By the verifier.
-/
import Derived.Test.YtkpkehbhgfbckaaText
namespace Go.Proofs.Ytkpkehbhgfbckaa
open Go.RowKit

theorem top_any (w : World) : Calls Try.prog 37 #[] w fun e w' => e = .returned (U 18446744073709551615 18446744073709551615) ∧ Below w.heap.size w w' := by
  go_enter Try.func37, Try.ntmps37
  go_wp2
  exact bodyPost_ret (v := U 18446744073709551615 18446744073709551615) (by simp [results, Try.results37, go_sem]) rfl ⟨rfl, (Below.refl _ _).alloc (Nat.le_refl _) _⟩

theorem text_264 : strOfNums (txt (V 1 0).toNat) = ⟨#[49, 56, 52, 52, 54, 55, 52, 52, 48, 55, 51, 55, 48, 57, 53, 53, 49, 54, 49, 54]⟩ := by kernel_rfl

/-- The number 2^64 - 1 and one more. -/
theorem add_64 (w : World) : Calls Try.prog 9 #[U 0 18446744073709551615, U 0 1] w fun e w' => e = .returned (.tuple #[U 1 0, .bool false]) ∧ Below w.heap.size w w' := by
  refine (add_ok 0 18446744073709551615 0 1 w word_zero ⟨by decide, by decide⟩ word_zero ⟨by decide, by decide⟩ (by decide)).mono ?_
  rintro e w' ⟨x, y, rfl, ⟨a1, a2⟩, ⟨b1, b2⟩, hv, hb⟩
  have hv := hv.out
  unfold V at hv
  obtain rfl : x = 1 := by omega
  obtain rfl : y = 0 := by omega
  exact ⟨rfl, hb⟩
theorem add_128 (w : World) : Calls Try.prog 9 #[U 18446744073709551615 18446744073709551615, U 0 1] w fun e w' => e = .returned (.tuple #[U 0 0, .bool true]) ∧ Below w.heap.size w w' :=
  add_over _ _ _ _ w ⟨by decide, by decide⟩ ⟨by decide, by decide⟩ word_zero ⟨by decide, by decide⟩ (by decide)
theorem text_2_64 (w : World) : Calls Try.prog 34 #[U 1 0] w fun e w' => e = .returned (.string ⟨#[49, 56, 52, 52, 54, 55, 52, 52, 48, 55, 51, 55, 48, 57, 53, 53, 49, 54, 49, 54]⟩) ∧ Below w.heap.size w w' := by
  rw [← text_264]
  exact text_any 1 0 w ⟨by decide, by decide⟩ word_zero

set_option maxRecDepth 100000 in
set_option maxHeartbeats 1000000 in
theorem awake_any (w : World) : Calls Try.prog 17 #[] w fun e w' => e = .returned (.bool true) ∧ Below w.heap.size w w' := by
  go_enter Try.func17, Try.ntmps17
  go_wp2_with fail
  refine (of_any 1 _).mono ?_
  rintro e w1 ⟨rfl, hb1⟩
  go_wp2_with fail
  refine (add_64 _).mono ?_
  rintro e w2 ⟨rfl, hb2⟩
  go_wp2_with fail
  refine (top_any _).mono ?_
  rintro e w3 ⟨rfl, hb3⟩
  go_wp2_with fail
  refine (of_any 1 _).mono ?_
  rintro e w4 ⟨rfl, hb4⟩
  go_wp2_with fail
  refine (add_128 _).mono ?_
  rintro e w5 ⟨rfl, hb5⟩
  have z3 : w2.heap.size < w3.heap.size := by have := hb3.size; simp at this; omega
  have z4 := hb4.size
  have z5 := hb5.size
  have hz : w2.heap.size < w5.heap.size := by omega
  have c0 : w5.cell? ⟨w2.heap.size, 0, none⟩ = some (.int .u64 1) := by
    rw [hb5.cell (by simp; omega), hb4.cell (by simp; omega), hb3.cell (by simp)]; simp [go_sem]
  have c1 : w5.cell? ⟨w2.heap.size, 1, none⟩ = some (.int .u64 0) := by
    rw [hb5.cell (by simp; omega), hb4.cell (by simp; omega), hb3.cell (by simp)]; simp [go_sem]
  have B : Hid (Below w.heap.size w w5) := by
    have z1 := hb1.size
    have z2 := hb2.size
    exact ((((hb1.trans (hb2.mono (by omega))).alloc (by omega) _).trans (hb3.mono (by simp; omega))).trans (hb4.mono (by omega))).trans (hb5.mono (by omega))
  have hw5 : w.heap.size ≤ w5.heap.size := by have := hb1.size; have := hb2.size; omega
  clear hb1 hb2 hb3 hb4 hb5 z3 z4 z5
  go_wp2_with fail
  refine (text_2_64 _).mono ?_
  rintro e w6 ⟨rfl, hb6⟩
  go_wp2_with fail
  go_ret
  exact ⟨rfl, (B.out.alloc (by omega) _).trans (hb6.mono (by simp; omega))⟩
end Go.Proofs.Ytkpkehbhgfbckaa
