/-
  Walks, not a claim by itself: math/bits.Div64 by ten. By the verifier.
-/
import Derived.Test.YtkpkehbhgfbckaaNums
import Derived.Deep.QuietTactic
import Derived.BigQuiet
import Derived.WalkSmall
import Derived.Deep.Light
namespace Go.Proofs.Ytkpkehbhgfbckaa
open Go.RowKit

theorem ret_two {k k' : IntKind} {a b c d : Int} (h : a = c) (h' : b = d) : Ending.returned (.tuple #[.int k a, .int k' b]) = .returned (.tuple #[.int k c, .int k' d]) := by rw [h, h']

set_option maxHeartbeats 1000000 in
theorem div10_0 (lo : Int) (w : World) (h : Word lo) :
    Calls Try.prog 57 #[.int .u64 0, .int .u64 lo, .int .u64 10] w fun e w' => e = .returned (.tuple #[.int .u64 (lo / 10), .int .u64 (lo % 10)]) ∧ Below w.heap.size w w' := by
  obtain ⟨a1, a2⟩ := h
  go_enter Try.func57, Try.ntmps57
  go_wp2
  go_quiet (fail)
  go_wp2
  go_ret2
  exact ⟨rfl, below_drewN (Below.refl _ _) _⟩

set_option maxRecDepth 100000 in
theorem lz10 (w : World) : Calls Try.prog 62 #[.int .u64 10] w fun e w' => e = .returned (.int .i64 60) ∧ w' = w := by
  go_enter Try.func62, Try.ntmps62
  go_wp2
  go_ret
  exact ⟨by kernel_rfl, rfl⟩

set_option maxRecDepth 100000 in
set_option maxHeartbeats 1000000 in
theorem div10_1 (hi lo : Int) (w : World) (h : Word lo) (h1 : 0 < hi) (h2 : hi < 10) :
    Calls Try.prog 57 #[.int .u64 hi, .int .u64 lo, .int .u64 10] w fun e w' => e = .returned (.tuple #[.int .u64 (V hi lo / 10), .int .u64 (V hi lo % 10)]) ∧ w' = w := by
  obtain ⟨a1, a2⟩ := h
  have h3 : (10 ≤ hi) = False := by simp; omega
  obtain ⟨A, hA⟩ : ∃ A, A = hi * 1152921504606846976 + lo / 16 := ⟨_, rfl⟩
  obtain ⟨B, hB⟩ : ∃ B, B = lo * 1152921504606846976 % 18446744073709551616 := ⟨_, rfl⟩
  have eA : bits BinOp.or IntKind.u64 (hi * 1152921504606846976) (lo / 16) = A := by rw [hA]; exact or_hi hi (lo / 16) _ 60 (by decide) (by omega) (by omega) (by omega) (by omega)
  have eB : IntKind.u64.wrap (lo * 1152921504606846976) = B := by rw [IntKind.wrap_u64, hB]
  have b1 : 0 ≤ B := by omega
  have b2 : B < 18446744073709551616 := by omega
  have c1 : 0 ≤ A := by omega
  have c2 : A < 11529215046068469760 := by omega
  have eC : bits BinOp.and IntKind.u64 B 4294967295 = 0 := by rw [and_mask32 B b1 b2]; omega
  have eD : bits BinOp.and IntKind.u64 11529215046068469760 4294967295 = 0 := by rw [and_mask32 _ (by decide) (by decide)]; decide
  obtain ⟨E, hE⟩ : ∃ E, E = A * 4294967296 + B / 4294967296 - A / 2684354560 * 11529215046068469760 := ⟨_, rfl⟩
  have eE : IntKind.u64.wrap (IntKind.u64.wrap (IntKind.u64.wrap (A * 4294967296) + B / 4294967296) - IntKind.u64.wrap (A / 2684354560 * 11529215046068469760)) = E := by
    simp only [IntKind.wrap_u64]; omega
  have e1 : 0 ≤ E := by omega
  have e2 : E < 11529215046068469760 := by omega
  obtain ⟨R, hR⟩ : ∃ R, R = E * 4294967296 - E / 2684354560 * 11529215046068469760 := ⟨_, rfl⟩
  have eR : IntKind.u64.wrap (IntKind.u64.wrap (IntKind.u64.wrap (E * 4294967296)) - IntKind.u64.wrap (E / 2684354560 * 11529215046068469760)) = R := by
    simp only [IntKind.wrap_u64]; omega
  have fin : Hid (A / 2684354560 * 4294967296 + E / 2684354560 = V hi lo / 10 ∧ R / 1152921504606846976 = V hi lo % 10) := by
    unfold Hid V; omega
  have F : Hid (A = hi * 1152921504606846976 + lo / 16 ∧ B = lo * 1152921504606846976 % 18446744073709551616) := ⟨hA, hB⟩
  clear hA hB hE hR F
  go_enter Try.func57, Try.ntmps57
  go_wp2_with (go_at_call 62; refine (lz10 _).mono ?_; rintro e w' ⟨rfl, rfl⟩)
  refine wp_loop_rounds 1 ?_
  rw [rounds_succ]
  go_wp2
  refine wp_loop_rounds 1 ?_
  rw [rounds_succ]
  go_wp2
  go_ret2
  go_light
  exact ⟨ret_two fin.out.1 fin.out.2, rfl⟩

/-- math/bits.Div64(hi, lo, 10), hi below ten. -/
theorem div10 (hi lo : Int) (w : World) (h : Word lo) (h1 : 0 ≤ hi) (h2 : hi < 10) :
    Calls Try.prog 57 #[.int .u64 hi, .int .u64 lo, .int .u64 10] w fun e w' => e = .returned (.tuple #[.int .u64 (V hi lo / 10), .int .u64 (V hi lo % 10)]) ∧ Below w.heap.size w w' := by
  by_cases g : hi = 0
  · subst g
    have e : V 0 lo = lo := by unfold V; omega
    rw [e]
    exact div10_0 lo w h
  · refine (div10_1 hi lo w h (by omega) h2).mono ?_
    rintro e w' ⟨rfl, rfl⟩
    exact ⟨rfl, Below.refl _ _⟩

/-- u128.cutDigit: a number by ten, and its last digit as a byte of text. -/
theorem cut_any (h l : Int) (w : World) (h1 : Word h) (h2 : Word l) :
    Calls Try.prog 47 #[U h l] w fun e w' => ∃ x y : Int, e = .returned (.tuple #[U x y, .int .u8 (48 + V h l % 10)]) ∧ Word x ∧ Word y ∧ Hid (V x y = V h l / 10) ∧ Below w.heap.size w w' := by
  obtain ⟨a1, a2⟩ := h1
  obtain ⟨b1, b2⟩ := h2
  have c1 : 0 ≤ h % 10 := by omega
  have c2 : h % 10 < 10 := by omega
  have ev : V 0 h = h := by unfold V; omega
  have d0 : ∀ w, Calls Try.prog 57 #[.int .u64 0, .int .u64 h, .int .u64 10] w fun e w' => e = .returned (.tuple #[.int .u64 (h / 10), .int .u64 (h % 10)]) ∧ Below w.heap.size w w' := fun w => div10_0 h w ⟨a1, a2⟩
  obtain ⟨q, hq⟩ : ∃ q, q = V (h % 10) l / 10 := ⟨_, rfl⟩
  obtain ⟨d, hd⟩ : ∃ d, d = V (h % 10) l % 10 := ⟨_, rfl⟩
  have q1 : 0 ≤ q := by rw [hq]; unfold V; omega
  have q2 : q < 18446744073709551616 := by rw [hq]; unfold V; omega
  have d1 : 0 ≤ d := by omega
  have d2 : d < 10 := by omega
  have F : Hid (V (h / 10) q = V h l / 10 ∧ 48 + d = 48 + V h l % 10) := by unfold Hid; rw [hd, hq]; unfold V; omega
  have D : Hid (∀ w, Calls Try.prog 57 #[.int .u64 (h % 10), .int .u64 l, .int .u64 10] w fun e w' => e = .returned (.tuple #[.int .u64 q, .int .u64 d]) ∧ Below w.heap.size w w') := by
    intro w; rw [hq, hd]; exact div10 (h % 10) l w ⟨b1, b2⟩ c1 c2
  have D0 : Hid (∀ w, Calls Try.prog 57 #[.int .u64 0, .int .u64 h, .int .u64 10] w fun e w' => e = .returned (.tuple #[.int .u64 (h / 10), .int .u64 (h % 10)]) ∧ Below w.heap.size w w') := d0
  clear d0 ev hq hd
  go_enter Try.func47, Try.ntmps47
  go_wp2_with fail
  refine (D0.out _).mono ?_
  rintro e w1 ⟨rfl, hb⟩
  obtain ⟨hc, hf⟩ := bcell hb
  have hz : w.heap.size + 1 < w1.heap.size := by have := hb.size; simp at this; omega
  go_wp2_with fail
  refine (D.out _).mono ?_
  rintro e w2 ⟨rfl, hb2⟩
  obtain ⟨hc2, hf2⟩ := bcell hb2
  have hz2 : w.heap.size + 1 < w2.heap.size := by have := hb2.size; omega
  go_wp2_with fail
  refine bodyPost_ret (v := .tuple #[U (h / 10) q, .int .u8 (48 + d)]) (by simp [results, Try.results47, go_sem, hc, hc2, hz]) rfl ⟨h / 10, q, by rw [F.out.2], ⟨by omega, by omega⟩, ⟨q1, q2⟩, F.out.1, ?_⟩
  exact ((((((Below.refl _ _).alloc (Nat.le_refl _) _).alloc (by simp) _).trans (hb.mono (by simp; omega))).trans (hb2.mono (by omega))).setCell (Nat.le_succ _) _).setCell (Nat.le_succ _) _
end Go.Proofs.Ytkpkehbhgfbckaa
