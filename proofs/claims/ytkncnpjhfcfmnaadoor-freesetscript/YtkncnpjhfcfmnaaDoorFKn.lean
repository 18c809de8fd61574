/-
  Walks, not a claim by itself: the chapter's examples. By the verifier.
-/
import Derived.Test.YtkncnpjhfcfmnaaDoorFAwk
namespace Go.Proofs.YtkncnpjhfcfmnaaDoor
open Go.RowKit
def kn0 : Nat → Nat := rdH (b3 3 0 21) 3 3
def kn1 : Nat → Nat := setH kn0 0 2
theorem knC (z : Int) : rdC (b3 3 0 z) = 3 := by kernel_rfl
theorem knB0 : byF 3 (rdH (b3 3 0 21) 3 3) 3 0 = 3 := by kernel_rfl
theorem knB1 : byF 3 (rdH (b3 3 0 21) 3 3) 3 1 = 0 := by kernel_rfl
theorem knB2 : byF 3 (rdH (b3 3 0 21) 3 3) 3 2 = 21 := by kernel_rfl
theorem knB64 : byF 3 (rdH (b3 3 0 64) 3 3) 3 2 = 0 := by kernel_rfl
theorem knB3 : byF 3 (rdH (b3 3 0 3) 3 3) 3 2 = 1 := by kernel_rfl
theorem kn_ok : rdOK 3 (b3 3 0 21) := by
  refine ⟨by decide, ?_, ?_, ?_, fun j hj => ?_⟩
  · rw [knC]; decide
  · rw [knC]; decide
  · rw [knC]; kernel_rfl
  · rw [knC]
    have h : j = 0 ∨ j = 1 ∨ j = 2 := by omega
    rcases h with rfl | rfl | rfl
    · rw [knB0]; rfl
    · rw [knB1]; rfl
    · rw [knB2]; rfl
theorem kn_no64 : ¬ rdOK 3 (b3 3 0 64) := fun h => by
  have := h.2.2.2.2 2 (by decide)
  rw [knC, knB64] at this
  exact absurd this (by decide)
theorem kn_no3 : ¬ rdOK 3 (b3 3 0 3) := fun h => by
  have := h.2.2.2.2 2 (by decide)
  rw [knC, knB3] at this
  exact absurd this (by decide)
theorem knk0 : SOk 3 kn0 := rdH_sok _ 3 3 (by decide) (by decide) (by decide)
theorem knk1 : SOk 3 kn1 := knk0.set 0 2 (by decide)
theorem knE4 : turnE 3 kn0 4 1 = 5 := by kernel_rfl
theorem knT4 : turnH 3 kn0 4 1 2 = kn0 := by unfold turnH; rw [if_neg (by decide)]
theorem knE1 : turnE 3 kn0 1 1 = 0 := by kernel_rfl
theorem knT1 : turnH 3 kn0 1 1 2 = kn1 := by
  unfold turnH
  rw [if_pos (by decide), if_pos (by kernel_rfl)]
  rfl
theorem knE1' : turnE 3 kn1 1 1 = 9 := by kernel_rfl
theorem knT1' : turnH 3 kn1 1 1 2 = kn1 := by
  unfold turnH
  rw [if_pos (by decide), if_neg (by decide +kernel)]
theorem knI1 : isI 3 kn1 1 = 2 := by kernel_rfl
theorem knI0 : isI 3 kn1 0 = -1 := by kernel_rfl
theorem knc0 : cnt kn1 0 3 = 0 := by kernel_rfl
theorem knc1 : cnt kn1 1 3 = 2 := by kernel_rfl
theorem knc2 : cnt kn1 2 3 = 1 := by kernel_rfl
theorem Aw.kept {W X Y : World} {b : Nat} {h : Nat → Nat} (a : Aw W X b h) (hb : Below X.heap.size X Y) (h0 : 0 < W.heap.size) : Aw W Y b h :=
  ⟨a.s.below hb, a.b.trans (hb.mono a.b.size), a.t.below hb (Nat.lt_of_lt_of_le h0 a.b.size)⟩
theorem three_below (W : World) (x y z : Int) : Below W.heap.size W (W.alloc (.cells #[.int .u8 x, .int .u8 y, .int .u8 z] 5)) := (Below.refl _ _).alloc (Nat.le_refl _) _
set_option maxRecDepth 100000 in
set_option maxHeartbeats 1000000 in
theorem known_ok (W : World) (hT : DTab W) (h0 : 0 < W.heap.size) : Calls Tryd.prog 6 #[] W fun e w' => e = .returned (.bool true) ∧ Below W.heap.size W w' := by
  have T := hidIt hT
  have Z := hidIt h0
  have R1 : Hid (Calls Tryd.prog 15 #[.slice (some ⟨W.heap.size, 0, none⟩) 3 3] (W.alloc (.cells #[.int .u8 3, .int .u8 0, .int .u8 21] 5)) fun e w' => ∃ b, e = .returned (.tuple #[.pointer (some ⟨b, 0, none⟩), .int .i64 0]) ∧ W.heap.size ≤ b ∧ Aw W w' b kn0) := by
    refine (read_any _ _ 3 3 _ (three_arg W 3 0 21 (by decide) (by decide) (by decide))).mono ?_
    rintro e w' (⟨_, S, h1, rfl, h2, h3⟩ | ⟨hn, _⟩)
    · rw [knC] at h2
      have b1 := (three_below W 3 0 21).trans (h3.mono (by simp))
      exact ⟨S, rfl, by have := h1; simp at this; omega, h2, b1, hT.below b1 h0⟩
    · exact absurd kn_ok hn
  have AK := hidIt fun (u : World) (hu : DTab u) (h0 : 0 < u.heap.size) => awake_ok u hu h0
  have G1 : Hid (∀ b X, W.heap.size ≤ b → Aw W X b kn0 → Calls Tryd.prog 25 #[.pointer (some ⟨b, 0, none⟩), .int .i64 4] X fun r w' => r = .returned (.int .i64 5) ∧ Aw W w' b kn0) := fun b X l a => by
    refine (release_ok X b 3 kn0 4 a.s knk0).mono ?_
    rw [knE4, knT4]; rintro r w' ⟨rfl, q1, q2, _⟩; exact ⟨rfl, a.step q1 q2 l h0⟩
  have G2 : Hid (∀ b X, W.heap.size ≤ b → Aw W X b kn0 → Calls Tryd.prog 25 #[.pointer (some ⟨b, 0, none⟩), .int .i64 1] X fun r w' => r = .returned (.int .i64 0) ∧ Aw W w' b kn1) := fun b X l a => by
    refine (release_ok X b 3 kn0 1 a.s knk0).mono ?_
    rw [knE1, knT1]; rintro r w' ⟨rfl, q1, q2, _⟩; exact ⟨rfl, a.step q1 q2 l h0⟩
  have G3 : Hid (∀ b X, W.heap.size ≤ b → Aw W X b kn1 → Calls Tryd.prog 25 #[.pointer (some ⟨b, 0, none⟩), .int .i64 1] X fun r w' => r = .returned (.int .i64 9) ∧ Aw W w' b kn1) := fun b X l a => by
    refine (release_ok X b 3 kn1 1 a.s knk1).mono ?_
    rw [knE1', knT1']; rintro r w' ⟨rfl, q1, q2, _⟩; exact ⟨rfl, a.step q1 q2 l h0⟩
  have G4 : Hid (∀ b X, Aw W X b kn1 → Calls Tryd.prog 27 #[.pointer (some ⟨b, 0, none⟩), .int .i64 1] X fun r w' => r = .returned (.int .i64 2) ∧ Aw W w' b kn1) := fun b X a => by
    refine (is_ok X b 3 kn1 1 a.s knk1).mono ?_
    rw [knI1]; rintro r w' ⟨rfl, q1, _⟩; exact ⟨rfl, a.kept q1 h0⟩
  have G5 : Hid (∀ b X, Aw W X b kn1 → Calls Tryd.prog 27 #[.pointer (some ⟨b, 0, none⟩), .int .i64 0] X fun r w' => r = .returned (.int .i64 (-1)) ∧ Aw W w' b kn1) := fun b X a => by
    refine (is_ok X b 3 kn1 0 a.s knk1).mono ?_
    rw [knI0]; rintro r w' ⟨rfl, q1, _⟩; exact ⟨rfl, a.kept q1 h0⟩
  have G6 : Hid (∀ b X, Aw W X b kn1 → Calls Tryd.prog 23 #[.pointer (some ⟨b, 0, none⟩)] X fun r w' => r = .returned (.tuple #[.int .i64 0, .int .i64 2, .int .i64 1]) ∧ Aw W w' b kn1) := fun b X a => by
    refine (counts_ok X b 3 kn1 a.s knk1).mono ?_
    rw [knc0, knc1, knc2]; rintro r w' ⟨rfl, q1⟩; exact ⟨rfl, a.kept q1 h0⟩
  have G7 : Hid (∀ X, Calls Tryd.prog 15 #[.slice (some ⟨X.heap.size, 0, none⟩) 3 3] (X.alloc (.cells #[.int .u8 3, .int .u8 0, .int .u8 64] 5)) fun e w' => e = .returned (.tuple #[.pointer none, .int .i64 4]) ∧ Below X.heap.size X w') := fun X => by
    refine (read_any _ _ 3 3 _ (three_arg X 3 0 64 (by decide) (by decide) (by decide))).mono ?_
    rintro e w' (⟨hn, _⟩ | ⟨_, rfl, h3⟩)
    · exact absurd hn kn_no64
    · exact ⟨rfl, (three_below X 3 0 64).trans (h3.mono (by simp))⟩
  have G8 : Hid (∀ X, Calls Tryd.prog 15 #[.slice (some ⟨X.heap.size, 0, none⟩) 3 3] (X.alloc (.cells #[.int .u8 3, .int .u8 0, .int .u8 3] 5)) fun e w' => e = .returned (.tuple #[.pointer none, .int .i64 4]) ∧ Below X.heap.size X w') := fun X => by
    refine (read_any _ _ 3 3 _ (three_arg X 3 0 3 (by decide) (by decide) (by decide))).mono ?_
    rintro e w' (⟨hn, _⟩ | ⟨_, rfl, h3⟩)
    · exact absurd hn kn_no3
    · exact ⟨rfl, (three_below X 3 0 3).trans (h3.mono (by simp))⟩
  have G9 := hidIt fun (u : World) => new_er u 513 (by decide)
  clear hT h0
  go_enter Tryd.func6, Tryd.ntmps6
  go_wp2_with (first
    | (go_at_call 15; refine R1.out.mono ?_; clear R1; rintro e W1 ⟨b, rfl, l, a⟩; have L := hidIt l; have A1 := hidIt a; clear a l)
    | (go_at_call 11; refine (AK.out _ A1.out.t (Nat.lt_of_lt_of_le Z.out A1.out.b.size)).mono ?_; rintro e W2 ⟨rfl, hb⟩; have A2 := hidIt (A1.out.kept hb Z.out); clear A1 hb)
    | (go_at_call 25; refine (G1.out _ _ L.out A2.out).mono ?_; clear A2 G1; rintro e W3 ⟨rfl, a⟩; have A3 := hidIt a; clear a)
    | (go_at_call 25; refine (G2.out _ _ L.out A3.out).mono ?_; clear A3 G2; rintro e W4 ⟨rfl, a⟩; have A4 := hidIt a; clear a)
    | (go_at_call 25; refine (G3.out _ _ L.out A4.out).mono ?_; clear A4 G3; rintro e W5 ⟨rfl, a⟩; have A5 := hidIt a; clear a)
    | (go_at_call 27; refine (G4.out _ _ A5.out).mono ?_; clear A5 G4; rintro e W6 ⟨rfl, a⟩; have A6 := hidIt a; clear a)
    | (go_at_call 27; refine (G5.out _ _ A6.out).mono ?_; clear A6 G5; rintro e W7 ⟨rfl, a⟩; have A7 := hidIt a; clear a)
    | (go_at_call 23; refine (G6.out _ _ A7.out).mono ?_; clear A7 G6; rintro e W8 ⟨rfl, a⟩; have A8 := hidIt a; clear a)
    | (go_at_call 15; have _q := G7; clear _q; refine (G7.out _).mono ?_; clear G7; rintro e W9 ⟨rfl, hb⟩; have A9 := hidIt (A8.out.kept hb Z.out); clear hb)
    | (go_at_call 15; refine (G8.out _).mono ?_; clear G8; rintro e W10 ⟨rfl, hb⟩; have A10 := hidIt (A9.out.kept hb Z.out); clear hb)
    | (go_at_call 9; refine (G9.out _).mono ?_; rintro e w' ⟨rfl, hw⟩; subst w'))
  go_ret
  exact ⟨rfl, A10.out.b⟩
end Go.Proofs.YtkncnpjhfcfmnaaDoor
