/-
  Walks, not a claim by itself: Read in all cases; the statements' examples. By the verifier.
-/
import Derived.Test.YtkncnpjhfcfmnaaDoorFRd2
namespace Go.Proofs.YtkncnpjhfcfmnaaDoor
open Go.RowKit
/-- Bytes that are a set's. -/
def rdOK (L : Nat) (f : Nat → Int) : Prop := 2 ≤ L ∧ 1 ≤ rdC f ∧ rdC f ≤ 512 ∧ L = szN (rdC f) ∧ ∀ j, j < L → f j = byF (rdC f) (rdH f (rdC f) (rdC f)) (rdC f) j
/-- What Read answers, and what it leaves. -/
def RdPost (W : World) (L : Nat) (f : Nat → Int) (e : Ending) (w' : World) : Prop :=
  (rdOK L f ∧ ∃ S, W.heap.size ≤ S ∧ e = .returned (.tuple #[.pointer (some ⟨S, 0, none⟩), .int .i64 0]) ∧ SAt w' S (rdC f) (rdH f (rdC f) (rdC f)) ∧ Below W.heap.size W w') ∨
  (¬ rdOK L f ∧ e = .returned (.tuple #[.pointer none, .int .i64 4]) ∧ Below W.heap.size W w')
theorem read_any (W : World) (p : Option Addr) (L C : Nat) (f : Nat → Int) (A : Arg W p L f) : Calls Tryd.prog 15 #[.slice p L C] W (RdPost W L f) := by
  by_cases hL : 2 ≤ L
  · rcases A with ⟨h, _⟩ | ⟨_, bb, off, rfl, l⟩
    · omega
    · by_cases hn : 1 ≤ rdC f ∧ rdC f ≤ 512
      · by_cases hs : L = szN (rdC f)
        · refine (read_loop W bb off L C f l hL hn.1 hn.2 hs).mono ?_
          rintro e w' (⟨h1, h2⟩ | ⟨h1, h2⟩)
          · refine .inl ⟨⟨hL, hn.1, hn.2, hs, fun j hj => ?_⟩, h2⟩
            have q := txtN_inj (fun j _ => byF_range _ _ (rdH_sok f (rdC f) (rdC f) hn.1 hn.2 (Nat.le_refl _)).le hn.2 _ j) l.2.1 h1
            exact (q.2 j (by omega)).symm
          · refine .inr ⟨fun hk => h1 ?_, h2⟩
            rw [← hs]
            exact txtN_congr _ _ _ fun j hj => (hk.2.2.2.2 j hj).symm
        · refine (read_len W bb off L C f l hL hn.1 hn.2 hs).mono ?_
          rintro e w' h2
          exact .inr ⟨fun hk => hs hk.2.2.2.1, h2⟩
      · refine (read_n W bb off L C f l hL (by omega)).mono ?_
        rintro e w' h2
        exact .inr ⟨fun hk => hn ⟨hk.2.1, hk.2.2.1⟩, h2⟩
  · refine (read_short W p L C (by omega)).mono ?_
    rintro e w' ⟨h1, rfl⟩
    exact .inr ⟨fun hk => hL hk.1, h1, Below.refl _ _⟩
theorem DTab.but {W W' : World} {b : Nat} (h : DTab W) (hb : But b W W') (h0 : 0 < b) (h1 : 0 < W.heap.size) : DTab W' := fun j hj => (hb.cell (p := ⟨0, j, none⟩) h1 (by show (0 : Nat) ≠ b; omega)).trans (h j hj)
theorem DTab.below {W W' : World} (h : DTab W) (hb : Below W.heap.size W W') (h1 : 0 < W.heap.size) : DTab W' := fun j hj => (hb.cell (p := ⟨0, j, none⟩) h1).trans (h j hj)
/-- Does Acquire answer so? -/
def getB (o : Option Nat) (x e : Int) : Bool := match o with
  | some i => ((i : Int) + 1 == x) && ((0 : Int) == e)
  | none => ((0 : Int) == x) && ((8 : Int) == e)
theorem gets_ok (W : World) (b n : Nat) (h : Nat → Nat) (x e : Int) (s : SAt W b n h) (k : SOk n h) (hT : DTab W) : Calls Tryd.prog 32 #[.pointer (some ⟨b, 0, none⟩), .int .i64 x, .int .i64 e] W fun r w' => r = .returned (.bool (getB (low (fr h)) x e)) ∧ SAt w' b n (acqH h (low (fr h))) ∧ But b W w' := by
  have A := hidIt (acquire_ok W b n h s k hT)
  clear s k hT
  cases hl : low (fr h) with
  | some i =>
    rw [hl] at A
    unfold acqV at A
    have q : getB (some i) x e = (((i : Int) + 1 == x) && ((0 : Int) == e)) := rfl
    rw [q]
    cases h1 : ((i : Int) + 1 == x) with
    | true =>
      go_enter Tryd.func32, Tryd.ntmps32
      go_wp2_with (go_at_call 22; refine A.out.mono ?_; rintro r w' ⟨rfl, z⟩; have Z := hidIt z; clear z)
      go_ret
      exact ⟨by simp, Z.out⟩
    | false =>
      go_enter Tryd.func32, Tryd.ntmps32
      go_wp2_with (go_at_call 22; refine A.out.mono ?_; rintro r w' ⟨rfl, z⟩; have Z := hidIt z; clear z)
      go_ret
      exact ⟨by simp, Z.out⟩
  | none =>
    rw [hl] at A
    unfold acqV at A
    have q : getB none x e = (((0 : Int) == x) && ((8 : Int) == e)) := rfl
    rw [q]
    cases h1 : ((0 : Int) == x) with
    | true =>
      go_enter Tryd.func32, Tryd.ntmps32
      go_wp2_with (go_at_call 22; refine A.out.mono ?_; rintro r w' ⟨rfl, z⟩; have Z := hidIt z; clear z)
      go_ret
      exact ⟨by simp, Z.out⟩
    | false =>
      go_enter Tryd.func32, Tryd.ntmps32
      go_wp2_with (go_at_call 22; refine A.out.mono ?_; rintro r w' ⟨rfl, z⟩; have Z := hidIt z; clear z)
      go_ret
      exact ⟨by simp, Z.out⟩
/-- The example's sets, one behind the other. -/
def aw0 : Nat → Nat := iniH 3
def aw1 : Nat → Nat := setH aw0 0 1
def aw2 : Nat → Nat := setH aw1 1 1
def aw3 : Nat → Nat := setH aw2 0 2
def aw4 : Nat → Nat := setH aw3 2 1
def aw5 : Nat → Nat := setl aw4
def aw6 : Nat → Nat := setH aw5 0 1
theorem awl0 : low (fr aw0) = some 0 := by kernel_rfl
theorem awl1 : low (fr aw1) = some 1 := by kernel_rfl
theorem awl3 : low (fr aw3) = some 2 := by kernel_rfl
theorem awl4 : low (fr aw4) = none := by kernel_rfl
theorem awl5 : low (fr aw5) = some 0 := by kernel_rfl
theorem awc4 : cnt aw4 2 3 = 1 := by kernel_rfl
theorem awt2 : turnH 3 aw2 1 1 2 = aw3 := by
  unfold turnH
  rw [if_pos (by decide), if_pos (by kernel_rfl)]
  rfl
theorem awe2 : turnE 3 aw2 1 1 = 0 := by kernel_rfl
theorem awk0 : SOk 3 aw0 := ini_sok 3 (by decide) (by decide)
theorem awk1 : SOk 3 aw1 := awk0.set 0 1 (by decide)
theorem awk2 : SOk 3 aw2 := awk1.set 1 1 (by decide)
theorem awk3 : SOk 3 aw3 := awk2.set 0 2 (by decide)
theorem awk4 : SOk 3 aw4 := awk3.set 2 1 (by decide)
theorem awk5 : SOk 3 aw5 := awk4.setl
theorem awk6 : SOk 3 aw6 := awk5.set 0 1 (by decide)
def b3 (x y z : Int) (j : Nat) : Int := if j = 0 then x else if j = 1 then y else z
theorem aw6_0 : byF 3 aw6 3 0 = 3 := by kernel_rfl
theorem aw6_1 : byF 3 aw6 3 1 = 0 := by kernel_rfl
theorem aw6_2 : byF 3 aw6 3 2 = 21 := by kernel_rfl
theorem aw6_bytes (j : Nat) (hj : j < 3) : byF 3 aw6 3 j = b3 3 0 21 j := by
  have h : j = 0 ∨ j = 1 ∨ j = 2 := by omega
  rcases h with rfl | rfl | rfl
  · exact aw6_0
  · exact aw6_1
  · exact aw6_2
/-- Three bytes that are laid. -/
theorem three_arg (W : World) (x y z : Int) (hx : 0 ≤ x ∧ x < 256) (hy : 0 ≤ y ∧ y < 256) (hz : 0 ≤ z ∧ z < 256) : Arg (W.alloc (.cells #[.int .u8 x, .int .u8 y, .int .u8 z] 5)) (some ⟨W.heap.size, 0, none⟩) 3 (b3 x y z) := by
  refine .inr ⟨by omega, W.heap.size, 0, rfl, fun j hj => ?_, fun j hj => ?_, by simp⟩
  · rw [World.cell?_alloc_at _ _ _ _ rfl]
    have h : j = 0 ∨ j = 1 ∨ j = 2 := by omega
    rcases h with rfl | rfl | rfl <;> rfl
  · have h : j = 0 ∨ j = 1 ∨ j = 2 := by omega
    rcases h with rfl | rfl | rfl
    · exact hx
    · exact hy
    · exact hz
/-- A world in which a set of three lies, made behind W. -/
structure Aw (W X : World) (b : Nat) (h : Nat → Nat) : Prop where
  s : SAt X b 3 h
  b : Below W.heap.size W X
  t : DTab X
theorem Aw.step {W X Y : World} {b : Nat} {h h' : Nat → Nat} (a : Aw W X b h) (s : SAt Y b 3 h') (hb : But b X Y) (hl : W.heap.size ≤ b) (h0 : 0 < W.heap.size) : Aw W Y b h' :=
  ⟨s, a.b.trans (hb.below hl a.b.size), a.t.but hb (by omega) (Nat.lt_of_lt_of_le h0 a.b.size)⟩
set_option maxRecDepth 100000 in
set_option maxHeartbeats 1000000 in
theorem awake_ok (W : World) (hT : DTab W) (h0 : 0 < W.heap.size) : Calls Tryd.prog 11 #[] W fun e w' => e = .returned (.bool true) ∧ Below W.heap.size W w' := by
  have T := hidIt hT
  have Z := hidIt h0
  obtain ⟨b, hb⟩ : ∃ b, W.heap.size = b := ⟨_, rfl⟩
  have L : Hid (W.heap.size ≤ b) := Nat.le_of_eq hb
  have N : Hid (Calls Tryd.prog 9 #[.int .i64 3] W fun e w' => e = .returned (.tuple #[.pointer (some ⟨b, 0, none⟩), .int .i64 0]) ∧ Aw W w' b aw0) := by
    refine Calls.mono (new_ok W 3 (by decide) (by decide)) ?_
    rintro e w' ⟨rfl, q1, q2⟩
    rw [hb] at q1
    exact ⟨by rw [hb], q1, q2, hT.below q2 h0⟩
  have G0 : Hid (∀ X, Aw W X b aw0 → Calls Tryd.prog 32 #[.pointer (some ⟨b, 0, none⟩), .int .i64 1, .int .i64 0] X fun r w' => r = .returned (.bool true) ∧ Aw W w' b aw1) := fun X a => by
    refine (gets_ok X b 3 aw0 1 0 a.s awk0 a.t).mono ?_
    rw [awl0]; rintro r w' ⟨rfl, q1, q2⟩; exact ⟨rfl, a.step q1 q2 L.out Z.out⟩
  have G1 : Hid (∀ X, Aw W X b aw1 → Calls Tryd.prog 32 #[.pointer (some ⟨b, 0, none⟩), .int .i64 2, .int .i64 0] X fun r w' => r = .returned (.bool true) ∧ Aw W w' b aw2) := fun X a => by
    refine (gets_ok X b 3 aw1 2 0 a.s awk1 a.t).mono ?_
    rw [awl1]; rintro r w' ⟨rfl, q1, q2⟩; exact ⟨rfl, a.step q1 q2 L.out Z.out⟩
  have G2 : Hid (∀ X, Aw W X b aw2 → Calls Tryd.prog 25 #[.pointer (some ⟨b, 0, none⟩), .int .i64 1] X fun r w' => r = .returned (.int .i64 0) ∧ Aw W w' b aw3) := fun X a => by
    refine (release_ok X b 3 aw2 1 a.s awk2).mono ?_
    rw [awe2, awt2]; rintro r w' ⟨rfl, q1, q2, _⟩; exact ⟨rfl, a.step q1 q2 L.out Z.out⟩
  have G3 : Hid (∀ X, Aw W X b aw3 → Calls Tryd.prog 32 #[.pointer (some ⟨b, 0, none⟩), .int .i64 3, .int .i64 0] X fun r w' => r = .returned (.bool true) ∧ Aw W w' b aw4) := fun X a => by
    refine (gets_ok X b 3 aw3 3 0 a.s awk3 a.t).mono ?_
    rw [awl3]; rintro r w' ⟨rfl, q1, q2⟩; exact ⟨rfl, a.step q1 q2 L.out Z.out⟩
  have G4 : Hid (∀ X, Aw W X b aw4 → Calls Tryd.prog 32 #[.pointer (some ⟨b, 0, none⟩), .int .i64 0, .int .i64 8] X fun r w' => r = .returned (.bool true) ∧ Aw W w' b aw4) := fun X a => by
    refine (gets_ok X b 3 aw4 0 8 a.s awk4 a.t).mono ?_
    rw [awl4]; rintro r w' ⟨rfl, q1, q2⟩; exact ⟨rfl, a.step q1 q2 L.out Z.out⟩
  have G5 : Hid (∀ X, Aw W X b aw4 → Calls Tryd.prog 26 #[.pointer (some ⟨b, 0, none⟩)] X fun r w' => r = .returned (.int .i64 1) ∧ Aw W w' b aw5) := fun X a => by
    refine (settle_ok X b 3 aw4 a.s awk4).mono ?_
    rw [awc4]; rintro r w' ⟨rfl, q1, q2⟩; exact ⟨rfl, a.step q1 q2 L.out Z.out⟩
  have G6 : Hid (∀ X, Aw W X b aw5 → Calls Tryd.prog 32 #[.pointer (some ⟨b, 0, none⟩), .int .i64 1, .int .i64 0] X fun r w' => r = .returned (.bool true) ∧ Aw W w' b aw6) := fun X a => by
    refine (gets_ok X b 3 aw5 1 0 a.s awk5 a.t).mono ?_
    rw [awl5]; rintro r w' ⟨rfl, q1, q2⟩; exact ⟨rfl, a.step q1 q2 L.out Z.out⟩
  have G7 : Hid (∀ X, Aw W X b aw6 → Calls Tryd.prog 20 #[.pointer (some ⟨b, 0, none⟩)] X fun r w' => r = .returned (.slice (some ⟨X.heap.size, 0, none⟩) 3 3) ∧ Arg w' (some ⟨X.heap.size, 0, none⟩) 3 (b3 3 0 21) ∧ Below W.heap.size W w') := fun X a => by
    refine (bytes_ok X b 3 aw6 a.s awk6).mono ?_
    rintro r w' ⟨rfl, q1, q2⟩
    exact ⟨rfl, (Arg.of (q1.lies (fun j _ => byF_range _ _ awk6.le (by decide) _ j))).congr (fun j hj => aw6_bytes j hj), a.b.trans (q2.mono a.b.size)⟩
  clear hT h0 hb
  go_enter Tryd.func11, Tryd.ntmps11
  go_wp2_with (first
    | (go_at_call 9; refine N.out.mono ?_; clear N; rintro e W1 ⟨rfl, a⟩; have A0 := hidIt a; clear a)
    | (go_at_call 32; refine (G0.out _ A0.out).mono ?_; clear A0 G0; rintro e W2 ⟨rfl, a⟩; have A1 := hidIt a; clear a)
    | (go_at_call 32; refine (G1.out _ A1.out).mono ?_; clear A1 G1; rintro e W3 ⟨rfl, a⟩; have A2 := hidIt a; clear a)
    | (go_at_call 25; refine (G2.out _ A2.out).mono ?_; clear A2 G2; rintro e W4 ⟨rfl, a⟩; have A3 := hidIt a; clear a)
    | (go_at_call 32; refine (G3.out _ A3.out).mono ?_; clear A3 G3; rintro e W5 ⟨rfl, a⟩; have A4 := hidIt a; clear a)
    | (go_at_call 32; have _q := G4; clear _q; refine (G4.out _ A4.out).mono ?_; clear A4 G4; rintro e W6 ⟨rfl, a⟩; have A5 := hidIt a; clear a)
    | (go_at_call 26; refine (G5.out _ A5.out).mono ?_; clear A5 G5; rintro e W7 ⟨rfl, a⟩; have A6 := hidIt a; clear a)
    | (go_at_call 32; refine (G6.out _ A6.out).mono ?_; clear A6 G6; rintro e W8 ⟨rfl, a⟩; have A7 := hidIt a; clear a)
    | (go_at_call 20; refine (G7.out _ A7.out).mono ?_; clear G7; rintro e W9 ⟨rfl, a1, a2⟩; have A8 := hidIt a1; have A9 := hidIt a2; clear a1 a2)
    | (go_at_call 19; refine (same_any _ _ 3 3 3 3 (b3 3 0 21) (b3 3 0 21) _ (A8.out.below ((Below.refl _ _).alloc (Nat.le_refl _) _)) (three_arg _ 3 0 21 (by decide) (by decide) (by decide))).mono ?_; rintro e w' ⟨rfl, hw⟩; subst hw))
  go_ret
  exact ⟨rfl, A9.out.alloc A9.out.size _⟩
end Go.Proofs.YtkncnpjhfcfmnaaDoor
