/-
  Walks, not a claim by itself: U128Adds comes out true. By the verifier.
-/
import Derived.Test.YtkpkehbhgfbckaaAwake
import Derived.Test.YtkpkehbhgfbckaaUApp
import Derived.Test.YtkpkehbhgfbckaaRSum
namespace Go.Proofs.Ytkpkehbhgfbckaa
open Go.RowKit
set_option maxHeartbeats 1000000 in
theorem adds_long (a : Option Addr) (n C : Nat) (w : World) (h : 1000 < n) :
    Calls Try.prog 4 #[.slice a n C] w fun e w' => e = .returned (.bool true) ∧ Below w.heap.size w w' := by
  have e1 : (1000 : Int) < n := by omega
  go_enter Try.func4, Try.ntmps4
  go_wp2_with fail
  go_ret
  exact ⟨rfl, Below.refl _ _⟩
/-- What holds at the head of U128Adds' loop. -/
def AddsRel (w : World) (x a : Option Addr) (n P Q : Nat) (p q : Int) (F : Nat → Int) (i : Value) (wr : World) : Prop := ∃ k : Nat, k ≤ n ∧ i = .int .i64 k ∧ AtW wr P p q ∧ AtW wr Q p q ∧ NArg wr x n F ∧ NArg wr a n F ∧ Below w.heap.size w wr
theorem adds_step {w wr : World} {x a : Option Addr} {n P Q : Nat} {p q : Int} {F : Nat → Int} {k : Nat} (hk : k < n) (h1 : AtW wr P p q) (h2 : AtW wr Q p q) (h3 : NArg wr x n F) (h4 : NArg wr a n F) (h5 : Below w.heap.size w wr) : AddsRel w x a n P Q p q F (.int .i64 ((k : Int) + 1)) wr.drew :=
  have d : Below wr.heap.size wr wr.drew := (Below.refl _ _).drew
  ⟨k + 1, by omega, by go_num, h1.below d, h2.below d, h3.below d, h4.below d, h5.drew⟩
set_option maxRecDepth 100000 in
set_option maxHeartbeats 2000000 in
theorem adds_any (a : Option Addr) (n C : Nat) (F : Nat → Int) (w : World) (h : NArg w a n F) (hn : n ≤ 1000) :
    Calls Try.prog 4 #[.slice a n C] w fun e w' => e = .returned (.bool true) ∧ Below w.heap.size w w' := by
  have e1 : ¬ (1000 : Int) < n := by omega
  have hN : (n : Int) ≤ 1000 := by omega
  have b0 : Below w.heap.size w (w.alloc (.cells #[] 24)) := (Below.refl _ _).alloc (Nat.le_refl _) _
  have HA : Hid (NArg w a n F) := h
  obtain ⟨x, c, W1, hrun, hN1, hB1⟩ := napp 31 w _ n C a F rfl (h.below b0) hn
  have X1 : Hid (NArg W1 x n F) := hN1
  have E1 : Hid (Below w.heap.size w W1) := b0.trans hB1
  have L1 : Hid (NArg W1 a n F) := HA.out.below E1.out
  have RUN : Hid ((Builtin.append_ #[31, 31] 31 #[.slice (some ⟨w.heap.size, 0, none⟩) 0 0, .slice a n C]).run Try.prog (w.alloc (.cells #[] 24)) = .ok (.slice x n c) W1) := hrun
  clear hrun hN1 hB1 b0 h HA
  go_enter Try.func4, Try.ntmps4
  go_wp2_with (refine wpList_append_go rfl (.tmp 12) (.tmp 13) 31 31 rfl _ _ rfl rfl RUN.out ?_)
  refine (usum_any x n c F _ X1.out hn).mono ?_
  rintro e W2 ⟨rfl, hB2⟩
  have X2 : Hid (NArg W2 x n F) := X1.out.below hB2
  have L2 : Hid (NArg W2 a n F) := L1.out.below hB2
  have E2 : Hid (Below w.heap.size w W2) := E1.out.trans (hB2.mono E1.out.size)
  clear hB2 X1 L1 E1 RUN
  obtain ⟨p, q, o, hs⟩ : ∃ p q o, sumV (tot F n) = .tuple #[U p q, .bool o] := by
    unfold sumV; split
    · exact ⟨_, _, _, rfl⟩
    · exact ⟨_, _, _, rfl⟩
  have HS : Hid (sumV (tot F n) = .tuple #[U p q, .bool o]) := hs
  rw [hs]
  clear hs
  go_wp2_with fail
  refine (rsum_any a n C F _ (L2.out.below ((Below.refl _ _).alloc (Nat.le_refl _) _)) hn).mono ?_
  rintro e W3 ⟨rfl, hB3⟩
  have P3 := (AtW.new W2 p q 24).below hB3
  have K3 : Below W2.heap.size W2 W3 := ((Below.refl _ _).alloc (Nat.le_refl _) _).trans (hB3.mono (by simp))
  have X3 : Hid (NArg W3 x n F) := X2.out.below K3
  have L3 : Hid (NArg W3 a n F) := L2.out.below K3
  have E3 : Hid (Below w.heap.size w W3) := E2.out.trans (K3.mono E2.out.size)
  clear hB3 K3 X2 L2 E2
  rw [HS.out]
  clear HS
  go_wp2_with fail
  have d3 : Below W3.heap.size W3 (W3.alloc (.cells #[.int .u64 p, .int .u64 q] 24)) := (Below.refl _ _).alloc (Nat.le_refl _) _
  have ST : Hid (AddsRel w x a n W2.heap.size W3.heap.size p q F (.int .i64 0) (W3.alloc (.cells #[.int .u64 p, .int .u64 q] 24))) :=
    ⟨0, Nat.zero_le _, rfl, P3.below d3, AtW.new W3 p q _, X3.out.below d3, L3.out.below d3, E3.out.trans (d3.mono E3.out.size)⟩
  clear d3 P3 X3 L3 E3
  generalize W3.alloc (.cells #[.int .u64 p, .int .u64 q] 24) = W4 at ST ⊢
  generalize W3.heap.size = Q at ST ⊢
  generalize W2.heap.size = P at ST ⊢
  go_loopw [8] (fun i wr => AddsRel w x a n P Q p q F i wr) (fun i _ => n - (intOf i).toNat)
  case atStart => exact ST.out
  case round =>
    obtain ⟨k, hk, rfl, hP, hQ, hX, hL, hB⟩ := hrel
    clear ST
    have PE : Hid (AtW wr P p q) := hP
    have QE : Hid (AtW wr Q p q) := hQ
    have XE : Hid (NArg wr x n F) := hX
    have LE : Hid (NArg wr a n F) := hL
    have BE : Hid (Below w.heap.size w wr) := hB
    by_cases hlt : k < n
    · rcases hX with h0 | ⟨g, o1, rfl, hx⟩
      · omega
      rcases hL with h0 | ⟨b, o2, rfl, hl⟩
      · omega
      have c1 := hx.1 (k * 2) (by omega)
      have c2 := hx.1 (k * 2 + 1) (by omega)
      have c3 := hl.1 (k * 2) (by omega)
      have c4 := hl.1 (k * 2 + 1) (by omega)
      rw [← Nat.add_assoc] at c2 c4
      have i0 : (k : Int) < n := by omega
      have i1 : (0 : Int) ≤ (k : Int) := by omega
      clear hx hl hP hQ hB
      go_wp2_with fail
      go_region
      go_wp2_with fail
      exact ⟨adds_step hlt PE.out QE.out XE.out LE.out BE.out, by simp [intOf]; omega⟩
    · obtain rfl : k = n := by omega
      obtain ⟨p0, p1, _, _, p4⟩ := hP
      obtain ⟨q0, q1, _, _, q4⟩ := hQ
      clear hX hL hB
      go_wp2_with fail
      refine (awake_any _).mono ?_
      rintro e w6 ⟨rfl, hB6⟩
      go_wp2_with fail
      go_ret
      exact ⟨rfl, BE.out.trans (hB6.mono BE.out.size)⟩
theorem adds_all (a : Option Addr) (n C : Nat) (F : Nat → Int) (w : World) (h : NArg w a n F) :
    Calls Try.prog 4 #[.slice a n C] w fun e w' => e = .returned (.bool true) ∧ Below w.heap.size w w' := by
  by_cases hn : n ≤ 1000
  · exact adds_any a n C F w h hn
  · exact adds_long a n C w (by omega)
end Go.Proofs.Ytkpkehbhgfbckaa
