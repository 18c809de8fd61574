/-
  Walks, not a claim by itself: a set, and how its blocks are. By the verifier.
-/
import Derived.Test.YtkncnpjhfcfmnaaDoorFWith
import Derived.LaidEql
namespace Go.Proofs.YtkncnpjhfcfmnaaDoor
open Go.RowKit
/-- Which are free, which are let go. -/
def fr (h : Nat → Nat) (i : Nat) : Bool := decide (h i = 0)
def gn (h : Nat → Nat) (i : Nat) : Bool := decide (h i = 2)
/-- How a block is once it is put so. -/
def putS (x : Nat) : Nat := if x = 0 then 0 else if x = 2 then 2 else 1
def setH (h : Nat → Nat) (i x : Nat) (j : Nat) : Nat := if j = i then putS x else h j
theorem fr_set (h : Nat → Nat) (i x : Nat) : fr (setH h i x) = updB (fr h) i (decide (x = 0)) := by
  funext j; unfold fr setH updB putS
  by_cases e : j = i
  · rw [if_pos e, if_pos e]; by_cases e0 : x = 0
    · simp [e0]
    · by_cases e2 : x = 2 <;> simp [e0, e2]
  · rw [if_neg e, if_neg e]
theorem gn_set (h : Nat → Nat) (i x : Nat) : gn (setH h i x) = updB (gn h) i (decide (x = 2)) := by
  funext j; unfold gn setH updB putS
  by_cases e : j = i
  · rw [if_pos e, if_pos e]; by_cases e0 : x = 0
    · simp [e0]
    · by_cases e2 : x = 2 <;> simp [e0, e2]
  · rw [if_neg e, if_neg e]
/-- A set in memory. -/
structure SAt (W : World) (b n : Nat) (h : Nat → Nat) : Prop where
  c0 : W.cell? ⟨b, 0, none⟩ = some (.pointer (some ⟨b, 0, none⟩))
  c1 : W.cell? ⟨b, 1, none⟩ = some (.int .i64 (n : Int))
  fw : WAt W b 2 (fr h)
  gw : WAt W b 10 (gn h)
/-- What holds of every set. -/
structure SOk (n : Nat) (h : Nat → Nat) : Prop where
  n1 : 1 ≤ n
  n2 : n ≤ 512
  out : ∀ i, n ≤ i → h i = 1
  le : ∀ i, h i ≤ 2
theorem SAt.l {W : World} {b n : Nat} {h : Nat → Nat} (s : SAt W b n h) : b < W.heap.size := s.fw.l
theorem SAt.below {W W' : World} {b n : Nat} {h : Nat → Nat} (s : SAt W b n h) (hb : Below W.heap.size W W') : SAt W' b n h :=
  ⟨(hb.cell (p := ⟨b, 0, none⟩) s.l).trans s.c0, (hb.cell (p := ⟨b, 1, none⟩) s.l).trans s.c1, s.fw.below hb, s.gw.below hb⟩
theorem SAt.but {W W' : World} {b n x : Nat} {h : Nat → Nat} (s : SAt W b n h) (hb : But x W W') (hn : b ≠ x) : SAt W' b n h :=
  ⟨(hb.cell (p := ⟨b, 0, none⟩) s.l hn).trans s.c0, (hb.cell (p := ⟨b, 1, none⟩) s.l hn).trans s.c1, s.fw.but hb hn, s.gw.but hb hn⟩
theorem putS_le (x : Nat) : putS x ≤ 2 := by unfold putS; split; · omega
                                             · split <;> omega
theorem SOk.set {n : Nat} {h : Nat → Nat} (s : SOk n h) (i x : Nat) (hi : i < n) : SOk n (setH h i x) :=
  ⟨s.n1, s.n2, fun j hj => by unfold setH; rw [if_neg (by omega)]; exact s.out j hj, fun j => by
    unfold setH
    split
    · exact putS_le x
    · exact s.le j⟩
/-- The same heap, but for what was drawn. -/
def Same (W w' : World) : Prop := Below W.heap.size W w' ∧ w'.heap.size = W.heap.size
theorem Same.refl (W : World) : Same W W := ⟨Below.refl _ _, rfl⟩
theorem Same.drew (W : World) : Same W W.drew := ⟨(Below.refl _ _).drew, rfl⟩
theorem Same.trans {U V W : World} (h : Same U V) (k : Same V W) : Same U W := ⟨h.1.trans (k.1.mono (by rw [h.2]; exact Nat.le_refl _)), k.2.trans h.2⟩
theorem eqis_ptr (d : Nat) (a : Addr) (w : World) : (Op.equalIn (d + 1) 23 (.pointer (some a)) (.pointer (some a))).run Tryd.prog w = .ok true w := by
  simp [Op.equalIn, run_underlying Tryd.underlying23, run_sameAddr_same]
theorem eqls_ptr (a : Addr) (w : World) : (binOp .eql 23 (.pointer (some a)) (.pointer (some a))).run Tryd.prog w = .ok (.bool true) w := by
  have h : (Op.equal 23 (.pointer (some a)) (.pointer (some a))).run Tryd.prog w = .ok true w := eqis_ptr 9999 a w
  simp only [binOp]
  simp [h]
theorem eqis_nil (d : Nat) (a : Addr) (w : World) : (Op.equalIn (d + 1) 23 (.pointer none) (.pointer (some a))).run Tryd.prog w = .ok false w := by
  simp [Op.equalIn, run_underlying Tryd.underlying23]
theorem eqls_nil (a : Addr) (w : World) : (binOp .eql 23 (.pointer none) (.pointer (some a))).run Tryd.prog w = .ok (.bool false) w := by
  have h : (Op.equal 23 (.pointer none) (.pointer (some a))).run Tryd.prog w = .ok false w := eqis_nil 9999 a w
  simp only [binOp]
  simp [h]
theorem smade_ok (W : World) (b n : Nat) (h : Nat → Nat) (s : SAt W b n h) : Calls Tryd.prog 42 #[.pointer (some ⟨b, 0, none⟩)] W fun e w' => e = .returned (.bool true) ∧ w' = W := by
  have c0 := s.c0
  have hp := eqls_ptr ⟨b, 0, none⟩
  clear s
  go_enter Tryd.func42, Tryd.ntmps42
  go_wp2_with fail
  go_ret
  exact ⟨rfl, rfl⟩
theorem smade_nil (W : World) : Calls Tryd.prog 42 #[.pointer none] W fun e w' => e = .returned (.bool false) ∧ w' = W := by
  go_enter Tryd.func42, Tryd.ntmps42
  go_wp2_with fail
  go_ret
  exact ⟨rfl, rfl⟩
theorem smade_no (W : World) (b : Nat) (c0 : W.cell? ⟨b, 0, none⟩ = some (.pointer none)) : Calls Tryd.prog 42 #[.pointer (some ⟨b, 0, none⟩)] W fun e w' => e = .returned (.bool false) ∧ w' = W := by
  have hp := eqls_nil ⟨b, 0, none⟩
  go_enter Tryd.func42, Tryd.ntmps42
  go_wp2_with fail
  go_ret
  exact ⟨rfl, rfl⟩
/-- Is there such a block? -/
def hasI (n : Nat) (x : Int) : Bool := decide (1 ≤ x) && decide (x ≤ (n : Int))
theorem shas_ok (W : World) (b n : Nat) (h : Nat → Nat) (x : Int) (s : SAt W b n h) : Calls Tryd.prog 48 #[.pointer (some ⟨b, 0, none⟩), .int .i64 x] W fun e w' => e = .returned (.bool (hasI n x)) ∧ w' = W := by
  have c1 := s.c1
  clear s
  by_cases h1 : 1 ≤ x
  · by_cases h2 : x ≤ (n : Int)
    · rw [show hasI n x = true by simp [hasI, h1, h2]]
      go_enter Tryd.func48, Tryd.ntmps48
      go_wp2_with fail
      go_ret
      exact ⟨rfl, rfl⟩
    · rw [show hasI n x = false by simp [hasI, h1, h2]]
      go_enter Tryd.func48, Tryd.ntmps48
      go_wp2_with fail
      go_ret
      exact ⟨rfl, rfl⟩
  · rw [show hasI n x = false by simp [hasI, h1]]
    go_enter Tryd.func48, Tryd.ntmps48
    go_wp2_with fail
    go_ret
    exact ⟨rfl, rfl⟩
theorem how_ok (W : World) (b n : Nat) (h : Nat → Nat) (i : Nat) (hi : i < 512) (hle : h i ≤ 2) (s : SAt W b n h) : Calls Tryd.prog 49 #[.pointer (some ⟨b, 0, none⟩), .int .i64 ((i : Int) + 1)] W fun e w' => e = .returned (.int .i64 ((h i : Nat) : Int)) ∧ Same W w' := by
  have A := whas_ok b 2 (fr h) i hi W s.fw
  have B := hidIt fun (u : World) (hu : WAt u b 10 (gn h)) => whas_ok b 10 (gn h) i hi u hu
  have G := hidIt s.gw.drew
  have L := s.l
  clear s
  by_cases h0 : h i = 0
  · rw [show fr h i = true by simp [fr, h0]] at A
    go_enter Tryd.func49, Tryd.ntmps49
    go_wp2_with (go_at_call 55; refine A.mono ?_; rintro e w' ⟨rfl, hw⟩; subst hw)
    go_ret
    exact ⟨by simp [h0], Same.drew _⟩
  · rw [show fr h i = false by simp [fr, h0]] at A
    by_cases h2 : h i = 2
    · have B' := hidIt (B.out _ G.out)
      rw [show gn h i = true by simp [gn, h2]] at B'
      go_enter Tryd.func49, Tryd.ntmps49
      go_wp2_with (first | (go_at_call 55; have _q := L; clear L; refine A.mono ?_; rintro e w' ⟨rfl, hw⟩; subst hw) | (go_at_call 55; refine B'.out.mono ?_; rintro e w' ⟨rfl, hw⟩; subst hw))
      go_ret
      exact ⟨by simp [h2], (Same.drew _).trans (Same.drew _)⟩
    · have h1 : h i = 1 := by omega
      have B' := hidIt (B.out _ G.out)
      rw [show gn h i = false by simp [gn, h1]] at B'
      go_enter Tryd.func49, Tryd.ntmps49
      go_wp2_with (first | (go_at_call 55; have _q := L; clear L; refine A.mono ?_; rintro e w' ⟨rfl, hw⟩; subst hw) | (go_at_call 55; refine B'.out.mono ?_; rintro e w' ⟨rfl, hw⟩; subst hw))
      go_ret
      exact ⟨by simp [h1], (Same.drew _).trans (Same.drew _)⟩
theorem sput_ok (W : World) (b n : Nat) (h : Nat → Nat) (i x : Nat) (hi : i < 512) (s : SAt W b n h) : Calls Tryd.prog 31 #[.pointer (some ⟨b, 0, none⟩), .int .i64 ((i : Int) + 1), .int .i64 (x : Int)] W fun e w' => e = .returned (.tuple #[]) ∧ SAt w' b n (setH h i x) ∧ But b W w' ∧ w'.heap.size = W.heap.size := by
  have A := hidIt (wput_ok b 2 (fr h) i hi (decide (x = 0)) W s.fw)
  have B := hidIt fun (u : World) (hu : WAt u b 10 (gn h)) => wput_ok b 10 (gn h) i hi (decide (x = 2)) u hu
  have S := hidIt s
  clear s
  have e0 : ((x : Int) == 0) = decide (x = 0) := by rw [Bool.eq_iff_iff]; simp
  have e2 : ((x : Int) == 2) = decide (x = 2) := by rw [Bool.eq_iff_iff]; simp; omega
  go_enter Tryd.func31, Tryd.ntmps31
  go_wp2_with (first
    | (go_at_call 51; refine A.out.mono ?_; clear A; rintro e w1 ⟨rfl, q1, q2⟩; have Q1 := hidIt q1; have Q2 := hidIt q2; clear q1 q2)
    | (go_at_call 51; refine (B.out _ (S.out.gw.in Q2.out (by omega))).mono ?_; clear B; rintro e w2 ⟨rfl, q3, q4⟩; have Q3 := hidIt q3; have Q4 := hidIt q4; clear q3 q4))
  go_end0
  refine ⟨rfl, ⟨?_, ?_, ?_, ?_⟩, Q2.out.but.trans Q4.out.but, Q4.out.size.trans Q2.out.size⟩
  · rw [Q4.out.c 0 (by omega), Q2.out.c 0 (by omega)]; exact S.out.c0
  · rw [Q4.out.c 1 (by omega), Q2.out.c 1 (by omega)]; exact S.out.c1
  · rw [fr_set]; exact Q1.out.in Q4.out (by omega)
  · rw [gn_set]; exact Q3.out
end Go.Proofs.YtkncnpjhfcfmnaaDoor
