/-
  Walks, not a claim by itself: a list of closures that journal's loop does. By the verifier.
-/
import Derived.Test.YtijpoipcadhchaaDoorDBase
namespace Go.Proofs.YtijpoipcadhchaaDoor
open Go.RowKit
/-- A deed: a closure that writes a prepare, or a header, of what it has boxed; or a disk's own Flush. -/
inductive DeedV where
  | prep (x y z : Nat)
  | head (x y z : Nat)
  | flush (p : Option Addr)
def ptr0 (x : Nat) : Value := .pointer (some ⟨x, 0, none⟩)
def DeedV.val : DeedV → Value
  | .prep x y z => .func (.func 49) #[] #[ptr0 x, ptr0 y, ptr0 z]
  | .head x y z => .func (.func 55) #[] #[ptr0 x, ptr0 y, ptr0 z]
  | .flush p => .func (.func 31) #[.pointer p] #[]
def DeedV.Runs (v : DeedV) (W : World) (Q : Ending → World → Prop) : Prop :=
  match v with
  | .prep x y z => Calls Tryd.prog 49 #[ptr0 x, ptr0 y, ptr0 z] W Q
  | .head x y z => Calls Tryd.prog 55 #[ptr0 x, ptr0 y, ptr0 z] W Q
  | .flush p => Calls Tryd.prog 31 #[.pointer p] W Q
/-- What holds behind k deeds that were done. -/
def doRel (I : Nat → World → Prop) (n : Nat) (i : Value) (wr : World) : Prop := ∃ k : Nat, k ≤ n ∧ i = .int .i64 (k : Int) ∧ I k wr
set_option maxRecDepth 100000 in
set_option maxHeartbeats 1000000 in
/-- All of the first n deeds are done, and the last one, if there is one more, fails. -/
theorem do_gen (B n N C : Nat) (dv : Nat → DeedV) (I : Nat → World → Prop) (Q : Ending → World → Prop) (W : World) (hn : n ≤ N) (hN : N ≤ 1000) (h0 : I 0 W)
    (hc : ∀ k, k < N → ∀ V, I k V → V.cell? ⟨B, k, none⟩ = some (dv k).val)
    (hs : ∀ k, k < n → ∀ V, I k V → (dv k).Runs V fun e w' => e = .returned (.int .i64 0) ∧ I (k + 1) w')
    (hl : n < N → ∀ V, I n V → (dv n).Runs V fun e w' => ∃ c : Int, c ≠ 0 ∧ e = .returned (.int .i64 c) ∧ Q (.returned (.int .i64 c)) w')
    (he : n = N → ∀ V, I n V → Q (.returned (.int .i64 0)) V) :
    Calls Tryd.prog 39 #[.slice (some ⟨B, 0, none⟩) N C] W Q := by
  have HC : Hid (∀ k, k < N → ∀ V, I k V → V.cell? ⟨B, k, none⟩ = some (dv k).val) := hc
  have HS : Hid (∀ k, k < n → ∀ V, I k V → (dv k).Runs V fun e w' => e = .returned (.int .i64 0) ∧ I (k + 1) w') := hs
  have HL : Hid (n < N → ∀ V, I n V → (dv n).Runs V fun e w' => ∃ c : Int, c ≠ 0 ∧ e = .returned (.int .i64 c) ∧ Q (.returned (.int .i64 c)) w') := hl
  have HE : Hid (n = N → ∀ V, I n V → Q (.returned (.int .i64 0)) V) := he
  have ST : Hid (doRel I n (.int .i64 0) W) := ⟨0, Nat.zero_le _, rfl, h0⟩
  clear hc hs hl he h0
  go_enter Tryd.func39, Tryd.ntmps39
  go_wp2_with fail
  go_loopw [8] (fun i wr => doRel I n i wr) (fun i _ => N + 1 - (RowKit.intOf i).toNat)
  case atStart => exact ST.out
  case round =>
    obtain ⟨k, hk, rfl, hI⟩ := hrel
    clear ST
    have i1 : (0 : Int) ≤ (k : Int) := by omega
    by_cases hlt : k < N
    · have i0 : (k : Int) < (N : Int) := by omega
      have c0 := HC.out k hlt wr hI
      by_cases hkn : k < n
      · have R := HS.out k hkn wr hI
        have HI : Hid (I k wr) := hI
        cases hd : dv k with
        | prep x y z =>
          rw [hd] at c0 R
          have R' : Hid (Calls Tryd.prog 49 #[ptr0 x, ptr0 y, ptr0 z] wr fun e w' => e = .returned (.int .i64 0) ∧ I (k + 1) w') := R
          clear R hI
          unfold DeedV.val ptr0 at c0
          go_wp2_with (go_at_call 49; refine R'.out.mono ?_; rintro e W2 ⟨rfl, h2⟩; have H2 : Hid (doRel I n (.int .i64 ((k : Int) + 1)) W2) := ⟨k + 1, hkn, by go_num, h2⟩; clear h2)
          exact ⟨H2.out, by simp [RowKit.intOf]; omega⟩
        | head x y z =>
          rw [hd] at c0 R
          have R' : Hid (Calls Tryd.prog 55 #[ptr0 x, ptr0 y, ptr0 z] wr fun e w' => e = .returned (.int .i64 0) ∧ I (k + 1) w') := R
          clear R hI
          unfold DeedV.val ptr0 at c0
          go_wp2_with (go_at_call 55; refine R'.out.mono ?_; rintro e W2 ⟨rfl, h2⟩; have H2 : Hid (doRel I n (.int .i64 ((k : Int) + 1)) W2) := ⟨k + 1, hkn, by go_num, h2⟩; clear h2)
          exact ⟨H2.out, by simp [RowKit.intOf]; omega⟩
        | flush p =>
          rw [hd] at c0 R
          have R' : Hid (Calls Tryd.prog 31 #[.pointer p] wr fun e w' => e = .returned (.int .i64 0) ∧ I (k + 1) w') := R
          clear R hI
          unfold DeedV.val at c0
          go_wp2_with (go_at_call 31; refine R'.out.mono ?_; rintro e W2 ⟨rfl, h2⟩; have H2 : Hid (doRel I n (.int .i64 ((k : Int) + 1)) W2) := ⟨k + 1, hkn, by go_num, h2⟩; clear h2)
          exact ⟨H2.out, by simp [RowKit.intOf]; omega⟩
      · obtain rfl : k = n := by omega
        have R := HL.out hlt wr hI
        cases hd : dv k with
        | prep x y z =>
          rw [hd] at c0 R
          have R' : Hid (Calls Tryd.prog 49 #[ptr0 x, ptr0 y, ptr0 z] wr fun e w' => ∃ c : Int, c ≠ 0 ∧ e = .returned (.int .i64 c) ∧ Q (.returned (.int .i64 c)) w') := R
          clear R hI
          unfold DeedV.val ptr0 at c0
          go_wp2_with (go_at_call 49; refine R'.out.mono ?_; rintro e W2 ⟨c, hc0, rfl, h2⟩; have H2 : Hid (Q (.returned (.int .i64 c)) W2) := h2; clear h2)
          exact H2.out
        | head x y z =>
          rw [hd] at c0 R
          have R' : Hid (Calls Tryd.prog 55 #[ptr0 x, ptr0 y, ptr0 z] wr fun e w' => ∃ c : Int, c ≠ 0 ∧ e = .returned (.int .i64 c) ∧ Q (.returned (.int .i64 c)) w') := R
          clear R hI
          unfold DeedV.val ptr0 at c0
          go_wp2_with (go_at_call 55; refine R'.out.mono ?_; rintro e W2 ⟨c, hc0, rfl, h2⟩; have H2 : Hid (Q (.returned (.int .i64 c)) W2) := h2; clear h2)
          exact H2.out
        | flush p =>
          rw [hd] at c0 R
          have R' : Hid (Calls Tryd.prog 31 #[.pointer p] wr fun e w' => ∃ c : Int, c ≠ 0 ∧ e = .returned (.int .i64 c) ∧ Q (.returned (.int .i64 c)) w') := R
          clear R hI
          unfold DeedV.val at c0
          go_wp2_with (go_at_call 31; refine R'.out.mono ?_; rintro e W2 ⟨c, hc0, rfl, h2⟩; have H2 : Hid (Q (.returned (.int .i64 c)) W2) := h2; clear h2)
          exact H2.out
    · have i0 : ¬ (k : Int) < (N : Int) := by omega
      have HQ : Hid (Q (.returned (.int .i64 0)) wr) := HE.out (by omega) wr (by rw [show n = k by omega]; exact hI)
      clear hI
      go_wp2_with fail
      exact HQ.out
end Go.Proofs.YtijpoipcadhchaaDoor
