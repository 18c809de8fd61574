/-
  Walks, not a claim by itself: the kit's LentBytes. By the verifier.
-/
import Derived.Test.YtjofoeelkeacgaaLent
namespace Go.Proofs.Ytjofoeelkeacgaa
open Go.RowKit
/-- The marks behind a list that is lent. -/
def mark (n m : Nat) : Int := 160 + ((n + m : Nat) : Int) % 90
/-- The bytes of a list that is lent, its room too. -/
def lentF (n : Nat) (f : Nat → Int) (m : Nat) : Nat → Int := lay (fun j => if j < n then f j else 0) n m (mark n)
/-- What holds at the head of the loop. -/
def lentRel (w : World) (g n : Nat) (f : Nat → Int) (i : Value) (wr : World) : Prop := ∃ m : Nat, m ≤ 3 ∧ i = .int .i64 ((n + m : Nat) : Int) ∧ Row wr g (n + 3) (lentF n f m) ∧ Below w.heap.size w wr
theorem lent_step (w wr : World) (g n m k : Nat) (f : Nat → Int) (v : Int) (hg : w.heap.size ≤ g) (hm : m < 3) (hk : k = n + m) (hv : v = mark n m) (hR : Row wr g (n + 3) (lentF n f m)) (hB : Below w.heap.size w wr) :
    lentRel w g n f (.int .i64 ((n : Int) + m + 1)) (wr.setCell ⟨g, k, none⟩ (.int .u8 v)) := by
  subst hk hv
  exact ⟨m + 1, by omega, by go_num, hR.set _ rfl, hB.setCell hg _⟩
set_option maxRecDepth 100000 in
set_option maxHeartbeats 1000000 in
theorem lent_any (a : Option Addr) (n C : Nat) (f : Nat → Int) (w : World) (h : Arg w a n f) (hn : n ≤ 1000000) :
    Calls Try.prog 15 #[.slice a n C] w fun e w' => ∃ g, e = .returned (.slice (some ⟨g, 0, none⟩) n (n + 3)) ∧ w.heap.size ≤ g ∧ Row w' g (n + 3) (lentF n f 3) ∧ Below w.heap.size w w' := by
  have hmk : ∀ w, (Instr.makeSlice 31 (.int .i64 ((n : Int) + 3)) (.int .i64 ((n : Int) + 3))).run Try.prog w = .ok (.slice (some ⟨w.heap.size, 0, none⟩) (n + 3) (n + 3)) (w.alloc (.cells (zeros (n + 3)) 5)) := by
    have := make_bytes (n + 3) (by omega)
    rw [show ((n + 3 : Nat) : Int) = (n : Int) + 3 from by omega] at this
    exact this
  obtain ⟨W2, hcopy, hR2, hB2⟩ := copy_arg (w.alloc (.cells (zeros (n + 3)) 5)) w.heap.size (n + 3) n C a f (fun _ => 0) (Row.made w (n + 3) 5) (by omega) (h.below ((Below.refl _ _).alloc (Nat.le_refl _) _))
  have ST : Hid (lentRel w w.heap.size n f (.int .i64 n) W2) := by
    refine ⟨0, by omega, rfl, ?_, ((Below.refl _ _).alloc (Nat.le_refl _) _).trans (hB2.below (Nat.le_refl _) (by simp))⟩
    unfold lentF
    rw [lay_zero]
    exact hR2
  clear hR2 hB2 h
  have wr1 : wrap64 ((n : Int) + 3) = (n : Int) + 3 := by unfold wrap64; omega
  go_enter Try.func15, Try.ntmps15
  go_wp2_with (at_builtin; refine wpList_copy_go rfl (.tmp 9) (.tmp 10) 31 31 rfl _ _ rfl rfl hcopy ?_)
  clear hmk hcopy
  go_loopw [4] (fun i wr => lentRel w w.heap.size n f i wr) (fun i _ => n + 3 - (intOf i).toNat)
  case atStart => exact ST.out
  case round =>
    obtain ⟨m, hm, rfl, hR, hB⟩ := hrel
    clear ST
    have BE : Hid (Below w.heap.size w wr) := hB
    have RR : Hid (Row wr w.heap.size (n + 3) (lentF n f m)) := hR
    clear hB
    by_cases hlt : m < 3
    · have gk := hR.1 (n + m) (by omega)
      have fk := hR.2.1 (n + m)
      clear hR
      have e0 : ((n + m : Nat) : Int) = (n : Int) + m := by omega
      have e1 : (n : Int) + m < (n : Int) + 3 := by omega
      have e2 : (0 : Int) ≤ (n : Int) + m := by omega
      have e3 : ((n : Int) + m).toNat = n + m := by omega
      have e4 : IntKind.u8.wrap (160 + ((n : Int) + m) % 90) = 160 + ((n : Int) + m) % 90 := by rw [IntKind.wrap_u8]; omega
      have e5 : wrap64 (160 + ((n : Int) + m) % 90) = 160 + ((n : Int) + m) % 90 := by unfold wrap64; omega
      have e6 : wrap64 ((n : Int) + m + 1) = (n : Int) + m + 1 := by unfold wrap64; omega
      go_wp2_with fail
      refine ⟨lent_step w wr w.heap.size n m _ f _ (Nat.le_refl _) hlt rfl ?_ RR.out BE.out, by simp [intOf]; omega⟩
      unfold mark
      rw [e0]
    · obtain rfl : m = 3 := by omega
      clear hR
      have e0 : ((n + 3 : Nat) : Int) = (n : Int) + 3 := by omega
      go_wp2_with fail
      go_ret
      exact ⟨_, rfl, Nat.le_refl _, RR.out, BE.out⟩
end Go.Proofs.Ytjofoeelkeacgaa
