/-
  Walks, not a claim by itself: the kit's LentBytes and KeptBytes. By the verifier.
-/
import Derived.Test.YtandkedipjmdbaaBArg
namespace Go.Proofs.Ytandkedipjmdbaa
open Go.RowKit
/-- The marks behind a list that is lent. -/
def mark (n m : Nat) : Int := 160 + ((n + m : Nat) : Int) % 90
/-- The bytes of a list that is lent, its room too. -/
def lentF (n : Nat) (f : Nat → Int) (m : Nat) : Nat → Int := over (over (fun _ => 0) 0 n f) n m (mark n)
theorem lentF_low (n : Nat) (f : Nat → Int) (m j : Nat) (h : j < n) : lentF n f m j = f j := by
  unfold lentF over; rw [if_neg (by omega), if_pos (by omega), Nat.sub_zero]
theorem lentF_byte (n : Nat) (f : Nat → Int) (m : Nat) (hf : ∀ j, j < n → 0 ≤ f j ∧ f j < 256) (j : Nat) : 0 ≤ lentF n f m j ∧ lentF n f m j < 256 := by
  unfold lentF over mark
  split
  · omega
  · split
    · exact hf _ (by omega)
    · exact ⟨Int.le_refl 0, by show (0 : Int) < 256; omega⟩
theorem lentF_step (n : Nat) (f : Nat → Int) (m : Nat) : upd (lentF n f m) (n + m) (mark n m) = lentF n f (m + 1) := by
  funext j
  unfold upd lentF over
  by_cases h : j = n + m
  · rw [if_pos h, if_pos (by omega), h, show n + m - n = m by omega]
  · rw [if_neg h]
    by_cases g : n ≤ j ∧ j < n + m
    · rw [if_pos g, if_pos (by omega)]
    · rw [if_neg g, if_neg (show ¬ (n ≤ j ∧ j < n + (m + 1)) by omega)]
/-- What holds at the head of the loop. -/
def lentRel (w : World) (g n : Nat) (f : Nat → Int) (i : Value) (wr : World) : Prop := ∃ m : Nat, m ≤ 3 ∧ i = .int .i64 ((n + m : Nat) : Int) ∧ IRow wr g .u8 (n + 3) (lentF n f m) ∧ Below w.heap.size w wr
theorem lent_step (w wr : World) (g n m k : Nat) (f : Nat → Int) (v : Int) (hg : w.heap.size ≤ g) (hm : m < 3) (hk : k = n + m) (hv : v = mark n m) (hR : IRow wr g .u8 (n + 3) (lentF n f m)) (hB : Below w.heap.size w wr) :
    lentRel w g n f (.int .i64 ((n : Int) + m + 1)) (wr.setCell ⟨g, k, none⟩ (.int .u8 v)) := by
  subst hk hv
  exact ⟨m + 1, by omega, by go_num, by rw [← lentF_step]; exact hR.set _ _, hB.setCell hg _⟩
set_option maxRecDepth 100000 in
set_option maxHeartbeats 1000000 in
theorem lent_any (a : Option Addr) (n C : Nat) (f : Nat → Int) (w : World) (h : Arg w a n f) (hn : n ≤ 1000000) :
    Calls Try.prog 47 #[.slice a n C] w fun e w' => ∃ g, e = .returned (.slice (some ⟨g, 0, none⟩) n (n + 3)) ∧ w.heap.size ≤ g ∧ IRow w' g .u8 (n + 3) (lentF n f 3) ∧ Below w.heap.size w w' := by
  have hmk : ∀ w, (Instr.makeSlice 33 (.int .i64 ((n : Int) + 3)) (.int .i64 ((n : Int) + 3))).run Try.prog w = .ok (.slice (some ⟨w.heap.size, 0, none⟩) (n + 3) (n + 3)) (w.alloc (.cells (zeros (n + 3)) 5)) := by
    have := make_bytes (n + 3) (by omega)
    rw [show ((n + 3 : Nat) : Int) = (n : Int) + 3 from by omega] at this
    exact this
  obtain ⟨W2, hcopy, hR2, hB2, _⟩ := copy_row (w.alloc (.cells (zeros (n + 3)) 5)) w.heap.size (n + 3) 0 (n + 3) (n + 3) n C n a f (fun _ => 0) (IRow.made w (n + 3) 5) (by omega) (Nat.min_eq_left (by omega)).symm (h.below ((Below.refl _ _).alloc (Nat.le_refl _) _))
  have ST : Hid (lentRel w w.heap.size n f (.int .i64 n) W2) := by
    refine ⟨0, by omega, rfl, hR2.congr (fun j _ => ?_), ((Below.refl _ _).alloc (Nat.le_refl _) _).trans (hB2.below (Nat.le_refl _) (by simp))⟩
    unfold lentF
    rw [show over (over (fun _ => 0) 0 n f) n 0 (mark n) j = over (fun _ => 0) 0 n f j from by rw [over, if_neg (by omega)]]
  clear hR2 hB2 h
  have wr1 : wrap64 ((n : Int) + 3) = (n : Int) + 3 := by unfold wrap64; omega
  go_enter Try.func47, Try.ntmps47
  go_wp2_with (at_builtin; refine wpList_copy_go rfl (.tmp 9) (.tmp 10) 33 33 rfl _ _ rfl rfl hcopy ?_)
  clear hmk hcopy
  go_loopw [4] (fun i wr => lentRel w w.heap.size n f i wr) (fun i _ => n + 3 - (RowKit.intOf i).toNat)
  case atStart => exact ST.out
  case round =>
    obtain ⟨m, hm, rfl, hR, hB⟩ := hrel
    clear ST
    have BE : Hid (Below w.heap.size w wr) := hB
    have RR : Hid (IRow wr w.heap.size .u8 (n + 3) (lentF n f m)) := hR
    clear hB
    by_cases hlt : m < 3
    · have gk := hR.1 (n + m) (by omega)
      have fk := hR.2.1 (n + m)
      clear hR
      have e0 : ((n + m : Nat) : Int) = (n : Int) + m := by omega
      have e1 : (n : Int) + m < (n : Int) + 3 := by omega
      have e2 : (0 : Int) ≤ (n : Int) + m := by omega
      have e3 : ((n : Int) + m).toNat = n + m := by omega
      have e4 : IntKind.u8.wrap (160 + ((n : Int) + m) % 90) = 160 + ((n : Int) + m) % 90 := by rw [IntKind.wrap_u8]; omega
      have e5 : wrap64 (160 + ((n : Int) + m) % 90) = 160 + ((n : Int) + m) % 90 := by unfold wrap64; omega
      have e6 : wrap64 ((n : Int) + m + 1) = (n : Int) + m + 1 := by unfold wrap64; omega
      go_wp2_with fail
      refine ⟨lent_step w wr w.heap.size n m _ f _ (Nat.le_refl _) hlt rfl ?_ RR.out BE.out, by simp [RowKit.intOf]; omega⟩
      unfold mark
      rw [e0]
    · obtain rfl : m = 3 := by omega
      clear hR
      have e0 : ((n + 3 : Nat) : Int) = (n : Int) + 3 := by omega
      go_wp2_with fail
      go_ret
      exact ⟨_, rfl, Nat.le_refl _, RR.out, BE.out⟩
set_option maxRecDepth 100000 in
set_option maxHeartbeats 1000000 in
theorem kept_any (g : Nat) (a : Option Addr) (n C : Nat) (f : Nat → Int) (w : World) (h : Arg w a n f) (hn : n ≤ 1000000) (hR : IRow w g .u8 (n + 3) (lentF n f 3)) :
    Calls Try.prog 49 #[.slice (some ⟨g, 0, none⟩) n (n + 3), .slice a n C] w fun e w' => e = .returned (.bool true) ∧ Below w.heap.size w w' := by
  have HA : Hid (Arg w.drew a n f) := h
  have HR : Hid (IRow w g .u8 (n + 3) (lentF n f 3)) := hR
  have FB : Hid (∀ j, j < n + 3 → 0 ≤ lentF n f 3 j ∧ lentF n f 3 j < 256) := fun j _ => lentF_byte n f 3 h.bytes j
  clear h hR
  have wr1 : wrap64 ((n : Int) + 3) = (n : Int) + 3 := by unfold wrap64; omega
  have wr2 : IntKind.i64.wrap ((n : Int) + 3) = (n : Int) + 3 := by rw [IntKind.wrap_i64]; omega
  have e1 : ((n + 3 : Nat) : Int) = (n : Int) + 3 := by omega
  have e2 : ((n : Int) + 3).toNat = n + 3 := by omega
  have e3 : (0 : Int) ≤ (n : Int) + 3 := by omega
  go_enter Try.func49, Try.ntmps49
  go_wp2_with fail
  go_region_held3 (fun w' => True) (trivial)
    (first
      | (go_at_call 47; refine (lent_any a n C f _ HA.out hn).mono ?_; rintro e w1 ⟨g1, rfl, hg1, hR1, hB1⟩)
      | (go_at_call 31; refine (same_any (some ⟨g, 0, none⟩) _ (n + 3) (n + 3) _ _ (lentF n f 3) (lentF n f 3) _ (Arg.of ((HR.out.drew.below (by assumption)).lies FB.out)) (Arg.of ((by assumption : IRow _ _ .u8 (n + 3) (lentF n f 3)).lies FB.out))).mono ?_; rintro e w2 ⟨rfl, hw⟩; rw [hw, decide_eq_true rfl]; clear hw))
  go_wp2_with fail
  go_ret
  exact ⟨rfl, (Below.refl _ _).drew.trans (by assumption)⟩
end Go.Proofs.Ytandkedipjmdbaa
