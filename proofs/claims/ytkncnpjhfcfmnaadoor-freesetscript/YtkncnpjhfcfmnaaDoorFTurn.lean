/-
  Walks, not a claim by itself: Take, Release, Is, Acquire of a set. By the verifier.
-/
import Derived.Test.YtkncnpjhfcfmnaaDoorFSet
namespace Go.Proofs.YtkncnpjhfcfmnaaDoor
open Go.RowKit
/-- What turn answers, and what becomes of the blocks. -/
def turnE (n : Nat) (h : Nat → Nat) (x : Int) (a : Nat) : Int := if hasI n x then (if h (x.toNat - 1) = a then 0 else 9) else 5
def turnH (n : Nat) (h : Nat → Nat) (x : Int) (a c : Nat) : Nat → Nat := if hasI n x then (if h (x.toNat - 1) = a then setH h (x.toNat - 1) c else h) else h
theorem hasI_iff {n : Nat} {x : Int} : hasI n x = true ↔ 1 ≤ x ∧ x ≤ (n : Int) := by simp [hasI]
theorem turn_sok {n : Nat} {h : Nat → Nat} (s : SOk n h) (x : Int) (a c : Nat) : SOk n (turnH n h x a c) := by
  unfold turnH
  split
  · rename_i hx
    rw [hasI_iff] at hx
    split
    · exact s.set _ _ (by omega)
    · exact s
  · exact s
theorem turn_ok (W : World) (b n : Nat) (h : Nat → Nat) (x : Int) (a c : Nat) (s : SAt W b n h) (k : SOk n h) : Calls Tryd.prog 46 #[.pointer (some ⟨b, 0, none⟩), .int .i64 x, .int .i64 (a : Int), .int .i64 (c : Int)] W fun e w' => e = .returned (.int .i64 (turnE n h x a)) ∧ SAt w' b n (turnH n h x a c) ∧ But b W w' ∧ w'.heap.size = W.heap.size := by
  have M := hidIt (smade_ok W b n h s)
  have H := hidIt (shas_ok W b n h x s)
  unfold turnE turnH
  cases hx : hasI n x with
  | false =>
    rw [hx] at H
    have S := hidIt s
    clear s
    go_enter Tryd.func46, Tryd.ntmps46
    go_wp2_with (first
      | (go_at_call 42; refine M.out.mono ?_; rintro e w' ⟨rfl, hw⟩; subst hw)
      | (go_at_call 48; refine H.out.mono ?_; rintro e w' ⟨rfl, hw⟩; subst hw))
    go_ret
    exact ⟨by simp, S.out, But.refl _ _, rfl⟩
  | true =>
    rw [hx] at H
    rw [hasI_iff] at hx
    obtain ⟨i, rfl⟩ : ∃ i : Nat, x = (i : Int) + 1 := ⟨x.toNat - 1, by omega⟩
    rw [show ((i : Int) + 1).toNat - 1 = i by omega]
    have i5 : i < 512 := by have := k.n2; omega
    have HW := hidIt (how_ok W b n h i i5 (k.le i) s)
    have P := hidIt fun (u : World) (su : SAt u b n h) => sput_ok u b n h i c i5 su
    have S := hidIt s
    clear s hx
    simp only [if_true]
    by_cases ha : h i = a
    · have e1 : (((h i : Nat) : Int) != (a : Int)) = false := by simp [ha]
      rw [if_pos ha, if_pos ha]
      go_enter Tryd.func46, Tryd.ntmps46
      go_wp2_with (first
        | (go_at_call 42; refine M.out.mono ?_; rintro e w' ⟨rfl, hw⟩; subst hw)
        | (go_at_call 48; refine H.out.mono ?_; rintro e w' ⟨rfl, hw⟩; subst hw)
        | (go_at_call 49; refine HW.out.mono ?_; rintro e w1 ⟨rfl, hs⟩; have HS := hidIt hs; clear hs)
        | (go_at_call 31; refine (P.out _ (S.out.below HS.out.1)).mono ?_; rintro e w2 ⟨rfl, q1, q2, q3⟩; have Q := hidIt (And.intro q1 (And.intro q2 q3)); clear q1 q2 q3))
      go_ret
      exact ⟨rfl, Q.out.1, (But.of HS.out.1).trans Q.out.2.1, Q.out.2.2.trans HS.out.2⟩
    · have e1 : (((h i : Nat) : Int) != (a : Int)) = true := by simpa using (fun q => ha (by omega))
      rw [if_neg ha, if_neg ha]
      go_enter Tryd.func46, Tryd.ntmps46
      go_wp2_with (first
        | (go_at_call 42; refine M.out.mono ?_; rintro e w' ⟨rfl, hw⟩; subst hw)
        | (go_at_call 48; refine H.out.mono ?_; rintro e w' ⟨rfl, hw⟩; subst hw)
        | (go_at_call 49; refine HW.out.mono ?_; rintro e w1 ⟨rfl, hs⟩; have HS := hidIt hs; clear hs))
      go_ret
      exact ⟨rfl, S.out.below HS.out.1, But.of HS.out.1, HS.out.2⟩
theorem take_ok (W : World) (b n : Nat) (h : Nat → Nat) (x : Int) (s : SAt W b n h) (k : SOk n h) : Calls Tryd.prog 24 #[.pointer (some ⟨b, 0, none⟩), .int .i64 x] W fun e w' => e = .returned (.int .i64 (turnE n h x 0)) ∧ SAt w' b n (turnH n h x 0 1) ∧ But b W w' ∧ w'.heap.size = W.heap.size := by
  have T := hidIt (turn_ok W b n h x 0 1 s k)
  clear s k
  go_enter Tryd.func24, Tryd.ntmps24
  go_wp2_with (go_at_call 46; refine T.out.mono ?_; rintro e w' ⟨rfl, q⟩; have Q := hidIt q; clear q)
  go_ret
  exact ⟨rfl, Q.out⟩
theorem release_ok (W : World) (b n : Nat) (h : Nat → Nat) (x : Int) (s : SAt W b n h) (k : SOk n h) : Calls Tryd.prog 25 #[.pointer (some ⟨b, 0, none⟩), .int .i64 x] W fun e w' => e = .returned (.int .i64 (turnE n h x 1)) ∧ SAt w' b n (turnH n h x 1 2) ∧ But b W w' ∧ w'.heap.size = W.heap.size := by
  have T := hidIt (turn_ok W b n h x 1 2 s k)
  clear s k
  go_enter Tryd.func25, Tryd.ntmps25
  go_wp2_with (go_at_call 46; refine T.out.mono ?_; rintro e w' ⟨rfl, q⟩; have Q := hidIt q; clear q)
  go_ret
  exact ⟨rfl, Q.out⟩
/-- What Is tells. -/
def isI (n : Nat) (h : Nat → Nat) (x : Int) : Int := if hasI n x then ((h (x.toNat - 1) : Nat) : Int) else -1
theorem is_ok (W : World) (b n : Nat) (h : Nat → Nat) (x : Int) (s : SAt W b n h) (k : SOk n h) : Calls Tryd.prog 27 #[.pointer (some ⟨b, 0, none⟩), .int .i64 x] W fun e w' => e = .returned (.int .i64 (isI n h x)) ∧ Same W w' := by
  have M := hidIt (smade_ok W b n h s)
  have H := hidIt (shas_ok W b n h x s)
  unfold isI
  cases hx : hasI n x with
  | false =>
    rw [hx] at H
    clear s k
    go_enter Tryd.func27, Tryd.ntmps27
    go_wp2_with (first
      | (go_at_call 42; refine M.out.mono ?_; rintro e w' ⟨rfl, hw⟩; subst hw)
      | (go_at_call 48; refine H.out.mono ?_; rintro e w' ⟨rfl, hw⟩; subst hw))
    go_ret
    exact ⟨by simp, Same.refl _⟩
  | true =>
    rw [hx] at H
    rw [hasI_iff] at hx
    obtain ⟨i, rfl⟩ : ∃ i : Nat, x = (i : Int) + 1 := ⟨x.toNat - 1, by omega⟩
    rw [show ((i : Int) + 1).toNat - 1 = i by omega]
    have i5 : i < 512 := by have := k.n2; omega
    have HW := hidIt (how_ok W b n h i i5 (k.le i) s)
    clear s hx k
    go_enter Tryd.func27, Tryd.ntmps27
    go_wp2_with (first
      | (go_at_call 42; refine M.out.mono ?_; rintro e w' ⟨rfl, hw⟩; subst hw)
      | (go_at_call 48; refine H.out.mono ?_; rintro e w' ⟨rfl, hw⟩; subst hw)
      | (go_at_call 49; refine HW.out.mono ?_; rintro e w1 ⟨rfl, hs⟩; have HS := hidIt hs; clear hs))
    go_ret
    exact ⟨by simp, HS.out⟩
/-- What Acquire answers, and what becomes of the blocks. -/
def acqV (o : Option Nat) : Value := match o with
  | some i => .tuple #[.int .i64 ((i : Int) + 1), .int .i64 0]
  | none => .tuple #[.int .i64 0, .int .i64 8]
def acqH (h : Nat → Nat) (o : Option Nat) : Nat → Nat := match o with
  | some i => setH h i 1
  | none => h
theorem lowFrom_lt (p : Nat → Bool) (i : Nat) : ∀ n k, lowFrom p k n = some i → i < k + n ∧ k ≤ i ∧ p i = true
  | 0, k, h => by cases h
  | n + 1, k, h => by
    unfold lowFrom at h
    split at h
    · injection h with h; subst h; exact ⟨by omega, Nat.le_refl _, by assumption⟩
    · have := lowFrom_lt p i n (k + 1) h; exact ⟨by omega, by omega, this.2.2⟩
theorem low_free {n : Nat} {h : Nat → Nat} {i : Nat} (k : SOk n h) (hl : low (fr h) = some i) : i < n ∧ h i = 0 := by
  have := lowFrom_lt _ _ _ _ hl
  have hz : h i = 0 := by simpa [fr] using this.2.2
  refine ⟨?_, hz⟩
  apply Nat.lt_of_not_le
  intro q
  have := k.out i q
  omega
theorem acq_sok {n : Nat} {h : Nat → Nat} (k : SOk n h) : SOk n (acqH h (low (fr h))) := by
  cases hl : low (fr h) with
  | none => exact k
  | some i => exact k.set _ _ (low_free k hl).1
set_option maxHeartbeats 400000 in
theorem acquire_ok (W : World) (b n : Nat) (h : Nat → Nat) (s : SAt W b n h) (k : SOk n h) (hT : DTab W) : Calls Tryd.prog 22 #[.pointer (some ⟨b, 0, none⟩)] W fun e w' => e = .returned (acqV (low (fr h))) ∧ SAt w' b n (acqH h (low (fr h))) ∧ But b W w' := by
  have M := hidIt (smade_ok W b n h s)
  have Lo := hidIt (wlowest_ok b 2 (fr h) W s.fw hT)
  have S := hidIt s
  clear s hT
  cases hl : low (fr h) with
  | none =>
    rw [hl] at Lo
    clear k
    unfold lowV at Lo
    go_enter Tryd.func22, Tryd.ntmps22
    go_wp2_with (first
      | (go_at_call 42; refine M.out.mono ?_; rintro e w' ⟨rfl, hw⟩; subst hw)
      | (go_at_call 44; refine Lo.out.mono ?_; rintro e w1 ⟨rfl, hs⟩; have HS := hidIt hs; clear hs))
    go_ret2
    exact ⟨rfl, S.out.below HS.out, But.of HS.out⟩
  | some i =>
    rw [hl] at Lo
    have i5 : i < 512 := by have := (low_free k hl).1; have := k.n2; omega
    have P := hidIt fun (u : World) (su : SAt u b n h) => sput_ok u b n h i 1 i5 su
    unfold lowV at Lo
    clear k
    go_enter Tryd.func22, Tryd.ntmps22
    go_wp2_with (first
      | (go_at_call 42; refine M.out.mono ?_; rintro e w' ⟨rfl, hw⟩; subst hw)
      | (go_at_call 44; refine Lo.out.mono ?_; rintro e w1 ⟨rfl, hs⟩; have HS := hidIt hs; clear hs)
      | (go_at_call 31; refine (P.out _ (S.out.below HS.out)).mono ?_; rintro e w2 ⟨rfl, q1, q2, q3⟩; have Q := hidIt (And.intro q1 q2); clear q1 q2 q3))
    go_ret2
    exact ⟨rfl, Q.out.1, (But.of HS.out).trans Q.out.2⟩
end Go.Proofs.YtkncnpjhfcfmnaaDoor
