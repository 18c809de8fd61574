/-
  Walks, not a claim by itself: slot.Of, isSlot, isPrepare. By the verifier.
-/
import Derived.Test.YtijpoipcadhchaaDoorMLaw
namespace Go.Proofs.YtijpoipcadhchaaDoor
open Go.RowKit
/-- The slot of an op. -/
def ofI (x : Int) : Int := if x < 0 then 0 else x % 16
theorem ofI_range (x : Int) : 0 ≤ ofI x ∧ ofI x < 16 := by unfold ofI; split <;> omega
theorem of_any (x : Int) (w : World) : Calls Tryd.prog 21 #[.int .i64 x] w fun e w' => e = .returned (.int .i64 (ofI x)) ∧ w' = w := by
  by_cases h : x < 0
  · have e : ofI x = 0 := if_pos h
    rw [e]
    go_enter Tryd.func21, Tryd.ntmps21
    go_wp2
    go_ret
    exact ⟨rfl, rfl⟩
  · have e : ofI x = x % 16 := if_neg h
    rw [e]
    go_enter Tryd.func21, Tryd.ntmps21
    go_wp2
    go_ret
    exact ⟨rfl, rfl⟩
/-- Is a number a slot's? -/
def isSl (n : Int) : Bool := decide (0 ≤ n) && decide (n < 16)
theorem isSlot_any (n : Int) (w : World) : Calls Tryd.prog 67 #[.int .i64 n] w fun e w' => e = .returned (.bool (isSl n)) ∧ w' = w := by
  by_cases h : 0 ≤ n
  · by_cases k : n < 16
    · rw [show isSl n = true from by simp [isSl, h, k]]
      go_enter Tryd.func67, Tryd.ntmps67
      go_wp2
      go_ret
      exact ⟨rfl, rfl⟩
    · rw [show isSl n = false from by simp [isSl, h, k]]
      go_enter Tryd.func67, Tryd.ntmps67
      go_wp2
      go_ret
      exact ⟨rfl, rfl⟩
  · rw [show isSl n = false from by simp [isSl, h]]
    go_enter Tryd.func67, Tryd.ntmps67
    go_wp2
    go_ret
    exact ⟨rfl, rfl⟩
/-- Is a header one of a prepare of the slot n? -/
def isPrep (h : Nat → Int) (n : Int) : Bool := decide (h 0 = 2) && (decide (1 ≤ h 5) && decide (ofI (h 5) = n))
set_option maxRecDepth 100000 in
theorem isPrepare_any (h : Nat → Int) (n : Int) (w : World) : Calls Tryd.prog 44 #[.agg (hcs h).toArray, .int .i64 n] w fun e w' => e = .returned (.bool (isPrep h n)) ∧ Below w.heap.size w w' := by
  by_cases e0 : h 0 = 2
  · by_cases e1 : 1 ≤ h 5
    · by_cases e2 : ofI (h 5) = n
      · rw [show isPrep h n = true from by simp [isPrep, e0, e1, e2]]
        subst e2
        go_enter Tryd.func44, Tryd.ntmps44
        go_wp2_with (first
          | (refine wpList_box_rec rfl 26 (.tmp 0) rfl (hcs h) rfl w.heap.size rfl ?_; intro W0 R0 B0 z0; obtain ⟨c0, _⟩ := R0.at 0 (.int .i64 (h 0)) rfl; obtain ⟨c5, _⟩ := R0.at 5 (.int .i64 (h 5)) rfl)
          | (go_at_call 21; refine (of_any (h 5) _).mono ?_; rintro e w3 ⟨rfl, rfl⟩))
        go_ret
        exact ⟨rfl, B0⟩
      · rw [show isPrep h n = false from by simp [isPrep, e0, e1, e2]]
        go_enter Tryd.func44, Tryd.ntmps44
        go_wp2_with (first
          | (refine wpList_box_rec rfl 26 (.tmp 0) rfl (hcs h) rfl w.heap.size rfl ?_; intro W0 R0 B0 z0; obtain ⟨c0, _⟩ := R0.at 0 (.int .i64 (h 0)) rfl; obtain ⟨c5, _⟩ := R0.at 5 (.int .i64 (h 5)) rfl)
          | (go_at_call 21; refine (of_any (h 5) _).mono ?_; rintro e w3 ⟨rfl, rfl⟩))
        go_ret
        refine ⟨?_, B0⟩
        rw [show (ofI (h 5) == n) = false from by simpa using e2]
        rfl
    · rw [show isPrep h n = false from by simp [isPrep, e0, e1]]
      go_enter Tryd.func44, Tryd.ntmps44
      go_wp2_with (first
        | (refine wpList_box_rec rfl 26 (.tmp 0) rfl (hcs h) rfl w.heap.size rfl ?_; intro W0 R0 B0 z0; obtain ⟨c0, _⟩ := R0.at 0 (.int .i64 (h 0)) rfl; obtain ⟨c5, _⟩ := R0.at 5 (.int .i64 (h 5)) rfl))
      go_ret
      exact ⟨rfl, B0⟩
  · rw [show isPrep h n = false from by simp [isPrep, e0]]
    go_enter Tryd.func44, Tryd.ntmps44
    go_wp2_with (first
      | (refine wpList_box_rec rfl 26 (.tmp 0) rfl (hcs h) rfl w.heap.size rfl ?_; intro W0 R0 B0 z0; obtain ⟨c0, _⟩ := R0.at 0 (.int .i64 (h 0)) rfl; obtain ⟨c5, _⟩ := R0.at 5 (.int .i64 (h 5)) rfl))
    go_ret
    exact ⟨rfl, B0⟩
end Go.Proofs.YtijpoipcadhchaaDoor
