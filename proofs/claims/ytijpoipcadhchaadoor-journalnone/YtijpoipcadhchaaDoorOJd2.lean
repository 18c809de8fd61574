/-
  Walks and plain facts, not a claim by itself: slot.Judge, whatever it is handed. By the verifier.
-/
import Derived.Test.YtijpoipcadhchaaDoorOJdg
namespace Go.Proofs.YtijpoipcadhchaaDoor
open Go.RowKit
/-- How a slot is. -/
def judgeL (n : Nat) (f : Nat → Int) (n' : Nat) (f' : Nat → Int) (k : Int) : List Value :=
  if isSl k = false then ss 0 0 0 false
  else if prepOK n' f' k = true then
    (if fhK n f k = 2 then
      (if txtN 256 f = txtN 256 f' then ss 1 (hdrF f' 5) (hdrF f' 3) false
       else if olderB (hdrF f 5) (hdrF f 3) (hdrF f' 5) (hdrF f' 3) = true then ss 1 (hdrF f' 5) (hdrF f' 3) true
       else ss 3 (hdrF f 5) (hdrF f 3) false)
     else ss 1 (hdrF f' 5) (hdrF f' 3) true)
  else if fhK n f k = 2 then ss 3 (hdrF f 5) (hdrF f 3) false
  else if fhK n f k = 0 then ss 3 0 0 false
  else if zeroN n' f' = true then ss 4 0 0 false else ss 2 0 0 false
theorem fhK_cases (n : Nat) (f : Nat → Int) (k : Int) : fhK n f k = 2 ∨ fhK n f k = 0 ∨ fhK n f k = 1 := by
  unfold fhK
  split
  · split
    · exact .inl rfl
    · split
      · exact .inr (.inr rfl)
      · exact .inr (.inl rfl)
  · exact .inr (.inl rfl)
theorem fhK_two {n : Nat} {f : Nat → Int} {k : Int} (h : fhK n f k = 2) : n = 256 ∧ headCode f = 0 ∧ isPrep (hdrF f) k = true := by
  unfold fhK at h
  by_cases e : headC n f = 0
  · rw [if_pos e] at h
    by_cases e2 : isPrep (hdrF f) k = true
    · exact ⟨(headC_zero e).1, (headC_zero e).2, e2⟩
    · rw [if_neg e2] at h
      split at h <;> omega
  · rw [if_neg e] at h; omega
theorem judge_any (a a' : Option Addr) (n C n' C' : Nat) (f f' : Nat → Int) (k : Int) (w : World) (hT : Tab w) (hA : Arg w a n f) (hA' : Arg w a' n' f') (hC : n ≤ C) (hC' : n' ≤ C') (hm : n' ≤ 1000000) (hN : NgOk a' n' C' f') :
    Calls Tryd.prog 47 #[.slice a n C, .slice a' n' C', .int .i64 k] w fun e w' => e = .returned (.agg (judgeL n f n' f' k).toArray) ∧ Below w.heap.size w w' := by
  unfold judgeL
  by_cases hk : isSl k = true
  · rw [if_neg (by rw [hk]; decide)]
    have hj : JArg a n C f a' n' C' f' w := ⟨hT, hA, hA'⟩
    have hh : FhIs a n C f k (fhV n f k) := fun W hT hA => findHead_any a n C f k W hT hA hC
    have hp : FpIs a' n' C' f' k (fpV n' f' k) := fun W hT hA => findPrepare_any a' n' C' f' k W hT hA hC' hm
    unfold fhV at hh
    unfold fpV at hp
    by_cases h1 : prepOK n' f' k = true
    · rw [if_pos h1]
      rw [if_pos h1] at hp
      have h6 := (prepOK_iff.1 h1).1
      rcases fhK_cases n f k with h2 | h2 | h2
      · rw [if_pos h2]
        rw [if_pos h2] at hh
        obtain ⟨e, _, _⟩ := fhK_two h2
        have hF : ∀ j, j < 256 → 0 ≤ f j ∧ f j < 256 := fun j hj => hA.bytes j (by omega)
        have hG : ∀ j, j < 256 → 0 ≤ f' j ∧ f' j < 256 := fun j hj => hA'.bytes j (by omega)
        by_cases h3 : txtN 256 f = txtN 256 f'
        · rw [if_pos h3]
          exact judge_same a a' n C n' C' f f' k w _ _ _ _ f f' hj hk hh hp hF hG h3
        · rw [if_neg h3]
          by_cases h4 : olderB (hdrF f 5) (hdrF f 3) (hdrF f' 5) (hdrF f' 3) = true
          · rw [if_pos h4]
            exact judge_older a a' n C n' C' f f' k w _ _ _ _ f f' hj hk hh hp hF hG h3 h4
          · rw [if_neg h4]
            exact judge_other a a' n C n' C' f f' k w _ _ _ _ f f' hj hk hh hp hF hG h3 (by simpa using h4)
      · rw [if_neg (by rw [h2]; decide)]
        rw [if_neg (by rw [h2]; decide), h2] at hh
        exact judge_mend0 a a' n C n' C' f f' k w _ _ _ _ (fun _ => 0) f' hj hk hh hp
      · rw [if_neg (by rw [h2]; decide)]
        rw [if_neg (by rw [h2]; decide), h2] at hh
        exact judge_mend1 a a' n C n' C' f f' k w _ _ _ _ (fun _ => 0) f' hj hk hh hp
    · rw [if_neg h1]
      rw [if_neg h1] at hp
      rcases fhK_cases n f k with h2 | h2 | h2
      · rw [if_pos h2]
        rw [if_pos h2] at hh
        exact judge_lost a a' n C n' C' f f' k w _ _ _ _ f (fun _ => 0) hj hk hh hp
      · rw [if_neg (by rw [h2]; decide), if_pos h2]
        rw [if_neg (by rw [h2]; decide), h2] at hh
        exact judge_bad a a' n C n' C' f f' k w _ _ _ _ (fun _ => 0) (fun _ => 0) hj hk hh hp
      · rw [if_neg (by rw [h2]; decide), if_neg (by rw [h2]; decide)]
        rw [if_neg (by rw [h2]; decide), h2] at hh
        by_cases h3 : zeroN n' f' = true
        · rw [if_pos h3]
          exact judge_empty a a' n C n' C' f f' k w _ _ _ _ (fun _ => 0) (fun _ => 0) hj hk hh hp hN h3
        · rw [if_neg h3]
          exact judge_torn a a' n C n' C' f f' k w _ _ _ _ (fun _ => 0) (fun _ => 0) hj hk hh hp hN (by simpa using h3)
  · rw [if_pos (by simpa using hk)]
    exact judge_no a a' n C n' C' k w (by simpa using hk)
end Go.Proofs.YtijpoipcadhchaaDoor
