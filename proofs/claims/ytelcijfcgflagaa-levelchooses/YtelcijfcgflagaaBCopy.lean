/-
  Walks, not a claim by itself: the kit's CopyBytes. By the verifier.
-/
import Derived.Test.YtelcijfcgflagaaBApp
namespace Go.Proofs.Ytelcijfcgflagaa
open Go.RowKit
/-- What CopyBytes answers. -/
def CopyPost (w : World) (n : Nat) (f : Nat → Int) (e : Ending) (w' : World) : Prop := ∃ v, e = .returned v ∧ Own w' w.heap.size v n f ∧ Below w.heap.size w w'
theorem copy_any (a : Option Addr) (n C : Nat) (f : Nat → Int) (w : World) (h : Arg w a n f) (hn : n ≤ 1000000) : Calls Try.prog 51 #[.slice a n C] w (CopyPost w n f) := by
  have o0 : Own (w.alloc (.cells #[] 5)) w.heap.size (.slice (some ⟨w.heap.size, 0, none⟩) 0 0) 0 (fun _ => 0) := Own.lit w w.heap.size 0 (fun _ => 0) (Nat.le_refl _) (by omega)
  obtain ⟨v1, W2, hr1, hO1, hB2⟩ := app_arg 43 (w.alloc (.cells #[] 5)) w.heap.size 0 n C _ a (fun _ => 0) f o0 (h.below ((Below.refl _ _).alloc (Nat.le_refl _) _)) (by omega) (by simp)
  have R : Hid (CopyPost w n f (.returned v1) W2) := by
    rw [Nat.zero_add] at hO1
    exact ⟨v1, rfl, hO1.congr (fun j _ => by unfold cat; rw [if_neg (by omega), Nat.sub_zero]), ((Below.refl _ _).alloc (Nat.le_refl _) _).trans hB2⟩
  clear hO1 hB2 o0 h
  go_enter Try.func51, Try.ntmps51
  go_wp2_with (at_builtin; refine wpList_append_go rfl (.tmp 3) (.tmp 4) 43 43 rfl _ _ rfl rfl hr1 ?_)
  exact bodyPost_ret (by simp [results, Try.results51, go_sem]) rfl R.out
end Go.Proofs.Ytelcijfcgflagaa
