/-
  Walks, not a claim by itself: the kit's Pick and CopyBytes. By the verifier.
-/
import Derived.Test.YtgcmlnjmfdoomaaBApp
namespace Go.Proofs.Ytgcmlnjmfdoomaa
open Go.RowKit
theorem ret_int {k : IntKind} {a b : Int} (h : a = b) : Ending.returned (.int k a) = .returned (.int k b) := by rw [h]
/-- What Pick answers: a place. -/
def PickPost (n : Nat) (w : World) (e : Ending) (w' : World) : Prop := ∃ r : Nat, r < n ∧ e = .returned (.int .i64 r) ∧ w' = w
set_option maxHeartbeats 1000000 in
theorem pick_any (x : Int) (n : Nat) (w : World) (h1 : 1 ≤ n) (h2 : n ≤ 1000000) :
    Calls Try.prog 23 #[.int .i64 x, .int .i64 n] w (PickPost n w) := by
  have e1 : ¬ (n : Int) < 1 := by omega
  have e2 : ¬ (n : Int) = 0 := by omega
  have e3 : ¬ n = 0 := by omega
  have b1 : x.tmod n < n := Int.tmod_lt_of_pos x (by omega)
  have b2 : -(n : Int) < x.tmod n := by have := Int.lt_tmod_of_pos x (show (0 : Int) < n by omega); omega
  by_cases h : x.tmod n < 0
  · have w1 : IntKind.i64.wrap (x.tmod n) = x.tmod n := by rw [IntKind.wrap_i64]; omega
    go_enter Try.func23, Try.ntmps23
    go_wp2
    go_ret
    exact ⟨(x.tmod n + n).toNat, by omega, ret_int (by omega), rfl⟩
  · have w1 : IntKind.i64.wrap (x.tmod n) = x.tmod n := by rw [IntKind.wrap_i64]; omega
    go_enter Try.func23, Try.ntmps23
    go_wp2
    go_ret
    exact ⟨(x.tmod n).toNat, by omega, ret_int (by omega), rfl⟩
/-- What CopyBytes answers. -/
def CopyPost (w : World) (n : Nat) (f : Nat → Int) (e : Ending) (w' : World) : Prop := ∃ v, e = .returned v ∧ Own w' w.heap.size v n f ∧ Below w.heap.size w w'
theorem copy_any (a : Option Addr) (n C : Nat) (f : Nat → Int) (w : World) (h : Arg w a n f) (hn : n ≤ 1000000) : Calls Try.prog 22 #[.slice a n C] w (CopyPost w n f) := by
  have o0 : Own (w.alloc (.cells #[] 5)) w.heap.size (.slice (some ⟨w.heap.size, 0, none⟩) 0 0) 0 (fun _ => 0) := Own.lit w w.heap.size 0 (fun _ => 0) (Nat.le_refl _) (by omega)
  obtain ⟨v1, W2, hr1, hO1, hB2⟩ := app_arg 22 (w.alloc (.cells #[] 5)) w.heap.size 0 n C _ a (fun _ => 0) f o0 (h.below ((Below.refl _ _).alloc (Nat.le_refl _) _)) (by omega) (by simp)
  have R : Hid (CopyPost w n f (.returned v1) W2) := by
    rw [Nat.zero_add] at hO1
    exact ⟨v1, rfl, hO1.congr (fun j _ => by unfold cat; rw [if_neg (by omega), Nat.sub_zero]), ((Below.refl _ _).alloc (Nat.le_refl _) _).trans hB2⟩
  clear hO1 hB2 o0 h
  go_enter Try.func22, Try.ntmps22
  go_wp2_with (at_builtin; refine wpList_append_go rfl (.tmp 3) (.tmp 4) 22 22 rfl _ _ rfl rfl hr1 ?_)
  exact bodyPost_ret (by simp [results, Try.results22, go_sem]) rfl R.out
end Go.Proofs.Ytgcmlnjmfdoomaa
