/-
  Walks, not a claim by itself: a nil set, and one that nobody made. By the verifier.
-/
import Derived.Test.YtkncnpjhfcfmnaaDoorFAwk
namespace Go.Proofs.YtkncnpjhfcfmnaaDoor
open Go.RowKit
/-- No set that somebody made. -/
def NoSet (X : World) (v : Option Addr) : Prop := v = none ∨ ∃ z, v = some ⟨z, 0, none⟩ ∧ X.cell? ⟨z, 0, none⟩ = some (.pointer none)
theorem NoSet.made {X : World} {v : Option Addr} (h : NoSet X v) : Calls Tryd.prog 42 #[.pointer v] X fun e w' => e = .returned (.bool false) ∧ w' = X := by
  rcases h with rfl | ⟨z, rfl, hc⟩
  · exact smade_nil X
  · exact smade_no X z hc
theorem no_acq (X : World) (v : Option Addr) (no : NoSet X v) : Calls Tryd.prog 22 #[.pointer v] X fun e w' => e = .returned (.tuple #[.int .i64 0, .int .i64 1]) ∧ w' = X := by
  have M := hidIt no.made
  clear no
  go_enter Tryd.func22, Tryd.ntmps22
  go_wp2_with (go_at_call 42; refine M.out.mono ?_; rintro e w' ⟨rfl, hw⟩; subst hw)
  go_ret2
  exact ⟨rfl, rfl⟩
theorem no_turn (X : World) (v : Option Addr) (x a c : Int) (no : NoSet X v) : Calls Tryd.prog 46 #[.pointer v, .int .i64 x, .int .i64 a, .int .i64 c] X fun e w' => e = .returned (.int .i64 1) ∧ w' = X := by
  have M := hidIt no.made
  clear no
  go_enter Tryd.func46, Tryd.ntmps46
  go_wp2_with (go_at_call 42; refine M.out.mono ?_; rintro e w' ⟨rfl, hw⟩; subst hw)
  go_ret
  exact ⟨rfl, rfl⟩
theorem no_take (X : World) (v : Option Addr) (x : Int) (no : NoSet X v) : Calls Tryd.prog 24 #[.pointer v, .int .i64 x] X fun e w' => e = .returned (.int .i64 1) ∧ w' = X := by
  have T := hidIt (no_turn X v x 0 1 no)
  clear no
  go_enter Tryd.func24, Tryd.ntmps24
  go_wp2_with (go_at_call 46; refine T.out.mono ?_; rintro e w' ⟨rfl, hw⟩; subst hw)
  go_ret
  exact ⟨rfl, rfl⟩
theorem no_release (X : World) (v : Option Addr) (x : Int) (no : NoSet X v) : Calls Tryd.prog 25 #[.pointer v, .int .i64 x] X fun e w' => e = .returned (.int .i64 1) ∧ w' = X := by
  have T := hidIt (no_turn X v x 1 2 no)
  clear no
  go_enter Tryd.func25, Tryd.ntmps25
  go_wp2_with (go_at_call 46; refine T.out.mono ?_; rintro e w' ⟨rfl, hw⟩; subst hw)
  go_ret
  exact ⟨rfl, rfl⟩
theorem no_settle (X : World) (v : Option Addr) (no : NoSet X v) : Calls Tryd.prog 26 #[.pointer v] X fun e w' => e = .returned (.int .i64 0) ∧ w' = X := by
  have M := hidIt no.made
  clear no
  go_enter Tryd.func26, Tryd.ntmps26
  go_wp2_with (go_at_call 42; refine M.out.mono ?_; rintro e w' ⟨rfl, hw⟩; subst hw)
  go_ret
  exact ⟨rfl, rfl⟩
theorem no_is (X : World) (v : Option Addr) (x : Int) (no : NoSet X v) : Calls Tryd.prog 27 #[.pointer v, .int .i64 x] X fun e w' => e = .returned (.int .i64 0) ∧ w' = X := by
  have M := hidIt no.made
  clear no
  go_enter Tryd.func27, Tryd.ntmps27
  go_wp2_with (go_at_call 42; refine M.out.mono ?_; rintro e w' ⟨rfl, hw⟩; subst hw)
  go_ret
  exact ⟨rfl, rfl⟩
theorem no_counts (X : World) (v : Option Addr) (no : NoSet X v) : Calls Tryd.prog 23 #[.pointer v] X fun e w' => e = .returned (.tuple #[.int .i64 0, .int .i64 0, .int .i64 0]) ∧ w' = X := by
  have M := hidIt no.made
  clear no
  go_enter Tryd.func23, Tryd.ntmps23
  go_wp2_with (go_at_call 42; refine M.out.mono ?_; rintro e w' ⟨rfl, hw⟩; subst hw)
  exact bodyPost_ret (v := .tuple #[.int .i64 0, .int .i64 0, .int .i64 0]) (by simp [results, Tryd.results23, go_sem]) rfl ⟨rfl, rfl⟩
theorem no_bytes (X : World) (v : Option Addr) (no : NoSet X v) : Calls Tryd.prog 20 #[.pointer v] X fun e w' => e = .returned (.slice none 0 0) ∧ w' = X := by
  have M := hidIt no.made
  clear no
  go_enter Tryd.func20, Tryd.ntmps20
  go_wp2_with (go_at_call 42; refine M.out.mono ?_; rintro e w' ⟨rfl, hw⟩; subst hw)
  go_ret
  exact ⟨rfl, rfl⟩
theorem no_clone (X : World) (v : Option Addr) (no : NoSet X v) : Calls Tryd.prog 28 #[.pointer v] X fun e w' => e = .returned (.pointer none) ∧ w' = X := by
  have M := hidIt no.made
  clear no
  go_enter Tryd.func28, Tryd.ntmps28
  go_wp2_with (go_at_call 42; refine M.out.mono ?_; rintro e w' ⟨rfl, hw⟩; subst hw)
  go_ret
  exact ⟨rfl, rfl⟩
/-- Where the list of two sets lies. -/
structure NoI (W : World) (H : Nat) (X : World) : Prop where
  a : X.cell? ⟨H + 1, 0, none⟩ = some (.pointer none)
  b : X.cell? ⟨H + 1, 1, none⟩ = some (.pointer (some ⟨H, 0, none⟩))
  z : X.cell? ⟨H, 0, none⟩ = some (.pointer none)
  l : Below W.heap.size W X
def noV (H k : Nat) : Option Addr := if k = 0 then none else some ⟨H, 0, none⟩
theorem NoI.no {W X : World} {H : Nat} (i : NoI W H X) (k : Nat) : NoSet X (noV H k) := by
  unfold noV
  split
  · exact .inl rfl
  · exact .inr ⟨H, rfl, i.z⟩
theorem NoI.at {W X : World} {H : Nat} (i : NoI W H X) (k : Nat) (hk : k < 2) : X.cell? ⟨H + 1, k, none⟩ = some (.pointer (noV H k)) := by
  have h : k = 0 ∨ k = 1 := by omega
  rcases h with rfl | rfl
  · exact i.a
  · exact i.b
set_option maxRecDepth 100000 in
set_option maxHeartbeats 2000000 in
theorem none_ok (W : World) (n : Int) (hT : DTab W) (h0 : 0 < W.heap.size) : Calls Tryd.prog 5 #[.int .i64 n] W fun e w' => e = .returned (.bool true) ∧ Below W.heap.size W w' := by
  have T := hidIt hT
  have Z := hidIt h0
  clear hT h0
  go_enter Tryd.func5, Tryd.ntmps5
  go_wp2
  have I0 : Hid (∀ (V : World), V = ((W.alloc (.cells (csS none 0 fun _ => 1).toArray 50)).alloc (.cells #[.pointer none, .pointer (some ⟨W.heap.size, 0, none⟩)] 23)) → NoI W W.heap.size V) := by
    rintro V rfl
    refine ⟨by simp [go_sem], by simp [go_sem], ?_, ((Below.refl _ _).alloc (Nat.le_refl _) _).alloc (by simp) _⟩
    rw [World.cell?_alloc_old _ _ _ (by simp), World.cell?_alloc_at _ _ _ _ rfl]
    rfl
  go_loopw [4] (fun i wr => ∃ k : Nat, k ≤ 2 ∧ i = .int .i64 (k : Int) ∧ NoI W W.heap.size wr) (fun i _ => 2 - (RowKit.intOf i).toNat)
  case atStart => exact ⟨0, Nat.zero_le _, rfl, I0.out _ rfl⟩
  case round =>
    obtain ⟨k, hk, rfl, hI⟩ := hrel
    have HI := hidIt hI
    clear I0
    by_cases hlt : k < 2
    · have i0 : (k : Int) < 2 := by omega
      have i1 : (0 : Int) ≤ (k : Int) := by omega
      have c1 := hI.at k hlt
      have n1 := hidIt (no_acq wr _ (hI.no k))
      have n2 := hidIt (no_counts wr _ (hI.no k))
      have n3 := hidIt (no_take wr _ n (hI.no k))
      have n4 := hidIt (no_release wr _ n (hI.no k))
      have n5 := hidIt (no_settle wr _ (hI.no k))
      have n6 := hidIt (no_is wr _ n (hI.no k))
      have n7 := hidIt (no_bytes wr _ (hI.no k))
      have n8 := hidIt (no_clone wr _ (hI.no k))
      clear hI
      generalize noV W.heap.size k = v at *
      go_wp2_with (first
        | (go_at_call 22; refine n1.out.mono ?_; rintro e w' ⟨rfl, hw⟩; subst w')
        | (go_at_call 23; refine n2.out.mono ?_; rintro e w' ⟨rfl, hw⟩; subst w')
        | (go_at_call 24; refine n3.out.mono ?_; rintro e w' ⟨rfl, hw⟩; subst w')
        | (go_at_call 25; refine n4.out.mono ?_; rintro e w' ⟨rfl, hw⟩; subst w')
        | (go_at_call 26; refine n5.out.mono ?_; rintro e w' ⟨rfl, hw⟩; subst w')
        | (go_at_call 27; refine n6.out.mono ?_; rintro e w' ⟨rfl, hw⟩; subst w')
        | (go_at_call 20; refine n7.out.mono ?_; rintro e w' ⟨rfl, hw⟩; subst w')
        | (go_at_call 28; refine n8.out.mono ?_; rintro e w' ⟨rfl, hw⟩; subst w'))
      exact ⟨⟨k + 1, by omega, by simp, HI.out⟩, by simp [RowKit.intOf]; omega⟩
    · obtain rfl : k = 2 := by omega
      have i0 : ¬ (2 : Int) < 2 := by omega
      rw [show ((2 : Nat) : Int) = 2 from rfl]
      have AW := hidIt (awake_ok wr (T.out.below HI.out.l Z.out) (Nat.lt_of_lt_of_le Z.out HI.out.l.size))
      clear hI
      go_wp2_with (go_at_call 11; refine AW.out.mono ?_; rintro e w' ⟨rfl, hw⟩; have HW := hidIt hw; clear hw)
      go_ret
      exact ⟨rfl, HI.out.l.trans (HW.out.mono HI.out.l.size)⟩
end Go.Proofs.YtkncnpjhfcfmnaaDoor
