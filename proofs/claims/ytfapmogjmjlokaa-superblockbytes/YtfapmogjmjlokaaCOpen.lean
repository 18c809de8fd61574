/-
  Walks, not a claim by itself: checksum.Open. By the verifier.
-/
import Derived.Test.YtfapmogjmjlokaaCSeal
import Derived.Test.YtfapmogjmjlokaaCOpn
namespace Go.Proofs.Ytfapmogjmjlokaa
open Go.RowKit
set_option maxHeartbeats 1000000 in
theorem open_few (a : Option Addr) (n C : Nat) (w : World) (h : n < 16) :
    Calls Try.prog 36 #[.slice a n C] w fun e w' => e = .returned (.tuple #[.slice none 0 0, .int .i64 4]) ∧ w' = w := by
  have e1 : (n : Int) < 16 := by omega
  go_enter Try.func36, Try.ntmps36
  go_wp2
  go_ret2
  exact ⟨rfl, rfl⟩
set_option maxRecDepth 100000 in
set_option maxHeartbeats 1000000 in
theorem open_ok16 (b off : Nat) (f : Nat → Int) (w : World) (h : Lies w b off 16 f) (ho : eqN 16 (sealF 0 (fun j => f (16 + j))) f = true) :
    Calls Try.prog 36 #[.slice (some ⟨b, off, none⟩) 16 16] w fun e w' => ∃ g, e = .returned (.tuple #[.slice (some ⟨g, 0, none⟩) 0 0, .int .i64 0]) ∧ w.heap.size ≤ g ∧ IRow w' g .u8 0 (fun j => f (16 + j)) ∧ Below w.heap.size w w' := by
  have LL : Hid (Lies w b off 16 f) := h
  have HA : Hid (Arg w (some ⟨b, off, none⟩) 0 (fun j => f (16 + j))) := .inl ⟨rfl, .inr ⟨_, rfl⟩⟩
  have hco : eqN 16 (sealF 0 (fun j => f (16 + j))) (over (fun _ => 0) 0 16 f) = true := by rw [← ho]; exact eqN_over _ f
  clear h ho
  go_enter Try.func36, Try.ntmps36
  go_wp2_with (first
    | (refine wpList_alloc_row rfl 104 rfl .u8 16 w.heap.size rfl zero8_16 ?_; intro W1 hR1 hB1 hz1; obtain ⟨W2, hc1, hR2, hB2, hz2⟩ := copy_row W1 w.heap.size 16 0 16 16 16 16 16 (some ⟨b, off, none⟩) f (fun _ => 0) hR1 (by omega) (Nat.min_eq_right (by omega)).symm (Arg.of (LL.out.below hB1)); have E1 : Below w.heap.size w W2 := hB1.trans (hB2.below (Nat.le_refl _) (by omega)))
    | (at_builtin; refine wpList_copy_go rfl (.tmp 11) (.tmp 12) 27 27 rfl _ _ rfl rfl hc1 ?_)
    | (refine wpList_load_irow rfl 104 (.tmp 4) rfl w.heap.size .u8 16 (over (fun _ => 0) 0 16 f) rfl _ Try.underlying104 rfl (by kernel_rfl) hR2 ?_)
    | (go_at_call 58; refine (right16 (some ⟨b, off, none⟩) 0 0 (fun j => f (16 + j)) (over (fun _ => 0) 0 16 f) _ (HA.out.below E1) (by omega) (by omega)).mono ?_; rintro e w3 ⟨rfl, hB3⟩; rw [hco]; have E2 : Below w.heap.size w w3 := E1.trans (hB3.mono E1.size))
    | (refine wpList_make rfl (.tmp 20) (.tmp 20) rfl 0 w3.heap.size rfl _ rfl rfl (by omega) (by omega) ?_; intro W4 hR4 hB4 hz4; have E3 : Below w.heap.size w W4 := E2.trans (hB4.mono E2.size); obtain ⟨W5, hc2, hR5, hB5, hz5⟩ := copy_row W4 w3.heap.size 0 0 0 0 0 0 0 (some ⟨b, off, none⟩) (fun j => f (16 + j)) (fun _ => 0) hR4 (by omega) (Nat.min_self _).symm (HA.out.below E3))
    | (at_builtin; refine wpList_copy_go rfl (.tmp 22) (.tmp 23) 27 27 rfl _ _ rfl rfl hc2 ?_))
  go_ret2
  refine ⟨w3.heap.size, rfl, E2.size, hR5.congr (fun j hj => ?_), E3.trans (hB5.below E2.size (by have := E2.size; omega))⟩
  unfold over
  rw [if_pos (by omega), Nat.sub_zero]
set_option maxRecDepth 100000 in
set_option maxHeartbeats 1000000 in
theorem open_no16 (b off : Nat) (f : Nat → Int) (w : World) (h : Lies w b off 16 f) (ho : eqN 16 (sealF 0 (fun j => f (16 + j))) f = false) :
    Calls Try.prog 36 #[.slice (some ⟨b, off, none⟩) 16 16] w fun e w' => e = .returned (.tuple #[.slice none 0 0, .int .i64 12]) ∧ Below w.heap.size w w' := by
  have LL : Hid (Lies w b off 16 f) := h
  have HA : Hid (Arg w (some ⟨b, off, none⟩) 0 (fun j => f (16 + j))) := .inl ⟨rfl, .inr ⟨_, rfl⟩⟩
  have hco : eqN 16 (sealF 0 (fun j => f (16 + j))) (over (fun _ => 0) 0 16 f) = false := by rw [← ho]; exact eqN_over _ f
  clear h ho
  go_enter Try.func36, Try.ntmps36
  go_wp2_with (first
    | (refine wpList_alloc_row rfl 104 rfl .u8 16 w.heap.size rfl zero8_16 ?_; intro W1 hR1 hB1 hz1; obtain ⟨W2, hc1, hR2, hB2, hz2⟩ := copy_row W1 w.heap.size 16 0 16 16 16 16 16 (some ⟨b, off, none⟩) f (fun _ => 0) hR1 (by omega) (Nat.min_eq_right (by omega)).symm (Arg.of (LL.out.below hB1)); have E1 : Below w.heap.size w W2 := hB1.trans (hB2.below (Nat.le_refl _) (by omega)))
    | (at_builtin; refine wpList_copy_go rfl (.tmp 11) (.tmp 12) 27 27 rfl _ _ rfl rfl hc1 ?_)
    | (refine wpList_load_irow rfl 104 (.tmp 4) rfl w.heap.size .u8 16 (over (fun _ => 0) 0 16 f) rfl _ Try.underlying104 rfl (by kernel_rfl) hR2 ?_)
    | (go_at_call 58; refine (right16 (some ⟨b, off, none⟩) 0 0 (fun j => f (16 + j)) (over (fun _ => 0) 0 16 f) _ (HA.out.below E1) (by omega) (by omega)).mono ?_; rintro e w3 ⟨rfl, hB3⟩; rw [hco]; have E2 : Below w.heap.size w w3 := E1.trans (hB3.mono E1.size)))
  go_ret2
  exact ⟨rfl, E2⟩
set_option maxRecDepth 100000 in
set_option maxHeartbeats 1000000 in
theorem open_okm (b off n C : Nat) (f : Nat → Int) (w : World) (h : Lies w b off n f) (hn : 16 ≤ n) (hC : n ≤ C) (h16 : 16 < C) (hm : n ≤ 1000000) (ho : eqN 16 (sealF (n - 16) (fun j => f (16 + j))) f = true) :
    Calls Try.prog 36 #[.slice (some ⟨b, off, none⟩) n C] w fun e w' => ∃ g, e = .returned (.tuple #[.slice (some ⟨g, 0, none⟩) (n - 16) (n - 16), .int .i64 0]) ∧ w.heap.size ≤ g ∧ IRow w' g .u8 (n - 16) (fun j => f (16 + j)) ∧ Below w.heap.size w w' := by
  have LL : Hid (Lies w b off n f) := h
  have HA : Hid (Arg w (some ⟨b, off + 16, none⟩) (n - 16) (fun j => f (16 + j))) := Arg.part h 16 (n - 16) (by omega)
  have hco : eqN 16 (sealF (n - 16) (fun j => f (16 + j))) (over (fun _ => 0) 0 16 f) = true := by rw [← ho]; exact eqN_over _ f
  clear h ho
  have e1 : ¬ (n : Int) < 16 := by omega
  have e2 : (16 : Int) ≤ n := by omega
  have e3 : (16 : Int) ≤ C := by omega
  have e4 : ¬ C = 16 := by omega
  go_enter Try.func36, Try.ntmps36
  go_wp2_with (first
    | (refine wpList_alloc_row rfl 104 rfl .u8 16 w.heap.size rfl zero8_16 ?_; intro W1 hR1 hB1 hz1; obtain ⟨W2, hc1, hR2, hB2, hz2⟩ := copy_row W1 w.heap.size 16 0 16 16 n C 16 (some ⟨b, off, none⟩) f (fun _ => 0) hR1 (by omega) (Nat.min_eq_right (by omega)).symm (Arg.of (LL.out.below hB1)); have E1 : Below w.heap.size w W2 := hB1.trans (hB2.below (Nat.le_refl _) (by omega)))
    | (at_builtin; refine wpList_copy_go rfl (.tmp 11) (.tmp 12) 27 27 rfl _ _ rfl rfl hc1 ?_)
    | (refine wpList_load_irow rfl 104 (.tmp 4) rfl w.heap.size .u8 16 (over (fun _ => 0) 0 16 f) rfl _ Try.underlying104 rfl (by kernel_rfl) hR2 ?_)
    | (go_at_call 58; refine (right16 (some ⟨b, off + 16, none⟩) (n - 16) (C - 16) (fun j => f (16 + j)) (over (fun _ => 0) 0 16 f) _ (HA.out.below E1) (by omega) (by omega)).mono ?_; rintro e w3 ⟨rfl, hB3⟩; rw [hco]; have E2 : Below w.heap.size w w3 := E1.trans (hB3.mono E1.size))
    | (refine wpList_make rfl (.tmp 20) (.tmp 20) rfl (n - 16) w3.heap.size rfl _ rfl rfl (by omega) (by omega) ?_; intro W4 hR4 hB4 hz4; have E3 : Below w.heap.size w W4 := E2.trans (hB4.mono E2.size); obtain ⟨W5, hc2, hR5, hB5, hz5⟩ := copy_row W4 w3.heap.size (n - 16) 0 (n - 16) (n - 16) (n - 16) (C - 16) (n - 16) (some ⟨b, off + 16, none⟩) (fun j => f (16 + j)) (fun _ => 0) hR4 (by omega) (Nat.min_self _).symm (HA.out.below E3))
    | (at_builtin; refine wpList_copy_go rfl (.tmp 22) (.tmp 23) 27 27 rfl _ _ rfl rfl hc2 ?_))
  go_ret2
  refine ⟨w3.heap.size, rfl, E2.size, hR5.congr (fun j hj => ?_), E3.trans (hB5.below E2.size (by have := E2.size; omega))⟩
  unfold over
  rw [if_pos (by omega), Nat.sub_zero]
set_option maxRecDepth 100000 in
set_option maxHeartbeats 1000000 in
theorem open_nom (b off n C : Nat) (f : Nat → Int) (w : World) (h : Lies w b off n f) (hn : 16 ≤ n) (hC : n ≤ C) (h16 : 16 < C) (hm : n ≤ 1000000) (ho : eqN 16 (sealF (n - 16) (fun j => f (16 + j))) f = false) :
    Calls Try.prog 36 #[.slice (some ⟨b, off, none⟩) n C] w fun e w' => e = .returned (.tuple #[.slice none 0 0, .int .i64 12]) ∧ Below w.heap.size w w' := by
  have LL : Hid (Lies w b off n f) := h
  have HA : Hid (Arg w (some ⟨b, off + 16, none⟩) (n - 16) (fun j => f (16 + j))) := Arg.part h 16 (n - 16) (by omega)
  have hco : eqN 16 (sealF (n - 16) (fun j => f (16 + j))) (over (fun _ => 0) 0 16 f) = false := by rw [← ho]; exact eqN_over _ f
  clear h ho
  have e1 : ¬ (n : Int) < 16 := by omega
  have e2 : (16 : Int) ≤ n := by omega
  have e3 : (16 : Int) ≤ C := by omega
  have e4 : ¬ C = 16 := by omega
  go_enter Try.func36, Try.ntmps36
  go_wp2_with (first
    | (refine wpList_alloc_row rfl 104 rfl .u8 16 w.heap.size rfl zero8_16 ?_; intro W1 hR1 hB1 hz1; obtain ⟨W2, hc1, hR2, hB2, hz2⟩ := copy_row W1 w.heap.size 16 0 16 16 n C 16 (some ⟨b, off, none⟩) f (fun _ => 0) hR1 (by omega) (Nat.min_eq_right (by omega)).symm (Arg.of (LL.out.below hB1)); have E1 : Below w.heap.size w W2 := hB1.trans (hB2.below (Nat.le_refl _) (by omega)))
    | (at_builtin; refine wpList_copy_go rfl (.tmp 11) (.tmp 12) 27 27 rfl _ _ rfl rfl hc1 ?_)
    | (refine wpList_load_irow rfl 104 (.tmp 4) rfl w.heap.size .u8 16 (over (fun _ => 0) 0 16 f) rfl _ Try.underlying104 rfl (by kernel_rfl) hR2 ?_)
    | (go_at_call 58; refine (right16 (some ⟨b, off + 16, none⟩) (n - 16) (C - 16) (fun j => f (16 + j)) (over (fun _ => 0) 0 16 f) _ (HA.out.below E1) (by omega) (by omega)).mono ?_; rintro e w3 ⟨rfl, hB3⟩; rw [hco]; have E2 : Below w.heap.size w w3 := E1.trans (hB3.mono E1.size)))
  go_ret2
  exact ⟨rfl, E2⟩
theorem open_ok (a : Option Addr) (n C : Nat) (f : Nat → Int) (w : World) (h : Arg w a n f) (hn : 16 ≤ n) (hC : n ≤ C) (hm : n ≤ 1000000) (ho : opens n f = true) :
    Calls Try.prog 36 #[.slice a n C] w fun e w' => ∃ g, e = .returned (.tuple #[.slice (some ⟨g, 0, none⟩) (n - 16) (n - 16), .int .i64 0]) ∧ w.heap.size ≤ g ∧ IRow w' g .u8 (n - 16) (fun j => f (16 + j)) ∧ Below w.heap.size w w' := by
  rcases h with ⟨h, _⟩ | ⟨_, b, off, rfl, hl⟩
  · omega
  by_cases e : C = 16
  · subst e
    obtain rfl : n = 16 := by omega
    exact open_ok16 b off f w hl ho
  · exact open_okm b off n C f w hl hn hC (by omega) hm ho
theorem open_no (a : Option Addr) (n C : Nat) (f : Nat → Int) (w : World) (h : Arg w a n f) (hn : 16 ≤ n) (hC : n ≤ C) (hm : n ≤ 1000000) (ho : opens n f = false) :
    Calls Try.prog 36 #[.slice a n C] w fun e w' => e = .returned (.tuple #[.slice none 0 0, .int .i64 12]) ∧ Below w.heap.size w w' := by
  rcases h with ⟨h, _⟩ | ⟨_, b, off, rfl, hl⟩
  · omega
  by_cases e : C = 16
  · subst e
    obtain rfl : n = 16 := by omega
    exact open_no16 b off f w hl ho
  · exact open_nom b off n C f w hl hn hC (by omega) hm ho
end Go.Proofs.Ytfapmogjmjlokaa
