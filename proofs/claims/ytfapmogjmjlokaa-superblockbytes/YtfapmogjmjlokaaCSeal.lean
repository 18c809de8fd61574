/-
  Walks, not a claim by itself: checksum.Seal. By the verifier.
-/
import Derived.Test.YtfapmogjmjlokaaCRgt
namespace Go.Proofs.Ytfapmogjmjlokaa
open Go.RowKit
set_option maxRecDepth 100000 in
set_option maxHeartbeats 1000000 in
theorem seal_more (a : Option Addr) (n C : Nat) (f : Nat → Int) (w : World) (h : Arg w a n f) (hC : n ≤ C) (hn : n ≤ 1000000) (h0 : 0 < n) :
    Calls Try.prog 33 #[.slice a n C] w fun e w' => ∃ g, e = .returned (.slice (some ⟨g, 0, none⟩) (16 + n) (16 + n)) ∧ w.heap.size ≤ g ∧ IRow w' g .u8 (16 + n) (sealedF n f) ∧ Below w.heap.size w w' := by
  have HA : Hid (Arg w a n f) := h
  clear h
  have e1 : ¬ n = 0 := by omega
  go_enter Try.func33, Try.ntmps33
  go_wp2_with (first
    | (go_at_call 56; refine (sum_any a n C f _ HA.out hC hn).mono ?_; rintro e w1 ⟨rfl, hB1⟩)
    | (refine wpList_alloc_row rfl 104 rfl .u8 16 w1.heap.size rfl zero8_16 ?_; intro W1 hR1 hB2 hz1)
    | (refine wpList_store_row rfl 104 (.tmp 3) (.tmp 6) rfl w1.heap.size .u8 16 (sealF n f) (fun _ => 0) rfl rfl hR1 (by kernel_rfl) ?_; intro W2 hR2 hB3 hz2)
    | (refine wpList_make rfl (.tmp 9) (.tmp 9) rfl (16 + n) (w1.heap.size + 1) (by rw [hz2, hz1]) _ rfl rfl (by omega) (by omega) ?_; intro W3 hR3 hB4 hz3; obtain ⟨W4, hc1, hR4, hB5, hz4⟩ := copy_row W3 (w1.heap.size + 1) (16 + n) 0 (16 + n) (16 + n) 16 16 16 (some ⟨w1.heap.size, 0, none⟩) (sealF n f) (fun _ => 0) hR3 (by omega) (Nat.min_eq_left (by omega)).symm (Arg.of ((hR2.below (by rw [hz2, hz1]; exact hB4)).lies (fun j _ => sealF_byte n f j))); obtain ⟨W5, hc2, hR5, hB6, hz5⟩ := copy_row W4 (w1.heap.size + 1) (16 + n) 16 n n n C n a f _ hR4 (by omega) (Nat.min_self n).symm (HA.out.below (((hB1.trans (hB2.mono hB1.size)).trans (hB3.below hB1.size (by have := hB1.size; omega))).trans ((hB4.mono (by have := hB1.size; omega)).trans (hB5.below (by have := hB1.size; omega) (by have := hB1.size; omega))))))
    | (at_builtin; refine wpList_copy_go rfl (.tmp 11) (.tmp 12) 27 27 rfl _ _ rfl rfl hc1 ?_)
    | (at_builtin; refine wpList_copy_go rfl (.tmp 15) (.tmp 16) 27 27 rfl _ _ rfl rfl hc2 ?_))
  go_ret
  refine ⟨w1.heap.size + 1, rfl, by have := hB1.size; omega, hR5.congr (fun j hj => ?_), ?_⟩
  · unfold over sealedF
    by_cases h : j < 16
    · rw [if_neg (by omega), if_pos (by omega), if_pos h, Nat.sub_zero]
    · rw [if_pos (by omega), if_neg h]
  · exact ((hB1.trans (hB2.mono hB1.size)).trans (hB3.below hB1.size (by have := hB1.size; omega))).trans (((hB4.mono (by have := hB1.size; omega)).trans (hB5.below (by have := hB1.size; omega) (by have := hB1.size; omega))).trans (hB6.below (by have := hB1.size; omega) (by have := hB1.size; omega)))
set_option maxRecDepth 100000 in
set_option maxHeartbeats 1000000 in
theorem seal_none (a : Option Addr) (C : Nat) (f : Nat → Int) (w : World) (h : Arg w a 0 f)  :
    Calls Try.prog 33 #[.slice a 0 C] w fun e w' => ∃ g, e = .returned (.slice (some ⟨g, 0, none⟩) 16 16) ∧ w.heap.size ≤ g ∧ IRow w' g .u8 16 (sealedF 0 f) ∧ Below w.heap.size w w' := by
  have HA : Hid (Arg w a 0 f) := h
  clear h
  go_enter Try.func33, Try.ntmps33
  go_wp2_with (first
    | (go_at_call 56; refine (sum_any a 0 C f _ HA.out (Nat.zero_le _) (by omega)).mono ?_; rintro e w1 ⟨rfl, hB1⟩)
    | (refine wpList_alloc_row rfl 104 rfl .u8 16 w1.heap.size rfl zero8_16 ?_; intro W1 hR1 hB2 hz1)
    | (refine wpList_store_row rfl 104 (.tmp 3) (.tmp 6) rfl w1.heap.size .u8 16 (sealF 0 f) (fun _ => 0) rfl rfl hR1 (by kernel_rfl) ?_; intro W2 hR2 hB3 hz2)
    | (refine wpList_make rfl (.tmp 9) (.tmp 9) rfl 16 (w1.heap.size + 1) (by rw [hz2, hz1]) _ rfl rfl (by omega) (by omega) ?_; intro W3 hR3 hB4 hz3; obtain ⟨W4, hc1, hR4, hB5, hz4⟩ := copy_row W3 (w1.heap.size + 1) 16 0 16 16 16 16 16 (some ⟨w1.heap.size, 0, none⟩) (sealF 0 f) (fun _ => 0) hR3 (by omega) (Nat.min_eq_left (by omega)).symm (Arg.of ((hR2.below (by rw [hz2, hz1]; exact hB4)).lies (fun j _ => sealF_byte 0 f j))); obtain ⟨W5, hc2, hR5, hB6, hz5⟩ := copy_row W4 (w1.heap.size + 1) 16 0 0 0 0 C 0 a f _ hR4 (by omega) rfl (HA.out.below (((hB1.trans (hB2.mono hB1.size)).trans (hB3.below hB1.size (by have := hB1.size; omega))).trans ((hB4.mono (by have := hB1.size; omega)).trans (hB5.below (by have := hB1.size; omega) (by have := hB1.size; omega))))))
    | (at_builtin; refine wpList_copy_go rfl (.tmp 11) (.tmp 12) 27 27 rfl _ _ rfl rfl hc1 ?_)
    | (at_builtin; refine wpList_copy_go rfl (.tmp 15) (.tmp 16) 27 27 rfl _ _ rfl rfl hc2 ?_))
  go_ret
  refine ⟨w1.heap.size + 1, rfl, by have := hB1.size; omega, hR5.congr (fun j hj => ?_), ?_⟩
  · unfold over sealedF
    rw [if_neg (by omega), if_pos (by omega), if_pos hj, Nat.sub_zero]
  · exact ((hB1.trans (hB2.mono hB1.size)).trans (hB3.below hB1.size (by have := hB1.size; omega))).trans (((hB4.mono (by have := hB1.size; omega)).trans (hB5.below (by have := hB1.size; omega) (by have := hB1.size; omega))).trans (hB6.below (by have := hB1.size; omega) (by have := hB1.size; omega)))
theorem seal_any (a : Option Addr) (n C : Nat) (f : Nat → Int) (w : World) (h : Arg w a n f) (hC : n ≤ C) (hn : n ≤ 1000000) :
    Calls Try.prog 33 #[.slice a n C] w fun e w' => ∃ g, e = .returned (.slice (some ⟨g, 0, none⟩) (16 + n) (16 + n)) ∧ w.heap.size ≤ g ∧ IRow w' g .u8 (16 + n) (sealedF n f) ∧ Below w.heap.size w w' := by
  by_cases e : n = 0
  · subst e
    exact seal_none a C f w h
  · exact seal_more a n C f w h hC hn (by omega)
end Go.Proofs.Ytfapmogjmjlokaa
