/-
  Walks, not a claim by itself: ChecksumBack. By the verifier.
-/
import Derived.Test.YtgcmlnjmfdoomaaCKnown
namespace Go.Proofs.Ytgcmlnjmfdoomaa
open Go.RowKit
theorem txt_back (n : Nat) (f : Nat → Int) : txtN n (fun j => sealedF n f (16 + j)) = txtN n f :=
  txtN_congr n _ _ (fun j _ => by unfold sealedF; rw [if_neg (by omega), show 16 + j - 16 = j by omega])
theorem txt_again (k : Nat) (g : Nat → Int) (ho : opens (16 + k) g = true) : txtN (16 + k) (sealedF k (fun j => g (16 + j))) = txtN (16 + k) g := by
  unfold opens at ho
  rw [show 16 + k - 16 = k by omega] at ho
  refine txtN_congr (16 + k) _ _ (fun j hj => ?_)
  unfold sealedF
  by_cases e : j < 16
  · rw [if_pos e]; exact (eqN_iff _ _ _).1 ho j e
  · rw [if_neg e]; show g (16 + (j - 16)) = g j; rw [show 16 + (j - 16) = j by omega]
set_option maxHeartbeats 1000000 in
theorem back_long (a a' : Option Addr) (n C m C' : Nat) (w : World) (h : 5000 < n ∨ 5000 < m) :
    Calls Try.prog 6 #[.slice a n C, .slice a' m C'] w fun e w' => e = .returned (.bool true) ∧ Below w.heap.size w w' := by
  by_cases h1 : 5000 < n
  · have e1 : (5000 : Int) < n := by omega
    clear h
    go_enter Try.func6, Try.ntmps6
    go_wp2_with (go_at_call 5; refine (known_any _).mono ?_; rintro e w1 ⟨rfl, hB1⟩)
    go_ret
    exact ⟨rfl, hB1⟩
  · have e1 : ¬ (5000 : Int) < n := by omega
    have e2 : (5000 : Int) < m := by omega
    clear h
    go_enter Try.func6, Try.ntmps6
    go_wp2_with (go_at_call 5; refine (known_any _).mono ?_; rintro e w1 ⟨rfl, hB1⟩)
    go_ret
    exact ⟨rfl, hB1⟩
set_option maxRecDepth 100000 in
set_option maxHeartbeats 1000000 in
theorem back_few (a a' : Option Addr) (n C m C' : Nat) (f : Nat → Int) (w : World) (h : Arg w a n f) (hC : n ≤ C) (hn : n ≤ 5000) (hm : m ≤ 5000) (h16 : m < 16) :
    Calls Try.prog 6 #[.slice a n C, .slice a' m C'] w fun e w' => e = .returned (.bool true) ∧ Below w.heap.size w w' := by
  have e1 : ¬ (5000 : Int) < n := by omega
  have e2 : ¬ (5000 : Int) < m := by omega
  have HA : Hid (Arg w a n f) := h
  have FB : Hid (∀ j, j < n → 0 ≤ f j ∧ f j < 256) := h.bytes
  clear h
  go_enter Try.func6, Try.ntmps6
  go_wp2_with (go_at_call 5; refine (known_any _).mono ?_; rintro e w1 ⟨rfl, hB1⟩)
  refine (seal_any a n C f _ (HA.out.below hB1) hC (by omega)).mono ?_
  rintro e w2 ⟨q, rfl, hq, hR2, hB2⟩
  have E2 : Below w.heap.size w w2 := hB1.trans (hB2.mono hB1.size)
  go_wp2_with fail
  refine (open_ok (some ⟨q, 0, none⟩) (16 + n) (16 + n) (sealedF n f) _ (Arg.of (hR2.lies (sealed_byte n f FB.out))) (by omega) (by omega) (by omega) (opens_sealed n f)).mono ?_
  rintro e w3 ⟨r, rfl, hr, hR3, hB3⟩
  rw [show 16 + n - 16 = n by omega] at hR3 ⊢
  have E3 : Below w.heap.size w w3 := E2.trans (hB3.mono E2.size)
  clear hB1 hR2 hB2 hB3 E2 hq hr
  go_wp2_with fail
  refine (same_any (some ⟨r, 0, none⟩) a n n n C (fun j => sealedF n f (16 + j)) f _ (Arg.of (hR3.lies (fun j hj => sealed_byte n f FB.out (16 + j) (by omega)))) (HA.out.below E3)).mono ?_
  rintro e w4 ⟨rfl, hw⟩
  rw [hw, txt_back, decide_eq_true rfl]
  clear hw w4 hR3
  go_wp2_with fail
  refine (open_few a' m C' _ h16).mono ?_
  rintro e w5 ⟨rfl, rfl⟩
  go_wp2_with fail
  go_ret
  exact ⟨rfl, E3⟩
set_option maxRecDepth 100000 in
set_option maxHeartbeats 1000000 in
theorem back_no (a a' : Option Addr) (n C m C' : Nat) (f g : Nat → Int) (w : World) (h : Arg w a n f) (hC : n ≤ C) (hn : n ≤ 5000) (h' : Arg w a' m g) (hC' : m ≤ C') (hm : m ≤ 5000) (h16 : 16 ≤ m) (ho : opens m g = false) :
    Calls Try.prog 6 #[.slice a n C, .slice a' m C'] w fun e w' => e = .returned (.bool true) ∧ Below w.heap.size w w' := by
  have e1 : ¬ (5000 : Int) < n := by omega
  have e2 : ¬ (5000 : Int) < m := by omega
  have HA : Hid (Arg w a n f) := h
  have HG : Hid (Arg w a' m g) := h'
  have FB : Hid (∀ j, j < n → 0 ≤ f j ∧ f j < 256) := h.bytes
  clear h h'
  go_enter Try.func6, Try.ntmps6
  go_wp2_with (go_at_call 5; refine (known_any _).mono ?_; rintro e w1 ⟨rfl, hB1⟩)
  refine (seal_any a n C f _ (HA.out.below hB1) hC (by omega)).mono ?_
  rintro e w2 ⟨q, rfl, hq, hR2, hB2⟩
  have E2 : Below w.heap.size w w2 := hB1.trans (hB2.mono hB1.size)
  go_wp2_with fail
  refine (open_ok (some ⟨q, 0, none⟩) (16 + n) (16 + n) (sealedF n f) _ (Arg.of (hR2.lies (sealed_byte n f FB.out))) (by omega) (by omega) (by omega) (opens_sealed n f)).mono ?_
  rintro e w3 ⟨r, rfl, hr, hR3, hB3⟩
  rw [show 16 + n - 16 = n by omega] at hR3 ⊢
  have E3 : Below w.heap.size w w3 := E2.trans (hB3.mono E2.size)
  clear hB1 hR2 hB2 hB3 E2 hq hr
  go_wp2_with fail
  refine (same_any (some ⟨r, 0, none⟩) a n n n C (fun j => sealedF n f (16 + j)) f _ (Arg.of (hR3.lies (fun j hj => sealed_byte n f FB.out (16 + j) (by omega)))) (HA.out.below E3)).mono ?_
  rintro e w4 ⟨rfl, hw⟩
  rw [hw, txt_back, decide_eq_true rfl]
  clear hw w4 hR3
  go_wp2_with fail
  refine (open_no a' m C' g _ (HG.out.below E3) h16 hC' (by omega) ho).mono ?_
  rintro e w5 ⟨rfl, hB5⟩
  have E5 : Below w.heap.size w w5 := E3.trans (hB5.mono E3.size)
  clear hB5 E3
  go_wp2_with fail
  go_ret
  exact ⟨rfl, E5⟩
set_option maxRecDepth 100000 in
set_option maxHeartbeats 1000000 in
theorem back_ok (a a' : Option Addr) (n C k C' : Nat) (f g : Nat → Int) (w : World) (h : Arg w a n f) (hC : n ≤ C) (hn : n ≤ 5000) (h' : Arg w a' (16 + k) g) (hC' : 16 + k ≤ C') (hm : 16 + k ≤ 5000) (ho : opens (16 + k) g = true) :
    Calls Try.prog 6 #[.slice a n C, .slice a' (16 + k) C'] w fun e w' => e = .returned (.bool true) ∧ Below w.heap.size w w' := by
  have e1 : ¬ (5000 : Int) < n := by omega
  have e2 : ¬ (5000 : Int) < 16 + (k : Int) := by omega
  have HA : Hid (Arg w a n f) := h
  have HG : Hid (Arg w a' (16 + k) g) := h'
  have FB : Hid (∀ j, j < n → 0 ≤ f j ∧ f j < 256) := h.bytes
  clear h h'
  go_enter Try.func6, Try.ntmps6
  go_wp2_with (go_at_call 5; refine (known_any _).mono ?_; rintro e w1 ⟨rfl, hB1⟩)
  refine (seal_any a n C f _ (HA.out.below hB1) hC (by omega)).mono ?_
  rintro e w2 ⟨q, rfl, hq, hR2, hB2⟩
  have E2 : Below w.heap.size w w2 := hB1.trans (hB2.mono hB1.size)
  go_wp2_with fail
  refine (open_ok (some ⟨q, 0, none⟩) (16 + n) (16 + n) (sealedF n f) _ (Arg.of (hR2.lies (sealed_byte n f FB.out))) (by omega) (by omega) (by omega) (opens_sealed n f)).mono ?_
  rintro e w3 ⟨r, rfl, hr, hR3, hB3⟩
  rw [show 16 + n - 16 = n by omega] at hR3 ⊢
  have E3 : Below w.heap.size w w3 := E2.trans (hB3.mono E2.size)
  clear hB1 hR2 hB2 hB3 E2 hq hr
  go_wp2_with fail
  refine (same_any (some ⟨r, 0, none⟩) a n n n C (fun j => sealedF n f (16 + j)) f _ (Arg.of (hR3.lies (fun j hj => sealed_byte n f FB.out (16 + j) (by omega)))) (HA.out.below E3)).mono ?_
  rintro e w4 ⟨rfl, hw⟩
  rw [hw, txt_back, decide_eq_true rfl]
  clear hw w4 hR3
  go_wp2_with fail
  refine (open_ok a' (16 + k) C' g _ (HG.out.below E3) (by omega) hC' (by omega) ho).mono ?_
  rintro e w5 ⟨s, rfl, hs, hR5, hB5⟩
  rw [show 16 + k - 16 = k by omega] at hR5 ⊢
  have E5 : Below w.heap.size w w5 := E3.trans (hB5.mono E3.size)
  have A5 : Arg w5 (some ⟨s, 0, none⟩) k (fun j => g (16 + j)) := Arg.of (hR5.lies (fun j hj => HG.out.bytes (16 + j) (by omega)))
  have HT : Hid (txtN (16 + k) (sealedF k (fun j => g (16 + j))) = txtN (16 + k) g) := txt_again k g ho
  clear hB5 E3 hR5 hs ho
  go_wp2_with fail
  refine (seal_any (some ⟨s, 0, none⟩) k k (fun j => g (16 + j)) _ A5 (Nat.le_refl _) (by omega)).mono ?_
  rintro e w6 ⟨q, rfl, hq, hR6, hB6⟩
  have E6 : Below w.heap.size w w6 := E5.trans (hB6.mono E5.size)
  clear hB6 E5 hq A5
  go_wp2_with fail
  refine (same_any (some ⟨q, 0, none⟩) a' (16 + k) (16 + k) (16 + k) C' (sealedF k (fun j => g (16 + j))) g _ (Arg.of (hR6.lies (sealed_byte k _ (fun j hj => HG.out.bytes (16 + j) (by omega))))) (HG.out.below E6)).mono ?_
  rintro e w7 ⟨rfl, hw⟩
  rw [hw, HT.out, decide_eq_true rfl]
  clear hw w7 hR6
  go_wp2_with fail
  go_ret
  exact ⟨rfl, E6⟩
theorem back_any (a a' : Option Addr) (n C m C' : Nat) (f g : Nat → Int) (w : World) (h : Arg w a n f) (hC : n ≤ C) (h' : Arg w a' m g) (hC' : m ≤ C') :
    Calls Try.prog 6 #[.slice a n C, .slice a' m C'] w fun e w' => e = .returned (.bool true) ∧ Below w.heap.size w w' := by
  by_cases h1 : 5000 < n ∨ 5000 < m
  · exact back_long a a' n C m C' w h1
  · by_cases h2 : m < 16
    · exact back_few a a' n C m C' f w h hC (by omega) (by omega) h2
    · cases h3 : opens m g
      · exact back_no a a' n C m C' f g w h hC (by omega) h' hC' (by omega) (by omega) h3
      · obtain ⟨k, rfl⟩ : ∃ k, m = 16 + k := ⟨m - 16, by omega⟩
        exact back_ok a a' n C k C' f g w h hC (by omega) h' hC' (by omega) h3
end Go.Proofs.Ytgcmlnjmfdoomaa
