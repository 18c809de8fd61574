/-
  Walks, not a claim by itself: the kit's KeptBytes. By the verifier.
-/
import Derived.Test.YtjofoeelkeacgaaLent2
import Derived.Deep.RegionHeld3
import Derived.Deep.DeepFit
namespace Go.Proofs.Ytjofoeelkeacgaa
open Go.RowKit
set_option maxRecDepth 100000 in
set_option maxHeartbeats 1000000 in
theorem kept_any (g : Nat) (a : Option Addr) (n C : Nat) (f : Nat → Int) (w : World) (h : Arg w a n f) (hn : n ≤ 1000000) (hR : Row w g (n + 3) (lentF n f 3)) :
    Calls Try.prog 20 #[.slice (some ⟨g, 0, none⟩) n (n + 3), .slice a n C] w fun e w' => e = .returned (.bool true) ∧ Below w.heap.size w w' := by
  have HA : Hid (Arg w.drew a n f) := h
  have HR : Hid (Row w g (n + 3) (lentF n f 3)) := hR
  clear h hR
  have wr1 : wrap64 ((n : Int) + 3) = (n : Int) + 3 := by unfold wrap64; omega
  have wr2 : IntKind.i64.wrap ((n : Int) + 3) = (n : Int) + 3 := by rw [IntKind.wrap_i64]; omega
  have e1 : ((n + 3 : Nat) : Int) = (n : Int) + 3 := by omega
  have e2 : ((n : Int) + 3).toNat = n + 3 := by omega
  have e3 : (0 : Int) ≤ (n : Int) + 3 := by omega
  go_enter Try.func20, Try.ntmps20
  go_wp2_with fail
  go_region_held3 (fun w' => True) (trivial)
    (first
      | (go_at_call 15; refine (lent_any a n C f _ HA.out hn).mono ?_; rintro e w1 ⟨g1, rfl, hg1, hR1, hB1⟩)
      | (go_at_call 10; refine (same_trueN g _ 0 0 (n + 3) _ _ (lentF n f 3) _ (fun j hj => by rw [Nat.zero_add]; exact ((HR.out.drew.below (by assumption)).1 j hj)) (fun j hj => by rw [Nat.zero_add]; exact ((by assumption : Row _ _ (n + 3) (lentF n f 3)).1 j hj))).mono ?_; rintro e w2 ⟨rfl, hw⟩; rw [hw]; clear hw))
  go_wp2_with fail
  go_ret
  exact ⟨rfl, (Below.refl _ _).drew.trans (by assumption)⟩
end Go.Proofs.Ytjofoeelkeacgaa
