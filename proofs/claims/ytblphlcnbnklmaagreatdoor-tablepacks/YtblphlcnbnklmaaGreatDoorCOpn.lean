/-
  Plain facts, not a claim by itself: sealed bytes. By the verifier.
-/
import Derived.Test.YtblphlcnbnklmaaGreatDoorCRgt
namespace Go.Proofs.YtblphlcnbnklmaaGreatDoor
open Go.RowKit
/-- Whether sealed bytes are right. -/
def opens (n : Nat) (f : Nat → Int) : Bool := eqN 16 (sealF (n - 16) (fun j => f (16 + j))) f
theorem eqN_over (g f : Nat → Int) : eqN 16 g (over (fun _ => 0) 0 16 f) = eqN 16 g f := by
  rw [Bool.eq_iff_iff, eqN_iff, eqN_iff]
  have : ∀ i, i < 16 → over (fun _ => 0) 0 16 f i = f i := fun i hi => by unfold over; rw [if_pos (by omega), Nat.sub_zero]
  constructor
  · intro h i hi; rw [h i hi, this i hi]
  · intro h i hi; rw [h i hi, this i hi]
/-- What is sealed is opened. -/
theorem opens_sealed (n : Nat) (f : Nat → Int) : opens (16 + n) (sealedF n f) = true := by
  unfold opens
  rw [eqN_iff]
  intro i hi
  rw [show 16 + n - 16 = n by omega, sealF_congr n (fun j => sealedF n f (16 + j)) f (fun j _ => by unfold sealedF; rw [if_neg (by omega), show 16 + j - 16 = j by omega])]
  unfold sealedF
  rw [if_pos hi]
end Go.Proofs.YtblphlcnbnklmaaGreatDoor
