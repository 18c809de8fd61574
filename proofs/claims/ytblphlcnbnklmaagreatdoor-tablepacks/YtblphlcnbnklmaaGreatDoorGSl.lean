/-
  Laws for the walk, not a claim by itself: a list of refs is cut from its front. By the verifier.
-/
import Derived.Test.YtblphlcnbnklmaaGreatDoorGVal
import Derived.Test.YtblphlcnbnklmaaGreatDoorCut
namespace Go.Proofs.YtblphlcnbnklmaaGreatDoor
open Go.RowKit
theorem cut_refs {w : World} {b k l cap : Nat} {h : Nat → Int} (hc : ∀ j, j < 2 * k → w.cell? ⟨b, j, none⟩ = some (.int .i64 (h j))) (hb : b < w.heap.size) (hk : k ≤ cap) (hl : l ≤ k) : HArg w (some (cutP b 0 l 2 cap)) (k - l) (fun j => h (2 * l + j)) := by
  unfold cutP
  by_cases e : cap = l
  · rw [if_pos e]; exact .inl (by omega)
  · rw [if_neg e]
    exact .inr ⟨b, 0 + l * 2, rfl, fun j hj => by rw [show 0 + l * 2 + j = 2 * l + j by omega]; exact hc _ (by omega), hb⟩
end Go.Proofs.YtblphlcnbnklmaaGreatDoor
