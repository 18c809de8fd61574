/-
  Walks, not a claim by itself: which bytes the reference Bytes hands back. By the verifier.
-/
import Derived.Test.YtkpkehbhgfbckaaBytes
import Derived.Deep.Light
import Derived.Deep.QuietTactic
import Derived.BigQuiet
import Derived.WalkSmall
namespace Go.Proofs.Ytkpkehbhgfbckaa
open Go.RowKit

set_option maxRecDepth 100000 in
set_option maxHeartbeats 4000000 in
theorem rbytes_one (h l : Int) (w : World) (h1 : Word h) (h2 : Word l) :
    Calls Try.prog 30 #[U h l] w fun e w' => e = .returned (BytesOf h l) ∧ ∃ c1 c2 c3 : Array Value, w' = ((w.alloc (.cells c1 24)).alloc (.cells c2 42)).alloc (.cells c3 42) := by
  obtain ⟨a1, a2⟩ := h1
  obtain ⟨b1, b2⟩ := h2
  go_enter Try.func30, Try.ntmps30
  go_wp2
  refine wp_loop_rounds 9 ?_
  iterate 9 (rw [rounds_succ]; go_wp2)
  exact bodyPost_ret (v := BytesOf h l) (by simp [results, Try.results30, go_sem]) rfl ⟨rfl, _, _, _, rfl⟩
theorem rbytes_any (h l : Int) (w : World) (h1 : Word h) (h2 : Word l) :
    Calls Try.prog 30 #[U h l] w fun e w' => e = .returned (BytesOf h l) ∧ Below w.heap.size w w' := by
  refine (rbytes_one h l w h1 h2).mono ?_
  rintro e w' ⟨rfl, c1, c2, c3, rfl⟩
  exact ⟨rfl, (((Below.refl _ _).alloc (Nat.le_refl _) _).alloc (by simp) _).alloc (by simp; omega) _⟩
end Go.Proofs.Ytkpkehbhgfbckaa
