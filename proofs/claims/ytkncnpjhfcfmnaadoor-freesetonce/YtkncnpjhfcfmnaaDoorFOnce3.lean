/-
  Walks, not a claim by itself: no block is taken twice, whatever is handed in. By the verifier.
-/
import Derived.Test.YtkncnpjhfcfmnaaDoorFOnce2
namespace Go.Proofs.YtkncnpjhfcfmnaaDoor
open Go.RowKit
theorem once_any (x : Int) (a : Option Addr) (m C : Nat) (KF NF : Nat → Int) (W : World) (hT : DTab W) (h0 : 0 < W.heap.size) (hA : AArg W a m KF NF) : Calls Tryd.prog 7 #[.int .i64 x, .slice a m C] W fun e w' => e = .returned (.bool true) ∧ Below W.heap.size W w' := by
  by_cases h : x < 1 ∨ 512 < x ∨ 200 < m
  · exact once_far x a m C W hT h0 h
  · obtain ⟨n, rfl⟩ : ∃ n : Nat, x = (n : Int) := ⟨x.toNat, by omega⟩
    exact once_near n m C a KF NF W hT h0 (by omega) (by omega) (by omega) hA
end Go.Proofs.YtkncnpjhfcfmnaaDoor
