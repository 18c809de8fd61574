/-
  Walks, not a claim by itself: what record's readers answer at counts of bytes that are wrong. By the verifier.
-/
import Derived.Test.YtlcnhmlcmedonaaR19
namespace Go.Proofs.Ytlcnhmlcmedonaa
open Go.RowKit

set_option maxRecDepth 100000 in
theorem readAccount_no (a : Option Addr) (len cap : Nat) (w : World) (h : len ≠ 128) :
    Calls Try.prog 26 #[.slice a len cap] w fun e w' => e = .returned (.tuple #[.agg zero19.toArray, .int .i64 4]) ∧ Below w.heap.size w w' := by
  have h' : ((len : Int) != 128) = true := by simp; omega
  go_enter Try.func26, Try.ntmps26
  go_wp2_with (refine wpList_store_rec rfl 28 (.tmp 2) _ rfl w.heap.size 0 zero19 zero19 rfl rfl (Rec19.new w 28 zero19) rfl (by kernel_rfl) zero19_one ?_; intro W2 hR hB; have B : Hid (Below w.heap.size w W2) := ((Below.refl _ _).alloc (Nat.le_refl _) _).trans (hB.below (Nat.le_refl _) (by simp)); clear hB)
  have hl := hR.run_load 28 _ Try.underlying28 rfl (by kernel_rfl)
  refine bodyPost_ret (v := .tuple #[.agg zero19.toArray, .int .i64 4]) (by simp [results, Try.results26, asAddr, hl]) rfl ⟨rfl, B.out⟩

set_option maxRecDepth 100000 in
theorem readTransfer_no (a : Option Addr) (len cap : Nat) (w : World) (h : len ≠ 128) :
    Calls Try.prog 27 #[.slice a len cap] w fun e w' => e = .returned (.tuple #[.agg zero19.toArray, .int .i64 4]) ∧ Below w.heap.size w w' := by
  have h' : ((len : Int) != 128) = true := by simp; omega
  go_enter Try.func27, Try.ntmps27
  go_wp2_with (refine wpList_store_rec rfl 30 (.tmp 2) _ rfl w.heap.size 0 zero19 zero19 rfl rfl (Rec19.new w 30 zero19) rfl (by kernel_rfl) zero19_one ?_; intro W2 hR hB; have B : Hid (Below w.heap.size w W2) := ((Below.refl _ _).alloc (Nat.le_refl _) _).trans (hB.below (Nat.le_refl _) (by simp)); clear hB)
  have hl := hR.run_load 30 _ Try.underlying30 rfl (by kernel_rfl)
  refine bodyPost_ret (v := .tuple #[.agg zero19.toArray, .int .i64 4]) (by simp [results, Try.results27, asAddr, hl]) rfl ⟨rfl, B.out⟩
end Go.Proofs.Ytlcnhmlcmedonaa
