/-
  Walks, not a claim by itself: the bits of both words. By the verifier.
-/
import Derived.Test.YtkncnpjhfcfmnaaDoorFLow
namespace Go.Proofs.YtkncnpjhfcfmnaaDoor
open Go.RowKit
/-- A row that is boxed: the world behind it is a letter. -/
theorem wpList_box_row {ops : Array Oper} {rest : List Oper} {op : Oper} {a : Act} {w : World} {Q : Exit → Act → World → Prop} (hgd : op.guard = none) (ty : TypeId) (x : Operand) (ho : op.op = .box ty x) (k : IntKind) (N : Nat) (f : Nat → Int) (H : Nat) (hH : w.heap.size = H) (hx : a.eval x = .agg (cl k N f).toArray)
    (hK : ∀ W, IRow W H k N f → Below H w W → W.heap.size = H + 1 → wpList Tryd.prog ops Q rest (a.put op.dst (.pointer (some ⟨H, 0, none⟩))) W) : wpList Tryd.prog ops Q (op :: rest) a w := by
  subst hH
  refine wpList_plain hgd fun K hK' => ?_
  unfold Oper.wp execOp
  simp only [ho, hx]
  simp [Instr.box, newVar, newRow, Value.cells, Result.andThen]
  exact hK' _ _ (hK _ (IRow.new w ty k N f) ((Below.refl _ _).alloc (Nat.le_refl _) _) (by simp))
/-- The words as numbers. -/
def wds (p : Nat → Bool) (j : Nat) : Int := ((wd p j : Nat) : Int)
theorem zero48 : (Tryd.prog.info? 48).bind (·.zero) = some (.agg (cl .u64 8 fun _ => 0).toArray) := by kernel_rfl
def half (p q : Nat → Bool) (k : Nat) (j : Nat) : Int := if j < k then wds (fun i => p i || q i) j else wds p j
theorem half_step (p q : Nat → Bool) (k : Nat) : upd (half p q k) k (wds (fun i => p i || q i) k) = half p q (k + 1) := by
  funext j
  unfold upd half
  by_cases h : j = k
  · subst h; rw [if_pos rfl, if_pos (by omega)]
  · rw [if_neg h]
    by_cases h2 : j < k
    · rw [if_pos h2, if_pos (by omega)]
    · rw [if_neg h2, if_neg (by omega)]
set_option maxRecDepth 100000 in
set_option maxHeartbeats 1000000 in
theorem wwith_ok (p q : Nat → Bool) (W : World) : Calls Tryd.prog 47 #[.agg (cl .u64 8 (wds p)).toArray, .agg (cl .u64 8 (wds q)).toArray] W fun e w' => e = .returned (.agg (cl .u64 8 (wds fun i => p i || q i)).toArray) ∧ Below W.heap.size W w' := by
  go_enter Tryd.func47, Tryd.ntmps47
  go_wp2_with (first
    | (refine wpList_box_row rfl 48 (.tmp 0) rfl .u64 8 (wds p) W.heap.size rfl rfl ?_; intro W1 R1 B1 z1)
    | (refine wpList_box_row rfl 48 (.tmp 1) rfl .u64 8 (wds q) (W.heap.size + 1) z1 rfl ?_; intro W2 R2 B2 z2; have R1' := R1.below (by rw [z1]; exact B2); clear R1)
    | (refine wpList_alloc_row rfl 48 rfl .u64 8 (W.heap.size + 1 + 1) z2 zero48 ?_; intro W3 R3 B3 z3; have I0 : Hid (IRow W3 W.heap.size .u64 8 (half p q 0) ∧ IRow W3 (W.heap.size + 1) .u64 8 (wds q) ∧ IRow W3 (W.heap.size + 1 + 1) .u64 8 (fun _ => 0) ∧ Below W.heap.size W W3) := ⟨(R1'.below (by rw [z2]; exact B3)).congr (fun j _ => by simp [half]), R2.below (by rw [z2]; exact B3), R3, (B1.trans (B2.mono (by omega))).trans (B3.mono (by omega))⟩; clear R1' R2 R3 B1 B2 B3 z1 z2 z3))
  go_loopw [6] (fun i wr => ∃ k : Nat, k ≤ 8 ∧ i = .int .i64 (k : Int) ∧ Hid (IRow wr W.heap.size .u64 8 (half p q k) ∧ IRow wr (W.heap.size + 1) .u64 8 (wds q) ∧ IRow wr (W.heap.size + 1 + 1) .u64 8 (fun _ => 0) ∧ Below W.heap.size W wr)) (fun i _ => 8 - (RowKit.intOf i).toNat)
  case atStart => exact ⟨0, Nat.zero_le _, rfl, I0⟩
  case round =>
    obtain ⟨k, hk, rfl, hI⟩ := hrel
    by_cases hlt : k < 8
    · have i0 : (k : Int) < 8 := by omega
      have i1 : (0 : Int) ≤ (k : Int) := by omega
      have c1 : wr.drew.cell? ⟨W.heap.size, k, none⟩ = some (.int .u64 (wds p k)) := by
        have := hI.out.1.1 k hlt
        rw [show half p q k k = wds p k by simp [half]] at this
        exact this
      have c2 : wr.drew.cell? ⟨W.heap.size + 1, k, none⟩ = some (.int .u64 (wds q k)) := hI.out.2.1.1 k hlt
      have f1 : wr.drew.frozen? ⟨W.heap.size, k, none⟩ = false := hI.out.1.2.1 k
      have ha : bits .or .u64 (wds p k) (wds q k) = wds (fun i => p i || q i) k := by
        unfold wds
        rw [u64_or_nat _ _ (wd_lt _ _) (wd_lt _ _), wd_or]
      have R := hidIt (hI.out.1.set k (wds (fun i => p i || q i) k)).drew
      rw [half_step] at R
      have B : But W.heap.size wr (wr.setCell ⟨W.heap.size, k, none⟩ (.int .u64 (wds (fun i => p i || q i) k))).drew := (But.set _ _ _).drew
      have R2 := hidIt (hI.out.2.1.but B (by omega))
      have R3 := hidIt (hI.out.2.2.1.but B (by omega))
      have R4 := hidIt (hI.out.2.2.2.trans (B.below (Nat.le_refl _) (Nat.le_of_lt hI.out.1.2.2)))
      clear B hI
      go_wp2
      go_region
      all_goals go_wp2
      all_goals exact ⟨⟨k + 1, by omega, by simp, R.out, R2.out, R3.out, R4.out⟩, by simp [RowKit.intOf]; omega⟩
    · obtain rfl : k = 8 := by omega
      have i0 : ¬ (8 : Int) < 8 := by omega
      rw [show ((8 : Nat) : Int) = 8 from rfl]
      have RA := hidIt (hI.out.1.congr (g := wds fun i => p i || q i) (fun j hj => by simp [half, hj]))
      go_wp2_with (first
        | (refine wpList_load_irow rfl 48 (.tmp 2) rfl W.heap.size .u64 8 (wds fun i => p i || q i) rfl _ Tryd.underlying48 rfl (by kernel_rfl) RA.out ?_)
        | (refine wpList_store_row rfl 48 (.tmp 4) (.tmp 18) rfl (W.heap.size + 1 + 1) .u64 8 (wds fun i => p i || q i) _ rfl rfl hI.out.2.2.1 (by kernel_rfl) ?_; intro W9 R9 B9 z9))
      have hl := R9.run_load 48 _ Tryd.underlying48 rfl (by kernel_rfl)
      exact bodyPost_ret (v := .agg (cl .u64 8 (wds fun i => p i || q i)).toArray) (by simp [results, Tryd.results47, asAddr, hl]) rfl ⟨rfl, hI.out.2.2.2.trans (B9.below (by omega) (Nat.le_of_lt hI.out.1.2.2))⟩
end Go.Proofs.YtkncnpjhfcfmnaaDoor
