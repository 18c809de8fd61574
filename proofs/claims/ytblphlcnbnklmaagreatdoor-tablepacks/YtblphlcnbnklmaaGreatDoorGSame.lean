
/-
  Walks, not a claim by itself: blocks held against one another. By the verifier.
-/
import Derived.Test.YtblphlcnbnklmaaGreatDoorGTk3
namespace Go.Proofs.YtblphlcnbnklmaaGreatDoor
open Go.RowKit
theorem yieldsIf_neq {ops : Array Oper} {S : World → Prop} {op : Oper} {a : Act} (hw : Region.wanted op (yielded ops a.tmps) = true) (t t' : TypeId) (x y : Operand) (ho : op.op = .binOp .neq t x y t')
    (X : Array Value) (hx : a.eval x = .agg X) (hy : a.eval y = .agg X) (he : ∀ w, (binOp .neq t (.agg X) (.agg X)).run Tryz.prog w = .ok (.bool false) w) (hg : Tryz.prog.eqGuardType Tryz.prog.depth t = false) : YieldsIf Tryz.prog ops S op (.bool false) a :=
  .inl ⟨hw, fun w _ => by
    unfold execOp
    simp only [ho, hx, hy, Sem.run_bind, run_eqGuard_agg _ _ _ _ _ _ _ hg, Result.andThen_ok, he]
    rfl⟩
theorem wpList_eql_w {ops : Array Oper} {rest : List Oper} {op : Oper} {a : Act} {w : World} {Q : Exit → Act → World → Prop} (hw : Region.wanted op (yielded ops a.tmps) = true) (t t' : TypeId) (x y : Operand) (ho : op.op = .binOp .eql t x y t')
    (X Y : Array Value) (b : Bool) (hx : a.eval x = .agg X) (hy : a.eval y = .agg Y) (he : ∀ w, (binOp .eql t (.agg X) (.agg Y)).run Tryz.prog w = .ok (.bool b) w) (hg : Tryz.prog.eqGuardType Tryz.prog.depth t = false)
    (hK : wpList Tryz.prog ops Q rest (a.put op.dst (.bool b)) w) : wpList Tryz.prog ops Q (op :: rest) a w := by
  refine wpList_step fun K hK' => ?_
  rw [if_pos hw]
  unfold Oper.wp execOp
  simp only [ho, hx, hy, Sem.run_bind, run_eqGuard_agg _ _ _ _ _ _ _ hg, Result.andThen_ok, he]
  exact hK' _ _ hK
theorem neq_self (p q : Int) (w : World) : (binOp .neq 57 (.agg (twoC p q).toArray) (.agg (twoC p q).toArray)).run Tryz.prog w = .ok (.bool false) w := by
  rw [neq_two]; simp
theorem eql_self (p q : Int) (w : World) : (binOp .eql 57 (.agg (twoC p q).toArray) (.agg (twoC p q).toArray)).run Tryz.prog w = .ok (.bool true) w := by
  simp [go_sem, twoC]
/-- The counter of the loop. -/
def sameRel (w : World) (k : Nat) (i : Value) (wr : World) : Prop := ∃ j : Nat, j ≤ k ∧ i = .int .i64 (j : Int) ∧ Below w.heap.size w wr
set_option maxRecDepth 100000 in
set_option maxHeartbeats 1000000 in
theorem refs_self (a a' : Option Addr) (k C C' : Nat) (h : Nat → Int) (w : World) (hA : HArg w a k h) (hA' : HArg w a' k h) (hk : k ≤ 1000) :
    Calls Tryz.prog 36 #[.slice a k C, .slice a' k C'] w fun e w' => e = .returned (.bool true) ∧ Below w.heap.size w w' := by
  have HA := hidIt hA
  have HA' := hidIt hA'
  clear hA hA'
  have ST : Hid (sameRel w k (.int .i64 0) w) := ⟨0, by omega, rfl, Below.refl _ _⟩
  go_enter Tryz.func36, Tryz.ntmps36
  go_wp2_with fail
  go_loopw [5] (fun i wr => sameRel w k i wr) (fun i _ => k - (RowKit.intOf i).toNat)
  case atStart => exact ST.out
  case round =>
    obtain ⟨j, hj, rfl, hwr⟩ := hrel
    clear ST
    have E2 := hidIt hwr
    clear hwr
    by_cases hlt : j < k
    · have i0 : (j : Int) < (k : Int) := by omega
      rcases HA.out.below E2.out with q | ⟨b, o, rfl, hc, hb⟩
      · omega
      rcases HA'.out.below E2.out with q | ⟨b', o', rfl, hc', hb'⟩
      · omega
      have r1 := HArg.two hc hlt
      have r2 := HArg.two hc' hlt
      have RR : Hid (sameRel w k (.int .i64 ((j : Int) + 1)) wr.drew) := ⟨j + 1, by omega, by go_num, E2.out.drew⟩
      have i1 : IntKind.i64.wrap ((j : Int) + 1) = (j : Int) + 1 := by rw [IntKind.wrap_i64]; omega
      have i2 : wrap64 ((j : Int) + 1) = (j : Int) + 1 := by unfold wrap64; omega
      clear hc hc' hb hb' HA HA'
      go_wp2_with fail
      refine wp_region_noPanic ?_
      refine wp_region_held_drew (S := fun W' => W'.rangeAt b (o + j * 2) (twoC (h (2 * j)) (h (2 * j + 1))) ∧ W'.rangeAt b' (o' + j * 2) (twoC (h (2 * j)) (h (2 * j + 1)))) (by kernel_rfl) ?_ (fun hHeld => ?_)
      · exact ⟨r1, r2⟩
      refine take_at (i := 0) (v := ?_) (some 17) rfl rfl (by kernel_rfl) (by kernel_rfl) (by kernel_rfl) (fun _ _ _ h => h) (Or.inl ⟨by rfl, ?_⟩) (by assumption) ?_
      rotate_left
      · (intro w hSw; (try dsimp only at hSw); (try obtain ⟨q1, q2⟩ := hSw); go_simp; try with_reducible rfl)
      simp only [Act.put, List.setIfInBounds_toArray, List.set_cons_zero, List.set_cons_succ]
      refine take_at (i := 1) (v := ?_) (some 18) rfl rfl (by kernel_rfl) (by kernel_rfl) (by kernel_rfl) (fun _ _ _ h => h) (Or.inl ⟨by rfl, ?_⟩) (by assumption) ?_
      rotate_left
      · (intro w hSw; (try dsimp only at hSw); (try obtain ⟨q1, q2⟩ := hSw); go_simp; try with_reducible rfl)
      simp only [Act.put, List.setIfInBounds_toArray, List.set_cons_zero, List.set_cons_succ]
      refine take_at (i := 2) (v := ?_) (some 19) rfl rfl (by kernel_rfl) (by kernel_rfl) (by kernel_rfl) (fun _ _ _ h => h) (Or.inl ⟨by rfl, ?_⟩) (by assumption) ?_
      rotate_left
      · (intro w hSw; (try dsimp only at hSw); (try obtain ⟨q1, q2⟩ := hSw); go_simp; try with_reducible rfl)
      simp only [Act.put, List.setIfInBounds_toArray, List.set_cons_zero, List.set_cons_succ]
      refine take_at (i := 3) (v := _) (some 20) rfl rfl (by kernel_rfl) (by kernel_rfl) (by kernel_rfl) (fun _ _ _ h => h) (yieldsIf_load_mid (by rfl) 57 (.tmp 19) rfl b (o + j * 2) rfl (twoC (h (2 * j)) (h (2 * j + 1))) _ (fun _ h => h.1) Tryz.underlying57 rfl (by kernel_rfl)) (by assumption) ?_
      simp only [Act.put, List.setIfInBounds_toArray, List.set_cons_zero, List.set_cons_succ]
      refine take_at (i := 4) (v := ?_) (some 21) rfl rfl (by kernel_rfl) (by kernel_rfl) (by kernel_rfl) (fun _ _ _ h => h) (Or.inl ⟨by rfl, ?_⟩) (by assumption) ?_
      rotate_left
      · (intro w hSw; (try dsimp only at hSw); (try obtain ⟨q1, q2⟩ := hSw); go_simp; try with_reducible rfl)
      simp only [Act.put, List.setIfInBounds_toArray, List.set_cons_zero, List.set_cons_succ]
      refine take_at (i := 5) (v := ?_) (some 22) rfl rfl (by kernel_rfl) (by kernel_rfl) (by kernel_rfl) (fun _ _ _ h => h) (Or.inl ⟨by rfl, ?_⟩) (by assumption) ?_
      rotate_left
      · (intro w hSw; (try dsimp only at hSw); (try obtain ⟨q1, q2⟩ := hSw); go_simp; try with_reducible rfl)
      simp only [Act.put, List.setIfInBounds_toArray, List.set_cons_zero, List.set_cons_succ]
      refine take_at (i := 6) (v := ?_) (some 23) rfl rfl (by kernel_rfl) (by kernel_rfl) (by kernel_rfl) (fun _ _ _ h => h) (Or.inl ⟨by rfl, ?_⟩) (by assumption) ?_
      rotate_left
      · (intro w hSw; (try dsimp only at hSw); (try obtain ⟨q1, q2⟩ := hSw); go_simp; try with_reducible rfl)
      simp only [Act.put, List.setIfInBounds_toArray, List.set_cons_zero, List.set_cons_succ]
      refine take_at (i := 7) (v := _) (some 24) rfl rfl (by kernel_rfl) (by kernel_rfl) (by kernel_rfl) (fun _ _ _ h => h) (yieldsIf_load_mid (by rfl) 57 (.tmp 23) rfl b' (o' + j * 2) rfl (twoC (h (2 * j)) (h (2 * j + 1))) _ (fun _ h => h.2) Tryz.underlying57 rfl (by kernel_rfl)) (by assumption) ?_
      simp only [Act.put, List.setIfInBounds_toArray, List.set_cons_zero, List.set_cons_succ]
      refine take_at (i := 8) (v := _) (some 25) rfl rfl (by kernel_rfl) (by kernel_rfl) (by kernel_rfl) (fun _ _ _ h => h) (yieldsIf_neq (by rfl) 57 57 (.tmp 20) (.tmp 24) rfl (twoC (h (2 * j)) (h (2 * j + 1))).toArray rfl rfl (neq_self _ _) guard_ref) (by assumption) ?_
      simp only [Act.put, List.setIfInBounds_toArray, List.set_cons_zero, List.set_cons_succ]
      refine wpAnyH_done (by kernel_rfl) ?_ _
      refine NoPanic.normal ?_
      go_wp2_with fail
      go_roundw
      case rel => exact RR.out
      case measure => simp [RowKit.intOf]; omega
    · have i0 : ¬ (j : Int) < (k : Int) := by omega
      go_wp2
      go_ret
      exact ⟨rfl, E2.out⟩
end Go.Proofs.YtblphlcnbnklmaaGreatDoor
