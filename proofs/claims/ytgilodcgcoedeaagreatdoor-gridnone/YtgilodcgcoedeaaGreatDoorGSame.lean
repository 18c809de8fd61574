/-
  Walks, not a claim by itself: blocks held against one another. By the verifier.
-/
import Derived.Test.YtgilodcgcoedeaaGreatDoorGTk3
namespace Go.Proofs.YtgilodcgcoedeaaGreatDoor
open Go.RowKit
theorem yieldsIf_neq {ops : Array Oper} {S : World → Prop} {op : Oper} {a : Act} (hw : Region.wanted op (yielded ops a.tmps) = true) (t t' : TypeId) (x y : Operand) (ho : op.op = .binOp .neq t x y t')
    (X : Array Value) (hx : a.eval x = .agg X) (hy : a.eval y = .agg X) (he : ∀ w, (binOp .neq t (.agg X) (.agg X)).run Tryz.prog w = .ok (.bool false) w) (hg : Tryz.prog.eqGuardType Tryz.prog.depth t = false) : YieldsIf Tryz.prog ops S op (.bool false) a :=
  .inl ⟨hw, fun w _ => by
    unfold execOp
    simp only [ho, hx, hy, Sem.run_bind, run_eqGuard_agg _ _ _ _ _ _ _ hg, Result.andThen_ok, he]
    rfl⟩
theorem wpList_eql_w {ops : Array Oper} {rest : List Oper} {op : Oper} {a : Act} {w : World} {Q : Exit → Act → World → Prop} (hw : Region.wanted op (yielded ops a.tmps) = true) (t t' : TypeId) (x y : Operand) (ho : op.op = .binOp .eql t x y t')
    (X Y : Array Value) (b : Bool) (hx : a.eval x = .agg X) (hy : a.eval y = .agg Y) (he : ∀ w, (binOp .eql t (.agg X) (.agg Y)).run Tryz.prog w = .ok (.bool b) w) (hg : Tryz.prog.eqGuardType Tryz.prog.depth t = false)
    (hK : wpList Tryz.prog ops Q rest (a.put op.dst (.bool b)) w) : wpList Tryz.prog ops Q (op :: rest) a w := by
  refine wpList_step fun K hK' => ?_
  rw [if_pos hw]
  unfold Oper.wp execOp
  simp only [ho, hx, hy, Sem.run_bind, run_eqGuard_agg _ _ _ _ _ _ _ hg, Result.andThen_ok, he]
  exact hK' _ _ hK
theorem neq_self (p q : Int) (w : World) : (binOp .neq 41 (.agg (twoC p q).toArray) (.agg (twoC p q).toArray)).run Tryz.prog w = .ok (.bool false) w := by
  rw [neq_two]; simp
theorem eql_self (p q : Int) (w : World) : (binOp .eql 41 (.agg (twoC p q).toArray) (.agg (twoC p q).toArray)).run Tryz.prog w = .ok (.bool true) w := by
  simp [go_sem, twoC]
/-- The counter of the loop. -/
def sameRel (w : World) (k : Nat) (i : Value) (wr : World) : Prop := ∃ j : Nat, j ≤ k ∧ i = .int .i64 (j : Int) ∧ Below w.heap.size w wr
set_option maxRecDepth 100000 in
set_option maxHeartbeats 1000000 in
theorem refs_self (a a' : Option Addr) (k C C' : Nat) (h : Nat → Int) (w : World) (hA : HArg w a k h) (hA' : HArg w a' k h) (hk : k ≤ 1000) :
    Calls Tryz.prog 31 #[.slice a k C, .slice a' k C'] w fun e w' => e = .returned (.bool true) ∧ Below w.heap.size w w' := by
  have HA := hidIt hA
  have HA' := hidIt hA'
  clear hA hA'
  have ST : Hid (sameRel w k (.int .i64 0) w) := ⟨0, by omega, rfl, Below.refl _ _⟩
  go_enter Tryz.func31, Tryz.ntmps31
  go_wp2_with fail
  go_loopw [5] (fun i wr => sameRel w k i wr) (fun i _ => k - (RowKit.intOf i).toNat)
  case atStart => exact ST.out
  case round =>
    obtain ⟨j, hj, rfl, hwr⟩ := hrel
    clear ST
    have E2 := hidIt hwr
    clear hwr
    by_cases hlt : j < k
    · have i0 : (j : Int) < (k : Int) := by omega
      rcases HA.out.below E2.out with q | ⟨b, o, rfl, hc, hb⟩
      · omega
      rcases HA'.out.below E2.out with q | ⟨b', o', rfl, hc', hb'⟩
      · omega
      have r1 := HArg.two hc hlt
      have r2 := HArg.two hc' hlt
      have RR : Hid (sameRel w k (.int .i64 ((j : Int) + 1)) wr.drew) := ⟨j + 1, by omega, by go_num, E2.out.drew⟩
      have i1 : IntKind.i64.wrap ((j : Int) + 1) = (j : Int) + 1 := by rw [IntKind.wrap_i64]; omega
      have i2 : wrap64 ((j : Int) + 1) = (j : Int) + 1 := by unfold wrap64; omega
      clear hc hc' hb hb' HA HA'
      go_wp2_with fail
      refine wp_region_noPanic ?_
      refine wp_region_held_drew (S := fun W' => W'.rangeAt b (o + j * 2) (twoC (h (2 * j)) (h (2 * j + 1))) ∧ W'.rangeAt b' (o' + j * 2) (twoC (h (2 * j)) (h (2 * j + 1)))) (by kernel_rfl) ?_ (fun hHeld => ?_)
      · exact ⟨r1, r2⟩
      refine take_at (i := 0) (v := ?_) (some 17) rfl rfl (by kernel_rfl) (by kernel_rfl) (by kernel_rfl) (fun _ _ _ h => h) (Or.inl ⟨by rfl, ?_⟩) (by assumption) ?_
      rotate_left
      · (intro w hSw; (try dsimp only at hSw); (try obtain ⟨q1, q2⟩ := hSw); go_simp; try with_reducible rfl)
      simp only [Act.put, List.setIfInBounds_toArray, List.set_cons_zero, List.set_cons_succ]
      refine take_at (i := 1) (v := ?_) (some 18) rfl rfl (by kernel_rfl) (by kernel_rfl) (by kernel_rfl) (fun _ _ _ h => h) (Or.inl ⟨by rfl, ?_⟩) (by assumption) ?_
      rotate_left
      · (intro w hSw; (try dsimp only at hSw); (try obtain ⟨q1, q2⟩ := hSw); go_simp; try with_reducible rfl)
      simp only [Act.put, List.setIfInBounds_toArray, List.set_cons_zero, List.set_cons_succ]
      refine take_at (i := 2) (v := ?_) (some 19) rfl rfl (by kernel_rfl) (by kernel_rfl) (by kernel_rfl) (fun _ _ _ h => h) (Or.inl ⟨by rfl, ?_⟩) (by assumption) ?_
      rotate_left
      · (intro w hSw; (try dsimp only at hSw); (try obtain ⟨q1, q2⟩ := hSw); go_simp; try with_reducible rfl)
      simp only [Act.put, List.setIfInBounds_toArray, List.set_cons_zero, List.set_cons_succ]
      refine take_at (i := 3) (v := _) (some 20) rfl rfl (by kernel_rfl) (by kernel_rfl) (by kernel_rfl) (fun _ _ _ h => h) (yieldsIf_load_mid (by rfl) 41 (.tmp 19) rfl b (o + j * 2) rfl (twoC (h (2 * j)) (h (2 * j + 1))) _ (fun _ h => h.1) Tryz.underlying41 rfl (by kernel_rfl)) (by assumption) ?_
      simp only [Act.put, List.setIfInBounds_toArray, List.set_cons_zero, List.set_cons_succ]
      refine take_at (i := 4) (v := ?_) (some 21) rfl rfl (by kernel_rfl) (by kernel_rfl) (by kernel_rfl) (fun _ _ _ h => h) (Or.inl ⟨by rfl, ?_⟩) (by assumption) ?_
      rotate_left
      · (intro w hSw; (try dsimp only at hSw); (try obtain ⟨q1, q2⟩ := hSw); go_simp; try with_reducible rfl)
      simp only [Act.put, List.setIfInBounds_toArray, List.set_cons_zero, List.set_cons_succ]
      refine take_at (i := 5) (v := ?_) (some 22) rfl rfl (by kernel_rfl) (by kernel_rfl) (by kernel_rfl) (fun _ _ _ h => h) (Or.inl ⟨by rfl, ?_⟩) (by assumption) ?_
      rotate_left
      · (intro w hSw; (try dsimp only at hSw); (try obtain ⟨q1, q2⟩ := hSw); go_simp; try with_reducible rfl)
      simp only [Act.put, List.setIfInBounds_toArray, List.set_cons_zero, List.set_cons_succ]
      refine take_at (i := 6) (v := ?_) (some 23) rfl rfl (by kernel_rfl) (by kernel_rfl) (by kernel_rfl) (fun _ _ _ h => h) (Or.inl ⟨by rfl, ?_⟩) (by assumption) ?_
      rotate_left
      · (intro w hSw; (try dsimp only at hSw); (try obtain ⟨q1, q2⟩ := hSw); go_simp; try with_reducible rfl)
      simp only [Act.put, List.setIfInBounds_toArray, List.set_cons_zero, List.set_cons_succ]
      refine take_at (i := 7) (v := _) (some 24) rfl rfl (by kernel_rfl) (by kernel_rfl) (by kernel_rfl) (fun _ _ _ h => h) (yieldsIf_load_mid (by rfl) 41 (.tmp 23) rfl b' (o' + j * 2) rfl (twoC (h (2 * j)) (h (2 * j + 1))) _ (fun _ h => h.2) Tryz.underlying41 rfl (by kernel_rfl)) (by assumption) ?_
      simp only [Act.put, List.setIfInBounds_toArray, List.set_cons_zero, List.set_cons_succ]
      refine take_at (i := 8) (v := _) (some 25) rfl rfl (by kernel_rfl) (by kernel_rfl) (by kernel_rfl) (fun _ _ _ h => h) (yieldsIf_neq (by rfl) 41 41 (.tmp 20) (.tmp 24) rfl (twoC (h (2 * j)) (h (2 * j + 1))).toArray rfl rfl (neq_self _ _) guard_ref) (by assumption) ?_
      simp only [Act.put, List.setIfInBounds_toArray, List.set_cons_zero, List.set_cons_succ]
      refine wpAnyH_done (by kernel_rfl) ?_ _
      refine NoPanic.normal ?_
      go_wp2_with fail
      go_roundw
      case rel => exact RR.out
      case measure => simp [RowKit.intOf]; omega
    · have i0 : ¬ (j : Int) < (k : Int) := by omega
      go_wp2
      go_ret
      exact ⟨rfl, E2.out⟩
set_option maxRecDepth 100000 in
set_option maxHeartbeats 1000000 in
theorem blk_self (s : Blk) (a a' b b' : Option Addr) (C C' D D' : Nat) (w : World) (hA : BlkAt w s a C b D) (hA' : BlkAt w s a' C' b' D') (hk : s.k ≤ 1000) :
    Calls Tryz.prog 43 #[blkV s a C b D, blkV s a' C' b' D'] w fun e w' => e = .returned (.bool true) ∧ Below w.heap.size w w' := by
  have HA := hidIt hA
  have HA' := hidIt hA'
  clear hA hA'
  unfold blkV
  go_enter Tryz.func43, Tryz.ntmps43
  go_wp2_with (first
    | (refine wpList_box_rec rfl 67 (.tmp 0) rfl (blkC s a C b D) rfl w.heap.size rfl ?_; intro W0 R0 B0 z0)
    | (refine wpList_box_rec rfl 67 (.tmp 1) rfl (blkC s a' C' b' D') rfl (w.heap.size + 1) z0 ?_; intro W1 R1 B1 z1
       have S0 : Hid (Rec19 W1 w.heap.size 0 (blkC s a C b D)) := R0.below (by rw [z0]; exact B1)
       have S1 := hidIt R1
       have E1 : Hid (Below w.heap.size w W1) := B0.trans (B1.mono (by omega))
       have c00 := S0.out.1 0 _ rfl
       have c10 := S1.out.1 0 _ rfl
       have c03 := S0.out.1 3 _ rfl
       have c13 := S1.out.1 3 _ rfl
       have r0 := hidIt (two_range (S0.out.1 1 _ rfl) (S0.out.1 2 _ rfl))
       have r1 := hidIt (two_range (S1.out.1 1 _ rfl) (S1.out.1 2 _ rfl))
       simp only [Nat.zero_add] at c00 c10 c03 c13 r0 r1
       clear R0 B0 z0 R1 B1)
    | (refine wpList_load_g (by rfl) 41 (.tmp 11) rfl w.heap.size 1 (twoC (s.x 1) (s.x 2)) rfl _ Tryz.underlying41 rfl (by kernel_rfl) r0.out ?_)
    | (refine wpList_load_g (by rfl) 41 (.tmp 13) rfl (w.heap.size + 1) 1 (twoC (s.x 1) (s.x 2)) rfl _ Tryz.underlying41 rfl (by kernel_rfl) r1.out ?_)
    | (refine wpList_eql_w (by rfl) 41 41 (.tmp 12) (.tmp 14) rfl (twoC (s.x 1) (s.x 2)).toArray (twoC (s.x 1) (s.x 2)).toArray true rfl rfl (eql_self _ _) guard_ref ?_)
    | (go_at_call 31; refine (refs_self a a' s.k C C' s.h _ (HA.out.refs.below E1.out) (HA'.out.refs.below E1.out) hk).mono ?_; rintro e w2 ⟨rfl, B2⟩; have c04 := (S0.out.below B2).1 4 _ rfl; have c14 := (S1.out.below B2).1 4 _ rfl; simp only [Nat.zero_add] at c04 c14; have E2 := hidIt (below_sh (Nat.le_refl _) E1.out B2); clear B2 c00 c10 c03 c13)
    | (go_at_call 48; refine (same_any b b' s.n s.n D D' s.F s.F _ (HA.out.body.below E2.out) (HA'.out.body.below E2.out)).mono ?_; rintro e w3 ⟨rfl, rfl⟩; rw [decide_eq_true rfl]))
  go_ret
  exact ⟨rfl, E2.out⟩
end Go.Proofs.YtgilodcgcoedeaaGreatDoor
