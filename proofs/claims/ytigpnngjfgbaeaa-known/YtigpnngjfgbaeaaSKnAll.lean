/-
  Proved: SuperblockKnown: called in whatever memory, on every schedule, the statement's function returns true: the chapter's examples are answered as it says. No condition.
-/
import Derived.Test.YtigpnngjfgbaeaaSHds
import Derived.Test.YtigpnngjfgbaeaaSFnd
import Derived.Test.YtigpnngjfgbaeaaSWr
import Derived.Test.YtigpnngjfgbaeaaReg
import Derived.ProofKit
import Derived.OpenShut
import Derived.ShutString
import Derived.ChangeOld
import Derived.Below
namespace Go.Proofs.Ytigpnngjfgbaeaa
open Go.RowKit Go.Maps
theorem wpList_neq_w {ops : Array Oper} {rest : List Oper} {op : Oper} {a : Act} {w : World} {Q : Exit → Act → World → Prop} (hw : Region.wanted op (yielded ops a.tmps) = true) (t t' : TypeId) (x y : Operand) (ho : op.op = .binOp .neq t x y t')
    (X : Array Value) (hx : a.eval x = .agg X) (hy : a.eval y = .agg X) (he : ∀ w, (binOp .neq t (.agg X) (.agg X)).run Try.prog w = .ok (.bool false) w) (hg : Try.prog.eqGuardType Try.prog.depth t = false)
    (hK : wpList Try.prog ops Q rest (a.put op.dst (.bool false)) w) : wpList Try.prog ops Q (op :: rest) a w := by
  refine wpList_step fun K hK' => ?_
  rw [if_pos hw]
  unfold Oper.wp execOp
  simp only [ho, hx, hy, Sem.run_bind, run_eqGuard_agg _ _ _ _ _ _ _ hg, Result.andThen_ok, he]
  exact hK' _ _ hK
/-- A load of a record behind a guard. -/
theorem wpList_load_g {ops : Array Oper} {rest : List Oper} {op : Oper} {a : Act} {w : World} {Q : Exit → Act → World → Prop} (hw : Region.wanted op (yielded ops a.tmps) = true) (ty : TypeId) (x : Operand) (ho : op.op = .load ty x)
    (b o : Nat) (cs : List Value) (hx : a.eval x = .pointer (some ⟨b, o, none⟩)) (d : TypeDesc) (hu : Try.prog.underlying ty = some d) (hd : d.isRow = true) (hi : (Try.prog.info? ty).map (·.size) = some cs.length)
    (h : w.rangeAt b o cs) (hK : wpList Try.prog ops Q rest (a.put op.dst (.agg cs.toArray)) w) : wpList Try.prog ops Q (op :: rest) a w := by
  refine wpList_step fun K hK' => ?_
  rw [if_pos hw]
  unfold Oper.wp execOp
  simp only [ho, hx, Instr.loadAt, Instr.sureAddr, Sem.run_bind, Sem.run_pure, Result.andThen_ok, run_loadVar_mid (P := Try.prog) w b o ty cs d h hu hd hi]
  exact hK' _ _ hK
theorem yieldsIf_neq {ops : Array Oper} {S : World → Prop} {op : Oper} {a : Act} (hw : Region.wanted op (yielded ops a.tmps) = true) (t t' : TypeId) (x y : Operand) (ho : op.op = .binOp .neq t x y t')
    (X : Array Value) (hx : a.eval x = .agg X) (hy : a.eval y = .agg X) (he : ∀ w, (binOp .neq t (.agg X) (.agg X)).run Try.prog w = .ok (.bool false) w) (hg : Try.prog.eqGuardType Try.prog.depth t = false) : YieldsIf Try.prog ops S op (.bool false) a :=
  .inl ⟨hw, fun w _ => by
    unfold execOp
    simp only [ho, hx, hy, Sem.run_bind, run_eqGuard_agg _ _ _ _ _ _ _ hg, Result.andThen_ok, he]
    rfl⟩
def twoC (p q : Int) : List Value := [.int .i64 p, .int .i64 q]
set_option maxRecDepth 100000 in
theorem neq_ref (p q : Int) (w : World) : (binOp .neq 23 (.agg (twoC p q).toArray) (.agg (twoC p q).toArray)).run Try.prog w = .ok (.bool false) w := by
  simp [go_sem, twoC]
theorem guard_ref : Try.prog.eqGuardType Try.prog.depth 23 = false := by kernel_rfl
set_option maxRecDepth 100000 in
theorem neq_head (p q : Int) (w : World) : (binOp .neq 75 (.agg (twoC p q).toArray) (.agg (twoC p q).toArray)).run Try.prog w = .ok (.bool false) w := by
  simp [go_sem, twoC]
theorem guard_head : Try.prog.eqGuardType Try.prog.depth 75 = false := by kernel_rfl
theorem two_range {W : World} {b o : Nat} {p q : Int} (h0 : W.cell? ⟨b, o, none⟩ = some (.int .i64 p)) (h1 : W.cell? ⟨b, o + 1, none⟩ = some (.int .i64 q)) : W.rangeAt b o (twoC p q) := by
  intro j v hj
  match j with
  | 0 => simp [twoC] at hj; subst hj; exact h0
  | 1 => simp [twoC] at hj; subst hj; exact h1
  | j + 2 => simp [twoC] at hj
/-- The counter of the loop. -/
def sameRel (w : World) (k : Nat) (i : Value) (wr : World) : Prop := ∃ j : Nat, j ≤ k ∧ i = .int .i64 (j : Int) ∧ Below w.heap.size w wr
set_option maxRecDepth 100000 in
set_option maxHeartbeats 1000000 in
theorem same_self (s : Sup) (a a' : Option Addr) (C C' : Nat) (w : World) (hA : HArg w a s.k s.h) (hA' : HArg w a' s.k s.h) (hk : s.k ≤ 1000) :
    Calls Try.prog 15 #[supV s a C, supV s a' C'] w fun e w' => e = .returned (.bool true) ∧ Below w.heap.size w w' := by
  have HA : Hid (HArg w a s.k s.h) := hA
  have HA' : Hid (HArg w a' s.k s.h) := hA'
  clear hA hA'
  unfold supV
  go_enter Try.func15, Try.ntmps15
  go_wp2_with (first
    | (refine wpList_box_rec rfl 26 (.tmp 0) rfl (supC s a C) rfl w.heap.size rfl ?_; intro W0 R0 B0 z0)
    | (refine wpList_box_rec rfl 26 (.tmp 1) rfl (supC s a' C') rfl (w.heap.size + 1) z0 ?_; intro W1 R1 B1 z1
       have S0 : Rec19 W1 w.heap.size 0 (supC s a C) := R0.below (by rw [z0]; exact B1)
       have E1 : Hid (Below w.heap.size w W1) := B0.trans (B1.mono (by omega))
       have c00 := S0.1 0 _ rfl
       have c01 := S0.1 1 _ rfl
       have c02 := S0.1 2 _ rfl
       have c03 := S0.1 3 _ rfl
       have c04 := S0.1 4 _ rfl
       have c05 := S0.1 5 _ rfl
       have c06 := S0.1 6 _ rfl
       have c07 : W1.rangeAt w.heap.size 7 (twoC (s.x 7) (s.x 8)) := two_range (S0.1 7 _ rfl) (S0.1 8 _ rfl)
       have c09 := S0.1 9 _ rfl
       have c0a := S0.1 10 _ rfl
       have c10 := R1.1 0 _ rfl
       have c11 := R1.1 1 _ rfl
       have c12 := R1.1 2 _ rfl
       have c13 := R1.1 3 _ rfl
       have c14 := R1.1 4 _ rfl
       have c15 := R1.1 5 _ rfl
       have c16 := R1.1 6 _ rfl
       have c17 : W1.rangeAt (w.heap.size + 1) 7 (twoC (s.x 7) (s.x 8)) := two_range (R1.1 7 _ rfl) (R1.1 8 _ rfl)
       have c19 := R1.1 9 _ rfl
       have c1a := R1.1 10 _ rfl
       simp only [Nat.zero_add] at c00 c01 c02 c03 c04 c05 c06 c09 c0a c10 c11 c12 c13 c14 c15 c16 c19 c1a
       have b2 : ∀ b : Bool, (b != b) = false := by intro b; simp
       clear R0 B0 z0 R1 B1 S0)
    | (refine wpList_load_g (by rfl) 23 (.tmp 63) rfl w.heap.size 7 (twoC (s.x 7) (s.x 8)) rfl _ Try.underlying23 rfl (by kernel_rfl) c07 ?_)
    | (refine wpList_load_g (by rfl) 23 (.tmp 65) rfl (w.heap.size + 1) 7 (twoC (s.x 7) (s.x 8)) rfl _ Try.underlying23 rfl (by kernel_rfl) c17 ?_)
    | (refine wpList_neq_w (by rfl) 23 23 (.tmp 64) (.tmp 66) rfl (twoC (s.x 7) (s.x 8)).toArray rfl rfl (neq_ref _ _) guard_ref ?_))
  have ST : Hid (sameRel W1 s.k (.int .i64 0) W1) := ⟨0, by omega, rfl, Below.refl _ _⟩
  clear c00 c01 c02 c03 c04 c05 c06 c07 c09 c10 c11 c12 c13 c14 c15 c16 c17 c19 b2
  go_loopw [5] (fun i wr => sameRel W1 s.k i wr) (fun i _ => s.k - (RowKit.intOf i).toNat)
  case atStart => exact ST.out
  case round =>
    obtain ⟨j, hj, rfl, hwr⟩ := hrel
    clear ST
    have E2 : Hid (Below w.heap.size w wr) := E1.out.trans (hwr.mono E1.out.size)
    have d0a := (hwr.cell (p := ⟨w.heap.size, 10, none⟩) (by show w.heap.size < W1.heap.size; omega)).trans c0a
    have d1a := (hwr.cell (p := ⟨w.heap.size + 1, 10, none⟩) (by show w.heap.size + 1 < W1.heap.size; omega)).trans c1a
    clear c0a c1a
    by_cases hlt : j < s.k
    · have i0 : (j : Int) < (s.k : Int) := by omega
      rcases HA.out.below E2.out with q | ⟨b, o, e1, hc, hb⟩
      · omega
      rcases HA'.out.below E2.out with q | ⟨b', o', e2, hc', hb'⟩
      · omega
      subst e1 e2
      have r1 : wr.rangeAt b (o + j * 2) (twoC (s.h (2 * j)) (s.h (2 * j + 1))) := two_range (by have := hc (2 * j) (by omega); rw [Nat.mul_comm j 2]; exact this) (by have := hc (2 * j + 1) (by omega); rw [Nat.mul_comm j 2]; exact this)
      have r2 : wr.rangeAt b' (o' + j * 2) (twoC (s.h (2 * j)) (s.h (2 * j + 1))) := two_range (by have := hc' (2 * j) (by omega); rw [Nat.mul_comm j 2]; exact this) (by have := hc' (2 * j + 1) (by omega); rw [Nat.mul_comm j 2]; exact this)
      have i1 : IntKind.i64.wrap ((j : Int) + 1) = (j : Int) + 1 := by rw [IntKind.wrap_i64]; omega
      have i2 : wrap64 ((j : Int) + 1) = (j : Int) + 1 := by unfold wrap64; omega
      have RR : Hid (sameRel W1 s.k (.int .i64 ((j : Int) + 1)) wr.drew) := ⟨j + 1, by omega, by go_num, hwr.drew⟩
      clear hc hc' HA HA' hwr
      go_wp2_with fail
      refine wp_region_noPanic ?_
      refine wp_region_held_drew (S := fun W' => W'.cell? ⟨w.heap.size, 10, none⟩ = some (.slice (some ⟨b, o, none⟩) s.k C) ∧ W'.cell? ⟨w.heap.size + 1, 10, none⟩ = some (.slice (some ⟨b', o', none⟩) s.k C') ∧ W'.rangeAt b (o + j * 2) (twoC (s.h (2 * j)) (s.h (2 * j + 1))) ∧ W'.rangeAt b' (o' + j * 2) (twoC (s.h (2 * j)) (s.h (2 * j + 1)))) (by kernel_rfl) ?_ (fun hHeld => ?_)
      · exact ⟨d0a, d1a, r1, r2⟩
      refine take_at (i := 0) (v := ?_) (some 83) rfl rfl (by kernel_rfl) (by kernel_rfl) (by kernel_rfl) (fun _ _ _ h => h) (Or.inl ⟨by rfl, ?_⟩) (by assumption) ?_
      rotate_left
      · (intro w hSw; (try dsimp only at hSw); obtain ⟨q1, q2, q3⟩ := hSw; clear q3; go_simp; try with_reducible rfl)
      simp only [Act.put, List.setIfInBounds_toArray, List.set_cons_zero, List.set_cons_succ]
      refine take_at (i := 1) (v := ?_) (some 84) rfl rfl (by kernel_rfl) (by kernel_rfl) (by kernel_rfl) (fun _ _ _ h => h) (Or.inl ⟨by rfl, ?_⟩) (by assumption) ?_
      rotate_left
      · (intro w hSw; (try dsimp only at hSw); obtain ⟨q1, q2, q3⟩ := hSw; clear q3; go_simp; try with_reducible rfl)
      simp only [Act.put, List.setIfInBounds_toArray, List.set_cons_zero, List.set_cons_succ]
      refine take_at (i := 2) (v := ?_) (some 85) rfl rfl (by kernel_rfl) (by kernel_rfl) (by kernel_rfl) (fun _ _ _ h => h) (Or.inl ⟨by rfl, ?_⟩) (by assumption) ?_
      rotate_left
      · (intro w hSw; (try dsimp only at hSw); obtain ⟨q1, q2, q3⟩ := hSw; clear q3; go_simp; try with_reducible rfl)
      simp only [Act.put, List.setIfInBounds_toArray, List.set_cons_zero, List.set_cons_succ]
      refine take_at (i := 3) (v := ?_) (some 86) rfl rfl (by kernel_rfl) (by kernel_rfl) (by kernel_rfl) (fun _ _ _ h => h) (Or.inl ⟨by rfl, ?_⟩) (by assumption) ?_
      rotate_left
      · (intro w hSw; (try dsimp only at hSw); obtain ⟨q1, q2, q3⟩ := hSw; clear q3; go_simp; try with_reducible rfl)
      simp only [Act.put, List.setIfInBounds_toArray, List.set_cons_zero, List.set_cons_succ]
      refine take_at (i := 4) (v := _) (some 87) rfl rfl (by kernel_rfl) (by kernel_rfl) (by kernel_rfl) (fun _ _ _ h => h) (yieldsIf_load_mid (by rfl) 75 (.tmp 86) rfl b (o + j * 2) rfl (twoC (s.h (2 * j)) (s.h (2 * j + 1))) _ (fun _ h => h.2.2.1) Try.underlying75 rfl (by kernel_rfl)) (by assumption) ?_
      simp only [Act.put, List.setIfInBounds_toArray, List.set_cons_zero, List.set_cons_succ]
      refine take_at (i := 5) (v := ?_) (some 88) rfl rfl (by kernel_rfl) (by kernel_rfl) (by kernel_rfl) (fun _ _ _ h => h) (Or.inl ⟨by rfl, ?_⟩) (by assumption) ?_
      rotate_left
      · (intro w hSw; (try dsimp only at hSw); obtain ⟨q1, q2, q3⟩ := hSw; clear q3; go_simp; try with_reducible rfl)
      simp only [Act.put, List.setIfInBounds_toArray, List.set_cons_zero, List.set_cons_succ]
      refine take_at (i := 6) (v := ?_) (some 89) rfl rfl (by kernel_rfl) (by kernel_rfl) (by kernel_rfl) (fun _ _ _ h => h) (Or.inl ⟨by rfl, ?_⟩) (by assumption) ?_
      rotate_left
      · (intro w hSw; (try dsimp only at hSw); obtain ⟨q1, q2, q3⟩ := hSw; clear q3; go_simp; try with_reducible rfl)
      simp only [Act.put, List.setIfInBounds_toArray, List.set_cons_zero, List.set_cons_succ]
      refine take_at (i := 7) (v := ?_) (some 90) rfl rfl (by kernel_rfl) (by kernel_rfl) (by kernel_rfl) (fun _ _ _ h => h) (Or.inl ⟨by rfl, ?_⟩) (by assumption) ?_
      rotate_left
      · (intro w hSw; (try dsimp only at hSw); obtain ⟨q1, q2, q3⟩ := hSw; clear q3; go_simp; try with_reducible rfl)
      simp only [Act.put, List.setIfInBounds_toArray, List.set_cons_zero, List.set_cons_succ]
      refine take_at (i := 8) (v := ?_) (some 91) rfl rfl (by kernel_rfl) (by kernel_rfl) (by kernel_rfl) (fun _ _ _ h => h) (Or.inl ⟨by rfl, ?_⟩) (by assumption) ?_
      rotate_left
      · (intro w hSw; (try dsimp only at hSw); obtain ⟨q1, q2, q3⟩ := hSw; clear q3; go_simp; try with_reducible rfl)
      simp only [Act.put, List.setIfInBounds_toArray, List.set_cons_zero, List.set_cons_succ]
      refine take_at (i := 9) (v := _) (some 92) rfl rfl (by kernel_rfl) (by kernel_rfl) (by kernel_rfl) (fun _ _ _ h => h) (yieldsIf_load_mid (by rfl) 75 (.tmp 91) rfl b' (o' + j * 2) rfl (twoC (s.h (2 * j)) (s.h (2 * j + 1))) _ (fun _ h => h.2.2.2) Try.underlying75 rfl (by kernel_rfl)) (by assumption) ?_
      simp only [Act.put, List.setIfInBounds_toArray, List.set_cons_zero, List.set_cons_succ]
      refine take_at (i := 10) (v := _) (some 93) rfl rfl (by kernel_rfl) (by kernel_rfl) (by kernel_rfl) (fun _ _ _ h => h) (yieldsIf_neq (by rfl) 75 75 (.tmp 87) (.tmp 92) rfl (twoC (s.h (2 * j)) (s.h (2 * j + 1))).toArray rfl rfl (neq_head _ _) guard_head) (by assumption) ?_
      simp only [Act.put, List.setIfInBounds_toArray, List.set_cons_zero, List.set_cons_succ]
      refine wpAnyH_done (by kernel_rfl) ?_ _
      refine NoPanic.normal ?_
      go_wp2_with fail
      go_roundw
      case rel => exact RR.out
      case measure => simp [RowKit.intOf]; omega
    · have i0 : ¬ (j : Int) < (s.k : Int) := by omega
      go_wp2
      go_ret
      exact ⟨rfl, E2.out⟩
end Go.Proofs.Ytigpnngjfgbaeaa
namespace Go.Proofs.Ytigpnngjfgbaeaa
open Go.RowKit Go.Maps
/-- What Open answers, of what find does. -/
def OpGen (W : World) (R : World → World → Sup → Option Addr → Nat → Int → Prop) (e : Ending) (w' : World) : Prop := ∃ u w1 s a C c, e = .returned (.tuple #[supV s a C, .int .i64 c]) ∧ Below W.heap.size W u ∧ u.heap.size = W.heap.size + 1 ∧ R u w1 s a C c ∧ Off [W.heap.size] w1 w' ∧ Below W.heap.size W w'
set_option maxRecDepth 100000 in
set_option maxHeartbeats 400000 in
theorem open_gen (W : World) (p : Option Addr) (R : World → World → Sup → Option Addr → Nat → Int → Prop)
    (h : ∀ u, Below W.heap.size W u → Calls Try.prog 46 #[.pointer p] u fun e w' => ∃ v f s a C c, e = .returned (.tuple #[.agg (fndC v f s a C).toArray, .int .i64 c]) ∧ R u w' s a C c ∧ v.oneCell' = true ∧ Below u.heap.size u w') :
    Calls Try.prog 21 #[.pointer p] W (OpGen W R) := by
  have FN : Hid (∀ u, Below W.heap.size W u → Calls Try.prog 46 #[.pointer p] u fun e w' => ∃ v f s a C c, e = .returned (.tuple #[.agg (fndC v f s a C).toArray, .int .i64 c]) ∧ R u w' s a C c ∧ v.oneCell' = true ∧ Below u.heap.size u w') := h
  clear h
  go_enter Try.func21, Try.ntmps21
  have K1 : Hid True := trivial
  have K2 : Hid True := trivial
  go_wp2_with (first
    | (have _q := K1; clear K1; refine wpList_alloc_rec rfl 26 rfl (supC sup0 none 0) W.heap.size rfl zero_super ?_; intro W0 R0 B0 z0)
    | (go_at_call 46; refine (FN.out _ B0).mono ?_; rintro e w1 ⟨v, f, s, a, C, c, rfl, hR, hv, B1⟩; have HR : Hid (R W0 w1 s a C c) := hR; clear hR)
    | (have _q := K2; clear K2; refine wpList_alloc_rec rfl 87 rfl fnd0 w1.heap.size rfl zero_found ?_; intro W2 R2 B2 z2)
    | (refine wpList_store_rec rfl 87 (.tmp 4) (.tmp 9) rfl w1.heap.size 0 _ (fndC v f s a C) rfl rfl R2 (by rw [fndC_len]; exact fndC_len _ _ _ _ _) (by rw [fndC_len]; exact info_found) (fndC_one _ _ _ _ _ hv) ?_; intro W3 R3 B3
       have R3' : Rec19 W3 w1.heap.size 513 (supC s a C) := by
         have h1 : Rec19 W3 w1.heap.size 0 (([v] ++ cl .u8 512 f) ++ supC s a C ++ []) := by rw [List.append_nil]; exact R3
         have h2 := h1.sub
         rwa [show ([v] ++ cl .u8 512 f).length = 513 by rw [List.length_append, cl_len]; rfl] at h2
       have E3 : Below w1.heap.size w1 W3 := B2.trans (B3.below (Nat.le_refl _) (by omega))
       have R0' : Rec19 W3 W.heap.size 0 (supC sup0 none 0) := (R0.below B1).below E3
       have BB : Hid (Below W.heap.size W W3) := (B0.trans (B1.mono B0.size)).trans (E3.mono (by have := B0.size; have := B1.size; omega)))
    | (refine wpList_load_mid (P := Try.prog) rfl 26 (.tmp 11) rfl w1.heap.size 513 rfl (supC s a C) _ R3'.1 Try.underlying26 rfl (by kernel_rfl) ?_)
    | (refine wpList_store_rec rfl 26 (.tmp 2) (.tmp 12) rfl W.heap.size 0 _ (supC s a C) rfl rfl R0' rfl (by kernel_rfl) (supC_one _ _ _) ?_; intro W9 R9 B9))
  have hl := R9.run_load 26 _ Try.underlying26 rfl (by kernel_rfl)
  refine bodyPost_ret (v := .tuple #[supV s a C, .int .i64 c]) (by simp [results, Try.results21, asAddr, supV, hl]) rfl ⟨W0, w1, s, a, C, c, rfl, B0, z0, HR.out, (Off.of E3).trans (Off.but B9 (by simp)), BB.out.trans (B9.below (Nat.le_refl _) BB.out.size)⟩
/-- What Open answers of a disk that is up, and great enough. -/
def OpenPost (W : World) (G : Nat → Int) (e : Ending) (w' : World) : Prop :=
  (best G 4 = none ∧ e = .returned (.tuple #[supV sup0 none 0, .int .i64 10]) ∧ Below W.heap.size W w') ∨
  (∃ q a C, best G 4 = some q ∧ e = .returned (.tuple #[supV (supOf (behO (cp G q))) a C, .int .i64 0]) ∧ HArg w' a (supOf (behO (cp G q))).k (supOf (behO (cp G q))).h ∧ (supOf (behO (cp G q))).k ≤ C ∧ (∀ r, a = some r → W.heap.size ≤ r.block) ∧ Below W.heap.size W w')
theorem open_go (W : World) (d s m : Nat) (D : Dsk) (l : Int) (o : Bool) (h : DiskAt W d s m D) (hf : FuseIs W D.fz l o) (hu : D.up o = true) (hn : 8 ≤ D.N) : Calls Try.prog 21 #[.pointer (some ⟨d, 0, none⟩)] W (OpenPost W D.sec) := by
  refine (open_gen W (some ⟨d, 0, none⟩) (fun u w1 s a C c => (best D.sec 4 = none ∧ s = sup0 ∧ a = none ∧ C = 0 ∧ c = 10) ∨ ∃ q, best D.sec 4 = some q ∧ s = supOf (behO (cp D.sec q)) ∧ c = 0 ∧ HArg w1 a s.k s.h ∧ s.k ≤ C ∧ ∀ r, a = some r → u.heap.size ≤ r.block) (fun u hB => ?_)).mono ?_
  · refine (find_go u d s m D l o (h.below hB) (hf.below hB) hu hn).mono ?_
    rintro e w' (⟨h1, rfl, h3⟩ | ⟨q, a, C, g, h1, rfl, _, _, h4, h5, h6, h7⟩)
    · exact ⟨_, _, _, _, _, _, rfl, .inl ⟨h1, rfl, rfl, rfl, rfl⟩, rfl, h3⟩
    · exact ⟨_, _, _, _, _, _, rfl, .inr ⟨q, h1, rfl, rfl, h4, h5, h6⟩, rfl, h7⟩
  · rintro e w' ⟨u, w1, s, a, C, c, rfl, hB, hz, (⟨h1, rfl, rfl, rfl, rfl⟩ | ⟨q, h1, rfl, rfl, h4, h5, h6⟩), hO, hE⟩
    · exact .inl ⟨h1, rfl, hE⟩
    · exact .inr ⟨q, a, C, h1, rfl, h4.off hO (fun r e => by have := h6 r e; simp; omega), h5, fun r e => by have := h6 r e; omega, hE⟩
theorem open_er (W : World) (p : Option Addr) (c : Int) (hc : c ≠ 0) (h : ∀ u, Below W.heap.size W u → Calls Try.prog 31 #[.pointer p, .int .i64 0, .int .i64 8] u fun e w' => e = .returned (.tuple #[.slice none 0 0, .int .i64 c]) ∧ w' = u) :
    Calls Try.prog 21 #[.pointer p] W fun e w' => e = .returned (.tuple #[supV sup0 none 0, .int .i64 c]) ∧ Below W.heap.size W w' := by
  refine (open_gen W p (fun _ _ s a C c' => s = sup0 ∧ a = none ∧ C = 0 ∧ c' = c) (fun u hB => ?_)).mono ?_
  · refine (find_er u p c hc (fun v hv => h v (hB.trans (hv.mono hB.size)))).mono ?_
    rintro e w' ⟨rfl, h2⟩
    exact ⟨_, _, _, _, _, _, rfl, ⟨rfl, rfl, rfl, rfl⟩, rfl, h2⟩
  · rintro e w' ⟨u, w1, s, a, C, c', rfl, _, _, ⟨rfl, rfl, rfl, rfl⟩, _, hE⟩
    exact ⟨rfl, hE⟩
end Go.Proofs.Ytigpnngjfgbaeaa
namespace Go.Proofs.Ytigpnngjfgbaeaa
open Go.RowKit Go.Maps
/-- A superblock of a sequence and a view. -/
def vS (q v : Int) : Sup := ⟨fun i => match i with | 0 => q | 1 => 1 | 2 => 3 | 3 => v | _ => 0, false, 0, fun _ => 0⟩
theorem vS_setq (q v x : Int) : (supC ((vS q v).setq x) none 0) = supC (vS x v) none 0 := rfl
theorem first_any (w : World) : Calls Try.prog 25 #[] w fun e w' => e = .returned (supV (vS 1 4) none 0) ∧ Below w.heap.size w w' := by
  go_enter Try.func25, Try.ntmps25
  go_wp2_with (first
    | (refine wpList_alloc_rec rfl 26 rfl (supC sup0 none 0) w.heap.size rfl zero_super ?_; intro W1 R1 B1 z1)
    | (refine wpList_store_rec rfl 26 (.tmp 0) (.tmp 1) rfl w.heap.size 0 _ (supC (vS 1 4) none 0) rfl rfl R1 rfl (by kernel_rfl) (supC_one _ _ _) ?_; intro W4 R4 B4))
  have hl := R4.run_load 26 _ Try.underlying26 rfl (by kernel_rfl)
  exact bodyPost_ret (v := supV (vS 1 4) none 0) (by simp [results, Try.results25, asAddr, supV, Act.put, hl]) rfl ⟨rfl, B1.trans (B4.below (Nat.le_refl _) (by omega))⟩
theorem viewed_any (w : World) (q v : Int) : Calls Try.prog 27 #[.int .i64 q, .int .i64 v] w fun e w' => e = .returned (supV (vS q v) none 0) ∧ Below w.heap.size w w' := by
  go_enter Try.func27, Try.ntmps27
  go_wp2_with (first
    | (refine wpList_alloc_rec rfl 26 rfl (supC sup0 none 0) w.heap.size rfl zero_super ?_; intro W1 R1 B1 z1)
    | (refine wpList_store_rec rfl 26 (.tmp 4) (.tmp 7) rfl w.heap.size 0 _ (supC (vS q v) none 0) rfl rfl R1 rfl (by kernel_rfl) (supC_one _ _ _) ?_; intro W4 R4 B4))
  have hl := R4.run_load 26 _ Try.underlying26 rfl (by kernel_rfl)
  exact bodyPost_ret (v := supV (vS q v) none 0) (by simp [results, Try.results27, asAddr, supV, Act.put, hl]) rfl ⟨rfl, B1.trans (B4.below (Nat.le_refl _) (by omega))⟩
theorem supV_eq {s t : Sup} (h : s.Eq t) (a : Option Addr) (C : Nat) : supV s a C = supV t a C := by
  obtain ⟨h1, h2, h3, _⟩ := h
  unfold supV supC
  rw [h1, h2, h3 0 (by omega), h3 1 (by omega), h3 2 (by omega), h3 3 (by omega), h3 4 (by omega), h3 5 (by omega), h3 6 (by omega), h3 7 (by omega), h3 8 (by omega)]
theorem HArg.eq {W : World} {a : Option Addr} {s t : Sup} (h : s.Eq t) (hA : HArg W a s.k s.h) : HArg W a t.k t.h := by
  obtain ⟨h1, _, _, h4⟩ := h
  rcases hA with e | ⟨b, off, rfl, hc, hx⟩
  · exact .inl (by omega)
  · exact .inr ⟨b, off, rfl, fun j hj => by rw [← h4 j (by omega)]; exact hc j (by omega), hx⟩
/-- What opens holds its second argument against. -/
theorem open_as {w0 u : World} {d s m q : Nat} {D : Dsk} {t : Sup} (h : St w0 u d s m D) (hf : D.free) (hn : 8 ≤ D.N) (hq : best D.sec 4 = some q) (he : (supOf (behO (cp D.sec q))).Eq t) : Calls Try.prog 21 #[.pointer (some ⟨d, 0, none⟩)] u fun e w' => ∃ a C, e = .returned (.tuple #[supV t a C, .int .i64 0]) ∧ HArg w' a t.k t.h ∧ t.k ≤ C ∧ Below u.heap.size u w' := by
  refine (open_go u d s m D 0 false h.at' (hf.fuse u 0) hf.up hn).mono ?_
  rintro e w' (⟨h1, _⟩ | ⟨q', a, C, h1, rfl, h3, h4, _, h6⟩)
  · rw [hq] at h1; cases h1
  · rw [hq] at h1
    injection h1 with h1
    subst h1
    exact ⟨a, C, by rw [supV_eq he], h3.eq he, by rw [← he.1]; exact h4, h6⟩
set_option maxRecDepth 100000 in
set_option maxHeartbeats 400000 in
theorem opens_ok (w0 W : World) (d s m q : Nat) (D : Dsk) (t : Sup) (a : Option Addr) (C : Nat) (h : St w0 W d s m D) (hf : D.free) (hn : 8 ≤ D.N) (hq : best D.sec 4 = some q) (he : (supOf (behO (cp D.sec q))).Eq t) (hk : t.k ≤ 32) (hA : HArg W a t.k t.h) :
    Calls Try.prog 29 #[.pointer (some ⟨d, 0, none⟩), supV t a C] W fun e w' => e = .returned (.bool true) ∧ Below W.heap.size W w' := by
  have OP : Hid (∀ u, Below W.heap.size W u → Calls Try.prog 21 #[.pointer (some ⟨d, 0, none⟩)] u fun e w' => ∃ a C, e = .returned (.tuple #[supV t a C, .int .i64 0]) ∧ HArg w' a t.k t.h ∧ t.k ≤ C ∧ Below u.heap.size u w') := fun u hB => open_as (h.below hB) hf hn hq he
  have SM : Hid (∀ u a' C', Below W.heap.size W u → HArg u a' t.k t.h → Calls Try.prog 15 #[.agg (supC t a' C').toArray, .agg (supC t a C).toArray] u fun e w' => e = .returned (.bool true) ∧ Below u.heap.size u w') := fun u a' C' hB h1 => same_self t a' a C' C u h1 (hA.below hB) (by omega)
  clear h hf hn hq he hA hk
  unfold supV
  go_enter Try.func29, Try.ntmps29
  go_wp2_with (first
    | (refine wpList_box_rec rfl 26 (.tmp 1) rfl (supC t a C) rfl W.heap.size rfl ?_; intro W0 R0 B0 z0)
    | (go_at_call 21; refine (OP.out _ B0).mono ?_; rintro e w1 ⟨a1, C1, rfl, hA1, hC1, B1⟩
       have E1 : Below W.heap.size W w1 := B0.trans (B1.mono B0.size)
       have R1 := R0.below B1
       clear R0 B0 B1 z0)
    | (refine wpList_alloc_rec rfl 26 rfl (supC sup0 none 0) w1.heap.size rfl zero_super ?_; intro W3 R3 B3 z3)
    | (refine wpList_store_rec rfl 26 (.tmp 5) (.tmp 10) rfl w1.heap.size 0 _ (supC t a1 C1) rfl rfl R3 rfl (by kernel_rfl) (supC_one _ _ _) ?_; intro W4 R4 B4
       have E14 : Below w1.heap.size w1 W4 := B3.trans (B4.below (Nat.le_refl _) (by omega))
       have E4 : Below W.heap.size W W4 := E1.trans (E14.mono E1.size)
       have R1' := (R1.below E14).1
       have R4' := R4.1
       have A4 := hA1.below E14
       clear R3 B3 B4 E14 E1 R1 R4)
    | (refine wpList_load_g (by rfl) 26 (.tmp 5) rfl w1.heap.size 0 (supC t a1 C1) rfl _ Try.underlying26 rfl (by kernel_rfl) R4' ?_)
    | (refine wpList_load_g (by rfl) 26 (.tmp 3) rfl W.heap.size 0 (supC t a C) rfl _ Try.underlying26 rfl (by kernel_rfl) R1' ?_)
    | (go_at_call 15; refine (SM.out _ a1 C1 E4 A4).mono ?_; rintro e w5 ⟨rfl, B5⟩))
  go_ret
  exact ⟨rfl, E4.trans (B5.mono E4.size)⟩
end Go.Proofs.Ytigpnngjfgbaeaa
namespace Go.Proofs.Ytigpnngjfgbaeaa
open Go.RowKit Go.Maps
theorem Dsk.kept_sec (D : Dsk) (a : Nat) (F : Nat → Int) (k p : Nat) : (D.kept a F k).sec p = if a * 256 ≤ p ∧ p < (a + k) * 256 then F (p - a * 256) else D.sec p := by
  have h := D.wrote_sec a F (p / 256) (p % 256) (Nat.mod_lt _ (by omega)) k
  unfold at256 at h
  rw [show p / 256 * 256 + p % 256 = p by omega] at h
  show (D.wrote a F k).sec p = _
  rw [h]
  by_cases g : a * 256 ≤ p ∧ p < (a + k) * 256
  · rw [if_pos g, if_pos (by omega)]
    congr 1
    have := Nat.div_add_mod p 256
    obtain ⟨c, hc⟩ : ∃ c, p / 256 = a + c := ⟨p / 256 - a, by omega⟩
    rw [hc, Nat.add_sub_cancel_left]
    rw [hc] at this
    omega
  · rw [if_neg g, if_neg (by omega)]
theorem rep_at (f : Nat → Int) {p j : Nat} (h : p % 512 = j) : rep f p = f j := by unfold rep; rw [h]
theorem AllAre.kept (D : Dsk) (s : Sup) : AllAre (D.kept 0 (rep s.img) 8).sec s := by
  intro i hi j hj
  show (D.kept 0 (rep s.img) 8).sec (i * 512 + j) = s.img j
  rw [Dsk.kept_sec, if_pos (by omega)]
  exact rep_at _ (by omega)
theorem AllAre.writ (D : Dsk) (s : Sup) : AllAre (D.writ (rep s.img)).sec s := by
  intro i hi j hj
  show ((D.kept 0 (rep s.img) 4).kept 4 (rep s.img) 4).sec (i * 512 + j) = s.img j
  rw [Dsk.kept_sec, Dsk.kept_sec]
  by_cases g : 2 ≤ i
  · rw [if_pos (by omega)]
    exact rep_at _ (by omega)
  · rw [if_neg (by omega), if_pos (by omega)]
    exact rep_at _ (by omega)
theorem Dsk.few.writ {D : Dsk} {n : Int} (h : D.few n) (F : Nat → Int) : (D.writ F).few (n + 4) := ((h.kept 0 F 4).kept 4 F 4).mono (by omega)
theorem Dsk.writ_N (D : Dsk) (F : Nat → Int) : (D.writ F).N = D.N := ((D.kept 0 F 4).kept_N 4 F 4).trans (D.kept_N 0 F 4)
theorem AllAre.eq {G : Nat → Int} {t : Sup} {q : Nat} (m : t.May) (h : Has G q t.img) : (supOf (behO (cp G q))).Eq t := (has_seq m h).2.1.symm
theorem vS_setq' (q v x : Int) : (vS q v).setq x = vS x v := by
  unfold vS Sup.setq
  congr 1
  funext i
  match i with
  | 0 => rfl
  | 1 => rfl
  | 2 => rfl
  | 3 => rfl
  | _ + 4 => rfl
theorem vS_may (q v : Int) (h1 : 1 ≤ q) (h2 : q ≤ mOp) (h3 : 0 ≤ v) (h4 : v ≤ mOp) : (vS q v).May := by
  refine ⟨.inl rfl, Nat.zero_le _, ⟨h1, h2⟩, ⟨?_, ?_⟩, ⟨h3, h4⟩, ⟨?_, ?_⟩, ⟨?_, ?_⟩, ⟨?_, ?_⟩, ⟨?_, ?_⟩, ⟨?_, ?_⟩, fun j hj => absurd hj (by show ¬ j < 2 * 0; omega)⟩ <;> (show (_ : Int) ≤ _) <;> simp [vS, mOp]
/-- The disk that formatted answers. -/
noncomputable def dskF : Dsk := (dsk0 8).kept 0 (rep (vS 1 4).img) 8
theorem dsk0_few (n : Nat) : (dsk0 n).few 0 := ⟨rfl, rfl, Int.le_refl 0, Int.le_refl 0⟩
theorem dskF_few : dskF.few 2 := (dsk0_few 8).kept 0 _ 8
theorem dskF_N : dskF.N = 8 := (dsk0 8).kept_N 0 _ 8
theorem dskF_all : AllAre dskF.sec (vS 1 4) := AllAre.kept _ _
theorem may1 : (vS 1 4).May := vS_may 1 4 (by decide) (by decide) (by decide) (by decide)
theorem may2 : (vS 2 5).May := vS_may 2 5 (by decide) (by decide) (by decide) (by decide)
theorem format14 (w u : World) (d s m : Nat) (h : St w u d s m (dsk0 8)) : Calls Try.prog 23 #[.pointer (some ⟨d, 0, none⟩), supV (vS 1 4) none 0] u (KeptPost w u d s m dskF) := by
  have q : (vS 1 4).setq 1 = vS 1 4 := vS_setq' 1 4 1
  have := format_st w u d s m (dsk0 8) (vS 1 4) none 0 h ((dsk0_few 8).mono (by decide)) (Nat.le_refl 8) (.inl rfl) (by rw [q]; exact may1)
  rw [q] at this
  exact this
/-- What formatted answers. -/
def FormPost (w : World) (e : Ending) (w' : World) : Prop := ∃ d s m, e = .returned (.tuple #[.pointer (some ⟨d, 0, none⟩), .bool true]) ∧ St w w' d s m dskF
set_option maxRecDepth 100000 in
set_option maxHeartbeats 400000 in
theorem formatted_ok (w : World) : Calls Try.prog 26 #[] w (FormPost w) := by
  have NW : Hid (∀ u, Calls Try.prog 24 #[.int .i64 8] u (NewPost u 8)) := fun u => new_ok 8 u (by omega) (by omega)
  have FM : Hid (∀ u d s m, St w u d s m (dsk0 8) → Calls Try.prog 23 #[.pointer (some ⟨d, 0, none⟩), supV (vS 1 4) none 0] u (KeptPost w u d s m dskF)) := format14 w
  go_enter Try.func26, Try.ntmps26
  go_wp2_with (first
    | (go_at_call 24; refine (NW.out _).mono ?_; rintro e w1 ⟨d, s, m, rfl, h1, h2, h3, h4, h5⟩
       have S1 : Hid (St w w1 d s m (dsk0 8)) := ⟨h4, h1, h2, h3, h5⟩
       clear h1 h2 h3 h4 h5)
    | (go_at_call 25; refine (first_any _).mono ?_; rintro e w2 ⟨rfl, B2⟩
       have S2 : Hid (St w w2 d s m (dsk0 8)) := S1.out.below B2
       clear B2 S1)
    | (go_at_call 23; refine (FM.out _ _ _ _ S2.out).mono ?_; rintro e w3 ⟨rfl, m3, h3, _, _⟩))
  exact bodyPost_ret (v := .tuple #[.pointer (some ⟨d, 0, none⟩), .bool true]) (by simp [results, Try.results26, go_sem]) rfl ⟨d, s, m3, rfl, h3⟩
theorem best_all {D : Dsk} {t : Sup} (h : AllAre D.sec t) (m : t.May) : ∃ q, best D.sec 4 = some q ∧ (supOf (behO (cp D.sec q))).Eq t := by
  obtain ⟨q, _, h1, h2⟩ := h.best m
  exact ⟨q, h1, AllAre.eq m h2⟩
theorem opens_all (w0 W : World) (d s m : Nat) (D : Dsk) (t : Sup) (a : Option Addr) (C : Nat) (h : St w0 W d s m D) (hf : D.free) (hn : 8 ≤ D.N) (hall : AllAre D.sec t) (ht : t.May) (hA : HArg W a t.k t.h) :
    Calls Try.prog 29 #[.pointer (some ⟨d, 0, none⟩), supV t a C] W fun e w' => e = .returned (.bool true) ∧ Below W.heap.size W w' := by
  obtain ⟨q, h1, h2⟩ := best_all hall ht
  exact opens_ok w0 W d s m q D t a C h hf hn h1 h2 ht.2.1 hA
/-- Behind the chapter's Write. -/
noncomputable def dskW : Dsk := dskF.writ (rep (vS 2 5).img)
theorem dskW_few : dskW.few 6 := dskF_few.writ _
theorem dskW_N : dskW.N = 8 := (Dsk.writ_N _ _).trans dskF_N
theorem dskW_all : AllAre dskW.sec (vS 2 5) := AllAre.writ _ _
theorem write25 (w u : World) (d s m : Nat) (h : St w u d s m dskF) : Calls Try.prog 22 #[.pointer (some ⟨d, 0, none⟩), supV (vS 0 5) none 0] u fun e w' => ∃ a C m', e = .returned (.tuple #[supV (vS 2 5) a C, .int .i64 0]) ∧ St w w' d s m' dskW := by
  have q : (vS 0 5).setq ((vS 1 4).x 0 + 1) = vS 2 5 := vS_setq' 0 5 2
  have := write_st w u d s m dskF (vS 1 4) (vS 0 5) none 0 h (dskF_few.mono (by decide)) (by rw [dskF_N]; omega) dskF_all may1 (by decide) (.inl rfl) (by rw [q]; exact may2)
  rw [q] at this
  refine this.mono ?_
  rintro e w' ⟨a, C, m', rfl, _, _, _, h5, _, _⟩
  exact ⟨a, C, m', rfl, h5⟩
set_option maxRecDepth 100000 in
set_option maxHeartbeats 600000 in
theorem awake_ok (w : World) : Calls Try.prog 20 #[] w fun e w' => e = .returned (.bool true) ∧ Below w.heap.size w w' := by
  have FO : Hid (∀ u, Calls Try.prog 26 #[] u (FormPost u)) := formatted_ok
  have O1 : Hid (∀ u d s m, St w u d s m dskF → Calls Try.prog 29 #[.pointer (some ⟨d, 0, none⟩), supV (vS 1 4) none 0] u fun e w' => e = .returned (.bool true) ∧ Below u.heap.size u w') := fun u d s m h => opens_all w u d s m dskF _ none 0 h (dskF_few.free (by decide)) (by rw [dskF_N]; omega) dskF_all may1 (.inl rfl)
  have O2 : Hid (∀ u d s m, St w u d s m dskW → Calls Try.prog 29 #[.pointer (some ⟨d, 0, none⟩), supV (vS 2 5) none 0] u fun e w' => e = .returned (.bool true) ∧ Below u.heap.size u w') := fun u d s m h => opens_all w u d s m dskW _ none 0 h (dskW_few.free (by decide)) (by rw [dskW_N]; omega) dskW_all may2 (.inl rfl)
  go_enter Try.func20, Try.ntmps20
  go_wp2_with (first
    | (go_at_call 26; refine (FO.out _).mono ?_; rintro e w1 ⟨d, s, m, rfl, h1⟩; have S1 : Hid (St w w1 d s m dskF) := h1; clear h1)
    | (go_at_call 25; refine (first_any _).mono ?_; rintro e w2 ⟨rfl, B2⟩
       have S2 : Hid (St w w2 d s m dskF) := S1.out.below B2
       clear B2 S1)
    | (have _q := S2; go_at_call 29; refine (O1.out _ _ _ _ S2.out).mono ?_; rintro e w3 ⟨rfl, B3⟩
       have S3 : Hid (St w w3 d s m dskF) := S2.out.below B3
       clear B3 S2 _q)
    | (have _q := S3; go_at_call 27; refine (viewed_any _ _ _).mono ?_; rintro e w4 ⟨rfl, B4⟩
       have S4 : Hid (St w w4 d s m dskF) := S3.out.below B4
       clear B4 S3 _q)
    | (go_at_call 22; refine (write25 w _ d s m S4.out).mono ?_; rintro e w5 ⟨a5, C5, m5, rfl, h5⟩
       have S5 : Hid (St w w5 d s m5 dskW) := h5
       clear S4 h5)
    | (refine wpList_alloc_rec rfl 26 rfl (supC sup0 none 0) w5.heap.size rfl zero_super ?_; intro W6 R6 B6 z6)
    | (refine wpList_store_rec rfl 26 (.tmp 3) (.tmp 21) rfl w5.heap.size 0 _ (supC (vS 2 5) a5 C5) rfl rfl R6 rfl (by kernel_rfl) (supC_one _ _ _) ?_; intro W7 R7 B7
       have E7 : Below w5.heap.size w5 W7 := B6.trans (B7.below (Nat.le_refl _) (by omega))
       have S7 : Hid (St w W7 d s m5 dskW) := S5.out.below E7
       clear R6 B6 z6 B7 S5 E7))
  refine wp_region_noPanic ?_
  refine wp_region_held_drew (S := fun W' => W'.rangeAt w5.heap.size 0 (supC (vS 2 5) a5 C5) ∧ Hid (Below W7.heap.size W7 W')) (by kernel_rfl) ?_ (fun hHeld => ?_)
  · exact ⟨R7.1, (Below.refl _ _).drew⟩
  have KEEP : ∀ {u u' : World}, (u.rangeAt w5.heap.size 0 (supC (vS 2 5) a5 C5) ∧ Hid (Below W7.heap.size W7 u)) → Below u.heap.size u u' → u'.rangeAt w5.heap.size 0 (supC (vS 2 5) a5 C5) ∧ Hid (Below W7.heap.size W7 u') := fun h hB => by
    have b := h.2.out.trans (hB.mono h.2.out.size)
    exact ⟨(R7.below b).1, b⟩
  refine take_at (i := 0) (v := ?_) (some 23) rfl rfl (by kernel_rfl) (by kernel_rfl) (by kernel_rfl) (fun _ _ _ h => h) (Or.inl ⟨by rfl, ?_⟩) (by assumption) ?_
  rotate_left
  · (intro w hSw; (try dsimp only at hSw); clear hSw; go_simp; try with_reducible rfl)
  simp only [Act.put, List.setIfInBounds_toArray, List.set_cons_zero, List.set_cons_succ]
  refine take_at (i := 1) (v := ?_) (some 24) rfl rfl (by kernel_rfl) (by kernel_rfl) (by kernel_rfl) (fun _ _ _ h => h) (Or.inl ⟨by rfl, ?_⟩) (by assumption) ?_
  rotate_left
  · (intro w hSw; (try dsimp only at hSw); clear hSw; go_simp; try with_reducible rfl)
  simp only [Act.put, List.setIfInBounds_toArray, List.set_cons_zero, List.set_cons_succ]
  refine take_at (i := 2) (v := ?_) (some 25) rfl rfl (by kernel_rfl) (by kernel_rfl) (by kernel_rfl) (fun _ _ _ h => h) (Or.inl ⟨by rfl, ?_⟩) (by assumption) ?_
  rotate_left
  · (intro w hSw; (try dsimp only at hSw); clear hSw; go_simp; try with_reducible rfl)
  simp only [Act.put, List.setIfInBounds_toArray, List.set_cons_zero, List.set_cons_succ]
  refine take_at (i := 3) (v := _) (some 26) rfl rfl (by kernel_rfl) (by kernel_rfl) (by kernel_rfl) (fun _ _ _ h => h) (yieldsIf_load_mid (by rfl) 26 (.tmp 3) rfl w5.heap.size 0 rfl (supC (vS 2 5) a5 C5) _ (fun _ h => h.1) Try.underlying26 rfl (by kernel_rfl)) (by assumption) ?_
  simp only [Act.put, List.setIfInBounds_toArray, List.set_cons_zero, List.set_cons_succ]
  refine call_at (i := 4) (some 27) 27 _ _ rfl rfl rfl (by rfl) (by kernel_rfl) #[.int .i64 2, .int .i64 5] rfl Try.func27 (by kernel_rfl) (by kernel_rfl) ?_
  refine (viewed_any _ 2 5).mono ?_; rintro e w' ⟨rfl, hB⟩
  refine ⟨_, rfl, KEEP hHeld hB, fun hHeld => ?_⟩
  simp only [Act.put, List.setIfInBounds_toArray, List.set_cons_zero, List.set_cons_succ]
  refine call_at (i := 5) (some 28) 15 _ _ rfl rfl rfl (by rfl) (by kernel_rfl) #[supV (vS 2 5) a5 C5, supV (vS 2 5) none 0] rfl Try.func15 (by kernel_rfl) (by kernel_rfl) ?_
  refine (same_self (vS 2 5) a5 none C5 0 _ (.inl rfl) (.inl rfl) (Nat.zero_le _)).mono ?_; rintro e w' ⟨rfl, hB⟩
  refine ⟨_, rfl, KEEP hHeld hB, fun hHeld => ?_⟩
  simp only [Act.put, List.setIfInBounds_toArray, List.set_cons_zero, List.set_cons_succ]
  refine take_at (i := 6) (v := ?_) (some 29) rfl rfl (by kernel_rfl) (by kernel_rfl) (by kernel_rfl) (fun _ _ _ h => h) (Or.inl ⟨by rfl, ?_⟩) (by assumption) ?_
  rotate_left
  · (intro w hSw; (try dsimp only at hSw); clear hSw; go_simp; try with_reducible rfl)
  simp only [Act.put, List.setIfInBounds_toArray, List.set_cons_zero, List.set_cons_succ]
  refine take_at (i := 7) (v := ?_) (some 30) rfl rfl (by kernel_rfl) (by kernel_rfl) (by kernel_rfl) (fun _ _ _ h => h) (Or.inl ⟨by rfl, ?_⟩) (by assumption) ?_
  rotate_left
  · (intro w hSw; (try dsimp only at hSw); clear hSw; go_simp; try with_reducible rfl)
  simp only [Act.put, List.setIfInBounds_toArray, List.set_cons_zero, List.set_cons_succ]
  refine take_at (i := 8) (v := ?_) (some 31) rfl rfl (by kernel_rfl) (by kernel_rfl) (by kernel_rfl) (fun _ _ _ h => h) (Or.inl ⟨by rfl, ?_⟩) (by assumption) ?_
  rotate_left
  · (intro w hSw; (try dsimp only at hSw); clear hSw; go_simp; try with_reducible rfl)
  simp only [Act.put, List.setIfInBounds_toArray, List.set_cons_zero, List.set_cons_succ]
  refine call_at (i := 9) (some 32) 27 _ _ rfl rfl rfl (by rfl) (by kernel_rfl) #[.int .i64 2, .int .i64 5] rfl Try.func27 (by kernel_rfl) (by kernel_rfl) ?_
  refine (viewed_any _ 2 5).mono ?_; rintro e w' ⟨rfl, hB⟩
  refine ⟨_, rfl, KEEP hHeld hB, fun hHeld => ?_⟩
  simp only [Act.put, List.setIfInBounds_toArray, List.set_cons_zero, List.set_cons_succ]
  refine call_at (i := 10) (some 33) 29 _ _ rfl rfl rfl (by rfl) (by kernel_rfl) #[.pointer (some ⟨d, 0, none⟩), supV (vS 2 5) none 0] rfl Try.func29 (by kernel_rfl) (by kernel_rfl) ?_
  refine (O2.out _ _ _ _ (S7.out.below hHeld.2.out)).mono ?_; rintro e w' ⟨rfl, hB⟩
  refine ⟨_, rfl, KEEP hHeld hB, fun hHeld => ?_⟩
  simp only [Act.put, List.setIfInBounds_toArray, List.set_cons_zero, List.set_cons_succ]
  refine take_at (i := 11) (v := ?_) (some 34) rfl rfl (by kernel_rfl) (by kernel_rfl) (by kernel_rfl) (fun _ _ _ h => h) (Or.inl ⟨by rfl, ?_⟩) (by assumption) ?_
  rotate_left
  · (intro w hSw; (try dsimp only at hSw); clear hSw; go_simp; try with_reducible rfl)
  simp only [Act.put, List.setIfInBounds_toArray, List.set_cons_zero, List.set_cons_succ]
  refine take_at (i := 12) (v := ?_) (some 0) rfl rfl (by kernel_rfl) (by kernel_rfl) (by kernel_rfl) (fun _ _ _ h => h) (Or.inl ⟨by rfl, ?_⟩) (by assumption) ?_
  rotate_left
  · (intro w hSw; (try dsimp only at hSw); clear hSw; go_simp; try with_reducible rfl)
  simp only [Act.put, List.setIfInBounds_toArray, List.set_cons_zero]
  refine wpAnyH_done (by kernel_rfl) ?_ _
  refine NoPanic.normal ?_
  go_wp2_with fail
  go_ret
  exact ⟨rfl, (S7.out.below hHeld.2.out).bel⟩
end Go.Proofs.Ytigpnngjfgbaeaa
namespace Go.Proofs.Ytigpnngjfgbaeaa
open Go.RowKit Go.Maps
/-- A byte turned by 1. -/
def flip (G : Nat → Int) (p : Nat) : Nat → Int := upd G p (bits .xor .u8 (G p) 1)
theorem xor_one (a : Int) (h : 0 ≤ a ∧ a < 256) : bits .xor .u8 a 1 ≠ a := by
  intro q
  rw [u8_xor a 1 h.1 h.2 (by decide) (by decide)] at q
  have q1 : a.toNat ^^^ 1 = a.toNat := by
    have e : (1 : Int).toNat = 1 := rfl
    rw [e] at q
    omega
  have q2 := congrArg (fun z => a.toNat ^^^ z) q1
  simp only [← Nat.xor_assoc, Nat.xor_self, Nat.zero_xor] at q2
  cases q2
theorem flip_at (G : Nat → Int) (p : Nat) (h : 0 ≤ G p ∧ G p < 256) : flip G p p ≠ G p := by
  unfold flip upd
  rw [if_pos rfl]
  exact xor_one _ h
theorem flip_other (G : Nat → Int) (p q : Nat) (h : q ≠ p) : flip G p q = G q := by
  unfold flip upd
  rw [if_neg h]
/-- A copy that is the only odd one at a place has one vote. -/
theorem votes_odd {G f : Nat → Int} {i j : Nat} (hi : i < 4) (hj : j < 512) (h : cp G i j ≠ f j) (ho : ∀ k, k < 4 → k ≠ i → cp G k j = f j) : votes G i = 1 :=
  votes_one hi fun k hk hn q => h ((q j hj).symm.trans (ho k hk hn))
/-- A copy that all other ones differ from has one vote. -/
theorem votes_last {G f : Nat → Int} {i : Nat} (hi : i < 4) (hh : Has G i f) (ho : ∀ k, k < 4 → k ≠ i → ∃ j, j < 512 ∧ cp G k j ≠ f j) : votes G i = 1 :=
  votes_one hi fun k hk hn q => by
    obtain ⟨j, hj, h⟩ := ho k hk hn
    exact h ((q j hj).trans (hh j hj))
/-- Two copies turned, and a third one. -/
def g2 (G : Nat → Int) : Nat → Int := flip (flip G 20) 968
def g3 (G : Nat → Int) : Nat → Int := flip (g2 G) 1024
theorem g_at {G : Nat → Int} {s : Sup} (h : AllAre G s) {i j : Nat} (hi : i < 4) (hj : j < 512) : G (i * 512 + j) = s.img j := h i hi j hj
theorem g2_at {G : Nat → Int} {s : Sup} (h : AllAre G s) {i j : Nat} (hi : i < 4) (hj : j < 512) (h1 : i * 512 + j ≠ 20) (h2 : i * 512 + j ≠ 968) : cp (g2 G) i j = s.img j := by
  show flip (flip G 20) 968 (i * 512 + j) = _
  rw [flip_other _ _ _ h2, flip_other _ _ _ h1]
  exact g_at h hi hj
theorem g2_0 {G : Nat → Int} {s : Sup} (h : AllAre G s) : cp (g2 G) 0 20 ≠ s.img 20 := by
  show flip (flip G 20) 968 20 ≠ _
  rw [flip_other _ _ _ (by decide)]
  have e : G 20 = s.img 20 := g_at h (i := 0) (j := 20) (by decide) (by decide)
  rw [← e]
  exact flip_at _ _ (by rw [e]; exact s.img_byte 20 (by decide))
theorem g2_1 {G : Nat → Int} {s : Sup} (h : AllAre G s) : cp (g2 G) 1 456 ≠ s.img 456 := by
  show flip (flip G 20) 968 968 ≠ _
  have e : flip G 20 968 = s.img 456 := (flip_other _ _ _ (by decide)).trans (g_at h (i := 1) (j := 456) (by decide) (by decide))
  rw [← e]
  exact flip_at _ _ (by rw [e]; exact s.img_byte 456 (by decide))
theorem g2_has {G : Nat → Int} {s : Sup} (h : AllAre G s) {i : Nat} (hi : i = 2 ∨ i = 3) : Has (g2 G) i s.img := fun j hj => g2_at h (by omega) hj (by omega) (by omega)
theorem best_g2 {G : Nat → Int} {s : Sup} (h : AllAre G s) (m : s.May) : ∃ q, best (g2 G) 4 = some q ∧ (supOf (behO (cp (g2 G) q))).Eq s := by
  have v0 : votes (g2 G) 0 = 1 := votes_odd (f := s.img) (j := 20) (by decide) (by decide) (g2_0 h) (fun k hk hn => g2_at h hk (by decide) (by omega) (by omega))
  have v1 : votes (g2 G) 1 = 1 := votes_odd (f := s.img) (j := 456) (by decide) (by decide) (g2_1 h) (fun k hk hn => g2_at h hk (by decide) (by omega) (by omega))
  have h2 := g2_has h (.inl rfl)
  have h3 := g2_has h (.inr rfl)
  obtain ⟨q, _, hb, hq⟩ := best_found m (F := g2 G) (fun i hi hh => by
      rcases (by omega : i = 0 ∨ i = 1 ∨ i = 2 ∨ i = 3) with rfl | rfl | rfl | rfl
      · exact absurd (hh 20 (by decide)) (g2_0 h)
      · exact absurd (hh 456 (by decide)) (g2_1 h)
      · exact votes_two (by decide) (k := 3) (by decide) (by decide) (fun j hj => (h3 j hj).trans (h2 j hj).symm)
      · exact votes_two (by decide) (k := 2) (by decide) (by decide) (fun j hj => (h2 j hj).trans (h3 j hj).symm))
    (fun i hi hn hv _ => by
      rcases (by omega : i = 0 ∨ i = 1 ∨ i = 2 ∨ i = 3) with rfl | rfl | rfl | rfl
      · omega
      · omega
      · exact absurd h2 hn
      · exact absurd h3 hn) 2 (by decide) h2
  exact ⟨q, hb, AllAre.eq m hq⟩
theorem g3_at {G : Nat → Int} {s : Sup} (h : AllAre G s) {i j : Nat} (hi : i < 4) (hj : j < 512) (h1 : i * 512 + j ≠ 20) (h2 : i * 512 + j ≠ 968) (h3 : i * 512 + j ≠ 1024) : cp (g3 G) i j = s.img j := by
  show flip (g2 G) 1024 (i * 512 + j) = _
  rw [flip_other _ _ _ h3]
  exact g2_at h hi hj h1 h2
theorem g3_0 {G : Nat → Int} {s : Sup} (h : AllAre G s) : cp (g3 G) 0 20 ≠ s.img 20 := by
  show flip (g2 G) 1024 20 ≠ _
  rw [flip_other _ _ _ (by decide)]
  exact g2_0 h
theorem g3_1 {G : Nat → Int} {s : Sup} (h : AllAre G s) : cp (g3 G) 1 456 ≠ s.img 456 := by
  show flip (g2 G) 1024 968 ≠ _
  rw [flip_other _ _ _ (by decide)]
  exact g2_1 h
theorem g3_2 {G : Nat → Int} {s : Sup} (h : AllAre G s) : cp (g3 G) 2 0 ≠ s.img 0 := by
  show flip (g2 G) 1024 1024 ≠ _
  have e : g2 G 1024 = s.img 0 := g2_at h (i := 2) (j := 0) (by decide) (by decide) (by decide) (by decide)
  rw [← e]
  exact flip_at _ _ (by rw [e]; exact s.img_byte 0 (by decide))
theorem best_g3 {G : Nat → Int} {s : Sup} (h : AllAre G s) : best (g3 G) 4 = none := by
  have v0 : votes (g3 G) 0 = 1 := votes_odd (f := s.img) (j := 20) (by decide) (by decide) (g3_0 h) (fun k hk hn => g3_at h hk (by decide) (by omega) (by omega) (by omega))
  have v1 : votes (g3 G) 1 = 1 := votes_odd (f := s.img) (j := 456) (by decide) (by decide) (g3_1 h) (fun k hk hn => g3_at h hk (by decide) (by omega) (by omega) (by omega))
  have v2 : votes (g3 G) 2 = 1 := votes_odd (f := s.img) (j := 0) (by decide) (by decide) (g3_2 h) (fun k hk hn => g3_at h hk (by decide) (by omega) (by omega) (by omega))
  have v3 : votes (g3 G) 3 = 1 := votes_last (f := s.img) (by decide) (fun j hj => g3_at h (by decide) hj (by omega) (by omega) (by omega)) (fun k hk hn => by
      rcases (by omega : k = 0 ∨ k = 1 ∨ k = 2) with rfl | rfl | rfl
      · exact ⟨20, by decide, g3_0 h⟩
      · exact ⟨456, by decide, g3_1 h⟩
      · exact ⟨0, by decide, g3_2 h⟩)
  refine best_none 4 (fun i hi q => ?_)
  rcases (by omega : i = 0 ∨ i = 1 ∨ i = 2 ∨ i = 3) with rfl | rfl | rfl | rfl <;> omega
theorem best_zero : best (fun _ => 0) 4 = none := by
  refine best_none 4 (fun i hi q => ?_)
  have h := q.2.2.2.1
  have e : (supOf (behO (cp (fun _ => 0) i))).x 2 = 0 := rfl
  rw [e] at h
  omega
/-- The disk behind two turns, and behind the third. -/
noncomputable def dsk2 : Dsk := (dskW.turn 0 20 1).turn 3 200 1
noncomputable def dsk3 : Dsk := dsk2.turn 4 0 1
theorem two_sec (D : Dsk) : ((D.turn 0 20 1).turn 3 200 1).sec = g2 D.sec := rfl
theorem one_sec (D : Dsk) : (D.turn 4 0 1).sec = flip D.sec 1024 := rfl
theorem dsk2_sec : dsk2.sec = g2 dskW.sec := two_sec dskW
theorem dsk3_sec : dsk3.sec = g3 dskW.sec := by
  unfold dsk3 g3
  rw [one_sec, dsk2_sec]
theorem Dsk.few.turn {D : Dsk} {n : Int} (h : D.few n) (x p : Nat) (v : Int) : (D.turn x p v).few n := h
theorem st_turn (w0 W : World) (d s m x p : Nat) (i j : Int) (D : Dsk) (v : Int) (h : St w0 W d s m D) (hi : i = x) (hj : j = p) (hx : x < D.N) (hp : p < 256) (hv : 0 ≤ v ∧ v < 256) :
    Calls Try.prog 28 #[.pointer (some ⟨d, 0, none⟩), .int .i64 i, .int .i64 j, .int .u8 v] W fun e w' => e = .returned (.int .i64 0) ∧ St w0 w' d s m (D.turn x p v) ∧ Off [s] W w' := by
  subst hi hj
  refine (turn_ok W d s m x p D v h.at' hx hp hv).mono ?_
  rintro e w' ⟨rfl, hD, hO⟩
  exact ⟨rfl, h.of (bs := [s]) (fun b q => .inr (.inl (by simpa using q))) hO (.inl rfl) hD, hO⟩
theorem open_none {w0 u : World} {d s m : Nat} {D : Dsk} (h : St w0 u d s m D) (hf : D.free) (hn : 8 ≤ D.N) (hq : best D.sec 4 = none) : Calls Try.prog 21 #[.pointer (some ⟨d, 0, none⟩)] u fun e w' => e = .returned (.tuple #[supV sup0 none 0, .int .i64 10]) ∧ Below u.heap.size u w' := by
  refine (open_go u d s m D 0 false h.at' (hf.fuse u 0) hf.up hn).mono ?_
  rintro e w' (⟨_, rfl, h3⟩ | ⟨q', a, C, h1, _⟩)
  · exact ⟨rfl, h3⟩
  · rw [hq] at h1; cases h1
theorem open_small {w0 u : World} {d s m : Nat} (h : St w0 u d s m (dsk0 7)) : Calls Try.prog 21 #[.pointer (some ⟨d, 0, none⟩)] u fun e w' => e = .returned (.tuple #[supV sup0 none 0, .int .i64 5]) ∧ Below u.heap.size u w' :=
  have hf : (dsk0 7).free := (dsk0_few 7).free (by decide)
  open_er u _ 5 (by decide) fun v hB => read_range v d s m (dsk0 7) 0 false 0 8 (h.below hB).at' (hf.fuse v 0) hf.up (by decide) (by decide)
/-- The example that may not be. -/
def notS : Sup := ⟨fun i => match i with | 0 => 1 | 2 => 4 | _ => 0, false, 0, fun _ => 0⟩
theorem check_not (w : World) : Calls Try.prog 16 #[supV notS none 0] w fun e w' => e = .returned (.int .i64 2) ∧ Below w.heap.size w w' := by
  have h := check_any notS none 0 w (.inl rfl)
  have e : chkV notS = 2 := by
    unfold chkV
    rw [if_neg]
    intro q
    have := q.1
    revert this
    show ¬ ((4 : Int) = 3 ∨ (4 : Int) = 5 ∨ (4 : Int) = 7)
    decide
  rw [e] at h
  exact h
theorem dsk2_few : dsk2.few 6 := (dskW_few.turn 0 20 1).turn 3 200 1
theorem dsk3_few : dsk3.few 6 := dsk2_few.turn 4 0 1
theorem turn_N (D : Dsk) (x p : Nat) (v : Int) : (D.turn x p v).N = D.N := rfl
theorem dsk2_N : dsk2.N = 8 := by unfold dsk2; rw [turn_N, turn_N, dskW_N]
theorem dsk3_N : dsk3.N = 8 := by unfold dsk3; rw [turn_N, dsk2_N]
set_option maxRecDepth 100000 in
set_option maxHeartbeats 1000000 in
theorem known_ok (w : World) : Calls Try.prog 5 #[] w fun e w' => e = .returned (.bool true) ∧ Below w.heap.size w w' := by
  have N8 : Hid (∀ u, Calls Try.prog 24 #[.int .i64 8] u (NewPost u 8)) := fun u => new_ok 8 u (by omega) (by omega)
  have N7 : Hid (∀ u, Calls Try.prog 24 #[.int .i64 7] u (NewPost u 7)) := fun u => new_ok 7 u (by omega) (by omega)
  have O8 : Hid (∀ u d s m, St w u d s m (dsk0 8) → Calls Try.prog 21 #[.pointer (some ⟨d, 0, none⟩)] u fun e w' => e = .returned (.tuple #[supV sup0 none 0, .int .i64 10]) ∧ Below u.heap.size u w') := fun u d s m h => open_none h ((dsk0_few 8).free (by decide)) (Nat.le_refl 8) best_zero
  have O7 : Hid (∀ u d s m, St w u d s m (dsk0 7) → Calls Try.prog 21 #[.pointer (some ⟨d, 0, none⟩)] u fun e w' => e = .returned (.tuple #[supV sup0 none 0, .int .i64 5]) ∧ Below u.heap.size u w') := fun u d s m h => open_small h
  have BY : Hid (∀ u, Calls Try.prog 10 #[supV (vS 1 4) none 0] u (ByPost u (vS 1 4))) := fun u => bytes_ok (vS 1 4) none 0 u (.inl rfl) may1
  have T1 : Hid (∀ u d s m, St w u d s m dskW → Calls Try.prog 28 #[.pointer (some ⟨d, 0, none⟩), .int .i64 0, .int .i64 20, .int .u8 1] u fun e w' => e = .returned (.int .i64 0) ∧ St w w' d s m (dskW.turn 0 20 1) ∧ Off [s] u w') := fun u d s m h => st_turn w u d s m 0 20 0 20 dskW 1 h rfl rfl (by rw [dskW_N]; decide) (by decide) (by decide)
  have T2 : Hid (∀ u d s m, St w u d s m (dskW.turn 0 20 1) → Calls Try.prog 28 #[.pointer (some ⟨d, 0, none⟩), .int .i64 3, .int .i64 200, .int .u8 1] u fun e w' => e = .returned (.int .i64 0) ∧ St w w' d s m dsk2 ∧ Off [s] u w') := fun u d s m h => st_turn w u d s m 3 200 3 200 (dskW.turn 0 20 1) 1 h rfl rfl (by rw [turn_N, dskW_N]; decide) (by decide) (by decide)
  have T3 : Hid (∀ u d s m, St w u d s m dsk2 → Calls Try.prog 28 #[.pointer (some ⟨d, 0, none⟩), .int .i64 4, .int .i64 0, .int .u8 1] u fun e w' => e = .returned (.int .i64 0) ∧ St w w' d s m dsk3 ∧ Off [s] u w') := fun u d s m h => st_turn w u d s m 4 0 4 0 dsk2 1 h rfl rfl (by rw [dsk2_N]; decide) (by decide) (by decide)
  have O2 : Hid (∀ u d s m, St w u d s m dsk2 → Calls Try.prog 29 #[.pointer (some ⟨d, 0, none⟩), supV (vS 2 5) none 0] u fun e w' => e = .returned (.bool true) ∧ Below u.heap.size u w') := fun u d s m h => by
    obtain ⟨q, h1, h2⟩ := best_g2 dskW_all may2
    rw [← dsk2_sec] at h1 h2
    exact opens_ok w u d s m q dsk2 (vS 2 5) none 0 h (dsk2_few.free (by decide)) (by rw [dsk2_N]; decide) h1 h2 (Nat.zero_le _) (.inl rfl)
  have O3 : Hid (∀ u d s m, St w u d s m dsk3 → Calls Try.prog 21 #[.pointer (some ⟨d, 0, none⟩)] u fun e w' => e = .returned (.tuple #[supV sup0 none 0, .int .i64 10]) ∧ Below u.heap.size u w') := fun u d s m h => open_none h (dsk3_few.free (by decide)) (by rw [dsk3_N]; decide) (by rw [dsk3_sec]; exact best_g3 dskW_all)
  have Z0 : Hid True := trivial
  go_enter Try.func5, Try.ntmps5
  go_wp2_with (first
    | (have _q := Z0; go_at_call 24; refine (N8.out _).mono ?_; rintro e w1 ⟨d1, s1, m1, rfl, h1, h2, h3, h4, h5⟩
       have S1 : Hid (St w w1 d1 s1 m1 (dsk0 8)) := ⟨h4, h1, h2, h3, h5⟩
       clear h1 h2 h3 h4 h5 _q Z0)
    | (have _q := S1; go_at_call 24; refine (N7.out _).mono ?_; rintro e w2 ⟨d2, s2, m2, rfl, h1, h2, h3, h4, h5⟩
       have z := S1.out.bel.size
       have S2 : Hid (St w w2 d1 s1 m1 (dsk0 8) ∧ St w w2 d2 s2 m2 (dsk0 7)) := ⟨S1.out.below h5, ⟨h4, Nat.le_trans z h1, Nat.le_trans z h2, Nat.le_trans z h3, S1.out.bel.trans (h5.mono z)⟩⟩
       clear h1 h2 h3 h4 h5 _q S1 z)
    | (go_at_call 20; refine (awake_ok _).mono ?_; rintro e w3 ⟨rfl, B3⟩
       have S3 : Hid (St w w3 d1 s1 m1 (dsk0 8) ∧ St w w3 d2 s2 m2 (dsk0 7)) := ⟨S2.out.1.below B3, S2.out.2.below B3⟩
       clear B3 S2)
    | (have _q := S3; go_at_call 21; refine (O8.out _ _ _ _ S3.out.1).mono ?_; rintro e w4 ⟨rfl, B4⟩
       have S4 : Hid (St w w4 d2 s2 m2 (dsk0 7)) := S3.out.2.below B4
       clear B4 S3 _q)
    | (have _q := S4; refine wpList_alloc_rec rfl 26 rfl (supC sup0 none 0) w4.heap.size rfl zero_super ?_; intro W5 R5 B5 z5)
    | (refine wpList_store_rec rfl 26 (.tmp 5) (.tmp 37) rfl w4.heap.size 0 _ (supC sup0 none 0) rfl rfl R5 rfl (by kernel_rfl) (supC_one _ _ _) ?_; intro W6 R6 B6
       have S6 : Hid (St w W6 d2 s2 m2 (dsk0 7)) := S4.out.below (B5.trans (B6.below (Nat.le_refl _) (by omega)))
       clear R5 B5 z5 R6 B6 S4)
    | (have _q := S6; go_at_call 21; refine (O7.out _ _ _ _ S6.out).mono ?_; rintro e w7 ⟨rfl, B7⟩
       have S7 : Hid (Below w.heap.size w w7) := (S6.out.below B7).bel
       clear B7 S6 _q)
    | (have _q := S7; refine wpList_alloc_rec rfl 26 rfl (supC sup0 none 0) w7.heap.size rfl zero_super ?_; intro W8 R8 B8 z8)
    | (refine wpList_store_rec rfl 26 (.tmp 7) (.tmp 42) rfl w7.heap.size 0 _ (supC sup0 none 0) rfl rfl R8 rfl (by kernel_rfl) (supC_one _ _ _) ?_; intro W9 R9 B9
       have S9 : Hid (Below w.heap.size w W9) := S7.out.trans ((B8.trans (B9.below (Nat.le_refl _) (by omega))).mono S7.out.size)
       clear R8 B8 z8 R9 B9 S7)
    | (go_at_call 25; refine (first_any _).mono ?_; rintro e w10 ⟨rfl, B10⟩
       have S10 : Hid (Below w.heap.size w w10) := S9.out.trans (B10.mono S9.out.size)
       clear B10 S9)
    | (go_at_call 10; refine (BY.out _).mono ?_; rintro e w11 ⟨g11, rfl, _, _, B11⟩
       have S11 : Hid (Below w.heap.size w w11) := S10.out.trans (B11.mono S10.out.size)
       clear B11 S10)
    | (go_at_call 26; refine (formatted_ok _).mono ?_; rintro e w12 ⟨d, s, m, rfl, h12⟩
       have z := S11.out.size
       have S12 : Hid (St w w12 d s m dskF) := ⟨h12.at', Nat.le_trans z h12.hd, Nat.le_trans z h12.hs, Nat.le_trans z h12.hm, S11.out.trans (h12.bel.mono z)⟩
       clear h12 z S11)
    | (go_at_call 16; refine (check_not _).mono ?_; rintro e w13 ⟨rfl, B13⟩
       have S13 : Hid (St w w13 d s m dskF) := S12.out.below B13
       clear B13 S12)
    | (have _q := S13; go_at_call 27; refine (viewed_any _ _ _).mono ?_; rintro e w14 ⟨rfl, B14⟩
       have S14 : Hid (St w w14 d s m dskF) := S13.out.below B14
       clear B14 S13 _q)
    | (go_at_call 22; refine (write25 w _ d s m S14.out).mono ?_; rintro e w15 ⟨a5, C5, m5, rfl, h15⟩
       have S15 : Hid (St w w15 d s m5 dskW) := h15
       clear S14 h15)
    | (have _q := S15; go_at_call 28; refine (T1.out _ _ _ _ S15.out).mono ?_; rintro e w16 ⟨rfl, h16, _⟩
       have S16 : Hid (St w w16 d s m5 (dskW.turn 0 20 1)) := h16
       clear S15 h16 _q)
    | (have _q := S16; go_at_call 28; refine (T2.out _ _ _ _ S16.out).mono ?_; rintro e w17 ⟨rfl, h17, _⟩
       have S17 : Hid (St w w17 d s m5 dsk2) := h17
       clear S16 h17 _q)
    | (have _q := S17; go_at_call 27; refine (viewed_any _ _ _).mono ?_; rintro e w18 ⟨rfl, B18⟩
       have S18 : Hid (St w w18 d s m5 dsk2) := S17.out.below B18
       clear B18 S17 _q)
    | (go_at_call 29; refine (O2.out _ _ _ _ S18.out).mono ?_; rintro e w19 ⟨rfl, B19⟩
       have S19 : Hid (St w w19 d s m5 dsk2) := S18.out.below B19
       clear B19 S18)
    | (have _q := S19; go_at_call 28; refine (T3.out _ _ _ _ S19.out).mono ?_; rintro e w20 ⟨rfl, h20, _⟩
       have S20 : Hid (St w w20 d s m5 dsk3) := h20
       clear S19 h20 _q)
    | (have _q := S20; go_at_call 21; refine (O3.out _ _ _ _ S20.out).mono ?_; rintro e w21 ⟨rfl, B21⟩
       have S21 : Hid (Below w.heap.size w w21) := (S20.out.below B21).bel
       clear B21 S20 _q)
    | (have _q := S21; refine wpList_alloc_rec rfl 26 rfl (supC sup0 none 0) w21.heap.size rfl zero_super ?_; intro W22 R22 B22 z22)
    | (refine wpList_store_rec rfl 26 (.tmp 14) (.tmp 92) rfl w21.heap.size 0 _ (supC sup0 none 0) rfl rfl R22 rfl (by kernel_rfl) (supC_one _ _ _) ?_; intro W23 R23 B23
       have S23 : Hid (Below w.heap.size w W23) := S21.out.trans ((B22.trans (B23.below (Nat.le_refl _) (by omega))).mono S21.out.size)
       clear R22 B22 z22 R23 B23 S21))
  go_ret
  exact ⟨rfl, S23.out⟩
end Go.Proofs.Ytigpnngjfgbaeaa
namespace Go.Proofs.Ytigpnngjfgbaeaa
open Go.ChangeShapes Go.WideShapes Go.ChangeAt Go.RowKit

theorem known_own : ownKnob Try.prog.godebug = none := by kernel_rfl

set_option maxRecDepth 100000 in
theorem known_lifted (os : Os) (started : os.Started) (H : Type) (enc : TypeId × Value → H) :
    ReturnsInHanded {} Try.checked os 5 .any (Rows.superblockKnownSpec.pre6 enc Try.prog Try.f5 Rows.superblockKnownRow.domain false) (Rows.superblockKnownSpec.post enc Try.prog Try.f5 false true false false) := by
  refine returnsInHanded_of_change (C := Try.checked) known_own started (by kernel_rfl) Try.func5
    (ChangeSpec.witness6 (enc := enc) (C := Try.checked) false ⟨#[], #[], []⟩ 8 (by kernel_rfl) (by kernel_rfl) (by kernel_rfl) (by kernel_rfl)) ?_
  intro W base args ds gs before hval0 hW hcnd _
  have hW' := hW
  obtain ⟨p, q, hA0, hV, rfl, hfz, hnd⟩ := hW
  have hA : DataW.TrodAll enc Try.prog W 0 (fun _ => true) true Try.f5.params.toList args.toList ds p := hA0
  rw [Try.params5] at hA
  obtain ⟨rfl, rfl, rfl⟩ := trodAll_none hA
  obtain ⟨rfl, rfl⟩ := trodVars_none hV
  clear hA0 hval0
  refine (known_ok W).mono fun e W' ⟨he, bel⟩ => ?_
  subst he
  exact ⟨_, rfl, _, _, _, [], [], [], hW', trodAll_mk1 (shut_bool Try.underlying4 _), trodAll_mk0, rfl, bel.frame _, fun h => by cases h⟩

theorem known_holds : Rows.SuperblockKnownSaid :=
  OpenClaim.holds_of_wide 5 Try.f5 rfl rfl rfl rfl rfl rfl rfl ⟨rfl, rfl, rfl, rfl, rfl⟩ rfl rfl rfl rfl rfl (by kernel_rfl) Try.func5 (by kernel_rfl)
    (of_decide_eq_true (by kernel_rfl)) (by unfold Func.isWrapper; first | (rw [if_pos (by decide +kernel)]; kernel_rfl) | (rw [if_neg (by decide +kernel)]; exact ⟨rfl, rfl⟩))
    (fun os started H enc _ => known_lifted os started H enc)
#print axioms known_holds
end Go.Proofs.Ytigpnngjfgbaeaa
