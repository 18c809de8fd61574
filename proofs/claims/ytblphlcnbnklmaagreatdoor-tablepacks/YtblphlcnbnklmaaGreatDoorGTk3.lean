/-
  Walks, not a claim by itself: block's noRefs and noughts. By the verifier.
-/
import Derived.Test.YtblphlcnbnklmaaGreatDoorGTk2
namespace Go.Proofs.YtblphlcnbnklmaaGreatDoor
open Go.RowKit
/-- All of n bytes are noughts. -/
def AllZ (n : Nat) (f : Nat → Int) : Prop := ∀ j, j < n → f j = 0
instance (n : Nat) (f : Nat → Int) : Decidable (AllZ n f) := by unfold AllZ; infer_instance
def ngRel (w : World) (n : Nat) (f : Nat → Int) (i : Value) (wr : World) : Prop := ∃ k : Nat, k ≤ n ∧ i = .int .i64 k ∧ AllZ k f ∧ wr = w
def NgPost (w : World) (n : Nat) (f : Nat → Int) (e : Ending) (w' : World) : Prop := e = .returned (.bool (decide (AllZ n f))) ∧ w' = w
set_option maxRecDepth 100000 in
set_option maxHeartbeats 1000000 in
theorem noughts_any (a : Option Addr) (n C : Nat) (f : Nat → Int) (w : World) (h : Arg w a n f) (hn : n ≤ 1000000) : Calls Tryz.prog 161 #[.slice a n C] w (NgPost w n f) := by
  have HA := hidIt h
  clear h
  have ST : Hid (ngRel w n f (.int .i64 0) w) := ⟨0, by omega, rfl, fun j hj => by omega, rfl⟩
  go_enter Tryz.func161, Tryz.ntmps161
  go_wp2_with fail
  go_loopw [7] (fun i wr => ngRel w n f i wr) (fun i _ => n - (RowKit.intOf i).toNat)
  case atStart => exact ST.out
  case round =>
    obtain ⟨k, hk, rfl, hz, rfl⟩ := hrel
    clear ST
    have HZ := hidIt hz
    clear hz
    by_cases hlt : k < n
    · rcases HA.out with ⟨e, _⟩ | ⟨_, b, off, rfl, hl⟩
      · omega
      have i0 : (k : Int) < (n : Int) := by omega
      have c0 := hl.1 k hlt
      clear hl
      by_cases q : f k = 0
      · have NX : Hid (ngRel wr n f (.int .i64 ((k : Int) + 1)) wr) := ⟨k + 1, by omega, by go_num, fun j hj => by
          by_cases e : j = k
          · rw [e]; exact q
          · exact HZ.out j (by omega), rfl⟩
        rw [q] at c0
        clear q
        go_wp2_with fail
        go_roundw
        case rel => exact NX.out
        case measure => simp [RowKit.intOf]; omega
      · have PP : Hid (NgPost wr n f (.returned (.bool false)) wr) := ⟨by rw [decide_eq_false (fun h : AllZ n f => q (h k hlt))], rfl⟩
        go_wp2_with fail
        go_ret
        exact PP.out
    · obtain rfl : k = n := by omega
      have PP : Hid (NgPost wr k f (.returned (.bool true)) wr) := ⟨by rw [decide_eq_true HZ.out], rfl⟩
      go_wp2_with fail
      go_ret
      exact PP.out
/-- Two structs of two numbers are held against one another. -/
theorem neq_two (p q p' q' : Int) (w : World) : (binOp .neq 57 (.agg (twoC p q).toArray) (.agg (twoC p' q').toArray)).run Tryz.prog w = .ok (.bool (!decide (p = p' ∧ q = q'))) w := by
  by_cases h1 : p = p' <;> by_cases h2 : q = q' <;> simp [go_sem, twoC, h1, h2]
theorem guard_ref : Tryz.prog.eqGuardType Tryz.prog.depth 57 = false := by kernel_rfl
theorem wpList_neq_w {ops : Array Oper} {rest : List Oper} {op : Oper} {a : Act} {w : World} {Q : Exit → Act → World → Prop} (hw : Region.wanted op (yielded ops a.tmps) = true) (t t' : TypeId) (x y : Operand) (ho : op.op = .binOp .neq t x y t')
    (X Y : Array Value) (b : Bool) (hx : a.eval x = .agg X) (hy : a.eval y = .agg Y) (he : ∀ w, (binOp .neq t (.agg X) (.agg Y)).run Tryz.prog w = .ok (.bool b) w) (hg : Tryz.prog.eqGuardType Tryz.prog.depth t = false)
    (hK : wpList Tryz.prog ops Q rest (a.put op.dst (.bool b)) w) : wpList Tryz.prog ops Q (op :: rest) a w := by
  refine wpList_step fun K hK' => ?_
  rw [if_pos hw]
  unfold Oper.wp execOp
  simp only [ho, hx, hy, Sem.run_bind, run_eqGuard_agg _ _ _ _ _ _ _ hg, Result.andThen_ok, he]
  exact hK' _ _ hK
/-- All of k refs are noughts. -/
def RefsZ (k : Nat) (h : Nat → Int) : Prop := ∀ i, i < k → h (2 * i) = 0 ∧ h (2 * i + 1) = 0
instance (n : Nat) (f : Nat → Int) : Decidable (RefsZ n f) := by unfold RefsZ; infer_instance
def nrRel (w : World) (n : Nat) (h : Nat → Int) (i : Value) (wr : World) : Prop := ∃ k : Nat, k ≤ n ∧ i = .int .i64 k ∧ RefsZ k h ∧ Below w.heap.size w wr
def NrPost (w : World) (n : Nat) (h : Nat → Int) (e : Ending) (w' : World) : Prop := e = .returned (.bool (decide (RefsZ n h))) ∧ Below w.heap.size w w'
set_option maxRecDepth 100000 in
set_option maxHeartbeats 1000000 in
theorem norefs_any (a : Option Addr) (n C : Nat) (h : Nat → Int) (w : World) (hA : HArg w a n h) (hn : n ≤ 1000000) : Calls Tryz.prog 160 #[.slice a n C] w (NrPost w n h) := by
  have HA := hidIt hA
  clear hA
  have ST : Hid (nrRel w n h (.int .i64 0) w) := ⟨0, by omega, rfl, fun j hj => by omega, Below.refl _ _⟩
  go_enter Tryz.func160, Tryz.ntmps160
  go_wp2_with fail
  go_loopw [7] (fun i wr => nrRel w n h i wr) (fun i _ => n - (RowKit.intOf i).toNat)
  case atStart => exact ST.out
  case round =>
    obtain ⟨k, hk, rfl, hz, hB⟩ := hrel
    clear ST
    have HZ := hidIt hz
    have BE := hidIt hB
    clear hz hB
    by_cases hlt : k < n
    · rcases HA.out.below BE.out with e | ⟨g, o, rfl, hc, hb⟩
      · omega
      have r2 := hidIt (HArg.two hc hlt)
      have i0 : (k : Int) < (n : Int) := by omega
      clear hc hb
      obtain ⟨x, hx⟩ : ∃ x, h (2 * k) = x := ⟨_, rfl⟩
      obtain ⟨y, hy⟩ : ∃ y, h (2 * k + 1) = y := ⟨_, rfl⟩
      rw [hx, hy] at r2
      by_cases q : x = 0 ∧ y = 0
      · have NX : Hid (∀ V, Below w.heap.size w V → nrRel w n h (.int .i64 ((k : Int) + 1)) V) := fun V hV => ⟨k + 1, by omega, by go_num, fun j hj => by
          by_cases e : j = k
          · rw [e, hx, hy]; exact q
          · exact HZ.out j (by omega), hV⟩
        have NE : Hid (∀ w, (binOp .neq 57 (.agg (twoC x y).toArray) (.agg (twoC 0 0).toArray)).run Tryz.prog w = .ok (.bool false) w) := fun w => by rw [neq_two, decide_eq_true q]; rfl
        clear q hx hy
        go_wp2_with (first
          | (refine wpList_load_mid (P := Tryz.prog) rfl 57 (.tmp 9) rfl g (o + k * 2) (by first | rfl | simp) _ _ r2.out Tryz.underlying57 rfl (by kernel_rfl) ?_)
          | (refine wpList_alloc_rec rfl 57 rfl (twoC 0 0) wr.heap.size rfl zero_ref ?_; intro W1 R1 hB1 z1)
          | (refine wpList_store_rec rfl 57 (.tmp 4) (.tmp 10) rfl wr.heap.size 0 (twoC 0 0) (twoC x y) rfl rfl R1 rfl (by kernel_rfl) (twoC_one _ _) ?_; intro W2 R2 hB2; have R2' := hidIt R2; have B2 := hidIt (below_sh (Nat.le_refl _) BE.out (hB1.trans (hB2.below (Nat.le_refl _) hB1.size))); clear R1 hB1 z1 R2 hB2)
          | (refine wpList_load_rec rfl 57 (.tmp 4) rfl wr.heap.size 0 (twoC x y) rfl _ Tryz.underlying57 rfl (by kernel_rfl) R2'.out ?_)
          | (refine wpList_neq_w (by rfl) 57 57 (.tmp 11) (.tmp 12) rfl (twoC x y).toArray (twoC 0 0).toArray false rfl rfl NE.out guard_ref ?_))
        go_roundw
        case rel => exact NX.out _ B2.out
        case measure => simp [RowKit.intOf]; omega
      · have PP : Hid (∀ V, Below w.heap.size w V → NrPost w n h (.returned (.bool false)) V) := fun V hV => ⟨by rw [decide_eq_false (fun z : RefsZ n h => q (by have := z k hlt; rwa [hx, hy] at this))], hV⟩
        have NE : Hid (∀ w, (binOp .neq 57 (.agg (twoC x y).toArray) (.agg (twoC 0 0).toArray)).run Tryz.prog w = .ok (.bool true) w) := fun w => by rw [neq_two, decide_eq_false q]; rfl
        clear q hx hy
        go_wp2_with (first
          | (refine wpList_load_mid (P := Tryz.prog) rfl 57 (.tmp 9) rfl g (o + k * 2) (by first | rfl | simp) _ _ r2.out Tryz.underlying57 rfl (by kernel_rfl) ?_)
          | (refine wpList_alloc_rec rfl 57 rfl (twoC 0 0) wr.heap.size rfl zero_ref ?_; intro W1 R1 hB1 z1)
          | (refine wpList_store_rec rfl 57 (.tmp 4) (.tmp 10) rfl wr.heap.size 0 (twoC 0 0) (twoC x y) rfl rfl R1 rfl (by kernel_rfl) (twoC_one _ _) ?_; intro W2 R2 hB2; have R2' := hidIt R2; have B2 := hidIt (below_sh (Nat.le_refl _) BE.out (hB1.trans (hB2.below (Nat.le_refl _) hB1.size))); clear R1 hB1 z1 R2 hB2)
          | (refine wpList_load_rec rfl 57 (.tmp 4) rfl wr.heap.size 0 (twoC x y) rfl _ Tryz.underlying57 rfl (by kernel_rfl) R2'.out ?_)
          | (refine wpList_neq_w (by rfl) 57 57 (.tmp 11) (.tmp 12) rfl (twoC x y).toArray (twoC 0 0).toArray true rfl rfl NE.out guard_ref ?_))
        go_ret
        exact PP.out _ B2.out
    · obtain rfl : k = n := by omega
      have PP : Hid (NrPost w k h (.returned (.bool true)) wr) := ⟨by rw [decide_eq_true HZ.out], BE.out⟩
      go_wp2_with fail
      go_ret
      exact PP.out
end Go.Proofs.YtblphlcnbnklmaaGreatDoor
