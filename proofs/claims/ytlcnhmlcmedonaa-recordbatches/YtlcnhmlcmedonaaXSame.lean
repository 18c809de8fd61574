/-
  Walks, not a claim by itself: SameAccounts and SameTransfers of the same records. By the verifier.
-/
import Derived.Test.YtlcnhmlcmedonaaBatch
import Derived.Test.YtlcnhmlcmedonaaEql
import Derived.Test.YtlcnhmlcmedonaaReg
namespace Go.Proofs.Ytlcnhmlcmedonaa
open Go.RowKit
/-- Records handed in: n of them, behind one another, or none. -/
def RArg (w : World) (a : Option Addr) (n : Nat) (acc : Nat → Fld) : Prop := n = 0 ∨ ∃ b off, a = some ⟨b, off, none⟩ ∧ Recs w b off n acc
theorem RArg.below {w w' : World} {a : Option Addr} {n : Nat} {acc : Nat → Fld} (h : RArg w a n acc) (hB : Below w.heap.size w w') : RArg w' a n acc := by
  rcases h with h | ⟨b, off, rfl, h⟩
  · exact .inl h
  · exact .inr ⟨b, off, rfl, h.below hB⟩
theorem neq_run {a : Act} {w : World} {o : Oper} (t t' : TypeId) (x y : Operand) (ho : o.op = .binOp .neq t x y t') (X : Array Value) (hx : a.eval x = .agg X) (hy : a.eval y = .agg X)
    (he : ∀ w, (binOp .neq t (.agg X) (.agg X)).run Try.prog w = .ok (.bool false) w) (hg : Try.prog.eqGuardType Try.prog.depth t = false) : (execOp a.eval o).run Try.prog w = .ok (.value (.bool false)) w := by
  unfold execOp
  simp only [ho, hx, hy, Sem.run_bind, run_eqGuard_agg _ _ _ _ _ _ _ hg, Result.andThen_ok, he]
  rfl
def sameRel (w : World) (n : Nat) (i : Value) (wr : World) : Prop := ∃ k : Nat, k ≤ n ∧ i = .int .i64 k ∧ Below w.heap.size w wr
set_option maxRecDepth 100000 in
set_option maxHeartbeats 2000000 in
theorem neq_acc (a : Fld) (w : World) : (binOp .neq 28 (.agg a.cells.toArray) (.agg a.cells.toArray)).run Try.prog w = .ok (.bool false) w := by
  simp [go_sem, Fld.cells]
theorem sameAccounts_none (a b : Option Addr) (C C' : Nat) (w : World) :
    Calls Try.prog 18 #[.slice a 0 C, .slice b 0 C'] w fun e w' => e = .returned (.bool true) ∧ Below w.heap.size w w' := by
  go_enter Try.func18, Try.ntmps18
  go_wp2
  refine wp_loop_rounds 1 ?_
  rw [rounds_succ]
  go_wp2
  go_ret
  exact ⟨rfl, Below.refl _ _⟩
set_option maxRecDepth 100000 in
set_option maxHeartbeats 1000000 in
theorem sameAccounts_some (b off b' off' n C C' : Nat) (acc : Nat → Fld) (w : World) (hA : Recs w b off n acc) (hB : Recs w b' off' n acc) (hn : n ≤ 1000) :
    Calls Try.prog 18 #[.slice (some ⟨b, off, none⟩) n C, .slice (some ⟨b', off', none⟩) n C'] w fun e w' => e = .returned (.bool true) ∧ Below w.heap.size w w' := by
  have HA : Hid (Recs w b off n acc) := hA
  have HB : Hid (Recs w b' off' n acc) := hB
  have ST : Hid (sameRel w n (.int .i64 0) w) := ⟨0, by omega, rfl, Below.refl _ _⟩
  clear hA hB
  go_enter Try.func18, Try.ntmps18
  go_wp2_with fail
  go_loopw [5] (fun i wr => sameRel w n i wr) (fun i _ => n - (intOf i).toNat)
  case atStart => exact ST.out
  case round =>
    obtain ⟨k, hk, rfl, bel⟩ := hrel
    clear ST
    have BE : Hid (Below w.heap.size w wr) := bel
    by_cases hlt : k < n
    · have i1 : (k : Int) < n := by omega
      have r1 : wr.drew.rangeAt b (off + k * 19) (acc k).cells := ((HA.out.below bel).1 k hlt)
      have r2 : wr.drew.rangeAt b' (off' + k * 19) (acc k).cells := ((HB.out.below bel).1 k hlt)
      clear bel
      go_wp2_with fail
      refine wp_region_noPanic ?_
      refine wp_region_held_drew (S := fun W => W.rangeAt b (off + k * 19) (acc k).cells ∧ W.rangeAt b' (off' + k * 19) (acc k).cells) (by kernel_rfl) ?_ (fun hHeld => ?_)
      · exact ⟨r1, r2⟩
      refine take_at (i := 0) (v := ?_) (some 17) rfl rfl (by kernel_rfl) (by kernel_rfl) (by kernel_rfl) (fun _ _ _ h => h) (Or.inl ⟨by rfl, ?_⟩) (by assumption) ?_
      rotate_left
      · (intro w hSw; (try dsimp only at hSw); go_simp; try with_reducible rfl)
      simp only [Act.put, List.setIfInBounds_toArray, List.set_cons_zero, List.set_cons_succ]
      refine take_at (i := 1) (v := ?_) (some 18) rfl rfl (by kernel_rfl) (by kernel_rfl) (by kernel_rfl) (fun _ _ _ h => h) (Or.inl ⟨by rfl, ?_⟩) (by assumption) ?_
      rotate_left
      · (intro w hSw; (try dsimp only at hSw); go_simp; try with_reducible rfl)
      simp only [Act.put, List.setIfInBounds_toArray, List.set_cons_zero, List.set_cons_succ]
      refine take_at (i := 2) (v := ?_) (some 19) rfl rfl (by kernel_rfl) (by kernel_rfl) (by kernel_rfl) (fun _ _ _ h => h) (Or.inl ⟨by rfl, ?_⟩) (by assumption) ?_
      rotate_left
      · (intro w hSw; (try dsimp only at hSw); go_simp; try with_reducible rfl)
      simp only [Act.put, List.setIfInBounds_toArray, List.set_cons_zero, List.set_cons_succ]
      refine take_at (i := 3) (v := _) (some 20) rfl rfl (by kernel_rfl) (by kernel_rfl) (by kernel_rfl) (fun _ _ _ h => h) (yieldsIf_load_mid (by rfl) _ _ rfl _ _ rfl _ _ (fun _ h => h.1) Try.underlying28 rfl (by kernel_rfl)) (by assumption) ?_
      simp only [Act.put, List.setIfInBounds_toArray, List.set_cons_zero, List.set_cons_succ]
      refine take_at (i := 4) (v := ?_) (some 21) rfl rfl (by kernel_rfl) (by kernel_rfl) (by kernel_rfl) (fun _ _ _ h => h) (Or.inl ⟨by rfl, ?_⟩) (by assumption) ?_
      rotate_left
      · (intro w hSw; (try dsimp only at hSw); go_simp; try with_reducible rfl)
      simp only [Act.put, List.setIfInBounds_toArray, List.set_cons_zero, List.set_cons_succ]
      refine take_at (i := 5) (v := ?_) (some 22) rfl rfl (by kernel_rfl) (by kernel_rfl) (by kernel_rfl) (fun _ _ _ h => h) (Or.inl ⟨by rfl, ?_⟩) (by assumption) ?_
      rotate_left
      · (intro w hSw; (try dsimp only at hSw); go_simp; try with_reducible rfl)
      simp only [Act.put, List.setIfInBounds_toArray, List.set_cons_zero, List.set_cons_succ]
      refine take_at (i := 6) (v := ?_) (some 23) rfl rfl (by kernel_rfl) (by kernel_rfl) (by kernel_rfl) (fun _ _ _ h => h) (Or.inl ⟨by rfl, ?_⟩) (by assumption) ?_
      rotate_left
      · (intro w hSw; (try dsimp only at hSw); go_simp; try with_reducible rfl)
      simp only [Act.put, List.setIfInBounds_toArray, List.set_cons_zero, List.set_cons_succ]
      refine take_at (i := 7) (v := _) (some 24) rfl rfl (by kernel_rfl) (by kernel_rfl) (by kernel_rfl) (fun _ _ _ h => h) (yieldsIf_load_mid (by rfl) _ _ rfl _ _ rfl _ _ (fun _ h => h.2) Try.underlying28 rfl (by kernel_rfl)) (by assumption) ?_
      simp only [Act.put, List.setIfInBounds_toArray, List.set_cons_zero, List.set_cons_succ]
      refine take_at (i := 8) (v := (.bool false)) (some 25) rfl rfl (by kernel_rfl) (by kernel_rfl) (by kernel_rfl) (fun _ _ _ h => h) (Or.inl ⟨by rfl, fun w _ => neq_run 28 28 (.tmp 20) (.tmp 24) rfl (acc k).cells.toArray rfl rfl (neq_acc (acc k)) guard_acc⟩) (by assumption) ?_
      simp only [Act.put, List.setIfInBounds_toArray, List.set_cons_zero, List.set_cons_succ]
      refine wpAnyH_done (by kernel_rfl) ?_ _
      refine NoPanic.normal ?_
      go_wp2_with fail
      go_roundw
      case rel => exact ⟨k + 1, by omega, by go_num, BE.out.drew⟩
      case measure => simp [intOf]; omega
    · obtain rfl : k = n := by omega
      clear bel
      go_wp2_with fail
      go_ret
      exact ⟨rfl, BE.out⟩
theorem sameAccounts_any (a b : Option Addr) (n C C' : Nat) (acc : Nat → Fld) (w : World) (hA : RArg w a n acc) (hB : RArg w b n acc) (hn : n ≤ 1000) :
    Calls Try.prog 18 #[.slice a n C, .slice b n C'] w fun e w' => e = .returned (.bool true) ∧ Below w.heap.size w w' := by
  by_cases h : n = 0
  · subst h
    exact sameAccounts_none a b C C' w
  · rcases hA with h0 | ⟨p, o, rfl, hA⟩
    · exact absurd h0 h
    rcases hB with h0 | ⟨q, o', rfl, hB⟩
    · exact absurd h0 h
    exact sameAccounts_some p o q o' n C C' acc w hA hB hn
set_option maxRecDepth 100000 in
set_option maxHeartbeats 2000000 in
theorem neq_tr (a : Fld) (w : World) : (binOp .neq 30 (.agg a.cells.toArray) (.agg a.cells.toArray)).run Try.prog w = .ok (.bool false) w := by
  simp [go_sem, Fld.cells]
theorem sameTransfers_none (a b : Option Addr) (C C' : Nat) (w : World) :
    Calls Try.prog 19 #[.slice a 0 C, .slice b 0 C'] w fun e w' => e = .returned (.bool true) ∧ Below w.heap.size w w' := by
  go_enter Try.func19, Try.ntmps19
  go_wp2
  refine wp_loop_rounds 1 ?_
  rw [rounds_succ]
  go_wp2
  go_ret
  exact ⟨rfl, Below.refl _ _⟩
set_option maxRecDepth 100000 in
set_option maxHeartbeats 1000000 in
theorem sameTransfers_some (b off b' off' n C C' : Nat) (acc : Nat → Fld) (w : World) (hA : Recs w b off n acc) (hB : Recs w b' off' n acc) (hn : n ≤ 1000) :
    Calls Try.prog 19 #[.slice (some ⟨b, off, none⟩) n C, .slice (some ⟨b', off', none⟩) n C'] w fun e w' => e = .returned (.bool true) ∧ Below w.heap.size w w' := by
  have HA : Hid (Recs w b off n acc) := hA
  have HB : Hid (Recs w b' off' n acc) := hB
  have ST : Hid (sameRel w n (.int .i64 0) w) := ⟨0, by omega, rfl, Below.refl _ _⟩
  clear hA hB
  go_enter Try.func19, Try.ntmps19
  go_wp2_with fail
  go_loopw [5] (fun i wr => sameRel w n i wr) (fun i _ => n - (intOf i).toNat)
  case atStart => exact ST.out
  case round =>
    obtain ⟨k, hk, rfl, bel⟩ := hrel
    clear ST
    have BE : Hid (Below w.heap.size w wr) := bel
    by_cases hlt : k < n
    · have i1 : (k : Int) < n := by omega
      have r1 : wr.drew.rangeAt b (off + k * 19) (acc k).cells := ((HA.out.below bel).1 k hlt)
      have r2 : wr.drew.rangeAt b' (off' + k * 19) (acc k).cells := ((HB.out.below bel).1 k hlt)
      clear bel
      go_wp2_with fail
      refine wp_region_noPanic ?_
      refine wp_region_held_drew (S := fun W => W.rangeAt b (off + k * 19) (acc k).cells ∧ W.rangeAt b' (off' + k * 19) (acc k).cells) (by kernel_rfl) ?_ (fun hHeld => ?_)
      · exact ⟨r1, r2⟩
      refine take_at (i := 0) (v := ?_) (some 17) rfl rfl (by kernel_rfl) (by kernel_rfl) (by kernel_rfl) (fun _ _ _ h => h) (Or.inl ⟨by rfl, ?_⟩) (by assumption) ?_
      rotate_left
      · (intro w hSw; (try dsimp only at hSw); go_simp; try with_reducible rfl)
      simp only [Act.put, List.setIfInBounds_toArray, List.set_cons_zero, List.set_cons_succ]
      refine take_at (i := 1) (v := ?_) (some 18) rfl rfl (by kernel_rfl) (by kernel_rfl) (by kernel_rfl) (fun _ _ _ h => h) (Or.inl ⟨by rfl, ?_⟩) (by assumption) ?_
      rotate_left
      · (intro w hSw; (try dsimp only at hSw); go_simp; try with_reducible rfl)
      simp only [Act.put, List.setIfInBounds_toArray, List.set_cons_zero, List.set_cons_succ]
      refine take_at (i := 2) (v := ?_) (some 19) rfl rfl (by kernel_rfl) (by kernel_rfl) (by kernel_rfl) (fun _ _ _ h => h) (Or.inl ⟨by rfl, ?_⟩) (by assumption) ?_
      rotate_left
      · (intro w hSw; (try dsimp only at hSw); go_simp; try with_reducible rfl)
      simp only [Act.put, List.setIfInBounds_toArray, List.set_cons_zero, List.set_cons_succ]
      refine take_at (i := 3) (v := _) (some 20) rfl rfl (by kernel_rfl) (by kernel_rfl) (by kernel_rfl) (fun _ _ _ h => h) (yieldsIf_load_mid (by rfl) _ _ rfl _ _ rfl _ _ (fun _ h => h.1) Try.underlying30 rfl (by kernel_rfl)) (by assumption) ?_
      simp only [Act.put, List.setIfInBounds_toArray, List.set_cons_zero, List.set_cons_succ]
      refine take_at (i := 4) (v := ?_) (some 21) rfl rfl (by kernel_rfl) (by kernel_rfl) (by kernel_rfl) (fun _ _ _ h => h) (Or.inl ⟨by rfl, ?_⟩) (by assumption) ?_
      rotate_left
      · (intro w hSw; (try dsimp only at hSw); go_simp; try with_reducible rfl)
      simp only [Act.put, List.setIfInBounds_toArray, List.set_cons_zero, List.set_cons_succ]
      refine take_at (i := 5) (v := ?_) (some 22) rfl rfl (by kernel_rfl) (by kernel_rfl) (by kernel_rfl) (fun _ _ _ h => h) (Or.inl ⟨by rfl, ?_⟩) (by assumption) ?_
      rotate_left
      · (intro w hSw; (try dsimp only at hSw); go_simp; try with_reducible rfl)
      simp only [Act.put, List.setIfInBounds_toArray, List.set_cons_zero, List.set_cons_succ]
      refine take_at (i := 6) (v := ?_) (some 23) rfl rfl (by kernel_rfl) (by kernel_rfl) (by kernel_rfl) (fun _ _ _ h => h) (Or.inl ⟨by rfl, ?_⟩) (by assumption) ?_
      rotate_left
      · (intro w hSw; (try dsimp only at hSw); go_simp; try with_reducible rfl)
      simp only [Act.put, List.setIfInBounds_toArray, List.set_cons_zero, List.set_cons_succ]
      refine take_at (i := 7) (v := _) (some 24) rfl rfl (by kernel_rfl) (by kernel_rfl) (by kernel_rfl) (fun _ _ _ h => h) (yieldsIf_load_mid (by rfl) _ _ rfl _ _ rfl _ _ (fun _ h => h.2) Try.underlying30 rfl (by kernel_rfl)) (by assumption) ?_
      simp only [Act.put, List.setIfInBounds_toArray, List.set_cons_zero, List.set_cons_succ]
      refine take_at (i := 8) (v := (.bool false)) (some 25) rfl rfl (by kernel_rfl) (by kernel_rfl) (by kernel_rfl) (fun _ _ _ h => h) (Or.inl ⟨by rfl, fun w _ => neq_run 30 30 (.tmp 20) (.tmp 24) rfl (acc k).cells.toArray rfl rfl (neq_tr (acc k)) guard_tr⟩) (by assumption) ?_
      simp only [Act.put, List.setIfInBounds_toArray, List.set_cons_zero, List.set_cons_succ]
      refine wpAnyH_done (by kernel_rfl) ?_ _
      refine NoPanic.normal ?_
      go_wp2_with fail
      go_roundw
      case rel => exact ⟨k + 1, by omega, by go_num, BE.out.drew⟩
      case measure => simp [intOf]; omega
    · obtain rfl : k = n := by omega
      clear bel
      go_wp2_with fail
      go_ret
      exact ⟨rfl, BE.out⟩
theorem sameTransfers_any (a b : Option Addr) (n C C' : Nat) (acc : Nat → Fld) (w : World) (hA : RArg w a n acc) (hB : RArg w b n acc) (hn : n ≤ 1000) :
    Calls Try.prog 19 #[.slice a n C, .slice b n C'] w fun e w' => e = .returned (.bool true) ∧ Below w.heap.size w w' := by
  by_cases h : n = 0
  · subst h
    exact sameTransfers_none a b C C' w
  · rcases hA with h0 | ⟨p, o, rfl, hA⟩
    · exact absurd h0 h
    rcases hB with h0 | ⟨q, o', rfl, hB⟩
    · exact absurd h0 h
    exact sameTransfers_some p o q o' n C C' acc w hA hB hn
end Go.Proofs.Ytlcnhmlcmedonaa
