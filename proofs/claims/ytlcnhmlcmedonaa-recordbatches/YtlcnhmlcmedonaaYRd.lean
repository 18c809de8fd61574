/-
  Walks, not a claim by itself: ReadAccounts and ReadTransfers of any bytes, the document's and the program's; copies of records. By the verifier.
-/
import Derived.Test.YtlcnhmlcmedonaaYRef
namespace Go.Proofs.Ytlcnhmlcmedonaa
open Go.RowKit
/-- What holds at the head of the loop. -/
def yrdRel (T : TypeId) (w : World) (c : Nat) (f : Nat → Int) (v i : Value) (wr : World) : Prop := ∃ k : Nat, k ≤ c ∧ i = .int .i64 ((k : Int) * 128) ∧ wr.ownsRow w.heap.size T 19 v k (recsL (fun i => recOf fun t => f (i * 128 + t)) k) ∧ Below w.heap.size w wr
theorem RArg.of_none {w : World} (a : Option Addr) (acc : Nat → Fld) : RArg w a 0 acc := .inl rfl
theorem infoAccount : (Try.prog.info? 28).map (fun i => (i.zero, i.size, i.bytes)) = some (some (.agg zero19.toArray), 19, 128) := by kernel_rfl
set_option maxRecDepth 100000 in
theorem bs1Account (R : Fld) (w : World) : (Instr.buildSlice 39 1 #[(0, .agg R.cells.toArray)]).run Try.prog w = .ok (.slice (some ⟨w.heap.size, 0, none⟩) 1 1) (w.alloc (.cells R.cells.toArray 28)) := by
  simp [go_sem, Fld.cells]
theorem bs1Account_run {a : Act} {w : World} {o : Oper} (x : Operand) (hop : o.op = .buildSlice 39 1 #[(0, x)]) (R : Fld) (hx : a.eval x = .agg R.cells.toArray) : (execOp a.eval o).run Try.prog w = .ok (.value (.slice (some ⟨w.heap.size, 0, none⟩) 1 1)) (w.alloc (.cells R.cells.toArray 28)) := by
  unfold execOp
  simp [hop, hx, bs1Account, Result.andThen]
theorem bs0Account_run {a : Act} {w : World} {o : Oper} (hop : o.op = .buildSlice 39 0 #[]) : (execOp a.eval o).run Try.prog w = .ok (.value (.slice (some ⟨w.heap.size, 0, none⟩) 0 0)) (w.alloc (.cells #[] 28)) := by
  obtain ⟨ie, hie, _, _, _⟩ := info_parts infoAccount
  have hu : Try.prog.underlying 39 = some (.slice 28) := Try.underlying39
  unfold execOp
  simp [hop, Instr.buildSlice, run_underlying hu, sizeOf, typeInfo, hie, newRow, Instr.fill, Result.andThen]
  congr 2
  exact Array.eq_empty_of_size_eq_zero (by simp)
/-- append of records that lie somewhere onto records that the call has made. -/
theorem appAccount (W : World) (base n m C : Nat) (v : Value) (a : Option Addr) (acc new : Nat → Fld) (ho : W.ownsRow base 28 19 v n (recsL acc n)) (hA : RArg W a m new) (hm : n + m ≤ 1000) (hbase : base ≤ W.heap.size) (hn : ∀ i, i < m → new i = acc (n + i)) :
    ∃ v' W', (Builtin.append_ #[39, 39] 39 #[v, .slice a m C]).run Try.prog W = .ok v' W' ∧ W'.ownsRow base 28 19 v' (n + m) (recsL acc (n + m)) ∧ Below base W W' := by
  obtain ⟨i0, hi, hz0, hz1, hz2⟩ := info_parts infoAccount
  have cat : ∀ m, (∀ i, i < m → new i = acc (n + i)) → recsL acc n ++ recsL new m = recsL acc (n + m) := by
    intro m
    induction m with
    | zero => intro _; simp [recsL]
    | succ m ih => intro h; rw [recsL_succ, ← List.append_assoc, ih (fun i hi => h i (by omega)), h m (by omega), ← recsL_succ]; rfl
  have main : ∀ ad : Addr, (∀ j u, (recsL new m)[j]? = some u → W.cell? (ad.add j) = some u) → ∃ v' W', (Builtin.append_ #[39, 39] 39 #[v, .slice (some ad) m C]).run Try.prog W = .ok v' W' ∧ W'.ownsRow base 28 19 v' (n + m) (recsL acc (n + m)) ∧ Below base W W' := by
    intro ad hnews
    obtain ⟨v', W', h1, h2, h3, _⟩ := run_append_own (P := Try.prog) W base 39 39 28 i0 (.agg zero19.toArray) 19 128 Try.underlying39 hi hz0 hz1 hz2 rfl (by decide) v n (recsL acc n) ho ad m C (recsL new m) (by rw [recsL_len]) hnews (recsL_one _ _) (by unfold maxLen; omega) (by omega) hbase
    rw [cat m hn] at h2
    exact ⟨v', W', h1, h2, (Below.refl _ _).grown h3 hbase (fun k hk => (World.ownsRow.lt ho k hk).1)⟩
  by_cases h0 : m = 0
  · subst h0
    cases a with
    | some p => exact main p (fun j u hj => by simp [recsL] at hj)
    | none =>
      refine ⟨v, W, ?_, ho, Below.refl _ _⟩
      rcases ho.2 with ⟨rfl, rfl⟩ | ⟨g, cap, cur, rfl, _, _, hnc, _⟩
      · simp [Builtin.append_, run_underlying Try.underlying39, sizeOf, typeInfo, hi, Builtin.lenOf, Builtin.firstCells]
      · simp [Builtin.append_, run_underlying Try.underlying39, sizeOf, typeInfo, hi, Builtin.lenOf, Builtin.firstCells, hnc, storeCells]
  · rcases hA with h | ⟨b, off, rfl, hR⟩
    · exact absurd h h0
    · refine main ⟨b, off, none⟩ (fun j u hj => ?_)
      have hj' : j < m * 19 := by
        rcases Nat.lt_or_ge j (m * 19) with q | q
        · exact q
        · rw [List.getElem?_eq_none (by rw [recsL_len]; omega)] at hj; cases hj
      have e := recsL_at new m (j / 19) (j % 19) (by omega) (by omega)
      rw [show j / 19 * 19 + j % 19 = j by omega, hj] at e
      have := hR.1 (j / 19) (by omega) (j % 19) u e.symm
      rw [show off + j / 19 * 19 + j % 19 = off + j by omega] at this
      rw [Addr.add_mid]
      exact this
set_option maxRecDepth 100000 in
set_option maxHeartbeats 1000000 in
theorem qReadAccounts_any (a : Option Addr) (n C : Nat) (f : Nat → Int) (w : World) (h : Arg w a n f) (hC : n ≤ C) (hn : n ≤ 1000000) :
    Calls Try.prog 21 #[.slice a n C] w (RcPost w n f) := by
  by_cases hz : rcode n = 0
  · have ⟨c, hc, h8⟩ : ∃ c, n = c * 128 ∧ c ≤ 8 := by
      unfold rcode at hz
      split at hz
      · omega
      · split at hz
        · omega
        · exact ⟨n / 128, by omega, by omega⟩
    have e2 : rcnt n = c := by
      unfold rcnt
      rw [if_neg (by omega), if_neg (by omega)]
      omega
    unfold RcPost
    rw [hz, e2]
    have HZ : Hid (rcode n = 0) := hz
    subst hc
    have HA : Hid (Arg w a (c * 128) f) := h
    have ST : Hid (yrdRel 28 w c f (.slice none 0 0) (.int .i64 0) w) := ⟨0, by omega, rfl, World.ownsRow_nil w _ _ _, Below.refl _ _⟩
    clear h e2 hz
    go_enter Try.func21, Try.ntmps21
    go_wp2_with (go_at_call 40; refine (wrong_any a (c * 128) C _ hn).mono ?_; rintro e w1 ⟨rfl, rfl⟩; rw [HZ.out])
    go_loopw [5, 6] (fun v i wr => yrdRel 28 w1 c f v i wr) (fun _ i _ => c * 128 - (intOf i).toNat)
    case atStart => exact ST.out
    case round =>
      obtain ⟨k, hk, rfl, hown, bel⟩ := hrel
      clear ST
      have BE : Hid (Below w1.heap.size w1 wr) := bel
      by_cases hlt : k < c
      · have i0 : (k : Int) * 128 < (c : Int) * 128 := by omega
        obtain ⟨b, off, rfl, L⟩ : ∃ b off, a = some ⟨b, off, none⟩ ∧ Lies w1 b off (c * 128) f := by
          rcases HA.out with ⟨h, _⟩ | ⟨_, b, off, rfl, L⟩
          · omega
          · exact ⟨b, off, rfl, L⟩
        have LX : Hid (Lies wr b (off + k * 128) 128 (fun j => f (k * 128 + j))) := (L.below bel).part (k * 128) 128 (by omega)
        have OW : Hid (wr.ownsRow w1.heap.size 28 19 _ k (recsL (fun i => recOf fun t => f (i * 128 + t)) k)) := hown
        obtain ⟨R, hR⟩ : ∃ R, (recOf fun j => f (k * 128 + j)) = R := ⟨_, rfl⟩
        have HR : Hid ((recOf fun j => f (k * 128 + j)) = R) := hR
        have RW : Hid R.wf := by rw [← hR]; exact arecOf_wf _ LX.out.2.1
        have i1 : (0 : Int) ≤ (k : Int) * 128 := by omega
        have i2 : ((k : Int) * 128).toNat = k * 128 := by omega
        have i4 : ¬ C = k * 128 := by omega
        have i6 : (k : Int) * 128 + 128 ≤ C := by omega
        have i7 : ((k : Int) * 128 + 128).toNat = k * 128 + 128 := by omega
        have i8 : k * 128 + 128 - k * 128 = 128 := by omega
        have i9 : wrap64 ((k : Int) * 128 + 128) = (k : Int) * 128 + 128 := by unfold wrap64; omega
        have i10 : IntKind.i64.wrap ((k : Int) * 128 + 128) = (k : Int) * 128 + 128 := by rw [IntKind.wrap_i64]; omega
        clear L bel hown hR
        go_wp2_with (first
          | (go_at_call 41; refine (qreadAccount_ok b (off + k * 128) _ (fun j => f (k * 128 + j)) _ LX.out (by omega)).mono ?_; rintro e w3 ⟨rfl, K3⟩; rw [HR.out])
          | (refine wpList_store_rec rfl 28 (.tmp 7) _ rfl w3.heap.size 0 zero19 R.cells rfl rfl (Rec19.new w3 28 zero19) rfl (by kernel_rfl) R.cells_one ?_; intro W4 R4 G4
             have D4 : Below wr.heap.size wr W4 := K3.trans ((((Below.refl _ w3).alloc (Nat.le_refl _) (.cells zero19.toArray 28)).trans (G4.below (Nat.le_refl _) (by simp))).mono K3.size)
             obtain ⟨v5, W5, hr5, hO5, hB5⟩ := appAccount (W4.alloc (.cells R.cells.toArray 28)) w1.heap.size k 1 1 _ (some ⟨W4.heap.size, 0, none⟩) (fun i => recOf fun t => f (i * 128 + t)) (fun _ => R) ((own_below OW.out D4).alloc _)
               (.inr ⟨_, 0, rfl, fun i hi j v hj => by rw [show i = 0 by omega, World.cell?_alloc_at _ _ _ _ rfl]; simpa using hj, fun _ _ => RW.out, by simp⟩) (by omega) (by simp; have := BE.out.size; have := D4.size; omega) (fun i hi => by rw [show k + i = k by omega]; exact HR.out.symm)
             have RR : Hid (yrdRel 28 w1 c f v5 (.int .i64 ((k : Int) * 128 + 128)) W5) := ⟨k + 1, by omega, by congr 1; omega, hO5, BE.out.trans (((D4.alloc D4.size _).mono BE.out.size).trans hB5)⟩
             clear D4 K3 G4 hO5 hB5)
          | (refine wpList_load_rec rfl 28 (.tmp 7) rfl w3.heap.size 0 R.cells rfl _ Try.underlying28 rfl (by kernel_rfl) R4 ?_)
          | (refine wpList_step_go rfl (bs1Account_run (.tmp 30) rfl R rfl) ?_)
          | (at_builtin; refine wpList_append_go rfl _ _ 39 39 rfl _ _ rfl rfl hr5 ?_))
        go_roundw
        case rel => exact RR.out
        case measure => simp [intOf]; omega
      · have i0 : ¬ (k : Int) * 128 < (c : Int) * 128 := by omega
        obtain rfl : k = c := by omega
        obtain ⟨a', cap, rfl, hA⟩ := rarg_of_own hown (fun i hi => arecOf_wf _ (fun j hj => by
          rcases HA.out with ⟨h, _⟩ | ⟨_, b, off, rfl, L⟩
          · omega
          · exact L.2.1 _ (by omega)))
        go_wp2_with fail
        exact bodyPost_ret (v := .tuple #[.slice a' k cap, .int .i64 0]) (by simp [results, Try.results21]) rfl ⟨a', ⟨cap, rfl⟩, hA, BE.out⟩
  · have e2 : rcnt n = 0 := by
      unfold rcnt
      unfold rcode at hz
      split
      · rfl
      · rename_i q
        rw [if_neg q] at hz
        split
        · rfl
        · rename_i q'
          rw [if_neg q'] at hz
          exact absurd rfl hz
    unfold RcPost
    rw [e2]
    obtain ⟨c, hc⟩ : ∃ c, rcode n = c := ⟨_, rfl⟩
    have HZ : Hid (rcode n = c) := hc
    have hz' : ¬ c = 0 := by rw [← hc]; exact hz
    rw [hc]
    clear hc hz e2 h
    go_enter Try.func21, Try.ntmps21
    go_wp2_with (go_at_call 40; refine (wrong_any a n C _ hn).mono ?_; rintro e w1 ⟨rfl, rfl⟩; rw [HZ.out])
    exact bodyPost_ret (v := .tuple #[.slice none 0 0, .int .i64 c]) (by simp [results, Try.results21]) rfl ⟨none, 0, rfl, .inl rfl, Below.refl _ _⟩
theorem pReadAccounts_any (g n C : Nat) (f : Nat → Int) (w : World) (h : Lies w g 0 n f) (hC : n ≤ C) (hn : n ≤ 1000000) :
    Calls Try.prog 20 #[.slice (some ⟨g, 0, none⟩) n C] w (RcPost w n f) := by
  unfold RcPost rcode rcnt
  by_cases h1 : n % 128 ≠ 0
  · rw [if_pos h1, if_pos h1]
    refine (readAccounts_bytes _ n C w h1).mono ?_
    rintro e w' ⟨rfl, hB⟩
    exact ⟨none, 0, rfl, .inl rfl, hB⟩
  · rw [if_neg h1, if_neg h1]
    by_cases h2 : 1024 < n
    · rw [if_pos h2, if_pos h2]
      refine (readAccounts_long _ n C w (by omega) (by omega) hn).mono ?_
      rintro e w' ⟨rfl, hB⟩
      exact ⟨none, 0, rfl, .inl rfl, hB⟩
    · rw [if_neg h2, if_neg h2]
      obtain ⟨c, rfl⟩ : ∃ c, n = c * 128 := ⟨n / 128, by omega⟩
      rw [show c * 128 / 128 = c by omega]
      exact ReadAccounts_lies g 0 c C f _ w h (by omega) hC (fun _ _ => rfl) (fun i hi => arecOf_wf _ (fun j hj => h.2.1 _ (by omega)))
theorem infoTransfer : (Try.prog.info? 30).map (fun i => (i.zero, i.size, i.bytes)) = some (some (.agg zero19.toArray), 19, 128) := by kernel_rfl
set_option maxRecDepth 100000 in
theorem bs1Transfer (R : Fld) (w : World) : (Instr.buildSlice 40 1 #[(0, .agg R.cells.toArray)]).run Try.prog w = .ok (.slice (some ⟨w.heap.size, 0, none⟩) 1 1) (w.alloc (.cells R.cells.toArray 30)) := by
  simp [go_sem, Fld.cells]
theorem bs1Transfer_run {a : Act} {w : World} {o : Oper} (x : Operand) (hop : o.op = .buildSlice 40 1 #[(0, x)]) (R : Fld) (hx : a.eval x = .agg R.cells.toArray) : (execOp a.eval o).run Try.prog w = .ok (.value (.slice (some ⟨w.heap.size, 0, none⟩) 1 1)) (w.alloc (.cells R.cells.toArray 30)) := by
  unfold execOp
  simp [hop, hx, bs1Transfer, Result.andThen]
theorem bs0Transfer_run {a : Act} {w : World} {o : Oper} (hop : o.op = .buildSlice 40 0 #[]) : (execOp a.eval o).run Try.prog w = .ok (.value (.slice (some ⟨w.heap.size, 0, none⟩) 0 0)) (w.alloc (.cells #[] 30)) := by
  obtain ⟨ie, hie, _, _, _⟩ := info_parts infoTransfer
  have hu : Try.prog.underlying 40 = some (.slice 30) := Try.underlying40
  unfold execOp
  simp [hop, Instr.buildSlice, run_underlying hu, sizeOf, typeInfo, hie, newRow, Instr.fill, Result.andThen]
  congr 2
  exact Array.eq_empty_of_size_eq_zero (by simp)
/-- append of records that lie somewhere onto records that the call has made. -/
theorem appTransfer (W : World) (base n m C : Nat) (v : Value) (a : Option Addr) (acc new : Nat → Fld) (ho : W.ownsRow base 30 19 v n (recsL acc n)) (hA : RArg W a m new) (hm : n + m ≤ 1000) (hbase : base ≤ W.heap.size) (hn : ∀ i, i < m → new i = acc (n + i)) :
    ∃ v' W', (Builtin.append_ #[40, 40] 40 #[v, .slice a m C]).run Try.prog W = .ok v' W' ∧ W'.ownsRow base 30 19 v' (n + m) (recsL acc (n + m)) ∧ Below base W W' := by
  obtain ⟨i0, hi, hz0, hz1, hz2⟩ := info_parts infoTransfer
  have cat : ∀ m, (∀ i, i < m → new i = acc (n + i)) → recsL acc n ++ recsL new m = recsL acc (n + m) := by
    intro m
    induction m with
    | zero => intro _; simp [recsL]
    | succ m ih => intro h; rw [recsL_succ, ← List.append_assoc, ih (fun i hi => h i (by omega)), h m (by omega), ← recsL_succ]; rfl
  have main : ∀ ad : Addr, (∀ j u, (recsL new m)[j]? = some u → W.cell? (ad.add j) = some u) → ∃ v' W', (Builtin.append_ #[40, 40] 40 #[v, .slice (some ad) m C]).run Try.prog W = .ok v' W' ∧ W'.ownsRow base 30 19 v' (n + m) (recsL acc (n + m)) ∧ Below base W W' := by
    intro ad hnews
    obtain ⟨v', W', h1, h2, h3, _⟩ := run_append_own (P := Try.prog) W base 40 40 30 i0 (.agg zero19.toArray) 19 128 Try.underlying40 hi hz0 hz1 hz2 rfl (by decide) v n (recsL acc n) ho ad m C (recsL new m) (by rw [recsL_len]) hnews (recsL_one _ _) (by unfold maxLen; omega) (by omega) hbase
    rw [cat m hn] at h2
    exact ⟨v', W', h1, h2, (Below.refl _ _).grown h3 hbase (fun k hk => (World.ownsRow.lt ho k hk).1)⟩
  by_cases h0 : m = 0
  · subst h0
    cases a with
    | some p => exact main p (fun j u hj => by simp [recsL] at hj)
    | none =>
      refine ⟨v, W, ?_, ho, Below.refl _ _⟩
      rcases ho.2 with ⟨rfl, rfl⟩ | ⟨g, cap, cur, rfl, _, _, hnc, _⟩
      · simp [Builtin.append_, run_underlying Try.underlying40, sizeOf, typeInfo, hi, Builtin.lenOf, Builtin.firstCells]
      · simp [Builtin.append_, run_underlying Try.underlying40, sizeOf, typeInfo, hi, Builtin.lenOf, Builtin.firstCells, hnc, storeCells]
  · rcases hA with h | ⟨b, off, rfl, hR⟩
    · exact absurd h h0
    · refine main ⟨b, off, none⟩ (fun j u hj => ?_)
      have hj' : j < m * 19 := by
        rcases Nat.lt_or_ge j (m * 19) with q | q
        · exact q
        · rw [List.getElem?_eq_none (by rw [recsL_len]; omega)] at hj; cases hj
      have e := recsL_at new m (j / 19) (j % 19) (by omega) (by omega)
      rw [show j / 19 * 19 + j % 19 = j by omega, hj] at e
      have := hR.1 (j / 19) (by omega) (j % 19) u e.symm
      rw [show off + j / 19 * 19 + j % 19 = off + j by omega] at this
      rw [Addr.add_mid]
      exact this
set_option maxRecDepth 100000 in
set_option maxHeartbeats 1000000 in
theorem qReadTransfers_any (a : Option Addr) (n C : Nat) (f : Nat → Int) (w : World) (h : Arg w a n f) (hC : n ≤ C) (hn : n ≤ 1000000) :
    Calls Try.prog 23 #[.slice a n C] w (RcPost w n f) := by
  by_cases hz : rcode n = 0
  · have ⟨c, hc, h8⟩ : ∃ c, n = c * 128 ∧ c ≤ 8 := by
      unfold rcode at hz
      split at hz
      · omega
      · split at hz
        · omega
        · exact ⟨n / 128, by omega, by omega⟩
    have e2 : rcnt n = c := by
      unfold rcnt
      rw [if_neg (by omega), if_neg (by omega)]
      omega
    unfold RcPost
    rw [hz, e2]
    have HZ : Hid (rcode n = 0) := hz
    subst hc
    have HA : Hid (Arg w a (c * 128) f) := h
    have ST : Hid (yrdRel 30 w c f (.slice none 0 0) (.int .i64 0) w) := ⟨0, by omega, rfl, World.ownsRow_nil w _ _ _, Below.refl _ _⟩
    clear h e2 hz
    go_enter Try.func23, Try.ntmps23
    go_wp2_with (go_at_call 40; refine (wrong_any a (c * 128) C _ hn).mono ?_; rintro e w1 ⟨rfl, rfl⟩; rw [HZ.out])
    go_loopw [5, 6] (fun v i wr => yrdRel 30 w1 c f v i wr) (fun _ i _ => c * 128 - (intOf i).toNat)
    case atStart => exact ST.out
    case round =>
      obtain ⟨k, hk, rfl, hown, bel⟩ := hrel
      clear ST
      have BE : Hid (Below w1.heap.size w1 wr) := bel
      by_cases hlt : k < c
      · have i0 : (k : Int) * 128 < (c : Int) * 128 := by omega
        obtain ⟨b, off, rfl, L⟩ : ∃ b off, a = some ⟨b, off, none⟩ ∧ Lies w1 b off (c * 128) f := by
          rcases HA.out with ⟨h, _⟩ | ⟨_, b, off, rfl, L⟩
          · omega
          · exact ⟨b, off, rfl, L⟩
        have LX : Hid (Lies wr b (off + k * 128) 128 (fun j => f (k * 128 + j))) := (L.below bel).part (k * 128) 128 (by omega)
        have OW : Hid (wr.ownsRow w1.heap.size 30 19 _ k (recsL (fun i => recOf fun t => f (i * 128 + t)) k)) := hown
        obtain ⟨R, hR⟩ : ∃ R, (recOf fun j => f (k * 128 + j)) = R := ⟨_, rfl⟩
        have HR : Hid ((recOf fun j => f (k * 128 + j)) = R) := hR
        have RW : Hid R.wf := by rw [← hR]; exact arecOf_wf _ LX.out.2.1
        have i1 : (0 : Int) ≤ (k : Int) * 128 := by omega
        have i2 : ((k : Int) * 128).toNat = k * 128 := by omega
        have i4 : ¬ C = k * 128 := by omega
        have i6 : (k : Int) * 128 + 128 ≤ C := by omega
        have i7 : ((k : Int) * 128 + 128).toNat = k * 128 + 128 := by omega
        have i8 : k * 128 + 128 - k * 128 = 128 := by omega
        have i9 : wrap64 ((k : Int) * 128 + 128) = (k : Int) * 128 + 128 := by unfold wrap64; omega
        have i10 : IntKind.i64.wrap ((k : Int) * 128 + 128) = (k : Int) * 128 + 128 := by rw [IntKind.wrap_i64]; omega
        clear L bel hown hR
        go_wp2_with (first
          | (go_at_call 44; refine (qreadTransfer_ok b (off + k * 128) _ (fun j => f (k * 128 + j)) _ LX.out (by omega)).mono ?_; rintro e w3 ⟨rfl, K3⟩; rw [HR.out])
          | (refine wpList_store_rec rfl 30 (.tmp 7) _ rfl w3.heap.size 0 zero19 R.cells rfl rfl (Rec19.new w3 30 zero19) rfl (by kernel_rfl) R.cells_one ?_; intro W4 R4 G4
             have D4 : Below wr.heap.size wr W4 := K3.trans ((((Below.refl _ w3).alloc (Nat.le_refl _) (.cells zero19.toArray 30)).trans (G4.below (Nat.le_refl _) (by simp))).mono K3.size)
             obtain ⟨v5, W5, hr5, hO5, hB5⟩ := appTransfer (W4.alloc (.cells R.cells.toArray 30)) w1.heap.size k 1 1 _ (some ⟨W4.heap.size, 0, none⟩) (fun i => recOf fun t => f (i * 128 + t)) (fun _ => R) ((own_below OW.out D4).alloc _)
               (.inr ⟨_, 0, rfl, fun i hi j v hj => by rw [show i = 0 by omega, World.cell?_alloc_at _ _ _ _ rfl]; simpa using hj, fun _ _ => RW.out, by simp⟩) (by omega) (by simp; have := BE.out.size; have := D4.size; omega) (fun i hi => by rw [show k + i = k by omega]; exact HR.out.symm)
             have RR : Hid (yrdRel 30 w1 c f v5 (.int .i64 ((k : Int) * 128 + 128)) W5) := ⟨k + 1, by omega, by congr 1; omega, hO5, BE.out.trans (((D4.alloc D4.size _).mono BE.out.size).trans hB5)⟩
             clear D4 K3 G4 hO5 hB5)
          | (refine wpList_load_rec rfl 30 (.tmp 7) rfl w3.heap.size 0 R.cells rfl _ Try.underlying30 rfl (by kernel_rfl) R4 ?_)
          | (refine wpList_step_go rfl (bs1Transfer_run (.tmp 30) rfl R rfl) ?_)
          | (at_builtin; refine wpList_append_go rfl _ _ 40 40 rfl _ _ rfl rfl hr5 ?_))
        go_roundw
        case rel => exact RR.out
        case measure => simp [intOf]; omega
      · have i0 : ¬ (k : Int) * 128 < (c : Int) * 128 := by omega
        obtain rfl : k = c := by omega
        obtain ⟨a', cap, rfl, hA⟩ := rarg_of_own hown (fun i hi => arecOf_wf _ (fun j hj => by
          rcases HA.out with ⟨h, _⟩ | ⟨_, b, off, rfl, L⟩
          · omega
          · exact L.2.1 _ (by omega)))
        go_wp2_with fail
        exact bodyPost_ret (v := .tuple #[.slice a' k cap, .int .i64 0]) (by simp [results, Try.results23]) rfl ⟨a', ⟨cap, rfl⟩, hA, BE.out⟩
  · have e2 : rcnt n = 0 := by
      unfold rcnt
      unfold rcode at hz
      split
      · rfl
      · rename_i q
        rw [if_neg q] at hz
        split
        · rfl
        · rename_i q'
          rw [if_neg q'] at hz
          exact absurd rfl hz
    unfold RcPost
    rw [e2]
    obtain ⟨c, hc⟩ : ∃ c, rcode n = c := ⟨_, rfl⟩
    have HZ : Hid (rcode n = c) := hc
    have hz' : ¬ c = 0 := by rw [← hc]; exact hz
    rw [hc]
    clear hc hz e2 h
    go_enter Try.func23, Try.ntmps23
    go_wp2_with (go_at_call 40; refine (wrong_any a n C _ hn).mono ?_; rintro e w1 ⟨rfl, rfl⟩; rw [HZ.out])
    exact bodyPost_ret (v := .tuple #[.slice none 0 0, .int .i64 c]) (by simp [results, Try.results23]) rfl ⟨none, 0, rfl, .inl rfl, Below.refl _ _⟩
theorem pReadTransfers_any (g n C : Nat) (f : Nat → Int) (w : World) (h : Lies w g 0 n f) (hC : n ≤ C) (hn : n ≤ 1000000) :
    Calls Try.prog 22 #[.slice (some ⟨g, 0, none⟩) n C] w (RcPost w n f) := by
  unfold RcPost rcode rcnt
  by_cases h1 : n % 128 ≠ 0
  · rw [if_pos h1, if_pos h1]
    refine (readTransfers_bytes _ n C w h1).mono ?_
    rintro e w' ⟨rfl, hB⟩
    exact ⟨none, 0, rfl, .inl rfl, hB⟩
  · rw [if_neg h1, if_neg h1]
    by_cases h2 : 1024 < n
    · rw [if_pos h2, if_pos h2]
      refine (readTransfers_long _ n C w (by omega) (by omega) hn).mono ?_
      rintro e w' ⟨rfl, hB⟩
      exact ⟨none, 0, rfl, .inl rfl, hB⟩
    · rw [if_neg h2, if_neg h2]
      obtain ⟨c, rfl⟩ : ∃ c, n = c * 128 := ⟨n / 128, by omega⟩
      rw [show c * 128 / 128 = c by omega]
      exact ReadTransfers_lies g 0 c C f _ w h (by omega) hC (fun _ _ => rfl) (fun i hi => arecOf_wf _ (fun j hj => h.2.1 _ (by omega)))
end Go.Proofs.Ytlcnhmlcmedonaa
