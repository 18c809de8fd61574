/-
  Walks, not a claim by itself: the reference's Acquire, Take, Release, Settle, Is, Counts. By the verifier.
-/
import Derived.Test.YtkncnpjhfcfmnaaDoorFRef
namespace Go.Proofs.YtkncnpjhfcfmnaaDoor
open Go.RowKit
theorem nts_set (h : Nat → Nat) (i v : Nat) (hv : v ≤ 2) : upd (nts h) i (v : Int) = nts (setH h i v) := by
  funext j
  unfold upd nts setH
  by_cases e : j = i
  · rw [if_pos e, if_pos e, putS_same v hv]
  · rw [if_neg e, if_neg e]
theorem RAt.put {X : World} {r B n : Nat} {h g : Nat → Nat} (a : RAt X r B n h) (i : Nat) (v : Int) (e : upd (nts h) i v = nts g) : RAt (X.setCell ⟨B, i, none⟩ (.int .i64 v)) r B n g := by
  have hb : But B X (X.setCell ⟨B, i, none⟩ (.int .i64 v)) := But.set _ _ _
  exact ⟨(hb.cell (p := ⟨r, 0, none⟩) a.l a.ne).trans a.c, by rw [← e]; exact a.w.set i v, Nat.lt_of_lt_of_le a.l hb.size, a.ne⟩
theorem low_first {n : Nat} {h : Nat → Nat} (k : SOk n h) (i : Nat) (hi : i < n) (h0 : h i = 0) (hb : ∀ j, j < i → h j ≠ 0) : low (fr h) = some i :=
  low_some (fr h) i (by simp [fr, h0]) 512 0 (Nat.zero_le _) (by have := k.n2; omega) fun j _ hj => by simp [fr, hb j hj]
theorem low_full {n : Nat} {h : Nat → Nat} (k : SOk n h) (hb : ∀ j, j < n → h j ≠ 0) : low (fr h) = none :=
  low_none (fr h) 512 0 fun j _ _ => by
    by_cases e : j < n
    · simp [fr, hb j e]
    · simp [fr, k.out j (by omega)]
set_option maxRecDepth 100000 in
theorem racquire_ok (W : World) (r B n : Nat) (h : Nat → Nat) (a : RAt W r B n h) (k : SOk n h) : Calls Tryd.prog 33 #[.pointer (some ⟨r, 0, none⟩)] W fun e w' => e = .returned (acqV (low (fr h))) ∧ RAt w' r B n (acqH h (low (fr h))) ∧ But B W w' := by
  have A := hidIt a
  have K := hidIt k
  have c0 := a.c
  clear a k
  go_enter Tryd.func33, Tryd.ntmps33
  go_wp2
  go_loopw [4] (fun i wr => wr = W ∧ ∃ j : Nat, j ≤ n ∧ i = .int .i64 (j : Int) ∧ ∀ q, q < j → h q ≠ 0) (fun i _ => n - (RowKit.intOf i).toNat)
  case atStart => exact ⟨rfl, 0, Nat.zero_le _, rfl, fun q hq => by omega⟩
  case round =>
    obtain ⟨rfl, j, hj, rfl, hz⟩ := hrel
    have Z := hidIt hz
    clear hz
    by_cases hlt : j < n
    · have k8 : Hid (j + 1 ≤ n) := hlt
      have i0 : (j : Int) < (n : Int) := by omega
      have i1 : (0 : Int) ≤ (j : Int) := by omega
      have n5 := K.out.n2
      have i2 : IntKind.i64.wrap ((j : Int) + 1) = (j : Int) + 1 := by rw [IntKind.wrap_i64]; omega
      have i3 : wrap64 ((j : Int) + 1) = (j : Int) + 1 := by unfold wrap64; omega
      have cB : wr.cell? ⟨B, j, none⟩ = some (.int .i64 ((h j : Nat) : Int)) := A.out.w.1 j hlt
      have fB : wr.frozen? ⟨B, j, none⟩ = false := A.out.w.2.1 j
      clear n5
      by_cases h0 : h j = 0
      · have L := hidIt (low_first K.out j hlt h0 Z.out)
        have RR := hidIt (A.out.put j 1 (nts_set h j 1 (by decide)))
        rw [h0] at cB
        clear h0
        go_wp2
        go_ret2
        rw [L.out]
        exact ⟨rfl, RR.out, But.set _ _ _⟩
      · have e0 : (((h j : Nat) : Int) == 0) = false := by simpa using h0
        have ZZ : Hid (∀ q, q < j + 1 → h q ≠ 0) := fun q hq => by
          by_cases e : q < j
          · exact Z.out q e
          · obtain rfl : q = j := by omega
            exact h0
        clear h0
        generalize ((h j : Nat) : Int) = y at *
        go_wp2
        exact ⟨⟨trivial, j + 1, k8.out, by simp, ZZ.out⟩, meas_m n j k8.out⟩
    · obtain rfl : j = n := by omega
      have i0 : ¬ (j : Int) < (j : Int) := by omega
      have L := hidIt (low_full K.out Z.out)
      go_wp2
      go_ret2
      rw [L.out]
      exact ⟨rfl, A.out, But.refl _ _⟩
set_option maxRecDepth 100000 in
theorem rchange_ok (W : World) (r B n : Nat) (h : Nat → Nat) (x : Int) (p c : Nat) (hc : c ≤ 2) (hn : n ≤ 512) (a : RAt W r B n h) : Calls Tryd.prog 52 #[.pointer (some ⟨r, 0, none⟩), .int .i64 x, .int .i64 (p : Int), .int .i64 (c : Int)] W fun e w' => e = .returned (.int .i64 (turnE n h x p)) ∧ RAt w' r B n (turnH n h x p c) ∧ But B W w' := by
  have A := hidIt a
  have c0 := a.c
  unfold turnE turnH
  by_cases h1 : x < 1
  · have hI : hasI n x = false := by rw [← Bool.not_eq_true, hasI_iff]; omega
    simp only [hI]
    clear a
    go_enter Tryd.func52, Tryd.ntmps52
    go_wp2
    go_ret
    exact ⟨by simp, by simpa using A.out, But.refl _ _⟩
  · have e1 : (x < 1) = False := by simp; omega
    by_cases h2 : (n : Int) < x
    · have hI : hasI n x = false := by rw [← Bool.not_eq_true, hasI_iff]; omega
      simp only [hI]
      clear a h1
      go_enter Tryd.func52, Tryd.ntmps52
      go_wp2
      go_ret
      exact ⟨by simp, by simpa using A.out, But.refl _ _⟩
    · have e2 : ((n : Int) < x) = False := by simp; omega
      obtain ⟨i, rfl⟩ : ∃ i : Nat, x = (i : Int) + 1 := ⟨x.toNat - 1, by omega⟩
      have hi : i < n := by omega
      have hI : hasI n ((i : Int) + 1) = true := by rw [hasI_iff]; omega
      simp only [hI, if_true]
      rw [show ((i : Int) + 1).toNat - 1 = i by omega]
      have cB : W.cell? ⟨B, i, none⟩ = some (.int .i64 ((h i : Nat) : Int)) := a.w.1 i hi
      have fB : W.frozen? ⟨B, i, none⟩ = false := a.w.2.1 i
      have e3 : IntKind.i64.wrap ((i : Int) + 1 - 1) = (i : Int) := by rw [IntKind.wrap_i64]; omega
      have e4 : wrap64 ((i : Int) + 1 - 1) = (i : Int) := by unfold wrap64; omega
      have e5 : (i : Int) < (n : Int) := by omega
      have e6 : (0 : Int) ≤ (i : Int) := by omega
      by_cases hp : h i = p
      · have e7 : (((h i : Nat) : Int) != (p : Int)) = false := by simp [hp]
        rw [if_pos hp, if_pos hp]
        have RR := hidIt (A.out.put i (c : Int) (nts_set h i c hc))
        clear a h1 h2 hp
        generalize ((h i : Nat) : Int) = y at *
        go_enter Tryd.func52, Tryd.ntmps52
        go_wp2
        go_ret
        exact ⟨rfl, RR.out, But.set _ _ _⟩
      · have e7 : (((h i : Nat) : Int) != (p : Int)) = true := by simpa using (fun q => hp (by omega))
        rw [if_neg hp, if_neg hp]
        clear a h1 h2 hp
        generalize ((h i : Nat) : Int) = y at *
        go_enter Tryd.func52, Tryd.ntmps52
        go_wp2
        go_ret
        exact ⟨rfl, A.out, But.refl _ _⟩
theorem rtake_ok (W : World) (r B n : Nat) (h : Nat → Nat) (x : Int) (hn : n ≤ 512) (a : RAt W r B n h) : Calls Tryd.prog 34 #[.pointer (some ⟨r, 0, none⟩), .int .i64 x] W fun e w' => e = .returned (.int .i64 (turnE n h x 0)) ∧ RAt w' r B n (turnH n h x 0 1) ∧ But B W w' := by
  have T := hidIt (rchange_ok W r B n h x 0 1 (by decide) hn a)
  clear a hn
  go_enter Tryd.func34, Tryd.ntmps34
  go_wp2_with (go_at_call 52; refine T.out.mono ?_; rintro e w' ⟨rfl, q⟩; have Q := hidIt q; clear q)
  go_ret
  exact ⟨rfl, Q.out⟩
theorem rrelease_ok (W : World) (r B n : Nat) (h : Nat → Nat) (x : Int) (hn : n ≤ 512) (a : RAt W r B n h) : Calls Tryd.prog 35 #[.pointer (some ⟨r, 0, none⟩), .int .i64 x] W fun e w' => e = .returned (.int .i64 (turnE n h x 1)) ∧ RAt w' r B n (turnH n h x 1 2) ∧ But B W w' := by
  have T := hidIt (rchange_ok W r B n h x 1 2 (by decide) hn a)
  clear a hn
  go_enter Tryd.func35, Tryd.ntmps35
  go_wp2_with (go_at_call 52; refine T.out.mono ?_; rintro e w' ⟨rfl, q⟩; have Q := hidIt q; clear q)
  go_ret
  exact ⟨rfl, Q.out⟩
set_option maxRecDepth 100000 in
theorem ris_ok (W : World) (r B n : Nat) (h : Nat → Nat) (x : Int) (hn : n ≤ 512) (a : RAt W r B n h) : Calls Tryd.prog 37 #[.pointer (some ⟨r, 0, none⟩), .int .i64 x] W fun e w' => e = .returned (.int .i64 (isI n h x)) ∧ w' = W := by
  have c0 := a.c
  unfold isI
  by_cases h1 : x < 1
  · rw [if_neg (by rw [hasI_iff]; omega)]
    clear a
    go_enter Tryd.func37, Tryd.ntmps37
    go_wp2
    go_ret
    exact ⟨rfl, rfl⟩
  · have e1 : (x < 1) = False := by simp; omega
    by_cases h2 : (n : Int) < x
    · rw [if_neg (by rw [hasI_iff]; omega)]
      clear a h1
      go_enter Tryd.func37, Tryd.ntmps37
      go_wp2
      go_ret
      exact ⟨rfl, rfl⟩
    · have e2 : ((n : Int) < x) = False := by simp; omega
      obtain ⟨i, rfl⟩ : ∃ i : Nat, x = (i : Int) + 1 := ⟨x.toNat - 1, by omega⟩
      have hi : i < n := by omega
      rw [if_pos (by rw [hasI_iff]; omega), show ((i : Int) + 1).toNat - 1 = i by omega]
      have cB : W.cell? ⟨B, i, none⟩ = some (.int .i64 ((h i : Nat) : Int)) := a.w.1 i hi
      have e4 : wrap64 ((i : Int) + 1 - 1) = (i : Int) := by unfold wrap64; omega
      have e5 : (i : Int) < (n : Int) := by omega
      have e6 : (0 : Int) ≤ (i : Int) := by omega
      clear a h1 h2
      go_enter Tryd.func37, Tryd.ntmps37
      go_wp2
      go_ret
      exact ⟨rfl, rfl⟩
theorem nts_settle (h : Nat → Nat) (k : Nat) (h2 : h k = 2) : upd (nts (mixH h k)) k 0 = nts (mixH h (k + 1)) := by
  funext j
  have s2 : setl h k = 0 := by unfold setl; rw [if_pos h2]
  unfold upd nts mixH
  by_cases e : j = k
  · subst e; rw [if_pos rfl, if_pos (by omega), s2]; rfl
  · rw [if_neg e]
    by_cases e2 : j < k
    · rw [if_pos e2, if_pos (by omega)]
    · rw [if_neg e2, if_neg (by omega)]
theorem mix_same (h : Nat → Nat) (k : Nat) (h2 : h k ≠ 2) : mixH h k = mixH h (k + 1) := by
  funext j
  have s2 : setl h k = h k := by unfold setl; rw [if_neg h2]
  unfold mixH
  by_cases e : j = k
  · subst e; rw [if_neg (by omega), if_pos (by omega), s2]
  · by_cases e2 : j < k
    · rw [if_pos e2, if_pos (by omega)]
    · rw [if_neg e2, if_neg (by omega)]
theorem RAt.congr {X : World} {r B n : Nat} {h g : Nat → Nat} (a : RAt X r B n h) (e : ∀ i, i < n → h i = g i) : RAt X r B n g :=
  ⟨a.c, a.w.congr (fun j hj => by unfold nts; rw [e j hj]), a.l, a.ne⟩
set_option maxRecDepth 100000 in
theorem rsettle_ok (W : World) (r B n : Nat) (h : Nat → Nat) (a : RAt W r B n h) (hn : n ≤ 512) : Calls Tryd.prog 36 #[.pointer (some ⟨r, 0, none⟩)] W fun e w' => e = .returned (.int .i64 ((cnt h 2 n : Nat) : Int)) ∧ RAt w' r B n (setl h) ∧ But B W w' := by
  have A := hidIt a
  have N5 := hidIt hn
  clear a hn
  go_enter Tryd.func36, Tryd.ntmps36
  go_wp2
  go_loopw [3, 4] (fun m i wr => ∃ j : Nat, j ≤ n ∧ i = .int .i64 (j : Int) ∧ m = .int .i64 ((cnt h 2 j : Nat) : Int) ∧ RAt wr r B n (mixH h j) ∧ But B W wr) (fun _ i _ => n - (RowKit.intOf i).toNat)
  case atStart => exact ⟨0, Nat.zero_le _, rfl, rfl, by rw [mixH_zero]; exact A.out, But.refl _ _⟩
  case round =>
    obtain ⟨j, hj, rfl, rfl, hM⟩ := hrel
    have M := hidIt hM
    have c0 := hM.1.c
    clear hM
    by_cases hlt : j < n
    · have k8 : Hid (j + 1 ≤ n) := hlt
      have i0 : (j : Int) < (n : Int) := by omega
      have i1 : (0 : Int) ≤ (j : Int) := by omega
      have cl := cnt_le h 2 j
      have n5 := N5.out
      have i2 : IntKind.i64.wrap (((cnt h 2 j : Nat) : Int) + 1) = ((cnt h 2 j : Nat) : Int) + 1 := by rw [IntKind.wrap_i64]; omega
      have i3 : wrap64 (((cnt h 2 j : Nat) : Int) + 1) = ((cnt h 2 j : Nat) : Int) + 1 := by unfold wrap64; omega
      have i4 : IntKind.i64.wrap ((j : Int) + 1) = (j : Int) + 1 := by rw [IntKind.wrap_i64]; omega
      have i5 : wrap64 ((j : Int) + 1) = (j : Int) + 1 := by unfold wrap64; omega
      have mj : mixH h j j = h j := by unfold mixH; rw [if_neg (by omega)]
      have cB : wr.cell? ⟨B, j, none⟩ = some (.int .i64 ((h j : Nat) : Int)) := by
        have := M.out.1.w.1 j hlt
        unfold nts at this
        rw [mj] at this
        exact this
      have fB : wr.frozen? ⟨B, j, none⟩ = false := M.out.1.w.2.1 j
      clear cl n5 mj
      by_cases h2 : h j = 2
      · have RR := hidIt (M.out.1.put j 0 (nts_settle h j h2))
        have CC : Hid (((cnt h 2 (j + 1) : Nat) : Int) = ((cnt h 2 j : Nat) : Int) + 1) := by show ((cnt h 2 (j + 1) : Nat) : Int) = _; simp [cnt, h2]
        rw [h2] at cB
        clear h2
        go_wp2
        exact ⟨⟨j + 1, k8.out, by simp, by rw [CC.out], RR.out, M.out.2.trans (But.set _ _ _)⟩, meas_m n j k8.out⟩
      · have e2 : (((h j : Nat) : Int) == 2) = false := by simpa using (fun q => h2 (by omega))
        have RR := hidIt (show RAt wr r B n (mixH h (j + 1)) by rw [← mix_same h j h2]; exact M.out.1)
        have CC : Hid (cnt h 2 (j + 1) = cnt h 2 j) := by show cnt h 2 (j + 1) = _; simp [cnt, h2]
        clear h2
        generalize ((h j : Nat) : Int) = y at *
        go_wp2
        exact ⟨⟨j + 1, k8.out, by simp, by rw [CC.out], RR.out, M.out.2⟩, meas_m n j k8.out⟩
    · obtain rfl : j = n := by omega
      have i0 : ¬ (j : Int) < (j : Int) := by omega
      have RR := hidIt (M.out.1.congr (g := setl h) (fun i hi => by unfold mixH; rw [if_pos hi]))
      go_wp2
      go_ret
      exact ⟨rfl, RR.out, M.out.2⟩
/-- Three counters. -/
def c3 (h : Nat → Nat) (k j : Nat) : Int := ((cnt h j k : Nat) : Int)
theorem c3_step (h : Nat → Nat) (k : Nat) : upd (c3 h k) (h k) (((cnt h (h k) k : Nat) : Int) + 1) = c3 h (k + 1) := by
  funext j
  unfold upd c3
  by_cases e : j = h k
  · subst e; rw [if_pos rfl]; simp [cnt]
  · have e' : ¬ h k = j := fun q => e q.symm
    rw [if_neg e]; simp [cnt, e']
set_option maxRecDepth 100000 in
theorem rcounts_ok (W : World) (r B n : Nat) (h : Nat → Nat) (a : RAt W r B n h) (k : SOk n h) : Calls Tryd.prog 38 #[.pointer (some ⟨r, 0, none⟩)] W fun e w' => e = .returned (.tuple #[.int .i64 ((cnt h 0 n : Nat) : Int), .int .i64 ((cnt h 1 n : Nat) : Int), .int .i64 ((cnt h 2 n : Nat) : Int)]) ∧ Below W.heap.size W w' := by
  have A := hidIt a
  have K := hidIt k
  have rl := a.l
  have Bl := a.w.2.2
  clear a k
  go_enter Tryd.func38, Tryd.ntmps38
  go_wp2_with (refine wpList_alloc_row rfl 82 rfl .i64 3 W.heap.size rfl (by kernel_rfl) ?_; intro W1 R1 B1 z1; have I0 : Hid (RAt W1 r B n h ∧ IRow W1 W.heap.size .i64 3 (c3 h 0) ∧ Below W.heap.size W W1) := ⟨A.out.below B1, R1.congr (fun j _ => rfl), B1⟩; clear R1 B1 z1)
  go_loopw [6] (fun i wr => ∃ j : Nat, j ≤ n ∧ i = .int .i64 (j : Int) ∧ Hid (RAt wr r B n h ∧ IRow wr W.heap.size .i64 3 (c3 h j) ∧ Below W.heap.size W wr)) (fun i _ => n - (RowKit.intOf i).toNat)
  case atStart => exact ⟨0, Nat.zero_le _, rfl, I0⟩
  case round =>
    obtain ⟨j, hj, rfl, M⟩ := hrel
    have c0 := M.out.1.c
    clear I0
    by_cases hlt : j < n
    · have k8 : Hid (j + 1 ≤ n) := hlt
      have i0 : (j : Int) < (n : Int) := by omega
      have i1 : (0 : Int) ≤ (j : Int) := by omega
      have n5 := K.out.n2
      have i4 : IntKind.i64.wrap ((j : Int) + 1) = (j : Int) + 1 := by rw [IntKind.wrap_i64]; omega
      have i5 : wrap64 ((j : Int) + 1) = (j : Int) + 1 := by unfold wrap64; omega
      have hle := K.out.le j
      have cl := cnt_le h (h j) j
      have i2 : IntKind.i64.wrap (((cnt h (h j) j : Nat) : Int) + 1) = ((cnt h (h j) j : Nat) : Int) + 1 := by rw [IntKind.wrap_i64]; omega
      have i3 : wrap64 (((cnt h (h j) j : Nat) : Int) + 1) = ((cnt h (h j) j : Nat) : Int) + 1 := by unfold wrap64; omega
      have cB : wr.cell? ⟨B, j, none⟩ = some (.int .i64 ((h j : Nat) : Int)) := M.out.1.w.1 j hlt
      have cC : wr.cell? ⟨W.heap.size, h j, none⟩ = some (.int .i64 ((cnt h (h j) j : Nat) : Int)) := M.out.2.1.1 (h j) (by omega)
      have fC : wr.frozen? ⟨W.heap.size, h j, none⟩ = false := M.out.2.1.2.1 (h j)
      have RR := hidIt (M.out.2.1.set (h j) (((cnt h (h j) j : Nat) : Int) + 1))
      rw [c3_step] at RR
      have bb : But W.heap.size wr (wr.setCell ⟨W.heap.size, h j, none⟩ (.int .i64 (((cnt h (h j) j : Nat) : Int) + 1))) := But.set _ _ _
      have AA := hidIt (And.intro (M.out.1.but bb (by omega) (by omega)) (M.out.2.2.trans (bb.below (Nat.le_refl _) M.out.2.2.size)))
      have i6 : ((h j : Nat) : Int) < 3 := by omega
      have i7 : (0 : Int) ≤ ((h j : Nat) : Int) := by omega
      clear bb n5 hle cl
      go_wp2
      exact ⟨⟨j + 1, k8.out, by simp, AA.out.1, RR.out, AA.out.2⟩, meas_m n j k8.out⟩
    · obtain rfl : j = n := by omega
      have i0 : ¬ (j : Int) < (j : Int) := by omega
      have d0 : wr.drew.cell? ⟨W.heap.size, 0, none⟩ = some (.int .i64 ((cnt h 0 j : Nat) : Int)) := M.out.2.1.1 0 (by decide)
      have d1 : wr.drew.cell? ⟨W.heap.size, 1, none⟩ = some (.int .i64 ((cnt h 1 j : Nat) : Int)) := M.out.2.1.1 1 (by decide)
      have d2 : wr.drew.cell? ⟨W.heap.size, 2, none⟩ = some (.int .i64 ((cnt h 2 j : Nat) : Int)) := M.out.2.1.1 2 (by decide)
      have E := hidIt M.out.2.2
      clear M
      go_wp2
      go_region
      all_goals go_wp2
      all_goals exact bodyPost_ret (v := .tuple #[.int .i64 ((cnt h 0 j : Nat) : Int), .int .i64 ((cnt h 1 j : Nat) : Int), .int .i64 ((cnt h 2 j : Nat) : Int)]) (by simp [results, Tryd.results38, go_sem]) rfl ⟨rfl, E.out.drew⟩
end Go.Proofs.YtkncnpjhfcfmnaaDoor
