/-
  Walks, not a claim by itself: the reference's Read, where the number may be. By the verifier.
-/
import Derived.Test.YtkncnpjhfcfmnaaDoorFRrd2
namespace Go.Proofs.YtkncnpjhfcfmnaaDoor
open Go.RowKit Go.Shelf
attribute [local go_sem] Oper.semAt_some
set_option maxRecDepth 100000 in
set_option maxHeartbeats 800000 in
theorem rread_loop (W : World) (bb off L C : Nat) (f : Nat → Int) (l : Lies W bb off L f) (hL : 2 ≤ L) (n1 : 1 ≤ rdC f) (n2 : rdC f ≤ 512) (hsz : L = szN (rdC f)) : Calls Tryd.prog 16 #[.slice (some ⟨bb, off, none⟩) L C] W (RrPost W L f) := by
  refine (callsIn_wide (n := 3)).1 ?_
  have hb := l.2.2
  have y0 := l.2.1 0 (by omega)
  have y1 := l.2.1 1 (by omega)
  have i0 : ¬ (L : Int) < 2 := by omega
  have i1 : (1 : Int) < (L : Int) := by omega
  have i2 : (0 : Int) < (L : Int) := by omega
  have i3 : 0 < L := by omega
  obtain ⟨w0, w1, w2, w3, w4⟩ := rd_facts f y0 y1
  have SS : Hid (∀ X, Below W.heap.size W X → X.cell? ⟨bb, off, none⟩ = some (.int .u8 (f 0)) ∧ X.cell? ⟨bb, off + 1, none⟩ = some (.int .u8 (f 1))) := fun X hX => ⟨(hX.cell (p := ⟨bb, off, none⟩) hb).trans (l.1 0 (by omega)), (hX.cell (p := ⟨bb, off + 1, none⟩) hb).trans (l.1 1 (by omega))⟩
  have NW := hidIt fun (u : World) => rnew_ok u (rdC f) n1 n2
  obtain ⟨Q, v1, v2, v3, v4, v5, v6⟩ := sz_facts (rdC f) w4
  have i9 : ((L : Int) != ((szN (rdC f) : Nat) : Int)) = false := by rw [hsz]; simp
  have LL := hidIt l
  have HSZ := hidIt hsz
  clear l hsz
  refine callsIn_of_wp Tryd.func16 rfl trivial ?_ rfl
  simp only [Tryd.ntmps16, List.size_toArray, List.length_cons, List.length_nil, Nat.reduceAdd, Nat.reduceSub, Array.replicate_succ, Array.replicate_zero, List.push_toArray, List.append_toArray, List.nil_append, List.cons_append]
  gi_wp2
  refine region_wd (S := fun X => X.cell? ⟨bb, off, none⟩ = some (.int .u8 (f 0)) ∧ X.cell? ⟨bb, off + 1, none⟩ = some (.int .u8 (f 1))) (by kernel_rfl) (by kernel_rfl) (SS.out _ (Below.refl _ _).drew) (fun hHeld => ?_)
  refine take_at (i := 0) (v := ?_) (some 11) rfl rfl (by kernel_rfl) (by kernel_rfl) (by kernel_rfl) (fun _ _ _ h => by cases h.1) (Or.inl ⟨by rfl, ?_⟩) (by assumption) ?_
  rotate_left
  · (intro w hSw; (try dsimp only at hSw); (try obtain ⟨_q1, _q2⟩ := hSw); go_simp; try with_reducible rfl)
  simp only [Act.put, List.setIfInBounds_toArray, List.set_cons_zero, List.set_cons_succ]
  refine take_at (i := 1) (v := ?_) (some 12) rfl rfl (by kernel_rfl) (by kernel_rfl) (by kernel_rfl) (fun _ _ _ h => by cases h.1) (Or.inl ⟨by rfl, ?_⟩) (by assumption) ?_
  rotate_left
  · (intro w hSw; (try dsimp only at hSw); (try obtain ⟨_q1, _q2⟩ := hSw); go_simp; try with_reducible rfl)
  simp only [Act.put, List.setIfInBounds_toArray, List.set_cons_zero, List.set_cons_succ]
  refine take_at (i := 2) (v := ?_) (some 13) rfl rfl (by kernel_rfl) (by kernel_rfl) (by kernel_rfl) (fun _ _ _ h => by cases h.1) (Or.inl ⟨by rfl, ?_⟩) (by assumption) ?_
  rotate_left
  · (intro w hSw; (try dsimp only at hSw); (try obtain ⟨_q1, _q2⟩ := hSw); go_simp; try with_reducible rfl)
  simp only [Act.put, List.setIfInBounds_toArray, List.set_cons_zero, List.set_cons_succ]
  refine take_at (i := 3) (v := ?_) (some 14) rfl rfl (by kernel_rfl) (by kernel_rfl) (by kernel_rfl) (fun _ _ _ h => by cases h.1) (Or.inl ⟨by rfl, ?_⟩) (by assumption) ?_
  rotate_left
  · (intro w hSw; (try dsimp only at hSw); (try obtain ⟨_q1, _q2⟩ := hSw); go_simp; try with_reducible rfl)
  simp only [Act.put, List.setIfInBounds_toArray, List.set_cons_zero, List.set_cons_succ]
  refine take_at (i := 4) (v := ?_) (some 15) rfl rfl (by kernel_rfl) (by kernel_rfl) (by kernel_rfl) (fun _ _ _ h => by cases h.1) (Or.inl ⟨by rfl, ?_⟩) (by assumption) ?_
  rotate_left
  · (intro w hSw; (try dsimp only at hSw); (try obtain ⟨_q1, _q2⟩ := hSw); go_simp; try with_reducible rfl)
  simp only [Act.put, List.setIfInBounds_toArray, List.set_cons_zero, List.set_cons_succ]
  refine take_at (i := 5) (v := ?_) (some 16) rfl rfl (by kernel_rfl) (by kernel_rfl) (by kernel_rfl) (fun _ _ _ h => by cases h.1) (Or.inl ⟨by rfl, ?_⟩) (by assumption) ?_
  rotate_left
  · (intro w hSw; (try dsimp only at hSw); (try obtain ⟨_q1, _q2⟩ := hSw); go_simp; try with_reducible rfl)
  simp only [Act.put, List.setIfInBounds_toArray, List.set_cons_zero, List.set_cons_succ]
  refine take_at (i := 6) (v := ?_) (some 17) rfl rfl (by kernel_rfl) (by kernel_rfl) (by kernel_rfl) (fun _ _ _ h => by cases h.1) (Or.inl ⟨by rfl, ?_⟩) (by assumption) ?_
  rotate_left
  · (intro w hSw; (try dsimp only at hSw); (try obtain ⟨_q1, _q2⟩ := hSw); go_simp; try with_reducible rfl)
  simp only [Act.put, List.setIfInBounds_toArray, List.set_cons_zero, List.set_cons_succ]
  refine take_at (i := 7) (v := ?_) (some 18) rfl rfl (by kernel_rfl) (by kernel_rfl) (by kernel_rfl) (fun _ _ _ h => by cases h.1) (Or.inl ⟨by rfl, ?_⟩) (by assumption) ?_
  rotate_left
  · (intro w hSw; (try dsimp only at hSw); (try obtain ⟨_q1, _q2⟩ := hSw); go_simp; try with_reducible rfl)
  simp only [Act.put, List.setIfInBounds_toArray, List.set_cons_zero, List.set_cons_succ]
  refine take_at (i := 8) (v := ?_) (some 19) rfl rfl (by kernel_rfl) (by kernel_rfl) (by kernel_rfl) (fun _ _ _ h => by cases h.1) (Or.inl ⟨by rfl, ?_⟩) (by assumption) ?_
  rotate_left
  · (intro w hSw; (try dsimp only at hSw); (try obtain ⟨_q1, _q2⟩ := hSw); go_simp; try with_reducible rfl)
  simp only [Act.put, List.setIfInBounds_toArray, List.set_cons_zero, List.set_cons_succ]
  refine take_at (i := 9) (v := ?_) (some 20) rfl rfl (by kernel_rfl) (by kernel_rfl) (by kernel_rfl) (fun _ _ _ h => by cases h.1) (Or.inl ⟨by rfl, ?_⟩) (by assumption) ?_
  rotate_left
  · (intro w hSw; (try dsimp only at hSw); (try obtain ⟨_q1, _q2⟩ := hSw); go_simp; try with_reducible rfl)
  simp only [Act.put, List.setIfInBounds_toArray, List.set_cons_zero, List.set_cons_succ]
  refine take_at (i := 10) (v := ?_) (some 4) rfl rfl (by kernel_rfl) (by kernel_rfl) (by kernel_rfl) (fun _ _ _ h => by cases h.1) (Or.inl ⟨by rfl, ?_⟩) (by assumption) ?_
  rotate_left
  · (intro w hSw; (try dsimp only at hSw); (try obtain ⟨_q1, _q2⟩ := hSw); go_simp; try with_reducible rfl)
  simp only [Act.put, List.setIfInBounds_toArray, List.set_cons_zero, List.set_cons_succ]
  refine wpAnyH_done (by kernel_rfl) ?_ _
  refine ⟨rfl, ?_⟩
  clear hHeld SS w3
  gi_wp2
  refine ⟨trivial, ?_⟩
  refine CallsIn.mono ((callsIn_wide (n := _)).2 (NW.out W.drew)) ?_
  rintro e W2 ⟨rfl, s2, b2⟩
  have z0 : nts (rkH f 0) = nts (fun _ => 0) := by funext i; simp [nts, rkH]
  have I0 : RrI W (W.drew.heap.size + 1) W.drew.heap.size f 0 W2 := ⟨⟨s2.c, by rw [z0]; exact s2.w, s2.l, s2.ne⟩, (Below.refl _ _).drew.trans b2, fun i hi => by omega⟩
  clear z0
  have F0 : Hid (W.heap.size ≤ W.drew.heap.size + 1 ∧ W.heap.size ≤ W.drew.heap.size) := ⟨Nat.le_succ _, Nat.le_refl _⟩
  clear s2 b2 NW
  generalize W.drew.heap.size + 1 = r at *
  generalize W.drew.heap.size = B at *
  have HN := hidIt (And.intro n1 (And.intro n2 (And.intro hL (And.intro w4 hb))))
  clear w0 w1 w2 w4 y0 y1 i1 i2 i3 n1 n2 hL hb
  generalize ((szN (rdC f) : Nat) : Int) = Z at *
  gi_wp2
  clear v1 v2 v3 v4 v5 v6 i9 i0
  obtain ⟨n1, n2, hL, w4, hb⟩ := HN.out
  gi_loopw [7] (fun i wr => ∃ k : Nat, k ≤ rdC f ∧ i = .int .i64 (k : Int) ∧ RrI W r B f k wr) (fun i _ => rdC f - (RowKit.intOf i).toNat)
  case atStart => exact ⟨0, Nat.zero_le _, rfl, I0⟩
  case round =>
    obtain ⟨k, hk, rfl, hI⟩ := hrel
    clear I0
    have I := hidIt hI
    clear hI
    by_cases hlt : k < rdC f
    · have k8 : Hid (k + 1 ≤ rdC f) := hlt
      have j0 : (k : Int) < ((rdC f : Nat) : Int) := by omega
      have j00 : (0 : Int) ≤ (k : Int) := by omega
      have hz2 : 2 + k / 4 < L := by rw [HSZ.out]; unfold szN; omega
      have lw := (LL.out.below I.out.w)
      have ly := lw.2.1 (2 + k / 4) hz2
      have cy : wr.drew.cell? ⟨bb, off + (2 + k / 4), none⟩ = some (.int .u8 (f (2 + k / 4))) := lw.1 (2 + k / 4) hz2
      have cr : wr.drew.cell? ⟨r, 0, none⟩ = some (.slice (some ⟨B, 0, none⟩) (rdC f) (rdC f)) := I.out.a.c
      have cB : wr.drew.cell? ⟨B, k, none⟩ = some (.int .i64 (nts (rkH f k) k)) := I.out.a.w.1 k hlt
      have fB : wr.drew.frozen? ⟨B, k, none⟩ = false := I.out.a.w.2.1 k
      clear lw
      have d1 : Int.tdiv (k : Int) 4 = (k : Int) / 4 := Int.tdiv_eq_ediv_of_nonneg (by omega)
      have d2 : Int.tmod (k : Int) 4 = (k : Int) % 4 := Int.tmod_eq_emod_of_nonneg (by omega)
      have j1 : (2 + (k : Int) / 4).toNat = 2 + k / 4 := by omega
      have j2 : (0 : Int) ≤ 2 + (k : Int) / 4 := by omega
      have j3 : 2 + (k : Int) / 4 < (L : Int) := by omega
      have j4 : (0 : Int) ≤ 2 * ((k : Int) % 4) := by omega
      have j5 : 2 * ((k : Int) % 4) ≤ 8 := by omega
      have j6 : (2 * ((k : Int) % 4)).toNat = 2 * (k % 4) := by omega
      have j7 : IntKind.i64.wrap (2 * ((k : Int) % 4)) = 2 * ((k : Int) % 4) := by rw [IntKind.wrap_i64]; omega
      have j8 : IntKind.i64.wrap (2 + (k : Int) / 4) = 2 + (k : Int) / 4 := by rw [IntKind.wrap_i64]; omega
      have j11 : IntKind.i64.wrap ((k : Int) / 4) = (k : Int) / 4 := by rw [IntKind.wrap_i64]; omega
      have sy := sd_val f k ly.1 ly.2
      have j9 := sy.1
      have j10 := sy.2
      have sl := sdN_lt f k
      have hst : (Instr.storeAt 3 (.pointer (some ⟨B, k, none⟩)) (.int .i64 ((sdN f k : Nat) : Int))).run Tryd.prog wr.drew = .ok () (wr.drew.setCell ⟨B, k, none⟩ (.int .i64 ((sdN f k : Nat) : Int))) := by simp [go_sem, cB, fB]
      have R3 := I.out.a.w.drew.set k ((sdN f k : Nat) : Int)
      rw [rkH_step] at R3
      have bb3 : But B wr (wr.drew.setCell ⟨B, k, none⟩ (.int .i64 ((sdN f k : Nat) : Int))) := (But.refl _ _).drew.trans (But.set _ _ _)
      have W3 : Hid (Below W.heap.size W (wr.drew.setCell ⟨B, k, none⟩ (.int .i64 ((sdN f k : Nat) : Int)))) := I.out.w.trans (bb3.below F0.out.2 I.out.w.size)
      have A3 : Hid (RAt (wr.drew.setCell ⟨B, k, none⟩ (.int .i64 ((sdN f k : Nat) : Int))) r B (rdC f) (rkH f (k + 1))) := ⟨(bb3.cell (p := ⟨r, 0, none⟩) I.out.a.l I.out.a.ne).trans I.out.a.c, R3, Nat.lt_of_lt_of_le I.out.a.l bb3.size, I.out.a.ne⟩
      have y3 : (wr.drew.setCell ⟨B, k, none⟩ (.int .i64 ((sdN f k : Nat) : Int))).cell? ⟨bb, off + (2 + k / 4), none⟩ = some (.int .u8 (f (2 + k / 4))) := (LL.out.below W3.out).1 (2 + k / 4) hz2
      clear R3 bb3 sy ly hz2
      generalize (wr.drew.setCell ⟨B, k, none⟩ (.int .i64 ((sdN f k : Nat) : Int))) = X3 at *
      gi_wp2
      refine region_wd (S := fun X => X.cell? ⟨r, 0, none⟩ = some (.slice (some ⟨B, 0, none⟩) (rdC f) (rdC f)) ∧ X.cell? ⟨bb, off + (2 + k / 4), none⟩ = some (.int .u8 (f (2 + k / 4)))) (by kernel_rfl) (by kernel_rfl) ⟨cr, cy⟩ (fun hHeld => ?_)
      refine take_at (i := 0) (v := ?_) (some 42) rfl rfl (by kernel_rfl) (by kernel_rfl) (by kernel_rfl) (fun _ _ _ h => by cases h.1) (Or.inl ⟨by rfl, ?_⟩) (by assumption) ?_
      rotate_left
      · (intro w hSw; (try dsimp only at hSw); (try obtain ⟨_q1, _q2⟩ := hSw); go_simp; try with_reducible rfl)
      simp only [Act.put, List.setIfInBounds_toArray, List.set_cons_zero, List.set_cons_succ]
      refine take_at (i := 1) (v := ?_) (some 43) rfl rfl (by kernel_rfl) (by kernel_rfl) (by kernel_rfl) (fun _ _ _ h => by cases h.1) (Or.inl ⟨by rfl, ?_⟩) (by assumption) ?_
      rotate_left
      · (intro w hSw; (try dsimp only at hSw); (try obtain ⟨_q1, _q2⟩ := hSw); go_simp; try with_reducible rfl)
      simp only [Act.put, List.setIfInBounds_toArray, List.set_cons_zero, List.set_cons_succ]
      refine take_at (i := 2) (v := ?_) (some 44) rfl rfl (by kernel_rfl) (by kernel_rfl) (by kernel_rfl) (fun _ _ _ h => by cases h.1) (Or.inl ⟨by rfl, ?_⟩) (by assumption) ?_
      rotate_left
      · (intro w hSw; (try dsimp only at hSw); (try obtain ⟨_q1, _q2⟩ := hSw); go_simp; try with_reducible rfl)
      simp only [Act.put, List.setIfInBounds_toArray, List.set_cons_zero, List.set_cons_succ]
      refine take_at (i := 3) (v := ?_) (some 45) rfl rfl (by kernel_rfl) (by kernel_rfl) (by kernel_rfl) (fun _ _ _ h => by cases h.1) (Or.inl ⟨by rfl, ?_⟩) (by assumption) ?_
      rotate_left
      · (intro w hSw; (try dsimp only at hSw); (try obtain ⟨_q1, _q2⟩ := hSw); go_simp; try with_reducible rfl)
      simp only [Act.put, List.setIfInBounds_toArray, List.set_cons_zero, List.set_cons_succ]
      refine take_at (i := 4) (v := ?_) (some 46) rfl rfl (by kernel_rfl) (by kernel_rfl) (by kernel_rfl) (fun _ _ _ h => by cases h.1) (Or.inl ⟨by rfl, ?_⟩) (by assumption) ?_
      rotate_left
      · (intro w hSw; (try dsimp only at hSw); (try obtain ⟨_q1, _q2⟩ := hSw); go_simp; try with_reducible rfl)
      simp only [Act.put, List.setIfInBounds_toArray, List.set_cons_zero, List.set_cons_succ]
      refine take_at (i := 5) (v := ?_) (some 47) rfl rfl (by kernel_rfl) (by kernel_rfl) (by kernel_rfl) (fun _ _ _ h => by cases h.1) (Or.inl ⟨by rfl, ?_⟩) (by assumption) ?_
      rotate_left
      · (intro w hSw; (try dsimp only at hSw); (try obtain ⟨_q1, _q2⟩ := hSw); go_simp; try with_reducible rfl)
      simp only [Act.put, List.setIfInBounds_toArray, List.set_cons_zero, List.set_cons_succ]
      refine take_at (i := 6) (v := ?_) (some 48) rfl rfl (by kernel_rfl) (by kernel_rfl) (by kernel_rfl) (fun _ _ _ h => by cases h.1) (Or.inl ⟨by rfl, ?_⟩) (by assumption) ?_
      rotate_left
      · (intro w hSw; (try dsimp only at hSw); (try obtain ⟨_q1, _q2⟩ := hSw); go_simp; try with_reducible rfl)
      simp only [Act.put, List.setIfInBounds_toArray, List.set_cons_zero, List.set_cons_succ]
      refine take_at (i := 7) (v := ?_) (some 49) rfl rfl (by kernel_rfl) (by kernel_rfl) (by kernel_rfl) (fun _ _ _ h => by cases h.1) (Or.inl ⟨by rfl, ?_⟩) (by assumption) ?_
      rotate_left
      · (intro w hSw; (try dsimp only at hSw); (try obtain ⟨_q1, _q2⟩ := hSw); go_simp; try with_reducible rfl)
      simp only [Act.put, List.setIfInBounds_toArray, List.set_cons_zero, List.set_cons_succ]
      refine take_at (i := 8) (v := ?_) (some 50) rfl rfl (by kernel_rfl) (by kernel_rfl) (by kernel_rfl) (fun _ _ _ h => by cases h.1) (Or.inl ⟨by rfl, ?_⟩) (by assumption) ?_
      rotate_left
      · (intro w hSw; (try dsimp only at hSw); (try obtain ⟨_q1, _q2⟩ := hSw); go_simp; try with_reducible rfl)
      simp only [Act.put, List.setIfInBounds_toArray, List.set_cons_zero, List.set_cons_succ]
      refine take_at (i := 9) (v := ?_) (some 51) rfl rfl (by kernel_rfl) (by kernel_rfl) (by kernel_rfl) (fun _ _ _ h => by cases h.1) (Or.inl ⟨by rfl, ?_⟩) (by assumption) ?_
      rotate_left
      · (intro w hSw; (try dsimp only at hSw); (try obtain ⟨_q1, _q2⟩ := hSw); go_simp; try with_reducible rfl)
      simp only [Act.put, List.setIfInBounds_toArray, List.set_cons_zero, List.set_cons_succ]
      refine take_at (i := 10) (v := ?_) (some 52) rfl rfl (by kernel_rfl) (by kernel_rfl) (by kernel_rfl) (fun _ _ _ h => by cases h.1) (Or.inl ⟨by rfl, ?_⟩) (by assumption) ?_
      rotate_left
      · (intro w hSw; (try dsimp only at hSw); (try obtain ⟨_q1, _q2⟩ := hSw); go_simp; try with_reducible rfl)
      simp only [Act.put, List.setIfInBounds_toArray, List.set_cons_zero, List.set_cons_succ]
      refine take_at (i := 11) (v := ?_) (some 53) rfl rfl (by kernel_rfl) (by kernel_rfl) (by kernel_rfl) (fun _ _ _ h => by cases h.1) (Or.inl ⟨by rfl, ?_⟩) (by assumption) ?_
      rotate_left
      · (intro w hSw; (try dsimp only at hSw); (try obtain ⟨_q1, _q2⟩ := hSw); go_simp; try with_reducible rfl)
      simp only [Act.put, List.setIfInBounds_toArray, List.set_cons_zero, List.set_cons_succ]
      refine take_at (i := 12) (v := ?_) (some 54) rfl rfl (by kernel_rfl) (by kernel_rfl) (by kernel_rfl) (fun _ _ _ h => by cases h.1) (Or.inl ⟨by rfl, ?_⟩) (by assumption) ?_
      rotate_left
      · (intro w hSw; (try dsimp only at hSw); (try obtain ⟨_q1, _q2⟩ := hSw); go_simp; try with_reducible rfl)
      simp only [Act.put, List.setIfInBounds_toArray, List.set_cons_zero, List.set_cons_succ]
      refine take_at (i := 13) (v := ?_) (some 55) rfl rfl (by kernel_rfl) (by kernel_rfl) (by kernel_rfl) (fun _ _ _ h => by cases h.1) (Or.inl ⟨by rfl, ?_⟩) (by assumption) ?_
      rotate_left
      · (intro w hSw; (try dsimp only at hSw); (try obtain ⟨_q1, _q2⟩ := hSw); go_simp; try with_reducible rfl)
      simp only [Act.put, List.setIfInBounds_toArray, List.set_cons_zero, List.set_cons_succ]
      refine take_at (i := 14) (v := ?_) (some 56) rfl rfl (by kernel_rfl) (by kernel_rfl) (by kernel_rfl) (fun _ _ _ h => by cases h.1) (Or.inl ⟨by rfl, ?_⟩) (by assumption) ?_
      rotate_left
      · (intro w hSw; (try dsimp only at hSw); (try obtain ⟨_q1, _q2⟩ := hSw); go_simp; try with_reducible rfl)
      simp only [Act.put, List.setIfInBounds_toArray, List.set_cons_zero, List.set_cons_succ]
      refine take_at (i := 15) (v := ?_) (some 57) rfl rfl (by kernel_rfl) (by kernel_rfl) (by kernel_rfl) (fun _ _ _ h => by cases h.1) (Or.inl ⟨by rfl, ?_⟩) (by assumption) ?_
      rotate_left
      · (intro w hSw; (try dsimp only at hSw); (try obtain ⟨_q1, _q2⟩ := hSw); go_simp; try with_reducible rfl)
      simp only [Act.put, List.setIfInBounds_toArray, List.set_cons_zero, List.set_cons_succ]
      refine take_at (i := 16) (v := ?_) (some 58) rfl rfl (by kernel_rfl) (by kernel_rfl) (by kernel_rfl) (fun _ _ _ h => by cases h.1) (Or.inl ⟨by rfl, ?_⟩) (by assumption) ?_
      rotate_left
      · (intro w hSw; (try dsimp only at hSw); (try obtain ⟨_q1, _q2⟩ := hSw); go_simp; try with_reducible rfl)
      simp only [Act.put, List.setIfInBounds_toArray, List.set_cons_zero, List.set_cons_succ]
      refine take_at (i := 17) (v := ?_) (some 59) rfl rfl (by kernel_rfl) (by kernel_rfl) (by kernel_rfl) (fun _ _ _ h => by cases h.1) (Or.inl ⟨by rfl, ?_⟩) (by assumption) ?_
      rotate_left
      · (intro w hSw; (try dsimp only at hSw); (try obtain ⟨_q1, _q2⟩ := hSw); go_simp; try with_reducible rfl)
      simp only [Act.put, List.setIfInBounds_toArray, List.set_cons_zero, List.set_cons_succ]
      refine mute_at (i := 18) none rfl rfl (by rfl) (by kernel_rfl) X3 (put_mute 3 (.tmp 59) (.tmp 58) rfl _ _ rfl rfl hst) ⟨A3.out.c, y3⟩ (fun hHeld => ?_)
      simp only [Act.put]
      refine wpAnyH_done (by kernel_rfl) ?_ _
      refine ⟨rfl, ?_⟩
      have cr3 := A3.out.c
      have cB3 : X3.cell? ⟨B, k, none⟩ = some (.int .i64 ((sdN f k : Nat) : Int)) := by
        have := A3.out.w.1 k hlt
        unfold nts rkH at this
        rw [if_pos (by omega)] at this
        exact this
      clear hHeld cr cy cB fB hst y3
      by_cases h3 : sdN f k = 3
      · have NO : Hid (¬ rdOK L f) := fun q => rdOK_ne3 q k hlt h3
        rw [h3] at cB3
        clear h3 j9 j10 sl
        gi_wp2
        go_ret2
        exact .inr ⟨NO.out, rfl, W3.out⟩
      · have NX : Hid (RrI W r B f (k + 1) X3) := ⟨A3.out, W3.out, fun i hi => by
          by_cases e : i < k
          · exact I.out.no i e
          · obtain rfl : i = k := by omega
            exact h3⟩
        have h3' : (((sdN f k : Nat) : Int) == 3) = false := by simpa using (fun q => h3 (by omega))
        clear h3 j9 j10 sl
        generalize ((sdN f k : Nat) : Int) = y at *
        gi_wp2
        go_roundw
        case rel => exact ⟨k + 1, k8.out, by simp, NX.out⟩
        case measure => exact meas_m (rdC f) k k8.out
    · obtain rfl : k = rdC f := by omega
      have j0 : ¬ ((rdC f : Nat) : Int) < ((rdC f : Nat) : Int) := by omega
      have ne3 := hidIt I.out.no
      have LE := hidIt (rkH_le f (rdC f) I.out.no)
      have AA : Hid (∀ X, Below W.heap.size W X → Arg X (some ⟨bb, off, none⟩) L f) := fun X hX => Arg.of (LL.out.below hX)
      have W1 := hidIt I.out.w.drew
      have RB := hidIt (rbytes_ok wr.drew r B (rdC f) (rkH f (rdC f)) (I.out.a.below (Below.refl _ _).drew) LE.out n2)
      have A1 := hidIt (I.out.a.below (Below.refl _ _).drew)
      clear I hlt
      gi_wp2
      refine region_wd (S := fun X => Arg X (some ⟨bb, off, none⟩) L f) (by kernel_rfl) (by kernel_rfl) (AA.out _ W1.out) (fun hHeld => ?_)
      refine take_at (i := 0) (v := ?_) (some 68) rfl rfl (by kernel_rfl) (by kernel_rfl) (by kernel_rfl) (fun _ _ _ h => by cases h.1) (Or.inl ⟨by rfl, ?_⟩) (by assumption) ?_
      rotate_left
      · (intro w hSw; (try dsimp only at hSw); (try obtain _q := hSw); go_simp; try with_reducible rfl)
      simp only [Act.put, List.setIfInBounds_toArray, List.set_cons_zero, List.set_cons_succ]
      refine take_at (i := 3) (v := ?_) (some 71) rfl rfl (by kernel_rfl) (by kernel_rfl) (by kernel_rfl) (fun _ _ _ h => by cases h.1) (Or.inl ⟨by rfl, ?_⟩) (by assumption) ?_
      rotate_left
      · (intro w hSw; (try dsimp only at hSw); (try obtain _q := hSw); go_simp; try with_reducible rfl)
      simp only [Act.put, List.setIfInBounds_toArray, List.set_cons_zero, List.set_cons_succ]
      refine take_at (i := 4) (v := .string (txtN L f)) (some 72) rfl rfl (by kernel_rfl) (by kernel_rfl) (by kernel_rfl) (fun _ _ _ h => by cases h.1) (Or.inl ⟨by rfl, fun w hw => cvt_run (.tmp 71) rfl _ L C f rfl hw⟩) (by assumption) ?_
      simp only [Act.put, List.setIfInBounds_toArray, List.set_cons_zero, List.set_cons_succ]
      refine call_at (i := 1) (some 69) 21 _ _ rfl rfl rfl (by rfl) (by kernel_rfl) #[.pointer (some ⟨r, 0, none⟩)] rfl Tryd.func21 (by kernel_rfl) (by kernel_rfl) ?_
      refine RB.out.mono ?_
      rintro e W5 ⟨g, cap, rfl, hg, hcap, lg, b5⟩
      have W5' := hidIt (W1.out.trans (b5.mono W1.out.size))
      have A5 := hidIt (A1.out.below b5)
      have L5 := hidIt lg
      clear lg b5
      refine ⟨_, rfl, AA.out _ W5'.out, fun hHeld => ?_⟩
      simp only [Act.put, List.setIfInBounds_toArray, List.set_cons_zero, List.set_cons_succ]
      refine step_at (i := 2) (some 70) rfl rfl (by rfl) (by kernel_rfl) (.string (txtN (szN (rdC f)) (byF (rdC f) (rkH f (rdC f)) (rdC f)))) W5 (cvt_run (.tmp 69) rfl _ (szN (rdC f)) cap _ rfl (Arg.of L5.out)) (by assumption) (fun hHeld => ?_)
      simp only [Act.put, List.setIfInBounds_toArray, List.set_cons_zero, List.set_cons_succ]
      have TE : Hid (txtN (szN (rdC f)) (byF (rdC f) (rkH f (rdC f)) (rdC f)) = txtN L f ↔ rdOK L f) := by
        constructor
        · intro q
          have z := txtN_inj (fun j _ => byF_range _ _ LE.out n2 _ j) LL.out.2.1 q
          refine ⟨hL, n1, n2, HSZ.out, fun j hj => ?_⟩
          rw [← z.2 j (by omega)]
          exact byF_congr _ _ _ (rkH_all f (rdC f) ne3.out) j
        · intro q
          rw [← HSZ.out]
          refine txtN_congr _ _ _ fun j hj => ?_
          rw [byF_congr _ _ _ (rkH_all f (rdC f) ne3.out) j]
          exact (q.2.2.2.2 j hj).symm
      by_cases hE : txtN (szN (rdC f)) (byF (rdC f) (rkH f (rdC f)) (rdC f)) = txtN L f
      · have OK := hidIt (TE.out.1 hE)
        rw [hE]
        refine take_at (i := 5) (v := .bool false) (some 73) rfl rfl (by kernel_rfl) (by kernel_rfl) (by kernel_rfl) (fun _ _ _ h => by cases h.1) (Or.inl ⟨by rfl, ?_⟩) (by assumption) ?_
        · intro w hw
          simp [execOp, Act.eval, go_sem]
        simp only [Act.put, List.setIfInBounds_toArray, List.set_cons_zero, List.set_cons_succ]
        refine wpAnyH_done (by kernel_rfl) ?_ _
        refine ⟨rfl, ?_⟩
        clear hHeld hE
        gi_wp2
        go_ret2
        exact .inl ⟨OK.out, r, B, F0.out.1, F0.out.2, rfl, A5.out, W5'.out⟩
      · have NO : Hid (¬ rdOK L f) := fun q => hE (TE.out.2 q)
        generalize txtN (szN (rdC f)) (byF (rdC f) (rkH f (rdC f)) (rdC f)) = x1 at *
        generalize txtN L f = x2 at *
        have nq' : ¬ x1.toList = x2.toList := fun q => hE (by have := bytes_beq x1 x2; rw [q] at this; simpa using this)
        refine take_at (i := 5) (v := .bool true) (some 73) rfl rfl (by kernel_rfl) (by kernel_rfl) (by kernel_rfl) (fun _ _ _ h => by cases h.1) (Or.inl ⟨by rfl, ?_⟩) (by assumption) ?_
        · intro w hw
          simp [execOp, Act.eval, go_sem]
          exact nq'
        simp only [Act.put, List.setIfInBounds_toArray, List.set_cons_zero, List.set_cons_succ]
        refine wpAnyH_done (by kernel_rfl) ?_ _
        refine ⟨rfl, ?_⟩
        clear hHeld hE
        gi_wp2
        go_ret2
        exact .inr ⟨NO.out, rfl, W5'.out⟩
theorem rread_any (W : World) (p : Option Addr) (L C : Nat) (f : Nat → Int) (A : Arg W p L f) : Calls Tryd.prog 16 #[.slice p L C] W (RrPost W L f) := by
  by_cases hL : 2 ≤ L
  · rcases A with ⟨h, _⟩ | ⟨_, bb, off, rfl, l⟩
    · omega
    · by_cases hn : 1 ≤ rdC f ∧ rdC f ≤ 512
      · by_cases hs : L = szN (rdC f)
        · exact rread_loop W bb off L C f l hL hn.1 hn.2 hs
        · exact (rread_len W bb off L C f l hL hn.1 hn.2 hs).mono fun e w' h2 => .inr ⟨fun hk => hs hk.2.2.2.1, h2⟩
      · exact (rread_n W bb off L C f l hL (by omega)).mono fun e w' h2 => .inr ⟨fun hk => hn ⟨hk.2.1, hk.2.2.1⟩, h2⟩
  · exact (rread_short W p L C (by omega)).mono fun e w' h => .inr ⟨fun hk => hL hk.1, h.1, by rw [h.2]; exact Below.refl _ _⟩
end Go.Proofs.YtkncnpjhfcfmnaaDoor
