/-
  Walks, not a claim by itself: Read of bytes. By the verifier.
-/
import Derived.Test.YtkncnpjhfcfmnaaDoorFSaid
import Derived.Test.YtkncnpjhfcfmnaaDoorReg3
namespace Go.Proofs.YtkncnpjhfcfmnaaDoor
open Go.RowKit Go.Shelf
attribute [local go_sem] Oper.semAt_some
theorem alloc_run {o : Oper} {a : Act} {w : World} (ty : TypeId) (ho : o.op = .alloc ty) (z : Value) (hz : (Tryd.prog.info? ty).bind (·.zero) = some z) (hc : z.cells = #[z]) :
    (execOp a.eval o).run Tryd.prog w = .ok (.value (.pointer (some ⟨w.heap.size, 0, none⟩))) (w.alloc (.cells #[z] ty)) := by
  unfold execOp
  cases hi : Tryd.prog.info? ty with
  | none => simp [hi] at hz
  | some i =>
    have hz' : i.zero = some z := by simpa [hi] using hz
    simp only [ho]
    simp [Instr.alloc, zeroValue, typeInfo, hi, hz', newVar, newRow, hc, Result.andThen]
theorem put_one {X : World} {b : Nat} {v : Value} (ty : TypeId) (x : Value) (h : X.cell? ⟨b, 0, none⟩ = some v) (hr : (Instr.storeAt ty (.pointer (some ⟨b, 0, none⟩)) x).run Tryd.prog X = .ok () (X.setCell ⟨b, 0, none⟩ x)) :
    ∃ Y, (Instr.storeAt ty (.pointer (some ⟨b, 0, none⟩)) x).run Tryd.prog X = .ok () Y ∧ Y.cell? ⟨b, 0, none⟩ = some x ∧ But b X Y ∧ Y.heap.size = X.heap.size :=
  ⟨_, hr, by rw [World.cell?_setCell_same' _ _ _ (by rw [h]; rfl)], But.set _ _ _, by simp [World.setCell]⟩
theorem read_short (W : World) (p : Option Addr) (L C : Nat) (h : L < 2) : Calls Tryd.prog 15 #[.slice p L C] W fun e w' => e = .returned (.tuple #[.pointer none, .int .i64 4]) ∧ w' = W := by
  have h1 : (L : Int) < 2 := by omega
  go_enter Tryd.func15, Tryd.ntmps15
  go_wp2
  go_ret2
  exact ⟨rfl, rfl⟩
set_option maxRecDepth 100000 in
set_option maxHeartbeats 1000000 in
theorem read_n (W : World) (bb off L C : Nat) (f : Nat → Int) (l : Lies W bb off L f) (hL : 2 ≤ L) (hn : rdC f < 1 ∨ 512 < rdC f) : Calls Tryd.prog 15 #[.slice (some ⟨bb, off, none⟩) L C] W fun e w' => e = .returned (.tuple #[.pointer none, .int .i64 4]) ∧ Below W.heap.size W w' := by
  refine (callsIn_wide (n := 5)).1 ?_
  have hb := l.2.2
  have y0 := l.2.1 0 (by omega)
  have y1 := l.2.1 1 (by omega)
  have i0 : ¬ (L : Int) < 2 := by omega
  have i1 : (1 : Int) < (L : Int) := by omega
  have i2 : (0 : Int) < (L : Int) := by omega
  have i3 : 0 < L := by omega
  have w0 : IntKind.i64.wrap (f 0) = f 0 := by rw [IntKind.wrap_i64]; omega
  have w1 : IntKind.i64.wrap (f 1) = f 1 := by rw [IntKind.wrap_i64]; omega
  have w2 : IntKind.i64.wrap (f 1 * 256) = f 1 * 256 := by rw [IntKind.wrap_i64]; omega
  have w3 := rdC_or f y0 y1
  have SS : Hid (∀ X, Below W.heap.size W X → X.cell? ⟨bb, off, none⟩ = some (.int .u8 (f 0)) ∧ X.cell? ⟨bb, off + 1, none⟩ = some (.int .u8 (f 1))) := fun X hX => ⟨(hX.cell (p := ⟨bb, off, none⟩) hb).trans (l.1 0 (by omega)), (hX.cell (p := ⟨bb, off + 1, none⟩) hb).trans (l.1 1 (by omega))⟩
  have NW := hidIt fun (u : World) => new_er u ((rdC f : Nat) : Int) (by omega)
  clear l
  refine callsIn_of_wp_marks Tryd.func15 rfl trivial ?_ rfl
  simp only [Tryd.ntmps15, List.size_toArray, List.length_cons, List.length_nil, Nat.reduceAdd, Nat.reduceSub, Array.replicate_succ, Array.replicate_zero, List.push_toArray, List.append_toArray, List.nil_append, List.cons_append]
  gi_wp2
  refine region_wd (S := fun X => X.cell? ⟨bb, off, none⟩ = some (.int .u8 (f 0)) ∧ X.cell? ⟨bb, off + 1, none⟩ = some (.int .u8 (f 1))) (by kernel_rfl) (by kernel_rfl) (SS.out _ (Below.refl _ _).drew) (fun hHeld => ?_)
  refine take_at (i := 0) (v := ?_) (some 12) rfl rfl (by kernel_rfl) (by kernel_rfl) (by kernel_rfl) (fun _ _ _ h => by cases h.1) (Or.inl ⟨by rfl, ?_⟩) (by assumption) ?_
  rotate_left
  · (intro w hSw; (try dsimp only at hSw); (try obtain ⟨_q1, _q2⟩ := hSw); go_simp; try with_reducible rfl)
  simp only [Act.put, List.setIfInBounds_toArray, List.set_cons_zero, List.set_cons_succ]
  refine take_at (i := 1) (v := ?_) (some 13) rfl rfl (by kernel_rfl) (by kernel_rfl) (by kernel_rfl) (fun _ _ _ h => by cases h.1) (Or.inl ⟨by rfl, ?_⟩) (by assumption) ?_
  rotate_left
  · (intro w hSw; (try dsimp only at hSw); (try obtain ⟨_q1, _q2⟩ := hSw); go_simp; try with_reducible rfl)
  simp only [Act.put, List.setIfInBounds_toArray, List.set_cons_zero, List.set_cons_succ]
  refine take_at (i := 2) (v := ?_) (some 14) rfl rfl (by kernel_rfl) (by kernel_rfl) (by kernel_rfl) (fun _ _ _ h => by cases h.1) (Or.inl ⟨by rfl, ?_⟩) (by assumption) ?_
  rotate_left
  · (intro w hSw; (try dsimp only at hSw); (try obtain ⟨_q1, _q2⟩ := hSw); go_simp; try with_reducible rfl)
  simp only [Act.put, List.setIfInBounds_toArray, List.set_cons_zero, List.set_cons_succ]
  refine take_at (i := 3) (v := ?_) (some 15) rfl rfl (by kernel_rfl) (by kernel_rfl) (by kernel_rfl) (fun _ _ _ h => by cases h.1) (Or.inl ⟨by rfl, ?_⟩) (by assumption) ?_
  rotate_left
  · (intro w hSw; (try dsimp only at hSw); (try obtain ⟨_q1, _q2⟩ := hSw); go_simp; try with_reducible rfl)
  simp only [Act.put, List.setIfInBounds_toArray, List.set_cons_zero, List.set_cons_succ]
  refine take_at (i := 4) (v := ?_) (some 16) rfl rfl (by kernel_rfl) (by kernel_rfl) (by kernel_rfl) (fun _ _ _ h => by cases h.1) (Or.inl ⟨by rfl, ?_⟩) (by assumption) ?_
  rotate_left
  · (intro w hSw; (try dsimp only at hSw); (try obtain ⟨_q1, _q2⟩ := hSw); go_simp; try with_reducible rfl)
  simp only [Act.put, List.setIfInBounds_toArray, List.set_cons_zero, List.set_cons_succ]
  refine take_at (i := 5) (v := ?_) (some 17) rfl rfl (by kernel_rfl) (by kernel_rfl) (by kernel_rfl) (fun _ _ _ h => by cases h.1) (Or.inl ⟨by rfl, ?_⟩) (by assumption) ?_
  rotate_left
  · (intro w hSw; (try dsimp only at hSw); (try obtain ⟨_q1, _q2⟩ := hSw); go_simp; try with_reducible rfl)
  simp only [Act.put, List.setIfInBounds_toArray, List.set_cons_zero, List.set_cons_succ]
  refine take_at (i := 6) (v := ?_) (some 18) rfl rfl (by kernel_rfl) (by kernel_rfl) (by kernel_rfl) (fun _ _ _ h => by cases h.1) (Or.inl ⟨by rfl, ?_⟩) (by assumption) ?_
  rotate_left
  · (intro w hSw; (try dsimp only at hSw); (try obtain ⟨_q1, _q2⟩ := hSw); go_simp; try with_reducible rfl)
  simp only [Act.put, List.setIfInBounds_toArray, List.set_cons_zero, List.set_cons_succ]
  refine take_at (i := 7) (v := ?_) (some 19) rfl rfl (by kernel_rfl) (by kernel_rfl) (by kernel_rfl) (fun _ _ _ h => by cases h.1) (Or.inl ⟨by rfl, ?_⟩) (by assumption) ?_
  rotate_left
  · (intro w hSw; (try dsimp only at hSw); (try obtain ⟨_q1, _q2⟩ := hSw); go_simp; try with_reducible rfl)
  simp only [Act.put, List.setIfInBounds_toArray, List.set_cons_zero, List.set_cons_succ]
  refine take_at (i := 8) (v := ?_) (some 20) rfl rfl (by kernel_rfl) (by kernel_rfl) (by kernel_rfl) (fun _ _ _ h => by cases h.1) (Or.inl ⟨by rfl, ?_⟩) (by assumption) ?_
  rotate_left
  · (intro w hSw; (try dsimp only at hSw); (try obtain ⟨_q1, _q2⟩ := hSw); go_simp; try with_reducible rfl)
  simp only [Act.put, List.setIfInBounds_toArray, List.set_cons_zero, List.set_cons_succ]
  refine take_at (i := 9) (v := ?_) (some 21) rfl rfl (by kernel_rfl) (by kernel_rfl) (by kernel_rfl) (fun _ _ _ h => by cases h.1) (Or.inl ⟨by rfl, ?_⟩) (by assumption) ?_
  rotate_left
  · (intro w hSw; (try dsimp only at hSw); (try obtain ⟨_q1, _q2⟩ := hSw); go_simp; try with_reducible rfl)
  simp only [Act.put, List.setIfInBounds_toArray, List.set_cons_zero, List.set_cons_succ]
  refine duo_at (i := 10) (j := 14) (some 22) (some 4) 9 #[.tmp 21] _ rfl rfl rfl rfl rfl (by rfl) (by rfl) (by kernel_rfl) _ _ (alloc_run 23 rfl (.pointer none) (by kernel_rfl) rfl) (SS.out _ ((Below.refl _ _).drew.alloc (Nat.le_refl _) _)) (fun hHeld => ?_) #[.int .i64 ((rdC f : Nat) : Int)] rfl Tryd.func9 (by kernel_rfl) (by kernel_rfl) ?_
  · simp only [Act.put, List.setIfInBounds_toArray, List.set_cons_zero, List.set_cons_succ]
    have A1 : Hid (Below W.heap.size W (W.drew.alloc (.cells #[.pointer none] 23))) := ((Below.refl _ _).drew.alloc (Nat.le_refl _) _)
    have c4 : (W.drew.alloc (.cells #[.pointer none] 23)).cell? ⟨W.heap.size, 0, none⟩ = some (.pointer none) := World.cell?_alloc_at (w := W.drew) _ _ _ _ rfl
    have g4 : (W.drew.alloc (.cells #[.pointer none] 23)).frozen? ⟨W.heap.size, 0, none⟩ = false := by simp [go_sem]
    have z4 : (W.drew.alloc (.cells #[.pointer none] 23)).heap.size = W.heap.size + 1 := by simp
    refine call_at (i := 10) (some 22) 9 #[.tmp 21] _ rfl rfl rfl (by rfl) (by kernel_rfl) #[.int .i64 ((rdC f : Nat) : Int)] rfl Tryd.func9 (by kernel_rfl) (by kernel_rfl) ?_
    generalize (W.drew.alloc (.cells #[.pointer none] 23)) = W1 at A1 c4 g4 z4 ⊢
    refine (NW.out W1).mono ?_
    rintro e W2 ⟨rfl, hw2⟩
    subst W2
    obtain ⟨B, hB⟩ : ∃ B, W.heap.size = B := ⟨_, rfl⟩
    have A2 : Hid (Below W.heap.size W W1) := A1.out
    have c5 := c4
    have g5 := g4
    rw [hB] at c5 g5
    have F0 : Hid (W.heap.size ≤ B) := Nat.le_of_eq hB
    refine ⟨_, rfl, SS.out _ A2.out, fun hHeld => ?_⟩
    simp only [Act.put, List.setIfInBounds_toArray, List.set_cons_zero, List.set_cons_succ]
    refine take_at (i := 11) (v := ?_) (some 11) rfl rfl (by kernel_rfl) (by kernel_rfl) (by kernel_rfl) (fun _ _ _ h => by cases h.1) (Or.inl ⟨by rfl, ?_⟩) (by assumption) ?_
    rotate_left
    · (intro w hSw; (try dsimp only at hSw); (try obtain ⟨_q1, _q2⟩ := hSw); go_simp; try with_reducible rfl)
    simp only [Act.put, List.setIfInBounds_toArray, List.set_cons_zero, List.set_cons_succ]
    refine take_at (i := 12) (v := ?_) (some 23) rfl rfl (by kernel_rfl) (by kernel_rfl) (by kernel_rfl) (fun _ _ _ h => by cases h.1) (Or.inl ⟨by rfl, ?_⟩) (by assumption) ?_
    rotate_left
    · (intro w hSw; (try dsimp only at hSw); (try obtain ⟨_q1, _q2⟩ := hSw); go_simp; try with_reducible rfl)
    simp only [Act.put, List.setIfInBounds_toArray, List.set_cons_zero, List.set_cons_succ]
    refine take_at (i := 13) (v := ?_) (some 24) rfl rfl (by kernel_rfl) (by kernel_rfl) (by kernel_rfl) (fun _ _ _ h => by cases h.1) (Or.inl ⟨by rfl, ?_⟩) (by assumption) ?_
    rotate_left
    · (intro w hSw; (try dsimp only at hSw); (try obtain ⟨_q1, _q2⟩ := hSw); go_simp; try with_reducible rfl)
    simp only [Act.put, List.setIfInBounds_toArray, List.set_cons_zero, List.set_cons_succ]
    have hst : (Instr.storeAt 23 (.pointer (some ⟨B, 0, none⟩)) (.pointer none)).run Tryd.prog W1 = .ok () (W1.setCell ⟨B, 0, none⟩ (.pointer none)) := by simp [go_sem, c5, g5]
    obtain ⟨W3, hr3, c3, b3, z3⟩ := put_one 23 _ c5 hst
    have A3 : Hid (Below W.heap.size W W3) := A2.out.trans (b3.below (by have := F0.out; omega) A2.out.size)
    rw [← hB] at hr3
    refine mute_at (i := 15) none rfl rfl (by rfl) (by kernel_rfl) W3 (put_mute 23 (.tmp 4) (.tmp 23) rfl _ _ rfl rfl hr3) (SS.out _ A3.out) (fun hHeld => ?_)
    simp only [Act.put]
    try rw [hB]
    refine take_at (i := 16) (v := ?_) (some 5) rfl rfl (by kernel_rfl) (by kernel_rfl) (by kernel_rfl) (fun _ _ _ h => by cases h.1) (Or.inl ⟨by rfl, ?_⟩) (by assumption) ?_
    rotate_left
    · (intro w hSw; (try dsimp only at hSw); (try obtain ⟨_q1, _q2⟩ := hSw); go_simp; try with_reducible rfl)
    simp only [Act.put, List.setIfInBounds_toArray, List.set_cons_zero, List.set_cons_succ]
    refine wpAnyH_done (by kernel_rfl) ?_ _
    refine ⟨rfl, ?_⟩
    clear hst hr3 b3 A1 A2 c4 g4 z4 c5 g5 hHeld
    gi_wp2
    refine ⟨trivial, ?_⟩
    gi_wp2
    exact ⟨.tuple #[.pointer none, .int .i64 4], by simp [results, Tryd.results15, go_sem], rfl, A3.out⟩
  · refine (NW.out W.drew).mono ?_
    rintro e W1 ⟨rfl, hw1⟩
    subst W1
    have A1 : Hid (Below W.heap.size W W.drew) := (Below.refl _ _).drew
    refine ⟨_, rfl, SS.out _ A1.out, fun hHeld => ?_⟩
    simp only [Act.put, List.setIfInBounds_toArray, List.set_cons_zero, List.set_cons_succ]
    refine take_at (i := 11) (v := ?_) (some 11) rfl rfl (by kernel_rfl) (by kernel_rfl) (by kernel_rfl) (fun _ _ _ h => by cases h.1) (Or.inl ⟨by rfl, ?_⟩) (by assumption) ?_
    rotate_left
    · (intro w hSw; (try dsimp only at hSw); (try obtain ⟨_q1, _q2⟩ := hSw); go_simp; try with_reducible rfl)
    simp only [Act.put, List.setIfInBounds_toArray, List.set_cons_zero, List.set_cons_succ]
    refine take_at (i := 12) (v := ?_) (some 23) rfl rfl (by kernel_rfl) (by kernel_rfl) (by kernel_rfl) (fun _ _ _ h => by cases h.1) (Or.inl ⟨by rfl, ?_⟩) (by assumption) ?_
    rotate_left
    · (intro w hSw; (try dsimp only at hSw); (try obtain ⟨_q1, _q2⟩ := hSw); go_simp; try with_reducible rfl)
    simp only [Act.put, List.setIfInBounds_toArray, List.set_cons_zero, List.set_cons_succ]
    refine take_at (i := 13) (v := ?_) (some 24) rfl rfl (by kernel_rfl) (by kernel_rfl) (by kernel_rfl) (fun _ _ _ h => by cases h.1) (Or.inl ⟨by rfl, ?_⟩) (by assumption) ?_
    rotate_left
    · (intro w hSw; (try dsimp only at hSw); (try obtain ⟨_q1, _q2⟩ := hSw); go_simp; try with_reducible rfl)
    simp only [Act.put, List.setIfInBounds_toArray, List.set_cons_zero, List.set_cons_succ]
    refine step_at (i := 14) (some 4) rfl rfl (by rfl) (by kernel_rfl) _ _ (alloc_run 23 rfl (.pointer none) (by kernel_rfl) rfl) (SS.out _ (A1.out.alloc A1.out.size _)) (fun hHeld => ?_)
    simp only [Act.put, List.setIfInBounds_toArray, List.set_cons_zero, List.set_cons_succ]
    have A2 : Hid (Below W.heap.size W (W.drew.alloc (.cells #[.pointer none] 23))) := A1.out.alloc A1.out.size _
    have c5 : (W.drew.alloc (.cells #[.pointer none] 23)).cell? ⟨W.drew.heap.size, 0, none⟩ = some (.pointer none) := by rw [World.cell?_alloc_at _ _ _ _ rfl]; rfl
    have g5 : (W.drew.alloc (.cells #[.pointer none] 23)).frozen? ⟨W.drew.heap.size, 0, none⟩ = false := by simp [go_sem]
    obtain ⟨B, hB⟩ : ∃ B, W.drew.heap.size = B := ⟨_, rfl⟩
    have F0 : Hid (W.heap.size ≤ B) := by rw [← hB]; exact Nat.le_refl _
    generalize (W.drew.alloc (.cells #[.pointer none] 23)) = W2 at *
    rw [hB] at c5 g5 ⊢
    have hst : (Instr.storeAt 23 (.pointer (some ⟨B, 0, none⟩)) (.pointer none)).run Tryd.prog W2 = .ok () (W2.setCell ⟨B, 0, none⟩ (.pointer none)) := by simp [go_sem, c5, g5]
    obtain ⟨W3, hr3, c3, b3, z3⟩ := put_one 23 _ c5 hst
    have A3 : Hid (Below W.heap.size W W3) := A2.out.trans (b3.below (by have := F0.out; omega) A2.out.size)
    refine mute_at (i := 15) none rfl rfl (by rfl) (by kernel_rfl) W3 (put_mute 23 (.tmp 4) (.tmp 23) rfl _ _ rfl rfl hr3) (SS.out _ A3.out) (fun hHeld => ?_)
    simp only [Act.put]
    refine take_at (i := 16) (v := ?_) (some 5) rfl rfl (by kernel_rfl) (by kernel_rfl) (by kernel_rfl) (fun _ _ _ h => by cases h.1) (Or.inl ⟨by rfl, ?_⟩) (by assumption) ?_
    rotate_left
    · (intro w hSw; (try dsimp only at hSw); (try obtain ⟨_q1, _q2⟩ := hSw); go_simp; try with_reducible rfl)
    simp only [Act.put, List.setIfInBounds_toArray, List.set_cons_zero, List.set_cons_succ]
    refine wpAnyH_done (by kernel_rfl) ?_ _
    refine ⟨rfl, ?_⟩
    clear hst hr3 b3 A1 A2 c5 g5 hHeld hB
    gi_wp2
    refine ⟨trivial, ?_⟩
    gi_wp2
    exact ⟨.tuple #[.pointer none, .int .i64 4], by simp [results, Tryd.results15, go_sem], rfl, A3.out⟩
set_option maxRecDepth 100000 in
set_option maxHeartbeats 1000000 in
theorem read_len (W : World) (bb off L C : Nat) (f : Nat → Int) (l : Lies W bb off L f) (hL : 2 ≤ L) (n1 : 1 ≤ rdC f) (n2 : rdC f ≤ 512) (hsz : L ≠ szN (rdC f)) : Calls Tryd.prog 15 #[.slice (some ⟨bb, off, none⟩) L C] W fun e w' => e = .returned (.tuple #[.pointer none, .int .i64 4]) ∧ Below W.heap.size W w' := by
  refine (callsIn_wide (n := 5)).1 ?_
  have hb := l.2.2
  have y0 := l.2.1 0 (by omega)
  have y1 := l.2.1 1 (by omega)
  have i0 : ¬ (L : Int) < 2 := by omega
  have i1 : (1 : Int) < (L : Int) := by omega
  have i2 : (0 : Int) < (L : Int) := by omega
  have i3 : 0 < L := by omega
  have w0 : IntKind.i64.wrap (f 0) = f 0 := by rw [IntKind.wrap_i64]; omega
  have w1 : IntKind.i64.wrap (f 1) = f 1 := by rw [IntKind.wrap_i64]; omega
  have w2 : IntKind.i64.wrap (f 1 * 256) = f 1 * 256 := by rw [IntKind.wrap_i64]; omega
  have w3 := rdC_or f y0 y1
  have SS : Hid (∀ X, Below W.heap.size W X → X.cell? ⟨bb, off, none⟩ = some (.int .u8 (f 0)) ∧ X.cell? ⟨bb, off + 1, none⟩ = some (.int .u8 (f 1))) := fun X hX => ⟨(hX.cell (p := ⟨bb, off, none⟩) hb).trans (l.1 0 (by omega)), (hX.cell (p := ⟨bb, off + 1, none⟩) hb).trans (l.1 1 (by omega))⟩
  have NW := hidIt fun (u : World) => new_ok u (rdC f) n1 n2
  have SZ := hidIt fun (u : World) => size_ok (rdC f) (by omega) u
  have i9 : ((L : Int) != ((szN (rdC f) : Nat) : Int)) = true := by simpa using (fun q => hsz (by omega))
  clear l
  refine callsIn_of_wp_marks Tryd.func15 rfl trivial ?_ rfl
  simp only [Tryd.ntmps15, List.size_toArray, List.length_cons, List.length_nil, Nat.reduceAdd, Nat.reduceSub, Array.replicate_succ, Array.replicate_zero, List.push_toArray, List.append_toArray, List.nil_append, List.cons_append]
  gi_wp2
  refine region_wd (S := fun X => X.cell? ⟨bb, off, none⟩ = some (.int .u8 (f 0)) ∧ X.cell? ⟨bb, off + 1, none⟩ = some (.int .u8 (f 1))) (by kernel_rfl) (by kernel_rfl) (SS.out _ (Below.refl _ _).drew) (fun hHeld => ?_)
  refine take_at (i := 0) (v := ?_) (some 12) rfl rfl (by kernel_rfl) (by kernel_rfl) (by kernel_rfl) (fun _ _ _ h => by cases h.1) (Or.inl ⟨by rfl, ?_⟩) (by assumption) ?_
  rotate_left
  · (intro w hSw; (try dsimp only at hSw); (try obtain ⟨_q1, _q2⟩ := hSw); go_simp; try with_reducible rfl)
  simp only [Act.put, List.setIfInBounds_toArray, List.set_cons_zero, List.set_cons_succ]
  refine take_at (i := 1) (v := ?_) (some 13) rfl rfl (by kernel_rfl) (by kernel_rfl) (by kernel_rfl) (fun _ _ _ h => by cases h.1) (Or.inl ⟨by rfl, ?_⟩) (by assumption) ?_
  rotate_left
  · (intro w hSw; (try dsimp only at hSw); (try obtain ⟨_q1, _q2⟩ := hSw); go_simp; try with_reducible rfl)
  simp only [Act.put, List.setIfInBounds_toArray, List.set_cons_zero, List.set_cons_succ]
  refine take_at (i := 2) (v := ?_) (some 14) rfl rfl (by kernel_rfl) (by kernel_rfl) (by kernel_rfl) (fun _ _ _ h => by cases h.1) (Or.inl ⟨by rfl, ?_⟩) (by assumption) ?_
  rotate_left
  · (intro w hSw; (try dsimp only at hSw); (try obtain ⟨_q1, _q2⟩ := hSw); go_simp; try with_reducible rfl)
  simp only [Act.put, List.setIfInBounds_toArray, List.set_cons_zero, List.set_cons_succ]
  refine take_at (i := 3) (v := ?_) (some 15) rfl rfl (by kernel_rfl) (by kernel_rfl) (by kernel_rfl) (fun _ _ _ h => by cases h.1) (Or.inl ⟨by rfl, ?_⟩) (by assumption) ?_
  rotate_left
  · (intro w hSw; (try dsimp only at hSw); (try obtain ⟨_q1, _q2⟩ := hSw); go_simp; try with_reducible rfl)
  simp only [Act.put, List.setIfInBounds_toArray, List.set_cons_zero, List.set_cons_succ]
  refine take_at (i := 4) (v := ?_) (some 16) rfl rfl (by kernel_rfl) (by kernel_rfl) (by kernel_rfl) (fun _ _ _ h => by cases h.1) (Or.inl ⟨by rfl, ?_⟩) (by assumption) ?_
  rotate_left
  · (intro w hSw; (try dsimp only at hSw); (try obtain ⟨_q1, _q2⟩ := hSw); go_simp; try with_reducible rfl)
  simp only [Act.put, List.setIfInBounds_toArray, List.set_cons_zero, List.set_cons_succ]
  refine take_at (i := 5) (v := ?_) (some 17) rfl rfl (by kernel_rfl) (by kernel_rfl) (by kernel_rfl) (fun _ _ _ h => by cases h.1) (Or.inl ⟨by rfl, ?_⟩) (by assumption) ?_
  rotate_left
  · (intro w hSw; (try dsimp only at hSw); (try obtain ⟨_q1, _q2⟩ := hSw); go_simp; try with_reducible rfl)
  simp only [Act.put, List.setIfInBounds_toArray, List.set_cons_zero, List.set_cons_succ]
  refine take_at (i := 6) (v := ?_) (some 18) rfl rfl (by kernel_rfl) (by kernel_rfl) (by kernel_rfl) (fun _ _ _ h => by cases h.1) (Or.inl ⟨by rfl, ?_⟩) (by assumption) ?_
  rotate_left
  · (intro w hSw; (try dsimp only at hSw); (try obtain ⟨_q1, _q2⟩ := hSw); go_simp; try with_reducible rfl)
  simp only [Act.put, List.setIfInBounds_toArray, List.set_cons_zero, List.set_cons_succ]
  refine take_at (i := 7) (v := ?_) (some 19) rfl rfl (by kernel_rfl) (by kernel_rfl) (by kernel_rfl) (fun _ _ _ h => by cases h.1) (Or.inl ⟨by rfl, ?_⟩) (by assumption) ?_
  rotate_left
  · (intro w hSw; (try dsimp only at hSw); (try obtain ⟨_q1, _q2⟩ := hSw); go_simp; try with_reducible rfl)
  simp only [Act.put, List.setIfInBounds_toArray, List.set_cons_zero, List.set_cons_succ]
  refine take_at (i := 8) (v := ?_) (some 20) rfl rfl (by kernel_rfl) (by kernel_rfl) (by kernel_rfl) (fun _ _ _ h => by cases h.1) (Or.inl ⟨by rfl, ?_⟩) (by assumption) ?_
  rotate_left
  · (intro w hSw; (try dsimp only at hSw); (try obtain ⟨_q1, _q2⟩ := hSw); go_simp; try with_reducible rfl)
  simp only [Act.put, List.setIfInBounds_toArray, List.set_cons_zero, List.set_cons_succ]
  refine take_at (i := 9) (v := ?_) (some 21) rfl rfl (by kernel_rfl) (by kernel_rfl) (by kernel_rfl) (fun _ _ _ h => by cases h.1) (Or.inl ⟨by rfl, ?_⟩) (by assumption) ?_
  rotate_left
  · (intro w hSw; (try dsimp only at hSw); (try obtain ⟨_q1, _q2⟩ := hSw); go_simp; try with_reducible rfl)
  simp only [Act.put, List.setIfInBounds_toArray, List.set_cons_zero, List.set_cons_succ]
  refine duo_at (i := 10) (j := 14) (some 22) (some 4) 9 #[.tmp 21] _ rfl rfl rfl rfl rfl (by rfl) (by rfl) (by kernel_rfl) _ _ (alloc_run 23 rfl (.pointer none) (by kernel_rfl) rfl) (SS.out _ ((Below.refl _ _).drew.alloc (Nat.le_refl _) _)) (fun hHeld => ?_) #[.int .i64 ((rdC f : Nat) : Int)] rfl Tryd.func9 (by kernel_rfl) (by kernel_rfl) ?_
  · simp only [Act.put, List.setIfInBounds_toArray, List.set_cons_zero, List.set_cons_succ]
    have A1 : Hid (Below W.heap.size W (W.drew.alloc (.cells #[.pointer none] 23))) := ((Below.refl _ _).drew.alloc (Nat.le_refl _) _)
    have c4 : (W.drew.alloc (.cells #[.pointer none] 23)).cell? ⟨W.heap.size, 0, none⟩ = some (.pointer none) := World.cell?_alloc_at (w := W.drew) _ _ _ _ rfl
    have g4 : (W.drew.alloc (.cells #[.pointer none] 23)).frozen? ⟨W.heap.size, 0, none⟩ = false := by simp [go_sem]
    have z4 : (W.drew.alloc (.cells #[.pointer none] 23)).heap.size = W.heap.size + 1 := by simp
    refine call_at (i := 10) (some 22) 9 #[.tmp 21] _ rfl rfl rfl (by rfl) (by kernel_rfl) #[.int .i64 ((rdC f : Nat) : Int)] rfl Tryd.func9 (by kernel_rfl) (by kernel_rfl) ?_
    generalize (W.drew.alloc (.cells #[.pointer none] 23)) = W1 at A1 c4 g4 z4 ⊢
    refine (NW.out W1).mono ?_
    rintro e W2 ⟨rfl, s2, b2⟩
    obtain ⟨S, hS⟩ : ∃ S, W1.heap.size = S := ⟨_, rfl⟩
    rw [hS] at s2 ⊢
    obtain ⟨B, hB⟩ : ∃ B, W.heap.size = B := ⟨_, rfl⟩
    have c5 : W2.cell? ⟨W.heap.size, 0, none⟩ = some (.pointer none) := (b2.cell (p := ⟨W.heap.size, 0, none⟩) (by show W.heap.size < _; omega)).trans c4
    have g5 : W2.frozen? ⟨W.heap.size, 0, none⟩ = false := (b2.frozen (p := ⟨W.heap.size, 0, none⟩) (by show W.heap.size < _; omega)).trans g4
    have A2 : Hid (Below W.heap.size W W2) := A1.out.trans (b2.mono (by omega))
    have F0 : Hid (W.heap.size ≤ B ∧ W.heap.size ≤ S ∧ B ≠ S ∧ B < W2.heap.size) := ⟨by omega, by omega, by omega, by have := b2.size; omega⟩
    rw [hB] at c5 g5
    refine ⟨_, rfl, SS.out _ A2.out, fun hHeld => ?_⟩
    simp only [Act.put, List.setIfInBounds_toArray, List.set_cons_zero, List.set_cons_succ]
    refine take_at (i := 11) (v := ?_) (some 11) rfl rfl (by kernel_rfl) (by kernel_rfl) (by kernel_rfl) (fun _ _ _ h => by cases h.1) (Or.inl ⟨by rfl, ?_⟩) (by assumption) ?_
    rotate_left
    · (intro w hSw; (try dsimp only at hSw); (try obtain ⟨_q1, _q2⟩ := hSw); go_simp; try with_reducible rfl)
    simp only [Act.put, List.setIfInBounds_toArray, List.set_cons_zero, List.set_cons_succ]
    refine take_at (i := 12) (v := ?_) (some 23) rfl rfl (by kernel_rfl) (by kernel_rfl) (by kernel_rfl) (fun _ _ _ h => by cases h.1) (Or.inl ⟨by rfl, ?_⟩) (by assumption) ?_
    rotate_left
    · (intro w hSw; (try dsimp only at hSw); (try obtain ⟨_q1, _q2⟩ := hSw); go_simp; try with_reducible rfl)
    simp only [Act.put, List.setIfInBounds_toArray, List.set_cons_zero, List.set_cons_succ]
    refine take_at (i := 13) (v := ?_) (some 24) rfl rfl (by kernel_rfl) (by kernel_rfl) (by kernel_rfl) (fun _ _ _ h => by cases h.1) (Or.inl ⟨by rfl, ?_⟩) (by assumption) ?_
    rotate_left
    · (intro w hSw; (try dsimp only at hSw); (try obtain ⟨_q1, _q2⟩ := hSw); go_simp; try with_reducible rfl)
    simp only [Act.put, List.setIfInBounds_toArray, List.set_cons_zero, List.set_cons_succ]
    have hst : (Instr.storeAt 23 (.pointer (some ⟨B, 0, none⟩)) (.pointer (some ⟨S, 0, none⟩))).run Tryd.prog W2 = .ok () (W2.setCell ⟨B, 0, none⟩ (.pointer (some ⟨S, 0, none⟩))) := by simp [go_sem, c5, g5]
    obtain ⟨W3, hr3, c3, b3, z3⟩ := put_one 23 _ c5 hst
    have A3 : Hid (Below W.heap.size W W3) := A2.out.trans (b3.below (by have := F0.out; omega) A2.out.size)
    have S3 := hidIt (s2.but b3 (by have := F0.out; omega))
    rw [← hB] at hr3
    refine mute_at (i := 15) none rfl rfl (by rfl) (by kernel_rfl) W3 (put_mute 23 (.tmp 4) (.tmp 23) rfl _ _ rfl rfl hr3) (SS.out _ A3.out) (fun hHeld => ?_)
    simp only [Act.put]
    try rw [hB]
    refine take_at (i := 16) (v := ?_) (some 5) rfl rfl (by kernel_rfl) (by kernel_rfl) (by kernel_rfl) (fun _ _ _ h => by cases h.1) (Or.inl ⟨by rfl, ?_⟩) (by assumption) ?_
    rotate_left
    · (intro w hSw; (try dsimp only at hSw); (try obtain ⟨_q1, _q2⟩ := hSw); go_simp; try with_reducible rfl)
    simp only [Act.put, List.setIfInBounds_toArray, List.set_cons_zero, List.set_cons_succ]
    refine wpAnyH_done (by kernel_rfl) ?_ _
    refine ⟨rfl, ?_⟩
    clear hst hr3 b3 A1 A2 c4 g4 z4 c5 g5 hHeld s2 b2 hS
    have c1 := S3.out.c1
    gi_wp2
    refine ⟨trivial, ?_⟩
    refine CallsIn.mono ((callsIn_wide (n := _)).2 (SZ.out W3)) ?_
    rintro e w' ⟨rfl, hw⟩
    subst w'
    gi_wp2
    exact ⟨.tuple #[.pointer none, .int .i64 4], by simp [results, Tryd.results15, go_sem], rfl, A3.out⟩
  · refine (NW.out W.drew).mono ?_
    rintro e W1 ⟨rfl, s1, b1⟩
    obtain ⟨S, hS⟩ : ∃ S, W.drew.heap.size = S := ⟨_, rfl⟩
    rw [hS] at s1 ⊢
    have A1 : Hid (Below W.heap.size W W1) := (Below.refl _ _).drew.trans b1
    refine ⟨_, rfl, SS.out _ A1.out, fun hHeld => ?_⟩
    simp only [Act.put, List.setIfInBounds_toArray, List.set_cons_zero, List.set_cons_succ]
    refine take_at (i := 11) (v := ?_) (some 11) rfl rfl (by kernel_rfl) (by kernel_rfl) (by kernel_rfl) (fun _ _ _ h => by cases h.1) (Or.inl ⟨by rfl, ?_⟩) (by assumption) ?_
    rotate_left
    · (intro w hSw; (try dsimp only at hSw); (try obtain ⟨_q1, _q2⟩ := hSw); go_simp; try with_reducible rfl)
    simp only [Act.put, List.setIfInBounds_toArray, List.set_cons_zero, List.set_cons_succ]
    refine take_at (i := 12) (v := ?_) (some 23) rfl rfl (by kernel_rfl) (by kernel_rfl) (by kernel_rfl) (fun _ _ _ h => by cases h.1) (Or.inl ⟨by rfl, ?_⟩) (by assumption) ?_
    rotate_left
    · (intro w hSw; (try dsimp only at hSw); (try obtain ⟨_q1, _q2⟩ := hSw); go_simp; try with_reducible rfl)
    simp only [Act.put, List.setIfInBounds_toArray, List.set_cons_zero, List.set_cons_succ]
    refine take_at (i := 13) (v := ?_) (some 24) rfl rfl (by kernel_rfl) (by kernel_rfl) (by kernel_rfl) (fun _ _ _ h => by cases h.1) (Or.inl ⟨by rfl, ?_⟩) (by assumption) ?_
    rotate_left
    · (intro w hSw; (try dsimp only at hSw); (try obtain ⟨_q1, _q2⟩ := hSw); go_simp; try with_reducible rfl)
    simp only [Act.put, List.setIfInBounds_toArray, List.set_cons_zero, List.set_cons_succ]
    refine step_at (i := 14) (some 4) rfl rfl (by rfl) (by kernel_rfl) _ _ (alloc_run 23 rfl (.pointer none) (by kernel_rfl) rfl) (SS.out _ (A1.out.alloc A1.out.size _)) (fun hHeld => ?_)
    simp only [Act.put, List.setIfInBounds_toArray, List.set_cons_zero, List.set_cons_succ]
    have A2 : Hid (Below W.heap.size W (W1.alloc (.cells #[.pointer none] 23))) := A1.out.alloc A1.out.size _
    have c5 : (W1.alloc (.cells #[.pointer none] 23)).cell? ⟨W1.heap.size, 0, none⟩ = some (.pointer none) := by rw [World.cell?_alloc_at _ _ _ _ rfl]; rfl
    have g5 : (W1.alloc (.cells #[.pointer none] 23)).frozen? ⟨W1.heap.size, 0, none⟩ = false := by simp [go_sem]
    obtain ⟨B, hB⟩ : ∃ B, W1.heap.size = B := ⟨_, rfl⟩
    have z4 : (W1.alloc (.cells #[.pointer none] 23)).heap.size = W1.heap.size + 1 := by simp
    have s2 := s1.below ((Below.refl _ _).alloc (Nat.le_refl _) (.cells #[.pointer none] 23))
    have F0 : Hid (W.heap.size ≤ B ∧ W.heap.size ≤ S ∧ B ≠ S ∧ B < (W1.alloc (.cells #[.pointer none] 23)).heap.size) := ⟨by have := A1.out.size; omega, by rw [← hS]; exact Nat.le_refl _, by have := s1.l; omega, by omega⟩
    generalize (W1.alloc (.cells #[.pointer none] 23)) = W2 at *
    rw [hB] at c5 g5 ⊢
    have hst : (Instr.storeAt 23 (.pointer (some ⟨B, 0, none⟩)) (.pointer (some ⟨S, 0, none⟩))).run Tryd.prog W2 = .ok () (W2.setCell ⟨B, 0, none⟩ (.pointer (some ⟨S, 0, none⟩))) := by simp [go_sem, c5, g5]
    obtain ⟨W3, hr3, c3, b3, z3⟩ := put_one 23 _ c5 hst
    have A3 : Hid (Below W.heap.size W W3) := A2.out.trans (b3.below (by have := F0.out; omega) A2.out.size)
    have S3 := hidIt (s2.but b3 (by have := F0.out; omega))
    refine mute_at (i := 15) none rfl rfl (by rfl) (by kernel_rfl) W3 (put_mute 23 (.tmp 4) (.tmp 23) rfl _ _ rfl rfl hr3) (SS.out _ A3.out) (fun hHeld => ?_)
    simp only [Act.put]
    refine take_at (i := 16) (v := ?_) (some 5) rfl rfl (by kernel_rfl) (by kernel_rfl) (by kernel_rfl) (fun _ _ _ h => by cases h.1) (Or.inl ⟨by rfl, ?_⟩) (by assumption) ?_
    rotate_left
    · (intro w hSw; (try dsimp only at hSw); (try obtain ⟨_q1, _q2⟩ := hSw); go_simp; try with_reducible rfl)
    simp only [Act.put, List.setIfInBounds_toArray, List.set_cons_zero, List.set_cons_succ]
    refine wpAnyH_done (by kernel_rfl) ?_ _
    refine ⟨rfl, ?_⟩
    clear hst hr3 b3 A1 A2 c5 g5 hHeld hB s1 s2 b1 hS z4
    have c1 := S3.out.c1
    gi_wp2
    refine ⟨trivial, ?_⟩
    refine CallsIn.mono ((callsIn_wide (n := _)).2 (SZ.out W3)) ?_
    rintro e w' ⟨rfl, hw⟩
    subst w'
    gi_wp2
    exact ⟨.tuple #[.pointer none, .int .i64 4], by simp [results, Tryd.results15, go_sem], rfl, A3.out⟩
end Go.Proofs.YtkncnpjhfcfmnaaDoor
