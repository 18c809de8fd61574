/-
  Walks, not a claim by itself: Read of bytes that may be a set's. By the verifier.
-/
import Derived.Test.YtkncnpjhfcfmnaaDoorFRd
namespace Go.Proofs.YtkncnpjhfcfmnaaDoor
open Go.RowKit Go.Shelf
attribute [local go_sem] Oper.semAt_some
/-- What holds while bytes are read. -/
structure RdI (W W3 : World) (bb off L C : Nat) (f : Nat → Int) (S B : Nat) (k : Nat) (X : World) : Prop where
  m : ThrMem (W3.heap.size + 1) (W3.heap.size + 2) (rdC f) (.func (.func 53) #[] #[.pointer (some ⟨W3.heap.size, 0, none⟩)]) X
  s : SAt X S (rdC f) (rdH f (rdC f) k)
  c : X.cell? ⟨B, 0, none⟩ = some (.pointer (some ⟨S, 0, none⟩))
  cb : X.cell? ⟨W3.heap.size, 0, none⟩ = some (.slice (some ⟨bb, off, none⟩) L C)
  l : Lies X bb off L f
  b : Below W.heap.size W X
  z : W3.heap.size + 3 ≤ X.heap.size
  bl : bb < W.heap.size
theorem Lies.belowB {u v : World} {b off n B : Nat} {f : Nat → Int} (h : Lies u b off n f) (hb : Below B u v) (hl : b < B) : Lies v b off n f :=
  ⟨fun j hj => (hb.cell (p := ⟨b, off + j, none⟩) hl).trans (h.1 j hj), h.2.1, Nat.lt_of_lt_of_le h.2.2 hb.size⟩
theorem RdI.below {W W3 X X' : World} {bb off L C S B k : Nat} {f : Nat → Int} (i : RdI W W3 bb off L C f S B k X) (hb : Below (W3.heap.size + 3) X X') (hB : B < W3.heap.size) (hS : S < W3.heap.size) (hW : W.heap.size ≤ W3.heap.size) : RdI W W3 bb off L C f S B k X' :=
  ⟨i.m.below hb (by omega) (by omega), i.s.belowB hb (by omega), (hb.cell (p := ⟨B, 0, none⟩) (by show B < _; omega)).trans i.c, (hb.cell (p := ⟨W3.heap.size, 0, none⟩) (by show W3.heap.size < _; omega)).trans i.cb, i.l.belowB hb (by have := i.bl; omega), i.b.trans (hb.mono (by omega)), Nat.le_trans i.z hb.size, i.bl⟩
theorem rd_start (W W3 : World) (bb off L C : Nat) (f : Nat → Int) (S B : Nat) (s : SAt W3 S (rdC f) (iniH (rdC f))) (c : W3.cell? ⟨B, 0, none⟩ = some (.pointer (some ⟨S, 0, none⟩))) (b : Below W.heap.size W W3) (l : Lies W bb off L f) (hB : B < W3.heap.size) (X : World)
    (hX : X = ((W3.alloc (.cells #[.slice (some ⟨bb, off, none⟩) L C] 38)).alloc (.cells #[.int .i64 ((rdC f : Nat) : Int)] 3)).alloc (.cells #[.func (.func 53) #[] #[.pointer (some ⟨W3.heap.size, 0, none⟩)]] 58)) : RdI W W3 bb off L C f S B 0 X := by
  have bX : Below W3.heap.size W3 X := by rw [hX]; exact (((Below.refl _ _).alloc (Nat.le_refl _) _).alloc (by simp) _).alloc (by simp; omega) _
  refine ⟨⟨?_, ?_⟩, by rw [rdH_zero]; exact s.below bX, (bX.cell (p := ⟨B, 0, none⟩) hB).trans c, ?_, l.below (b.trans (bX.mono b.size)), b.trans (bX.mono b.size), by rw [hX]; simp, l.2.2⟩
  · rw [hX]; simp [go_sem]
  · rw [hX]; simp [go_sem]
  · rw [hX]; simp [go_sem]
theorem rd_step (W W3 : World) (bb off L C : Nat) (f : Nat → Int) (S B k : Nat) (X2 X3 : World) (i : RdI W W3 bb off L C f S B k X2) (q1 : SAt X3 S (rdC f) (rdH f (rdC f) (k + 1))) (q2 : But S X2 X3) (q3 : X3.heap.size = X2.heap.size) (hBS : B ≠ S) (hS : W.heap.size ≤ S) (hS3 : S < W3.heap.size) (hW : W.heap.size ≤ W3.heap.size) (hB : B < W3.heap.size) : RdI W W3 bb off L C f S B (k + 1) X3 := by
  have zz := i.z
  have bl := i.bl
  have nm : ∀ (p : Nat), p < X2.heap.size → p ≠ S → ∀ o, X3.cell? ⟨p, o, none⟩ = X2.cell? ⟨p, o, none⟩ := fun p hp hn o => q2.cell (p := ⟨p, o, none⟩) hp hn
  exact ⟨⟨(nm _ (by omega) (by omega) _).trans i.m.cn, (nm _ (by omega) (by omega) _).trans i.m.ch⟩, q1, (nm _ (by omega) hBS _).trans i.c, (nm _ (by omega) (by omega) _).trans i.cb, i.l.but q2 (by omega), i.b.trans (q2.below hS (by omega)), by rw [q3]; exact zz, bl⟩
/-- How Read ends, where the length is right. -/
def RdEnd (W : World) (L : Nat) (f : Nat → Int) (e : Ending) (w' : World) : Prop :=
  (txtN (szN (rdC f)) (byF (rdC f) (rdH f (rdC f) (rdC f)) (rdC f)) = txtN L f ∧ ∃ S, W.heap.size ≤ S ∧ e = .returned (.tuple #[.pointer (some ⟨S, 0, none⟩), .int .i64 0]) ∧ SAt w' S (rdC f) (rdH f (rdC f) (rdC f)) ∧ Below W.heap.size W w') ∨
  (¬ txtN (szN (rdC f)) (byF (rdC f) (rdH f (rdC f) (rdC f)) (rdC f)) = txtN L f ∧ e = .returned (.tuple #[.pointer none, .int .i64 4]) ∧ Below W.heap.size W w')
set_option maxRecDepth 100000 in
set_option maxHeartbeats 2000000 in
theorem read_loop (W : World) (bb off L C : Nat) (f : Nat → Int) (l : Lies W bb off L f) (hL : 2 ≤ L) (n1 : 1 ≤ rdC f) (n2 : rdC f ≤ 512) (hsz : L = szN (rdC f)) : Calls Tryd.prog 15 #[.slice (some ⟨bb, off, none⟩) L C] W (RdEnd W L f) := by
  refine (callsIn_wide (n := 5)).1 ?_
  have hb := l.2.2
  have y0 := l.2.1 0 (by omega)
  have y1 := l.2.1 1 (by omega)
  have i0 : ¬ (L : Int) < 2 := by omega
  have i1 : (1 : Int) < (L : Int) := by omega
  have i2 : (0 : Int) < (L : Int) := by omega
  have i3 : 0 < L := by omega
  have w0 : IntKind.i64.wrap (f 0) = f 0 := by rw [IntKind.wrap_i64]; omega
  have w1 : IntKind.i64.wrap (f 1) = f 1 := by rw [IntKind.wrap_i64]; omega
  have w2 : IntKind.i64.wrap (f 1 * 256) = f 1 * 256 := by rw [IntKind.wrap_i64]; omega
  have w3 := rdC_or f y0 y1
  have SS : Hid (∀ X, Below W.heap.size W X → X.cell? ⟨bb, off, none⟩ = some (.int .u8 (f 0)) ∧ X.cell? ⟨bb, off + 1, none⟩ = some (.int .u8 (f 1))) := fun X hX => ⟨(hX.cell (p := ⟨bb, off, none⟩) hb).trans (l.1 0 (by omega)), (hX.cell (p := ⟨bb, off + 1, none⟩) hb).trans (l.1 1 (by omega))⟩
  have NW := hidIt fun (u : World) => new_ok u (rdC f) n1 n2
  have SZ := hidIt fun (u : World) => size_ok (rdC f) (by omega) u
  have SO := hidIt (rdH_sok f (rdC f) (rdC f) n1 n2 (Nat.le_refl _))
  have i9 : ((L : Int) != ((szN (rdC f) : Nat) : Int)) = false := by rw [hsz]; simp
  have LL := hidIt l
  have HSZ := hidIt hsz
  clear l hsz
  refine callsIn_of_wp_marks Tryd.func15 rfl trivial ?_ rfl
  simp only [Tryd.ntmps15, List.size_toArray, List.length_cons, List.length_nil, Nat.reduceAdd, Nat.reduceSub, Array.replicate_succ, Array.replicate_zero, List.push_toArray, List.append_toArray, List.nil_append, List.cons_append]
  gi_wp2
  refine region_wd (S := fun X => X.cell? ⟨bb, off, none⟩ = some (.int .u8 (f 0)) ∧ X.cell? ⟨bb, off + 1, none⟩ = some (.int .u8 (f 1))) (by kernel_rfl) (by kernel_rfl) (SS.out _ (Below.refl _ _).drew) (fun hHeld => ?_)
  refine take_at (i := 0) (v := ?_) (some 12) rfl rfl (by kernel_rfl) (by kernel_rfl) (by kernel_rfl) (fun _ _ _ h => by cases h.1) (Or.inl ⟨by rfl, ?_⟩) (by assumption) ?_
  rotate_left
  · (intro w hSw; (try dsimp only at hSw); (try obtain ⟨_q1, _q2⟩ := hSw); go_simp; try with_reducible rfl)
  simp only [Act.put, List.setIfInBounds_toArray, List.set_cons_zero, List.set_cons_succ]
  refine take_at (i := 1) (v := ?_) (some 13) rfl rfl (by kernel_rfl) (by kernel_rfl) (by kernel_rfl) (fun _ _ _ h => by cases h.1) (Or.inl ⟨by rfl, ?_⟩) (by assumption) ?_
  rotate_left
  · (intro w hSw; (try dsimp only at hSw); (try obtain ⟨_q1, _q2⟩ := hSw); go_simp; try with_reducible rfl)
  simp only [Act.put, List.setIfInBounds_toArray, List.set_cons_zero, List.set_cons_succ]
  refine take_at (i := 2) (v := ?_) (some 14) rfl rfl (by kernel_rfl) (by kernel_rfl) (by kernel_rfl) (fun _ _ _ h => by cases h.1) (Or.inl ⟨by rfl, ?_⟩) (by assumption) ?_
  rotate_left
  · (intro w hSw; (try dsimp only at hSw); (try obtain ⟨_q1, _q2⟩ := hSw); go_simp; try with_reducible rfl)
  simp only [Act.put, List.setIfInBounds_toArray, List.set_cons_zero, List.set_cons_succ]
  refine take_at (i := 3) (v := ?_) (some 15) rfl rfl (by kernel_rfl) (by kernel_rfl) (by kernel_rfl) (fun _ _ _ h => by cases h.1) (Or.inl ⟨by rfl, ?_⟩) (by assumption) ?_
  rotate_left
  · (intro w hSw; (try dsimp only at hSw); (try obtain ⟨_q1, _q2⟩ := hSw); go_simp; try with_reducible rfl)
  simp only [Act.put, List.setIfInBounds_toArray, List.set_cons_zero, List.set_cons_succ]
  refine take_at (i := 4) (v := ?_) (some 16) rfl rfl (by kernel_rfl) (by kernel_rfl) (by kernel_rfl) (fun _ _ _ h => by cases h.1) (Or.inl ⟨by rfl, ?_⟩) (by assumption) ?_
  rotate_left
  · (intro w hSw; (try dsimp only at hSw); (try obtain ⟨_q1, _q2⟩ := hSw); go_simp; try with_reducible rfl)
  simp only [Act.put, List.setIfInBounds_toArray, List.set_cons_zero, List.set_cons_succ]
  refine take_at (i := 5) (v := ?_) (some 17) rfl rfl (by kernel_rfl) (by kernel_rfl) (by kernel_rfl) (fun _ _ _ h => by cases h.1) (Or.inl ⟨by rfl, ?_⟩) (by assumption) ?_
  rotate_left
  · (intro w hSw; (try dsimp only at hSw); (try obtain ⟨_q1, _q2⟩ := hSw); go_simp; try with_reducible rfl)
  simp only [Act.put, List.setIfInBounds_toArray, List.set_cons_zero, List.set_cons_succ]
  refine take_at (i := 6) (v := ?_) (some 18) rfl rfl (by kernel_rfl) (by kernel_rfl) (by kernel_rfl) (fun _ _ _ h => by cases h.1) (Or.inl ⟨by rfl, ?_⟩) (by assumption) ?_
  rotate_left
  · (intro w hSw; (try dsimp only at hSw); (try obtain ⟨_q1, _q2⟩ := hSw); go_simp; try with_reducible rfl)
  simp only [Act.put, List.setIfInBounds_toArray, List.set_cons_zero, List.set_cons_succ]
  refine take_at (i := 7) (v := ?_) (some 19) rfl rfl (by kernel_rfl) (by kernel_rfl) (by kernel_rfl) (fun _ _ _ h => by cases h.1) (Or.inl ⟨by rfl, ?_⟩) (by assumption) ?_
  rotate_left
  · (intro w hSw; (try dsimp only at hSw); (try obtain ⟨_q1, _q2⟩ := hSw); go_simp; try with_reducible rfl)
  simp only [Act.put, List.setIfInBounds_toArray, List.set_cons_zero, List.set_cons_succ]
  refine take_at (i := 8) (v := ?_) (some 20) rfl rfl (by kernel_rfl) (by kernel_rfl) (by kernel_rfl) (fun _ _ _ h => by cases h.1) (Or.inl ⟨by rfl, ?_⟩) (by assumption) ?_
  rotate_left
  · (intro w hSw; (try dsimp only at hSw); (try obtain ⟨_q1, _q2⟩ := hSw); go_simp; try with_reducible rfl)
  simp only [Act.put, List.setIfInBounds_toArray, List.set_cons_zero, List.set_cons_succ]
  refine take_at (i := 9) (v := ?_) (some 21) rfl rfl (by kernel_rfl) (by kernel_rfl) (by kernel_rfl) (fun _ _ _ h => by cases h.1) (Or.inl ⟨by rfl, ?_⟩) (by assumption) ?_
  rotate_left
  · (intro w hSw; (try dsimp only at hSw); (try obtain ⟨_q1, _q2⟩ := hSw); go_simp; try with_reducible rfl)
  simp only [Act.put, List.setIfInBounds_toArray, List.set_cons_zero, List.set_cons_succ]
  refine duo_at (i := 10) (j := 14) (some 22) (some 4) 9 #[.tmp 21] _ rfl rfl rfl rfl rfl (by rfl) (by rfl) (by kernel_rfl) _ _ (alloc_run 23 rfl (.pointer none) (by kernel_rfl) rfl) (SS.out _ ((Below.refl _ _).drew.alloc (Nat.le_refl _) _)) (fun hHeld => ?_) #[.int .i64 ((rdC f : Nat) : Int)] rfl Tryd.func9 (by kernel_rfl) (by kernel_rfl) ?_
  · simp only [Act.put, List.setIfInBounds_toArray, List.set_cons_zero, List.set_cons_succ]
    have A1 : Hid (Below W.heap.size W (W.drew.alloc (.cells #[.pointer none] 23))) := ((Below.refl _ _).drew.alloc (Nat.le_refl _) _)
    have c4 : (W.drew.alloc (.cells #[.pointer none] 23)).cell? ⟨W.heap.size, 0, none⟩ = some (.pointer none) := World.cell?_alloc_at (w := W.drew) _ _ _ _ rfl
    have g4 : (W.drew.alloc (.cells #[.pointer none] 23)).frozen? ⟨W.heap.size, 0, none⟩ = false := by simp [go_sem]
    have z4 : (W.drew.alloc (.cells #[.pointer none] 23)).heap.size = W.heap.size + 1 := by simp
    refine call_at (i := 10) (some 22) 9 #[.tmp 21] _ rfl rfl rfl (by rfl) (by kernel_rfl) #[.int .i64 ((rdC f : Nat) : Int)] rfl Tryd.func9 (by kernel_rfl) (by kernel_rfl) ?_
    generalize (W.drew.alloc (.cells #[.pointer none] 23)) = W1 at A1 c4 g4 z4 ⊢
    refine (NW.out W1).mono ?_
    rintro e W2 ⟨rfl, s2, b2⟩
    obtain ⟨S, hS⟩ : ∃ S, W1.heap.size = S := ⟨_, rfl⟩
    rw [hS] at s2 ⊢
    obtain ⟨B, hB⟩ : ∃ B, W.heap.size = B := ⟨_, rfl⟩
    have c5 : W2.cell? ⟨W.heap.size, 0, none⟩ = some (.pointer none) := (b2.cell (p := ⟨W.heap.size, 0, none⟩) (by show W.heap.size < _; omega)).trans c4
    have g5 : W2.frozen? ⟨W.heap.size, 0, none⟩ = false := (b2.frozen (p := ⟨W.heap.size, 0, none⟩) (by show W.heap.size < _; omega)).trans g4
    have A2 : Hid (Below W.heap.size W W2) := A1.out.trans (b2.mono (by omega))
    have F0 : Hid (W.heap.size ≤ B ∧ W.heap.size ≤ S ∧ B ≠ S ∧ B < W2.heap.size) := ⟨by omega, by omega, by omega, by have := b2.size; omega⟩
    rw [hB] at c5 g5
    refine ⟨_, rfl, SS.out _ A2.out, fun hHeld => ?_⟩
    simp only [Act.put, List.setIfInBounds_toArray, List.set_cons_zero, List.set_cons_succ]
    refine take_at (i := 11) (v := ?_) (some 11) rfl rfl (by kernel_rfl) (by kernel_rfl) (by kernel_rfl) (fun _ _ _ h => by cases h.1) (Or.inl ⟨by rfl, ?_⟩) (by assumption) ?_
    rotate_left
    · (intro w hSw; (try dsimp only at hSw); (try obtain ⟨_q1, _q2⟩ := hSw); go_simp; try with_reducible rfl)
    simp only [Act.put, List.setIfInBounds_toArray, List.set_cons_zero, List.set_cons_succ]
    refine take_at (i := 12) (v := ?_) (some 23) rfl rfl (by kernel_rfl) (by kernel_rfl) (by kernel_rfl) (fun _ _ _ h => by cases h.1) (Or.inl ⟨by rfl, ?_⟩) (by assumption) ?_
    rotate_left
    · (intro w hSw; (try dsimp only at hSw); (try obtain ⟨_q1, _q2⟩ := hSw); go_simp; try with_reducible rfl)
    simp only [Act.put, List.setIfInBounds_toArray, List.set_cons_zero, List.set_cons_succ]
    refine take_at (i := 13) (v := ?_) (some 24) rfl rfl (by kernel_rfl) (by kernel_rfl) (by kernel_rfl) (fun _ _ _ h => by cases h.1) (Or.inl ⟨by rfl, ?_⟩) (by assumption) ?_
    rotate_left
    · (intro w hSw; (try dsimp only at hSw); (try obtain ⟨_q1, _q2⟩ := hSw); go_simp; try with_reducible rfl)
    simp only [Act.put, List.setIfInBounds_toArray, List.set_cons_zero, List.set_cons_succ]
    have hst : (Instr.storeAt 23 (.pointer (some ⟨B, 0, none⟩)) (.pointer (some ⟨S, 0, none⟩))).run Tryd.prog W2 = .ok () (W2.setCell ⟨B, 0, none⟩ (.pointer (some ⟨S, 0, none⟩))) := by simp [go_sem, c5, g5]
    obtain ⟨W3, hr3, c3, b3, z3⟩ := put_one 23 _ c5 hst
    have A3 : Hid (Below W.heap.size W W3) := A2.out.trans (b3.below (by have := F0.out; omega) A2.out.size)
    have S3 := hidIt (s2.but b3 (by have := F0.out; omega))
    rw [← hB] at hr3
    refine mute_at (i := 15) none rfl rfl (by rfl) (by kernel_rfl) W3 (put_mute 23 (.tmp 4) (.tmp 23) rfl _ _ rfl rfl hr3) (SS.out _ A3.out) (fun hHeld => ?_)
    simp only [Act.put]
    try rw [hB]
    refine take_at (i := 16) (v := ?_) (some 5) rfl rfl (by kernel_rfl) (by kernel_rfl) (by kernel_rfl) (fun _ _ _ h => by cases h.1) (Or.inl ⟨by rfl, ?_⟩) (by assumption) ?_
    rotate_left
    · (intro w hSw; (try dsimp only at hSw); (try obtain ⟨_q1, _q2⟩ := hSw); go_simp; try with_reducible rfl)
    simp only [Act.put, List.setIfInBounds_toArray, List.set_cons_zero, List.set_cons_succ]
    refine wpAnyH_done (by kernel_rfl) ?_ _
    refine ⟨rfl, ?_⟩
    clear hst hr3 b3 A1 A2 c4 g4 z4 c5 g5 hHeld s2 b2 hS
    have c1 := S3.out.c1
    have z3' : B < W3.heap.size := by rw [z3]; exact F0.out.2.2.2
    clear z3
    gi_wp2
    refine ⟨trivial, ?_⟩
    refine CallsIn.mono ((callsIn_wide (n := _)).2 (SZ.out W3)) ?_
    rintro e w' ⟨rfl, hw⟩
    subst w'
    gi_wp2
    refine ⟨trivial, ?_⟩
    refine CallsIn.mono ((callsIn_wide (n := _)).2 (said_ok W3 (some ⟨bb, off, none⟩) L C ((rdC f : Nat) : Int))) ?_
    rintro e w' ⟨rfl, hw⟩
    have I0 := rd_start W W3 bb off L C f S B S3.out c3 A3.out LL.out z3' _ hw
    have z5 : w'.heap.size = W3.heap.size + 3 := by rw [hw]; simp
    clear hw
    gi_wp2
    refine range_thr (m := 5) 43 44 (by omega) (W3.heap.size + 1) (W3.heap.size + 2) (rdC f) n2 53 (fun _ _ => by simp [go_sem]) [] [.pointer (some ⟨W3.heap.size, 0, none⟩)] (fun i => ((sdN f i : Nat) : Int)) rfl (RdI W W3 bb off L C f S B) (fun k X X' i hB => i.below (by rw [← z5]; exact hB) (by omega) S3.out.l (by have := A3.out.size; omega)) (fun k X i => by rw [z5]; exact i.z) I0 (fun k X i => i.m) (fun k X hk i => (said1_ok X W3.heap.size bb off L C f k (by omega) i.cb i.l (by rw [HSZ.out]; unfold szN; omega)).mono fun e w' q => ⟨q.1, by rw [q.2]; exact Below.refl _ _⟩) ?_ ?_
    · intro l k X hk hI hl1 hl2
      have i0 : Hid (∀ X', But l X X' → RdI W W3 bb off L C f S B k X') := fun X' hB => hI.below (hB.below (by omega) hI.z) (by omega) S3.out.l (by have := A3.out.size; omega)
      have sl := S3.out.l
      clear hI I0
      rw [z5] at hl1 ⊢
      simp only [List.setIfInBounds_toArray, List.set_cons_zero, List.set_cons_succ]
      gi_wp2
      refine ⟨KeepsFrom.refl _ _, fun X2 hB2 hz2 => ?_⟩
      have I2 := hidIt (i0.out X2 hB2)
      have c2 := I2.out.c
      clear i0 hB2 hz2
      gi_wp2
      refine ⟨trivial, ?_⟩
      refine (CallsIn.inRound l ((callsIn_wide (n := _)).2 (sput_ok X2 S (rdC f) (rdH f (rdC f) k) k (sdN f k) (by omega) I2.out.s))).mono ?_
      rintro e X3 ⟨rfl, q1, q2, q3⟩
      rw [rdH_step] at q1
      have FF : Hid (RdI W W3 bb off L C f S B (k + 1) X3 ∧ KeepsFrom (W3.heap.size + 3) X2 X3) := ⟨rd_step W W3 bb off L C f S B k X2 X3 I2.out q1 q2 q3 F0.out.2.2.1 F0.out.2.1 sl (by have := A3.out.size; omega) z3', keeps_but q2 (by omega)⟩
      clear q1 q2 q3 I2 c2
      gi_wp2
      exact ⟨FF.out.2, FF.out.1⟩
    · intro D X hD hI hd
      have cB := hI.c
      have E := hidIt hI
      rw [z5] at hD
      have DX : D < X.heap.size := (Array.getElem?_eq_some_iff.1 hd).1
      clear hI I0
      gi_wp2
      refine ⟨trivial, ?_⟩
      refine CallsIn.mono ((callsIn_wide (n := _)).2 (bytes_ok X S (rdC f) (rdH f (rdC f) (rdC f)) E.out.s SO.out)) ?_
      rintro e X2 ⟨rfl, r2, b2⟩
      have R2 := hidIt r2
      have B2 := hidIt b2
      have cB2 : X2.cell? ⟨B, 0, none⟩ = some (.pointer (some ⟨S, 0, none⟩)) := (b2.cell (p := ⟨B, 0, none⟩) (by show B < _; have := E.out.z; omega)).trans cB
      have hd2 : X2.heap[D]? = some (.deferred (some [])) := (b2.block D DX).trans hd
      clear r2 b2 cB
      gi_wp2
      refine ⟨trivial, ?_⟩
      refine CallsIn.mono ((callsIn_wide (n := _)).2 (equal_any (some ⟨X.heap.size, 0, none⟩) (some ⟨bb, off, none⟩) (szN (rdC f)) L (szN (rdC f)) C _ f X2 (Arg.of (R2.out.lies (fun j _ => byF_range _ _ SO.out.le n2 _ j))) (Arg.of (E.out.l.below B2.out)))) ?_
      rintro e w' ⟨rfl, hw⟩
      subst w'
      have U : But D X2 (X2.putObj D (.deferred none)) := But.putO _ _ _
      have BF : Hid (Below W.heap.size W (X2.putObj D (.deferred none))) := (E.out.b.trans (B2.out.mono E.out.b.size)).trans (U.below (by have := A3.out.size; omega) (by have := B2.out.size; have := E.out.b.size; omega))
      have SF : Hid (SAt (X2.putObj D (.deferred none)) S (rdC f) (rdH f (rdC f) (rdC f))) := (E.out.s.below B2.out).but U (by have := S3.out.l; omega)
      clear U
      by_cases he : txtN (szN (rdC f)) (byF (rdC f) (rdH f (rdC f) (rdC f)) (rdC f)) = txtN L f
      · rw [decide_eq_true he]
        have HE := hidIt he
        clear he
        gi_wp2
        refine And.intro (by simp) (Or.inl ⟨_, _, rfl, run_takeDeferred hd2, ?_⟩)
        refine ⟨.tuple #[.pointer (some ⟨S, 0, none⟩), .int .i64 0], by simp [results, Tryd.results15, go_sem], .inl ⟨HE.out, S, F0.out.2.1, rfl, SF.out, BF.out⟩⟩
      · rw [decide_eq_false he]
        have HE := hidIt he
        clear he
        gi_wp2
        refine And.intro (by simp) (Or.inl ⟨_, _, rfl, run_takeDeferred hd2, ?_⟩)
        refine ⟨.tuple #[.pointer none, .int .i64 4], by simp [results, Tryd.results15, go_sem], .inr ⟨HE.out, rfl, BF.out⟩⟩
  · refine (NW.out W.drew).mono ?_
    rintro e W1 ⟨rfl, s1, b1⟩
    obtain ⟨S, hS⟩ : ∃ S, W.drew.heap.size = S := ⟨_, rfl⟩
    rw [hS] at s1 ⊢
    have A1 : Hid (Below W.heap.size W W1) := (Below.refl _ _).drew.trans b1
    refine ⟨_, rfl, SS.out _ A1.out, fun hHeld => ?_⟩
    simp only [Act.put, List.setIfInBounds_toArray, List.set_cons_zero, List.set_cons_succ]
    refine take_at (i := 11) (v := ?_) (some 11) rfl rfl (by kernel_rfl) (by kernel_rfl) (by kernel_rfl) (fun _ _ _ h => by cases h.1) (Or.inl ⟨by rfl, ?_⟩) (by assumption) ?_
    rotate_left
    · (intro w hSw; (try dsimp only at hSw); (try obtain ⟨_q1, _q2⟩ := hSw); go_simp; try with_reducible rfl)
    simp only [Act.put, List.setIfInBounds_toArray, List.set_cons_zero, List.set_cons_succ]
    refine take_at (i := 12) (v := ?_) (some 23) rfl rfl (by kernel_rfl) (by kernel_rfl) (by kernel_rfl) (fun _ _ _ h => by cases h.1) (Or.inl ⟨by rfl, ?_⟩) (by assumption) ?_
    rotate_left
    · (intro w hSw; (try dsimp only at hSw); (try obtain ⟨_q1, _q2⟩ := hSw); go_simp; try with_reducible rfl)
    simp only [Act.put, List.setIfInBounds_toArray, List.set_cons_zero, List.set_cons_succ]
    refine take_at (i := 13) (v := ?_) (some 24) rfl rfl (by kernel_rfl) (by kernel_rfl) (by kernel_rfl) (fun _ _ _ h => by cases h.1) (Or.inl ⟨by rfl, ?_⟩) (by assumption) ?_
    rotate_left
    · (intro w hSw; (try dsimp only at hSw); (try obtain ⟨_q1, _q2⟩ := hSw); go_simp; try with_reducible rfl)
    simp only [Act.put, List.setIfInBounds_toArray, List.set_cons_zero, List.set_cons_succ]
    refine step_at (i := 14) (some 4) rfl rfl (by rfl) (by kernel_rfl) _ _ (alloc_run 23 rfl (.pointer none) (by kernel_rfl) rfl) (SS.out _ (A1.out.alloc A1.out.size _)) (fun hHeld => ?_)
    simp only [Act.put, List.setIfInBounds_toArray, List.set_cons_zero, List.set_cons_succ]
    have A2 : Hid (Below W.heap.size W (W1.alloc (.cells #[.pointer none] 23))) := A1.out.alloc A1.out.size _
    have c5 : (W1.alloc (.cells #[.pointer none] 23)).cell? ⟨W1.heap.size, 0, none⟩ = some (.pointer none) := by rw [World.cell?_alloc_at _ _ _ _ rfl]; rfl
    have g5 : (W1.alloc (.cells #[.pointer none] 23)).frozen? ⟨W1.heap.size, 0, none⟩ = false := by simp [go_sem]
    obtain ⟨B, hB⟩ : ∃ B, W1.heap.size = B := ⟨_, rfl⟩
    have z4 : (W1.alloc (.cells #[.pointer none] 23)).heap.size = W1.heap.size + 1 := by simp
    have s2 := s1.below ((Below.refl _ _).alloc (Nat.le_refl _) (.cells #[.pointer none] 23))
    have F0 : Hid (W.heap.size ≤ B ∧ W.heap.size ≤ S ∧ B ≠ S ∧ B < (W1.alloc (.cells #[.pointer none] 23)).heap.size) := ⟨by have := A1.out.size; omega, by rw [← hS]; exact Nat.le_refl _, by have := s1.l; omega, by omega⟩
    generalize (W1.alloc (.cells #[.pointer none] 23)) = W2 at *
    rw [hB] at c5 g5 ⊢
    have hst : (Instr.storeAt 23 (.pointer (some ⟨B, 0, none⟩)) (.pointer (some ⟨S, 0, none⟩))).run Tryd.prog W2 = .ok () (W2.setCell ⟨B, 0, none⟩ (.pointer (some ⟨S, 0, none⟩))) := by simp [go_sem, c5, g5]
    obtain ⟨W3, hr3, c3, b3, z3⟩ := put_one 23 _ c5 hst
    have A3 : Hid (Below W.heap.size W W3) := A2.out.trans (b3.below (by have := F0.out; omega) A2.out.size)
    have S3 := hidIt (s2.but b3 (by have := F0.out; omega))
    refine mute_at (i := 15) none rfl rfl (by rfl) (by kernel_rfl) W3 (put_mute 23 (.tmp 4) (.tmp 23) rfl _ _ rfl rfl hr3) (SS.out _ A3.out) (fun hHeld => ?_)
    simp only [Act.put]
    refine take_at (i := 16) (v := ?_) (some 5) rfl rfl (by kernel_rfl) (by kernel_rfl) (by kernel_rfl) (fun _ _ _ h => by cases h.1) (Or.inl ⟨by rfl, ?_⟩) (by assumption) ?_
    rotate_left
    · (intro w hSw; (try dsimp only at hSw); (try obtain ⟨_q1, _q2⟩ := hSw); go_simp; try with_reducible rfl)
    simp only [Act.put, List.setIfInBounds_toArray, List.set_cons_zero, List.set_cons_succ]
    refine wpAnyH_done (by kernel_rfl) ?_ _
    refine ⟨rfl, ?_⟩
    clear hst hr3 b3 A1 A2 c5 g5 hHeld hB s1 s2 b1 hS z4
    have c1 := S3.out.c1
    have z3' : B < W3.heap.size := by rw [z3]; exact F0.out.2.2.2
    clear z3
    gi_wp2
    refine ⟨trivial, ?_⟩
    refine CallsIn.mono ((callsIn_wide (n := _)).2 (SZ.out W3)) ?_
    rintro e w' ⟨rfl, hw⟩
    subst w'
    gi_wp2
    refine ⟨trivial, ?_⟩
    refine CallsIn.mono ((callsIn_wide (n := _)).2 (said_ok W3 (some ⟨bb, off, none⟩) L C ((rdC f : Nat) : Int))) ?_
    rintro e w' ⟨rfl, hw⟩
    have I0 := rd_start W W3 bb off L C f S B S3.out c3 A3.out LL.out z3' _ hw
    have z5 : w'.heap.size = W3.heap.size + 3 := by rw [hw]; simp
    clear hw
    gi_wp2
    refine range_thr (m := 5) 43 44 (by omega) (W3.heap.size + 1) (W3.heap.size + 2) (rdC f) n2 53 (fun _ _ => by simp [go_sem]) [] [.pointer (some ⟨W3.heap.size, 0, none⟩)] (fun i => ((sdN f i : Nat) : Int)) rfl (RdI W W3 bb off L C f S B) (fun k X X' i hB => i.below (by rw [← z5]; exact hB) (by omega) S3.out.l (by have := A3.out.size; omega)) (fun k X i => by rw [z5]; exact i.z) I0 (fun k X i => i.m) (fun k X hk i => (said1_ok X W3.heap.size bb off L C f k (by omega) i.cb i.l (by rw [HSZ.out]; unfold szN; omega)).mono fun e w' q => ⟨q.1, by rw [q.2]; exact Below.refl _ _⟩) ?_ ?_
    · intro l k X hk hI hl1 hl2
      have i0 : Hid (∀ X', But l X X' → RdI W W3 bb off L C f S B k X') := fun X' hB => hI.below (hB.below (by omega) hI.z) (by omega) S3.out.l (by have := A3.out.size; omega)
      have sl := S3.out.l
      clear hI I0
      rw [z5] at hl1 ⊢
      simp only [List.setIfInBounds_toArray, List.set_cons_zero, List.set_cons_succ]
      gi_wp2
      refine ⟨KeepsFrom.refl _ _, fun X2 hB2 hz2 => ?_⟩
      have I2 := hidIt (i0.out X2 hB2)
      have c2 := I2.out.c
      clear i0 hB2 hz2
      gi_wp2
      refine ⟨trivial, ?_⟩
      refine (CallsIn.inRound l ((callsIn_wide (n := _)).2 (sput_ok X2 S (rdC f) (rdH f (rdC f) k) k (sdN f k) (by omega) I2.out.s))).mono ?_
      rintro e X3 ⟨rfl, q1, q2, q3⟩
      rw [rdH_step] at q1
      have FF : Hid (RdI W W3 bb off L C f S B (k + 1) X3 ∧ KeepsFrom (W3.heap.size + 3) X2 X3) := ⟨rd_step W W3 bb off L C f S B k X2 X3 I2.out q1 q2 q3 F0.out.2.2.1 F0.out.2.1 sl (by have := A3.out.size; omega) z3', keeps_but q2 (by omega)⟩
      clear q1 q2 q3 I2 c2
      gi_wp2
      exact ⟨FF.out.2, FF.out.1⟩
    · intro D X hD hI hd
      have cB := hI.c
      have E := hidIt hI
      rw [z5] at hD
      have DX : D < X.heap.size := (Array.getElem?_eq_some_iff.1 hd).1
      clear hI I0
      gi_wp2
      refine ⟨trivial, ?_⟩
      refine CallsIn.mono ((callsIn_wide (n := _)).2 (bytes_ok X S (rdC f) (rdH f (rdC f) (rdC f)) E.out.s SO.out)) ?_
      rintro e X2 ⟨rfl, r2, b2⟩
      have R2 := hidIt r2
      have B2 := hidIt b2
      have cB2 : X2.cell? ⟨B, 0, none⟩ = some (.pointer (some ⟨S, 0, none⟩)) := (b2.cell (p := ⟨B, 0, none⟩) (by show B < _; have := E.out.z; omega)).trans cB
      have hd2 : X2.heap[D]? = some (.deferred (some [])) := (b2.block D DX).trans hd
      clear r2 b2 cB
      gi_wp2
      refine ⟨trivial, ?_⟩
      refine CallsIn.mono ((callsIn_wide (n := _)).2 (equal_any (some ⟨X.heap.size, 0, none⟩) (some ⟨bb, off, none⟩) (szN (rdC f)) L (szN (rdC f)) C _ f X2 (Arg.of (R2.out.lies (fun j _ => byF_range _ _ SO.out.le n2 _ j))) (Arg.of (E.out.l.below B2.out)))) ?_
      rintro e w' ⟨rfl, hw⟩
      subst w'
      have U : But D X2 (X2.putObj D (.deferred none)) := But.putO _ _ _
      have BF : Hid (Below W.heap.size W (X2.putObj D (.deferred none))) := (E.out.b.trans (B2.out.mono E.out.b.size)).trans (U.below (by have := A3.out.size; omega) (by have := B2.out.size; have := E.out.b.size; omega))
      have SF : Hid (SAt (X2.putObj D (.deferred none)) S (rdC f) (rdH f (rdC f) (rdC f))) := (E.out.s.below B2.out).but U (by have := S3.out.l; omega)
      clear U
      by_cases he : txtN (szN (rdC f)) (byF (rdC f) (rdH f (rdC f) (rdC f)) (rdC f)) = txtN L f
      · rw [decide_eq_true he]
        have HE := hidIt he
        clear he
        gi_wp2
        refine And.intro (by simp) (Or.inl ⟨_, _, rfl, run_takeDeferred hd2, ?_⟩)
        refine ⟨.tuple #[.pointer (some ⟨S, 0, none⟩), .int .i64 0], by simp [results, Tryd.results15, go_sem], .inl ⟨HE.out, S, F0.out.2.1, rfl, SF.out, BF.out⟩⟩
      · rw [decide_eq_false he]
        have HE := hidIt he
        clear he
        gi_wp2
        refine And.intro (by simp) (Or.inl ⟨_, _, rfl, run_takeDeferred hd2, ?_⟩)
        refine ⟨.tuple #[.pointer none, .int .i64 4], by simp [results, Tryd.results15, go_sem], .inr ⟨HE.out, rfl, BF.out⟩⟩
end Go.Proofs.YtkncnpjhfcfmnaaDoor
