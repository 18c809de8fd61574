/-
  Walks, not a claim by itself: a set beside the reference's: one act, and what both tell. By the verifier.
-/
import Derived.Test.YtkncnpjhfcfmnaaDoorFRmt
import Derived.Test.YtkncnpjhfcfmnaaDoorBOver
namespace Go.Proofs.YtkncnpjhfcfmnaaDoor
open Go.RowKit
/-- A set and the reference's, in a pair. -/
structure PI (W : World) (p b r B n : Nat) (h : Nat → Nat) (X : World) : Prop where
  c0 : X.cell? ⟨p, 0, none⟩ = some (.pointer (some ⟨b, 0, none⟩))
  f0 : X.frozen? ⟨p, 0, none⟩ = false
  c1 : X.cell? ⟨p, 1, none⟩ = some (.pointer (some ⟨r, 0, none⟩))
  pl : p < X.heap.size
  s : SAt X b n h
  k : SOk n h
  a : RAt X r B n h
  t : DTab X
  w : Below W.heap.size W X
  z0 : 0 < W.heap.size
  lp : W.heap.size ≤ p
  lb : W.heap.size ≤ b
  lr : W.heap.size ≤ r
  lB : W.heap.size ≤ B
  pb : p ≠ b
  pr : p ≠ r
  pB : p ≠ B
  br : b ≠ r
  bB : b ≠ B
theorem PI.kept {W X Y : World} {p b r B n : Nat} {h : Nat → Nat} (i : PI W p b r B n h X) (hb : Below X.heap.size X Y) : PI W p b r B n h Y :=
  ⟨(hb.cell (p := ⟨p, 0, none⟩) i.pl).trans i.c0, (hb.frozen (p := ⟨p, 0, none⟩) i.pl).trans i.f0, (hb.cell (p := ⟨p, 1, none⟩) i.pl).trans i.c1, Nat.lt_of_lt_of_le i.pl hb.size, i.s.below hb, i.k, i.a.below hb, i.t.below hb (Nat.lt_of_lt_of_le i.z0 i.w.size), i.w.trans (hb.mono i.w.size), i.z0, i.lp, i.lb, i.lr, i.lB, i.pb, i.pr, i.pB, i.br, i.bB⟩
/-- Both are changed alike. -/
theorem PI.both {W X Y Z : World} {p b r B n : Nat} {h h' : Nat → Nat} (i : PI W p b r B n h X) (s : SAt Y b n h') (k : SOk n h') (hb : But b X Y) (a : RAt Z r B n h') (hB : But B Y Z) : PI W p b r B n h' Z := by
  have z0 := i.z0
  have l1 := i.lb
  have l2 := i.lB
  have py : p < Y.heap.size := Nat.lt_of_lt_of_le i.pl hb.size
  have w1 := i.w.trans (hb.below l1 i.w.size)
  exact ⟨((hB.cell (p := ⟨p, 0, none⟩) py i.pB).trans (hb.cell (p := ⟨p, 0, none⟩) i.pl i.pb)).trans i.c0, ((hB.frozen (p := ⟨p, 0, none⟩) py i.pB).trans (hb.frozen (p := ⟨p, 0, none⟩) i.pl i.pb)).trans i.f0, ((hB.cell (p := ⟨p, 1, none⟩) py i.pB).trans (hb.cell (p := ⟨p, 1, none⟩) i.pl i.pb)).trans i.c1, Nat.lt_of_lt_of_le py hB.size, s.but hB i.bB, k, a, (i.t.but hb (by omega) (Nat.lt_of_lt_of_le z0 i.w.size)).but hB (by omega) (Nat.lt_of_lt_of_le z0 w1.size), w1.trans (hB.below l2 w1.size), z0, i.lp, i.lb, i.lr, i.lB, i.pb, i.pr, i.pB, i.br, i.bB⟩
theorem PI.ref {W X Y : World} {p b r B n : Nat} {h : Nat → Nat} (i : PI W p b r B n h X) (hb : But b X Y) : RAt Y r B n h := i.a.but hb (fun q => i.br q.symm) (fun q => i.bB q.symm)
/-- What an act answers and leaves. -/
def ActPost (W : World) (p r B n : Nat) (e : Ending) (w' : World) : Prop := e = .returned (.bool true) ∧ ∃ b h, PI W p b r B n h w'
def actC (K N : Int) : List Value := [.int .i64 K, .int .i64 N]
set_option maxRecDepth 100000 in
set_option maxHeartbeats 1000000 in
theorem act_take (W : World) (p b r B n : Nat) (h : Nat → Nat) (N : Int) (X : World) (i : PI W p b r B n h X) : Calls Tryd.prog 12 #[.pointer (some ⟨p, 0, none⟩), .agg #[.int .i64 1, .int .i64 N]] X (ActPost W p r B n) := by
  have I := hidIt i
  clear i
  go_enter Tryd.func12, Tryd.ntmps12
  go_wp2
  have J := hidIt (I.out.kept (Y := (X.alloc (.cells #[.int .i64 1, .int .i64 N] 36)).drew) ((Below.refl _ _).alloc (Nat.le_refl _) _).drew)
  have cN : (X.alloc (.cells #[.int .i64 1, .int .i64 N] 36)).drew.cell? ⟨X.heap.size, 1, none⟩ = some (.int .i64 N) := by simp [go_sem]
  have zX : X.heap.size < (X.alloc (.cells #[.int .i64 1, .int .i64 N] 36)).drew.heap.size := by simp
  have nb : X.heap.size ≠ b ∧ X.heap.size ≠ B := ⟨by have := I.out.s.l; omega, by have := I.out.a.w.2.2; omega⟩
  have SS : Hid (∀ Y, PI W p b r B n h Y → Y.cell? ⟨X.heap.size, 1, none⟩ = some (.int .i64 N) → (Y.cell? ⟨p, 0, none⟩ = some (.pointer (some ⟨b, 0, none⟩)) ∧ Y.cell? ⟨p, 1, none⟩ = some (.pointer (some ⟨r, 0, none⟩)) ∧ Y.cell? ⟨X.heap.size, 1, none⟩ = some (.int .i64 N))) := fun Y y c => ⟨y.c0, y.c1, c⟩
  refine wp_region_noPanic ?_
  refine wp_region_held_drew (S := fun Y => Y.cell? ⟨p, 0, none⟩ = some (.pointer (some ⟨b, 0, none⟩)) ∧ Y.cell? ⟨p, 1, none⟩ = some (.pointer (some ⟨r, 0, none⟩)) ∧ Y.cell? ⟨X.heap.size, 1, none⟩ = some (.int .i64 N)) (by kernel_rfl) (SS.out _ J.out cN) (fun hHeld => ?_)
  generalize ((X.alloc (.cells #[.int .i64 1, .int .i64 N] 36)).drew) = X1 at *
  refine take_at (i := 0) (v := ?_) (some 42) rfl rfl (by kernel_rfl) (by kernel_rfl) (by kernel_rfl) (fun _ _ _ h => h) (Or.inl ⟨by rfl, ?_⟩) (by assumption) ?_
  rotate_left
  · (intro w hSw; (try dsimp only at hSw); (try obtain ⟨_q1, _q2, _q3⟩ := hSw); go_simp; try with_reducible rfl)
  simp only [Act.put, List.setIfInBounds_toArray, List.set_cons_zero, List.set_cons_succ]
  refine take_at (i := 1) (v := ?_) (some 43) rfl rfl (by kernel_rfl) (by kernel_rfl) (by kernel_rfl) (fun _ _ _ h => h) (Or.inl ⟨by rfl, ?_⟩) (by assumption) ?_
  rotate_left
  · (intro w hSw; (try dsimp only at hSw); (try obtain ⟨_q1, _q2, _q3⟩ := hSw); go_simp; try with_reducible rfl)
  simp only [Act.put, List.setIfInBounds_toArray, List.set_cons_zero, List.set_cons_succ]
  refine take_at (i := 2) (v := ?_) (some 44) rfl rfl (by kernel_rfl) (by kernel_rfl) (by kernel_rfl) (fun _ _ _ h => h) (Or.inl ⟨by rfl, ?_⟩) (by assumption) ?_
  rotate_left
  · (intro w hSw; (try dsimp only at hSw); (try obtain ⟨_q1, _q2, _q3⟩ := hSw); go_simp; try with_reducible rfl)
  simp only [Act.put, List.setIfInBounds_toArray, List.set_cons_zero, List.set_cons_succ]
  refine take_at (i := 3) (v := ?_) (some 45) rfl rfl (by kernel_rfl) (by kernel_rfl) (by kernel_rfl) (fun _ _ _ h => h) (Or.inl ⟨by rfl, ?_⟩) (by assumption) ?_
  rotate_left
  · (intro w hSw; (try dsimp only at hSw); (try obtain ⟨_q1, _q2, _q3⟩ := hSw); go_simp; try with_reducible rfl)
  simp only [Act.put, List.setIfInBounds_toArray, List.set_cons_zero, List.set_cons_succ]
  refine take_at (i := 4) (v := ?_) (some 46) rfl rfl (by kernel_rfl) (by kernel_rfl) (by kernel_rfl) (fun _ _ _ h => h) (Or.inl ⟨by rfl, ?_⟩) (by assumption) ?_
  rotate_left
  · (intro w hSw; (try dsimp only at hSw); (try obtain ⟨_q1, _q2, _q3⟩ := hSw); go_simp; try with_reducible rfl)
  simp only [Act.put, List.setIfInBounds_toArray, List.set_cons_zero, List.set_cons_succ]
  refine take_at (i := 5) (v := ?_) (some 47) rfl rfl (by kernel_rfl) (by kernel_rfl) (by kernel_rfl) (fun _ _ _ h => h) (Or.inl ⟨by rfl, ?_⟩) (by assumption) ?_
  rotate_left
  · (intro w hSw; (try dsimp only at hSw); (try obtain ⟨_q1, _q2, _q3⟩ := hSw); go_simp; try with_reducible rfl)
  simp only [Act.put, List.setIfInBounds_toArray, List.set_cons_zero, List.set_cons_succ]
  refine take_at (i := 7) (v := ?_) (some 49) rfl rfl (by kernel_rfl) (by kernel_rfl) (by kernel_rfl) (fun _ _ _ h => h) (Or.inl ⟨by rfl, ?_⟩) (by assumption) ?_
  rotate_left
  · (intro w hSw; (try dsimp only at hSw); (try obtain ⟨_q1, _q2, _q3⟩ := hSw); go_simp; try with_reducible rfl)
  simp only [Act.put, List.setIfInBounds_toArray, List.set_cons_zero, List.set_cons_succ]
  refine take_at (i := 8) (v := ?_) (some 50) rfl rfl (by kernel_rfl) (by kernel_rfl) (by kernel_rfl) (fun _ _ _ h => h) (Or.inl ⟨by rfl, ?_⟩) (by assumption) ?_
  rotate_left
  · (intro w hSw; (try dsimp only at hSw); (try obtain ⟨_q1, _q2, _q3⟩ := hSw); go_simp; try with_reducible rfl)
  simp only [Act.put, List.setIfInBounds_toArray, List.set_cons_zero, List.set_cons_succ]
  refine take_at (i := 9) (v := ?_) (some 51) rfl rfl (by kernel_rfl) (by kernel_rfl) (by kernel_rfl) (fun _ _ _ h => h) (Or.inl ⟨by rfl, ?_⟩) (by assumption) ?_
  rotate_left
  · (intro w hSw; (try dsimp only at hSw); (try obtain ⟨_q1, _q2, _q3⟩ := hSw); go_simp; try with_reducible rfl)
  simp only [Act.put, List.setIfInBounds_toArray, List.set_cons_zero, List.set_cons_succ]
  refine take_at (i := 10) (v := ?_) (some 52) rfl rfl (by kernel_rfl) (by kernel_rfl) (by kernel_rfl) (fun _ _ _ h => h) (Or.inl ⟨by rfl, ?_⟩) (by assumption) ?_
  rotate_left
  · (intro w hSw; (try dsimp only at hSw); (try obtain ⟨_q1, _q2, _q3⟩ := hSw); go_simp; try with_reducible rfl)
  simp only [Act.put, List.setIfInBounds_toArray, List.set_cons_zero, List.set_cons_succ]
  refine take_at (i := 11) (v := ?_) (some 53) rfl rfl (by kernel_rfl) (by kernel_rfl) (by kernel_rfl) (fun _ _ _ h => h) (Or.inl ⟨by rfl, ?_⟩) (by assumption) ?_
  rotate_left
  · (intro w hSw; (try dsimp only at hSw); (try obtain ⟨_q1, _q2, _q3⟩ := hSw); go_simp; try with_reducible rfl)
  simp only [Act.put, List.setIfInBounds_toArray, List.set_cons_zero, List.set_cons_succ]
  refine take_at (i := 12) (v := ?_) (some 54) rfl rfl (by kernel_rfl) (by kernel_rfl) (by kernel_rfl) (fun _ _ _ h => h) (Or.inl ⟨by rfl, ?_⟩) (by assumption) ?_
  rotate_left
  · (intro w hSw; (try dsimp only at hSw); (try obtain ⟨_q1, _q2, _q3⟩ := hSw); go_simp; try with_reducible rfl)
  simp only [Act.put, List.setIfInBounds_toArray, List.set_cons_zero, List.set_cons_succ]
  refine call_at (i := 6) (some 48) 24 _ _ rfl rfl rfl (by rfl) (by kernel_rfl) #[.pointer (some ⟨b, 0, none⟩), .int .i64 N] rfl Tryd.func24 (by kernel_rfl) (by kernel_rfl) ?_
  refine (take_ok X1 b n h N J.out.s J.out.k).mono ?_
  rintro e X2 ⟨rfl, s2, b2, _⟩
  have S2 := hidIt s2
  have B1 := hidIt b2
  clear s2 b2
  refine ⟨_, rfl, ⟨(B1.out.cell (p := ⟨p, 0, none⟩) J.out.pl J.out.pb).trans J.out.c0, (B1.out.cell (p := ⟨p, 1, none⟩) J.out.pl J.out.pb).trans J.out.c1, (B1.out.cell (p := ⟨X.heap.size, 1, none⟩) zX nb.1).trans cN⟩, fun hHeld => ?_⟩
  simp only [Act.put, List.setIfInBounds_toArray, List.set_cons_zero, List.set_cons_succ]
  refine call_at (i := 13) (some 55) 34 _ _ rfl rfl rfl (by rfl) (by kernel_rfl) #[.pointer (some ⟨r, 0, none⟩), .int .i64 N] rfl Tryd.func34 (by kernel_rfl) (by kernel_rfl) ?_
  refine (rtake_ok X2 r B n h N J.out.k.n2 (J.out.ref B1.out)).mono ?_
  rintro e X3 ⟨rfl, a3, b3⟩
  have P2 := hidIt (J.out.both S2.out (turn_sok J.out.k N 0 1) B1.out a3 b3)
  have C2 : Hid (X3.cell? ⟨X.heap.size, 1, none⟩ = some (.int .i64 N)) := (b3.cell (p := ⟨X.heap.size, 1, none⟩) (Nat.lt_of_lt_of_le zX B1.out.size) nb.2).trans ((B1.out.cell (p := ⟨X.heap.size, 1, none⟩) zX nb.1).trans cN)
  clear a3 b3
  refine ⟨_, rfl, ⟨P2.out.c0, P2.out.c1, C2.out⟩, fun hHeld => ?_⟩
  simp only [Act.put, List.setIfInBounds_toArray, List.set_cons_zero, List.set_cons_succ]
  refine take_at (i := 14) (v := ?_) (some 56) rfl rfl (by kernel_rfl) (by kernel_rfl) (by kernel_rfl) (fun _ _ _ h => h) (Or.inl ⟨by rfl, ?_⟩) (by assumption) ?_
  rotate_left
  · (intro w hSw; (try dsimp only at hSw); (try obtain ⟨_q1, _q2, _q3⟩ := hSw); go_simp; try with_reducible rfl)
  simp only [Act.put, List.setIfInBounds_toArray, List.set_cons_zero, List.set_cons_succ]
  refine take_at (i := 15) (v := ?_) (some 4) rfl rfl (by kernel_rfl) (by kernel_rfl) (by kernel_rfl) (fun _ _ _ h => h) (Or.inl ⟨by rfl, ?_⟩) (by assumption) ?_
  rotate_left
  · (intro w hSw; (try dsimp only at hSw); (try obtain ⟨_q1, _q2, _q3⟩ := hSw); go_simp; try with_reducible rfl)
  simp only [Act.put, List.setIfInBounds_toArray, List.set_cons_zero, List.set_cons_succ]
  refine wpAnyH_done (by kernel_rfl) ?_ _
  refine NoPanic.normal ?_
  go_wp2
  go_ret
  exact ⟨by simp, _, _, P2.out⟩
set_option maxRecDepth 100000 in
set_option maxHeartbeats 1000000 in
theorem act_release (W : World) (p b r B n : Nat) (h : Nat → Nat) (N : Int) (X : World) (i : PI W p b r B n h X) : Calls Tryd.prog 12 #[.pointer (some ⟨p, 0, none⟩), .agg #[.int .i64 2, .int .i64 N]] X (ActPost W p r B n) := by
  have I := hidIt i
  clear i
  go_enter Tryd.func12, Tryd.ntmps12
  go_wp2
  have J := hidIt (I.out.kept (Y := (X.alloc (.cells #[.int .i64 2, .int .i64 N] 36)).drew) ((Below.refl _ _).alloc (Nat.le_refl _) _).drew)
  have cN : (X.alloc (.cells #[.int .i64 2, .int .i64 N] 36)).drew.cell? ⟨X.heap.size, 1, none⟩ = some (.int .i64 N) := by simp [go_sem]
  have zX : X.heap.size < (X.alloc (.cells #[.int .i64 2, .int .i64 N] 36)).drew.heap.size := by simp
  have nb : X.heap.size ≠ b ∧ X.heap.size ≠ B := ⟨by have := I.out.s.l; omega, by have := I.out.a.w.2.2; omega⟩
  have SS : Hid (∀ Y, PI W p b r B n h Y → Y.cell? ⟨X.heap.size, 1, none⟩ = some (.int .i64 N) → (Y.cell? ⟨p, 0, none⟩ = some (.pointer (some ⟨b, 0, none⟩)) ∧ Y.cell? ⟨p, 1, none⟩ = some (.pointer (some ⟨r, 0, none⟩)) ∧ Y.cell? ⟨X.heap.size, 1, none⟩ = some (.int .i64 N))) := fun Y y c => ⟨y.c0, y.c1, c⟩
  refine wp_region_noPanic ?_
  refine wp_region_held_drew (S := fun Y => Y.cell? ⟨p, 0, none⟩ = some (.pointer (some ⟨b, 0, none⟩)) ∧ Y.cell? ⟨p, 1, none⟩ = some (.pointer (some ⟨r, 0, none⟩)) ∧ Y.cell? ⟨X.heap.size, 1, none⟩ = some (.int .i64 N)) (by kernel_rfl) (SS.out _ J.out cN) (fun hHeld => ?_)
  generalize ((X.alloc (.cells #[.int .i64 2, .int .i64 N] 36)).drew) = X1 at *
  refine take_at (i := 0) (v := ?_) (some 59) rfl rfl (by kernel_rfl) (by kernel_rfl) (by kernel_rfl) (fun _ _ _ h => h) (Or.inl ⟨by rfl, ?_⟩) (by assumption) ?_
  rotate_left
  · (intro w hSw; (try dsimp only at hSw); (try obtain ⟨_q1, _q2, _q3⟩ := hSw); go_simp; try with_reducible rfl)
  simp only [Act.put, List.setIfInBounds_toArray, List.set_cons_zero, List.set_cons_succ]
  refine take_at (i := 1) (v := ?_) (some 60) rfl rfl (by kernel_rfl) (by kernel_rfl) (by kernel_rfl) (fun _ _ _ h => h) (Or.inl ⟨by rfl, ?_⟩) (by assumption) ?_
  rotate_left
  · (intro w hSw; (try dsimp only at hSw); (try obtain ⟨_q1, _q2, _q3⟩ := hSw); go_simp; try with_reducible rfl)
  simp only [Act.put, List.setIfInBounds_toArray, List.set_cons_zero, List.set_cons_succ]
  refine take_at (i := 2) (v := ?_) (some 61) rfl rfl (by kernel_rfl) (by kernel_rfl) (by kernel_rfl) (fun _ _ _ h => h) (Or.inl ⟨by rfl, ?_⟩) (by assumption) ?_
  rotate_left
  · (intro w hSw; (try dsimp only at hSw); (try obtain ⟨_q1, _q2, _q3⟩ := hSw); go_simp; try with_reducible rfl)
  simp only [Act.put, List.setIfInBounds_toArray, List.set_cons_zero, List.set_cons_succ]
  refine take_at (i := 3) (v := ?_) (some 62) rfl rfl (by kernel_rfl) (by kernel_rfl) (by kernel_rfl) (fun _ _ _ h => h) (Or.inl ⟨by rfl, ?_⟩) (by assumption) ?_
  rotate_left
  · (intro w hSw; (try dsimp only at hSw); (try obtain ⟨_q1, _q2, _q3⟩ := hSw); go_simp; try with_reducible rfl)
  simp only [Act.put, List.setIfInBounds_toArray, List.set_cons_zero, List.set_cons_succ]
  refine take_at (i := 4) (v := ?_) (some 63) rfl rfl (by kernel_rfl) (by kernel_rfl) (by kernel_rfl) (fun _ _ _ h => h) (Or.inl ⟨by rfl, ?_⟩) (by assumption) ?_
  rotate_left
  · (intro w hSw; (try dsimp only at hSw); (try obtain ⟨_q1, _q2, _q3⟩ := hSw); go_simp; try with_reducible rfl)
  simp only [Act.put, List.setIfInBounds_toArray, List.set_cons_zero, List.set_cons_succ]
  refine take_at (i := 5) (v := ?_) (some 64) rfl rfl (by kernel_rfl) (by kernel_rfl) (by kernel_rfl) (fun _ _ _ h => h) (Or.inl ⟨by rfl, ?_⟩) (by assumption) ?_
  rotate_left
  · (intro w hSw; (try dsimp only at hSw); (try obtain ⟨_q1, _q2, _q3⟩ := hSw); go_simp; try with_reducible rfl)
  simp only [Act.put, List.setIfInBounds_toArray, List.set_cons_zero, List.set_cons_succ]
  refine take_at (i := 7) (v := ?_) (some 66) rfl rfl (by kernel_rfl) (by kernel_rfl) (by kernel_rfl) (fun _ _ _ h => h) (Or.inl ⟨by rfl, ?_⟩) (by assumption) ?_
  rotate_left
  · (intro w hSw; (try dsimp only at hSw); (try obtain ⟨_q1, _q2, _q3⟩ := hSw); go_simp; try with_reducible rfl)
  simp only [Act.put, List.setIfInBounds_toArray, List.set_cons_zero, List.set_cons_succ]
  refine take_at (i := 8) (v := ?_) (some 67) rfl rfl (by kernel_rfl) (by kernel_rfl) (by kernel_rfl) (fun _ _ _ h => h) (Or.inl ⟨by rfl, ?_⟩) (by assumption) ?_
  rotate_left
  · (intro w hSw; (try dsimp only at hSw); (try obtain ⟨_q1, _q2, _q3⟩ := hSw); go_simp; try with_reducible rfl)
  simp only [Act.put, List.setIfInBounds_toArray, List.set_cons_zero, List.set_cons_succ]
  refine take_at (i := 9) (v := ?_) (some 68) rfl rfl (by kernel_rfl) (by kernel_rfl) (by kernel_rfl) (fun _ _ _ h => h) (Or.inl ⟨by rfl, ?_⟩) (by assumption) ?_
  rotate_left
  · (intro w hSw; (try dsimp only at hSw); (try obtain ⟨_q1, _q2, _q3⟩ := hSw); go_simp; try with_reducible rfl)
  simp only [Act.put, List.setIfInBounds_toArray, List.set_cons_zero, List.set_cons_succ]
  refine take_at (i := 10) (v := ?_) (some 69) rfl rfl (by kernel_rfl) (by kernel_rfl) (by kernel_rfl) (fun _ _ _ h => h) (Or.inl ⟨by rfl, ?_⟩) (by assumption) ?_
  rotate_left
  · (intro w hSw; (try dsimp only at hSw); (try obtain ⟨_q1, _q2, _q3⟩ := hSw); go_simp; try with_reducible rfl)
  simp only [Act.put, List.setIfInBounds_toArray, List.set_cons_zero, List.set_cons_succ]
  refine take_at (i := 11) (v := ?_) (some 70) rfl rfl (by kernel_rfl) (by kernel_rfl) (by kernel_rfl) (fun _ _ _ h => h) (Or.inl ⟨by rfl, ?_⟩) (by assumption) ?_
  rotate_left
  · (intro w hSw; (try dsimp only at hSw); (try obtain ⟨_q1, _q2, _q3⟩ := hSw); go_simp; try with_reducible rfl)
  simp only [Act.put, List.setIfInBounds_toArray, List.set_cons_zero, List.set_cons_succ]
  refine take_at (i := 12) (v := ?_) (some 71) rfl rfl (by kernel_rfl) (by kernel_rfl) (by kernel_rfl) (fun _ _ _ h => h) (Or.inl ⟨by rfl, ?_⟩) (by assumption) ?_
  rotate_left
  · (intro w hSw; (try dsimp only at hSw); (try obtain ⟨_q1, _q2, _q3⟩ := hSw); go_simp; try with_reducible rfl)
  simp only [Act.put, List.setIfInBounds_toArray, List.set_cons_zero, List.set_cons_succ]
  refine call_at (i := 6) (some 65) 25 _ _ rfl rfl rfl (by rfl) (by kernel_rfl) #[.pointer (some ⟨b, 0, none⟩), .int .i64 N] rfl Tryd.func25 (by kernel_rfl) (by kernel_rfl) ?_
  refine (release_ok X1 b n h N J.out.s J.out.k).mono ?_
  rintro e X2 ⟨rfl, s2, b2, _⟩
  have S2 := hidIt s2
  have B1 := hidIt b2
  clear s2 b2
  refine ⟨_, rfl, ⟨(B1.out.cell (p := ⟨p, 0, none⟩) J.out.pl J.out.pb).trans J.out.c0, (B1.out.cell (p := ⟨p, 1, none⟩) J.out.pl J.out.pb).trans J.out.c1, (B1.out.cell (p := ⟨X.heap.size, 1, none⟩) zX nb.1).trans cN⟩, fun hHeld => ?_⟩
  simp only [Act.put, List.setIfInBounds_toArray, List.set_cons_zero, List.set_cons_succ]
  refine call_at (i := 13) (some 72) 35 _ _ rfl rfl rfl (by rfl) (by kernel_rfl) #[.pointer (some ⟨r, 0, none⟩), .int .i64 N] rfl Tryd.func35 (by kernel_rfl) (by kernel_rfl) ?_
  refine (rrelease_ok X2 r B n h N J.out.k.n2 (J.out.ref B1.out)).mono ?_
  rintro e X3 ⟨rfl, a3, b3⟩
  have P2 := hidIt (J.out.both S2.out (turn_sok J.out.k N 1 2) B1.out a3 b3)
  have C2 : Hid (X3.cell? ⟨X.heap.size, 1, none⟩ = some (.int .i64 N)) := (b3.cell (p := ⟨X.heap.size, 1, none⟩) (Nat.lt_of_lt_of_le zX B1.out.size) nb.2).trans ((B1.out.cell (p := ⟨X.heap.size, 1, none⟩) zX nb.1).trans cN)
  clear a3 b3
  refine ⟨_, rfl, ⟨P2.out.c0, P2.out.c1, C2.out⟩, fun hHeld => ?_⟩
  simp only [Act.put, List.setIfInBounds_toArray, List.set_cons_zero, List.set_cons_succ]
  refine take_at (i := 14) (v := ?_) (some 73) rfl rfl (by kernel_rfl) (by kernel_rfl) (by kernel_rfl) (fun _ _ _ h => h) (Or.inl ⟨by rfl, ?_⟩) (by assumption) ?_
  rotate_left
  · (intro w hSw; (try dsimp only at hSw); (try obtain ⟨_q1, _q2, _q3⟩ := hSw); go_simp; try with_reducible rfl)
  simp only [Act.put, List.setIfInBounds_toArray, List.set_cons_zero, List.set_cons_succ]
  refine take_at (i := 15) (v := ?_) (some 4) rfl rfl (by kernel_rfl) (by kernel_rfl) (by kernel_rfl) (fun _ _ _ h => h) (Or.inl ⟨by rfl, ?_⟩) (by assumption) ?_
  rotate_left
  · (intro w hSw; (try dsimp only at hSw); (try obtain ⟨_q1, _q2, _q3⟩ := hSw); go_simp; try with_reducible rfl)
  simp only [Act.put, List.setIfInBounds_toArray, List.set_cons_zero, List.set_cons_succ]
  refine wpAnyH_done (by kernel_rfl) ?_ _
  refine NoPanic.normal ?_
  go_wp2
  go_ret
  exact ⟨by simp, _, _, P2.out⟩
set_option maxRecDepth 100000 in
set_option maxHeartbeats 1000000 in
theorem act_settle (W : World) (p b r B n : Nat) (h : Nat → Nat) (N : Int) (X : World) (i : PI W p b r B n h X) : Calls Tryd.prog 12 #[.pointer (some ⟨p, 0, none⟩), .agg #[.int .i64 3, .int .i64 N]] X (ActPost W p r B n) := by
  have I := hidIt i
  clear i
  go_enter Tryd.func12, Tryd.ntmps12
  go_wp2
  have J := hidIt (I.out.kept (Y := (X.alloc (.cells #[.int .i64 3, .int .i64 N] 36)).drew) ((Below.refl _ _).alloc (Nat.le_refl _) _).drew)
  have cN : (X.alloc (.cells #[.int .i64 3, .int .i64 N] 36)).drew.cell? ⟨X.heap.size, 1, none⟩ = some (.int .i64 N) := by simp [go_sem]
  have zX : X.heap.size < (X.alloc (.cells #[.int .i64 3, .int .i64 N] 36)).drew.heap.size := by simp
  have nb : X.heap.size ≠ b ∧ X.heap.size ≠ B := ⟨by have := I.out.s.l; omega, by have := I.out.a.w.2.2; omega⟩
  have SS : Hid (∀ Y, PI W p b r B n h Y → Y.cell? ⟨X.heap.size, 1, none⟩ = some (.int .i64 N) → (Y.cell? ⟨p, 0, none⟩ = some (.pointer (some ⟨b, 0, none⟩)) ∧ Y.cell? ⟨p, 1, none⟩ = some (.pointer (some ⟨r, 0, none⟩)) ∧ Y.cell? ⟨X.heap.size, 1, none⟩ = some (.int .i64 N))) := fun Y y c => ⟨y.c0, y.c1, c⟩
  refine wp_region_noPanic ?_
  refine wp_region_held_drew (S := fun Y => Y.cell? ⟨p, 0, none⟩ = some (.pointer (some ⟨b, 0, none⟩)) ∧ Y.cell? ⟨p, 1, none⟩ = some (.pointer (some ⟨r, 0, none⟩)) ∧ Y.cell? ⟨X.heap.size, 1, none⟩ = some (.int .i64 N)) (by kernel_rfl) (SS.out _ J.out cN) (fun hHeld => ?_)
  generalize ((X.alloc (.cells #[.int .i64 3, .int .i64 N] 36)).drew) = X1 at *
  refine take_at (i := 0) (v := ?_) (some 76) rfl rfl (by kernel_rfl) (by kernel_rfl) (by kernel_rfl) (fun _ _ _ h => h) (Or.inl ⟨by rfl, ?_⟩) (by assumption) ?_
  rotate_left
  · (intro w hSw; (try dsimp only at hSw); (try obtain ⟨_q1, _q2, _q3⟩ := hSw); go_simp; try with_reducible rfl)
  simp only [Act.put, List.setIfInBounds_toArray, List.set_cons_zero, List.set_cons_succ]
  refine take_at (i := 1) (v := ?_) (some 77) rfl rfl (by kernel_rfl) (by kernel_rfl) (by kernel_rfl) (fun _ _ _ h => h) (Or.inl ⟨by rfl, ?_⟩) (by assumption) ?_
  rotate_left
  · (intro w hSw; (try dsimp only at hSw); (try obtain ⟨_q1, _q2, _q3⟩ := hSw); go_simp; try with_reducible rfl)
  simp only [Act.put, List.setIfInBounds_toArray, List.set_cons_zero, List.set_cons_succ]
  refine take_at (i := 2) (v := ?_) (some 78) rfl rfl (by kernel_rfl) (by kernel_rfl) (by kernel_rfl) (fun _ _ _ h => h) (Or.inl ⟨by rfl, ?_⟩) (by assumption) ?_
  rotate_left
  · (intro w hSw; (try dsimp only at hSw); (try obtain ⟨_q1, _q2, _q3⟩ := hSw); go_simp; try with_reducible rfl)
  simp only [Act.put, List.setIfInBounds_toArray, List.set_cons_zero, List.set_cons_succ]
  refine take_at (i := 3) (v := ?_) (some 79) rfl rfl (by kernel_rfl) (by kernel_rfl) (by kernel_rfl) (fun _ _ _ h => h) (Or.inl ⟨by rfl, ?_⟩) (by assumption) ?_
  rotate_left
  · (intro w hSw; (try dsimp only at hSw); (try obtain ⟨_q1, _q2, _q3⟩ := hSw); go_simp; try with_reducible rfl)
  simp only [Act.put, List.setIfInBounds_toArray, List.set_cons_zero, List.set_cons_succ]
  refine take_at (i := 5) (v := ?_) (some 81) rfl rfl (by kernel_rfl) (by kernel_rfl) (by kernel_rfl) (fun _ _ _ h => h) (Or.inl ⟨by rfl, ?_⟩) (by assumption) ?_
  rotate_left
  · (intro w hSw; (try dsimp only at hSw); (try obtain ⟨_q1, _q2, _q3⟩ := hSw); go_simp; try with_reducible rfl)
  simp only [Act.put, List.setIfInBounds_toArray, List.set_cons_zero, List.set_cons_succ]
  refine take_at (i := 6) (v := ?_) (some 82) rfl rfl (by kernel_rfl) (by kernel_rfl) (by kernel_rfl) (fun _ _ _ h => h) (Or.inl ⟨by rfl, ?_⟩) (by assumption) ?_
  rotate_left
  · (intro w hSw; (try dsimp only at hSw); (try obtain ⟨_q1, _q2, _q3⟩ := hSw); go_simp; try with_reducible rfl)
  simp only [Act.put, List.setIfInBounds_toArray, List.set_cons_zero, List.set_cons_succ]
  refine take_at (i := 7) (v := ?_) (some 83) rfl rfl (by kernel_rfl) (by kernel_rfl) (by kernel_rfl) (fun _ _ _ h => h) (Or.inl ⟨by rfl, ?_⟩) (by assumption) ?_
  rotate_left
  · (intro w hSw; (try dsimp only at hSw); (try obtain ⟨_q1, _q2, _q3⟩ := hSw); go_simp; try with_reducible rfl)
  simp only [Act.put, List.setIfInBounds_toArray, List.set_cons_zero, List.set_cons_succ]
  refine take_at (i := 8) (v := ?_) (some 84) rfl rfl (by kernel_rfl) (by kernel_rfl) (by kernel_rfl) (fun _ _ _ h => h) (Or.inl ⟨by rfl, ?_⟩) (by assumption) ?_
  rotate_left
  · (intro w hSw; (try dsimp only at hSw); (try obtain ⟨_q1, _q2, _q3⟩ := hSw); go_simp; try with_reducible rfl)
  simp only [Act.put, List.setIfInBounds_toArray, List.set_cons_zero, List.set_cons_succ]
  refine call_at (i := 4) (some 80) 26 _ _ rfl rfl rfl (by rfl) (by kernel_rfl) #[.pointer (some ⟨b, 0, none⟩)] rfl Tryd.func26 (by kernel_rfl) (by kernel_rfl) ?_
  refine (settle_ok X1 b n h J.out.s J.out.k).mono ?_
  rintro e X2 ⟨rfl, s2, b2⟩
  have S2 := hidIt s2
  have B1 := hidIt b2
  clear s2 b2
  refine ⟨_, rfl, ⟨(B1.out.cell (p := ⟨p, 0, none⟩) J.out.pl J.out.pb).trans J.out.c0, (B1.out.cell (p := ⟨p, 1, none⟩) J.out.pl J.out.pb).trans J.out.c1, (B1.out.cell (p := ⟨X.heap.size, 1, none⟩) zX nb.1).trans cN⟩, fun hHeld => ?_⟩
  simp only [Act.put, List.setIfInBounds_toArray, List.set_cons_zero, List.set_cons_succ]
  refine call_at (i := 9) (some 85) 36 _ _ rfl rfl rfl (by rfl) (by kernel_rfl) #[.pointer (some ⟨r, 0, none⟩)] rfl Tryd.func36 (by kernel_rfl) (by kernel_rfl) ?_
  refine (rsettle_ok X2 r B n h (J.out.ref B1.out) J.out.k.n2).mono ?_
  rintro e X3 ⟨rfl, a3, b3⟩
  have P2 := hidIt (J.out.both S2.out (J.out.k.setl) B1.out a3 b3)
  have C2 : Hid (X3.cell? ⟨X.heap.size, 1, none⟩ = some (.int .i64 N)) := (b3.cell (p := ⟨X.heap.size, 1, none⟩) (Nat.lt_of_lt_of_le zX B1.out.size) nb.2).trans ((B1.out.cell (p := ⟨X.heap.size, 1, none⟩) zX nb.1).trans cN)
  clear a3 b3
  refine ⟨_, rfl, ⟨P2.out.c0, P2.out.c1, C2.out⟩, fun hHeld => ?_⟩
  simp only [Act.put, List.setIfInBounds_toArray, List.set_cons_zero, List.set_cons_succ]
  refine take_at (i := 10) (v := ?_) (some 86) rfl rfl (by kernel_rfl) (by kernel_rfl) (by kernel_rfl) (fun _ _ _ h => h) (Or.inl ⟨by rfl, ?_⟩) (by assumption) ?_
  rotate_left
  · (intro w hSw; (try dsimp only at hSw); (try obtain ⟨_q1, _q2, _q3⟩ := hSw); go_simp; try with_reducible rfl)
  simp only [Act.put, List.setIfInBounds_toArray, List.set_cons_zero, List.set_cons_succ]
  refine take_at (i := 11) (v := ?_) (some 4) rfl rfl (by kernel_rfl) (by kernel_rfl) (by kernel_rfl) (fun _ _ _ h => h) (Or.inl ⟨by rfl, ?_⟩) (by assumption) ?_
  rotate_left
  · (intro w hSw; (try dsimp only at hSw); (try obtain ⟨_q1, _q2, _q3⟩ := hSw); go_simp; try with_reducible rfl)
  simp only [Act.put, List.setIfInBounds_toArray, List.set_cons_zero, List.set_cons_succ]
  refine wpAnyH_done (by kernel_rfl) ?_ _
  refine NoPanic.normal ?_
  go_wp2
  go_ret
  exact ⟨by simp, _, _, P2.out⟩
set_option maxRecDepth 100000 in
set_option maxHeartbeats 1000000 in
theorem act_is (W : World) (p b r B n : Nat) (h : Nat → Nat) (K N : Int) (X : World) (i : PI W p b r B n h X) (hK : K < 0 ∨ 5 < K) : Calls Tryd.prog 12 #[.pointer (some ⟨p, 0, none⟩), .agg #[.int .i64 K, .int .i64 N]] X (ActPost W p r B n) := by
  have k0 : (K == 0) = false := by simp; omega
  have k1 : (K == 1) = false := by simp; omega
  have k2 : (K == 2) = false := by simp; omega
  have k3 : (K == 3) = false := by simp; omega
  have k4 : (K == 4) = false := by simp; omega
  have k5 : (K == 5) = false := by simp; omega
  clear hK
  have I := hidIt i
  clear i
  go_enter Tryd.func12, Tryd.ntmps12
  go_wp2
  have J := hidIt (I.out.kept (Y := (X.alloc (.cells #[.int .i64 K, .int .i64 N] 36)).drew) ((Below.refl _ _).alloc (Nat.le_refl _) _).drew)
  have cN : (X.alloc (.cells #[.int .i64 K, .int .i64 N] 36)).drew.cell? ⟨X.heap.size, 1, none⟩ = some (.int .i64 N) := by simp [go_sem]
  have zX : X.heap.size < (X.alloc (.cells #[.int .i64 K, .int .i64 N] 36)).drew.heap.size := by simp
  have nb : X.heap.size ≠ b ∧ X.heap.size ≠ B := ⟨by have := I.out.s.l; omega, by have := I.out.a.w.2.2; omega⟩
  have SS : Hid (∀ Y, PI W p b r B n h Y → Y.cell? ⟨X.heap.size, 1, none⟩ = some (.int .i64 N) → (Y.cell? ⟨p, 0, none⟩ = some (.pointer (some ⟨b, 0, none⟩)) ∧ Y.cell? ⟨p, 1, none⟩ = some (.pointer (some ⟨r, 0, none⟩)) ∧ Y.cell? ⟨X.heap.size, 1, none⟩ = some (.int .i64 N))) := fun Y y c => ⟨y.c0, y.c1, c⟩
  refine wp_region_noPanic ?_
  refine wp_region_held_drew (S := fun Y => Y.cell? ⟨p, 0, none⟩ = some (.pointer (some ⟨b, 0, none⟩)) ∧ Y.cell? ⟨p, 1, none⟩ = some (.pointer (some ⟨r, 0, none⟩)) ∧ Y.cell? ⟨X.heap.size, 1, none⟩ = some (.int .i64 N)) (by kernel_rfl) (SS.out _ J.out cN) (fun hHeld => ?_)
  generalize ((X.alloc (.cells #[.int .i64 K, .int .i64 N] 36)).drew) = X1 at *
  refine take_at (i := 0) (v := ?_) (some 128) rfl rfl (by kernel_rfl) (by kernel_rfl) (by kernel_rfl) (fun _ _ _ h => h) (Or.inl ⟨by rfl, ?_⟩) (by assumption) ?_
  rotate_left
  · (intro w hSw; (try dsimp only at hSw); (try obtain ⟨_q1, _q2, _q3⟩ := hSw); go_simp; try with_reducible rfl)
  simp only [Act.put, List.setIfInBounds_toArray, List.set_cons_zero, List.set_cons_succ]
  refine take_at (i := 1) (v := ?_) (some 129) rfl rfl (by kernel_rfl) (by kernel_rfl) (by kernel_rfl) (fun _ _ _ h => h) (Or.inl ⟨by rfl, ?_⟩) (by assumption) ?_
  rotate_left
  · (intro w hSw; (try dsimp only at hSw); (try obtain ⟨_q1, _q2, _q3⟩ := hSw); go_simp; try with_reducible rfl)
  simp only [Act.put, List.setIfInBounds_toArray, List.set_cons_zero, List.set_cons_succ]
  refine take_at (i := 2) (v := ?_) (some 130) rfl rfl (by kernel_rfl) (by kernel_rfl) (by kernel_rfl) (fun _ _ _ h => h) (Or.inl ⟨by rfl, ?_⟩) (by assumption) ?_
  rotate_left
  · (intro w hSw; (try dsimp only at hSw); (try obtain ⟨_q1, _q2, _q3⟩ := hSw); go_simp; try with_reducible rfl)
  simp only [Act.put, List.setIfInBounds_toArray, List.set_cons_zero, List.set_cons_succ]
  refine take_at (i := 3) (v := ?_) (some 131) rfl rfl (by kernel_rfl) (by kernel_rfl) (by kernel_rfl) (fun _ _ _ h => h) (Or.inl ⟨by rfl, ?_⟩) (by assumption) ?_
  rotate_left
  · (intro w hSw; (try dsimp only at hSw); (try obtain ⟨_q1, _q2, _q3⟩ := hSw); go_simp; try with_reducible rfl)
  simp only [Act.put, List.setIfInBounds_toArray, List.set_cons_zero, List.set_cons_succ]
  refine take_at (i := 4) (v := ?_) (some 132) rfl rfl (by kernel_rfl) (by kernel_rfl) (by kernel_rfl) (fun _ _ _ h => h) (Or.inl ⟨by rfl, ?_⟩) (by assumption) ?_
  rotate_left
  · (intro w hSw; (try dsimp only at hSw); (try obtain ⟨_q1, _q2, _q3⟩ := hSw); go_simp; try with_reducible rfl)
  simp only [Act.put, List.setIfInBounds_toArray, List.set_cons_zero, List.set_cons_succ]
  refine take_at (i := 5) (v := ?_) (some 133) rfl rfl (by kernel_rfl) (by kernel_rfl) (by kernel_rfl) (fun _ _ _ h => h) (Or.inl ⟨by rfl, ?_⟩) (by assumption) ?_
  rotate_left
  · (intro w hSw; (try dsimp only at hSw); (try obtain ⟨_q1, _q2, _q3⟩ := hSw); go_simp; try with_reducible rfl)
  simp only [Act.put, List.setIfInBounds_toArray, List.set_cons_zero, List.set_cons_succ]
  refine take_at (i := 7) (v := ?_) (some 135) rfl rfl (by kernel_rfl) (by kernel_rfl) (by kernel_rfl) (fun _ _ _ h => h) (Or.inl ⟨by rfl, ?_⟩) (by assumption) ?_
  rotate_left
  · (intro w hSw; (try dsimp only at hSw); (try obtain ⟨_q1, _q2, _q3⟩ := hSw); go_simp; try with_reducible rfl)
  simp only [Act.put, List.setIfInBounds_toArray, List.set_cons_zero, List.set_cons_succ]
  refine take_at (i := 8) (v := ?_) (some 136) rfl rfl (by kernel_rfl) (by kernel_rfl) (by kernel_rfl) (fun _ _ _ h => h) (Or.inl ⟨by rfl, ?_⟩) (by assumption) ?_
  rotate_left
  · (intro w hSw; (try dsimp only at hSw); (try obtain ⟨_q1, _q2, _q3⟩ := hSw); go_simp; try with_reducible rfl)
  simp only [Act.put, List.setIfInBounds_toArray, List.set_cons_zero, List.set_cons_succ]
  refine take_at (i := 9) (v := ?_) (some 137) rfl rfl (by kernel_rfl) (by kernel_rfl) (by kernel_rfl) (fun _ _ _ h => h) (Or.inl ⟨by rfl, ?_⟩) (by assumption) ?_
  rotate_left
  · (intro w hSw; (try dsimp only at hSw); (try obtain ⟨_q1, _q2, _q3⟩ := hSw); go_simp; try with_reducible rfl)
  simp only [Act.put, List.setIfInBounds_toArray, List.set_cons_zero, List.set_cons_succ]
  refine take_at (i := 10) (v := ?_) (some 138) rfl rfl (by kernel_rfl) (by kernel_rfl) (by kernel_rfl) (fun _ _ _ h => h) (Or.inl ⟨by rfl, ?_⟩) (by assumption) ?_
  rotate_left
  · (intro w hSw; (try dsimp only at hSw); (try obtain ⟨_q1, _q2, _q3⟩ := hSw); go_simp; try with_reducible rfl)
  simp only [Act.put, List.setIfInBounds_toArray, List.set_cons_zero, List.set_cons_succ]
  refine take_at (i := 11) (v := ?_) (some 139) rfl rfl (by kernel_rfl) (by kernel_rfl) (by kernel_rfl) (fun _ _ _ h => h) (Or.inl ⟨by rfl, ?_⟩) (by assumption) ?_
  rotate_left
  · (intro w hSw; (try dsimp only at hSw); (try obtain ⟨_q1, _q2, _q3⟩ := hSw); go_simp; try with_reducible rfl)
  simp only [Act.put, List.setIfInBounds_toArray, List.set_cons_zero, List.set_cons_succ]
  refine take_at (i := 12) (v := ?_) (some 140) rfl rfl (by kernel_rfl) (by kernel_rfl) (by kernel_rfl) (fun _ _ _ h => h) (Or.inl ⟨by rfl, ?_⟩) (by assumption) ?_
  rotate_left
  · (intro w hSw; (try dsimp only at hSw); (try obtain ⟨_q1, _q2, _q3⟩ := hSw); go_simp; try with_reducible rfl)
  simp only [Act.put, List.setIfInBounds_toArray, List.set_cons_zero, List.set_cons_succ]
  refine call_at (i := 6) (some 134) 27 _ _ rfl rfl rfl (by rfl) (by kernel_rfl) #[.pointer (some ⟨b, 0, none⟩), .int .i64 N] rfl Tryd.func27 (by kernel_rfl) (by kernel_rfl) ?_
  refine (is_ok X1 b n h N J.out.s J.out.k).mono ?_
  rintro e X2 ⟨rfl, q2, _⟩
  have J2 := hidIt (J.out.kept q2)
  have B1 : Hid (But b X1 X2) := But.of q2
  clear q2
  refine ⟨_, rfl, ⟨(B1.out.cell (p := ⟨p, 0, none⟩) J.out.pl J.out.pb).trans J.out.c0, (B1.out.cell (p := ⟨p, 1, none⟩) J.out.pl J.out.pb).trans J.out.c1, (B1.out.cell (p := ⟨X.heap.size, 1, none⟩) zX nb.1).trans cN⟩, fun hHeld => ?_⟩
  simp only [Act.put, List.setIfInBounds_toArray, List.set_cons_zero, List.set_cons_succ]
  refine call_at (i := 13) (some 141) 37 _ _ rfl rfl rfl (by rfl) (by kernel_rfl) #[.pointer (some ⟨r, 0, none⟩), .int .i64 N] rfl Tryd.func37 (by kernel_rfl) (by kernel_rfl) ?_
  refine (ris_ok X2 r B n h N J.out.k.n2 J2.out.a).mono ?_
  rintro e X3 ⟨rfl, hw⟩
  subst X3
  have P2 := J2
  have C2 : Hid (X2.cell? ⟨X.heap.size, 1, none⟩ = some (.int .i64 N)) := (B1.out.cell (p := ⟨X.heap.size, 1, none⟩) zX nb.1).trans cN
  refine ⟨_, rfl, ⟨P2.out.c0, P2.out.c1, C2.out⟩, fun hHeld => ?_⟩
  simp only [Act.put, List.setIfInBounds_toArray, List.set_cons_zero, List.set_cons_succ]
  refine take_at (i := 14) (v := ?_) (some 142) rfl rfl (by kernel_rfl) (by kernel_rfl) (by kernel_rfl) (fun _ _ _ h => h) (Or.inl ⟨by rfl, ?_⟩) (by assumption) ?_
  rotate_left
  · (intro w hSw; (try dsimp only at hSw); (try obtain ⟨_q1, _q2, _q3⟩ := hSw); go_simp; try with_reducible rfl)
  simp only [Act.put, List.setIfInBounds_toArray, List.set_cons_zero, List.set_cons_succ]
  refine take_at (i := 15) (v := ?_) (some 4) rfl rfl (by kernel_rfl) (by kernel_rfl) (by kernel_rfl) (fun _ _ _ h => h) (Or.inl ⟨by rfl, ?_⟩) (by assumption) ?_
  rotate_left
  · (intro w hSw; (try dsimp only at hSw); (try obtain ⟨_q1, _q2, _q3⟩ := hSw); go_simp; try with_reducible rfl)
  simp only [Act.put, List.setIfInBounds_toArray, List.set_cons_zero, List.set_cons_succ]
  refine wpAnyH_done (by kernel_rfl) ?_ _
  refine NoPanic.normal ?_
  go_wp2
  go_ret
  exact ⟨by simp, _, _, P2.out⟩
end Go.Proofs.YtkncnpjhfcfmnaaDoor
