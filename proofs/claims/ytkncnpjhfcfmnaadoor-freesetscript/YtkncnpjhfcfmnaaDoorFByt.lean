/-
  Walks, not a claim by itself: Bytes of a set. By the verifier.
-/
import Derived.Test.YtkncnpjhfcfmnaaDoorFImg
import Derived.Test.YtkncnpjhfcfmnaaDoorBArg
import Derived.Test.YtkncnpjhfcfmnaaDoorDRegW
namespace Go.Proofs.YtkncnpjhfcfmnaaDoor
open Go.RowKit Go.Shelf
attribute [local go_sem] Oper.semAt_some
theorem size_ok (n : Nat) (hn : n ≤ 65535) (W : World) : Calls Tryd.prog 39 #[.int .i64 (n : Int)] W fun e w' => e = .returned (.int .i64 ((szN n : Nat) : Int)) ∧ w' = W := by
  have e1 : IntKind.i64.wrap ((n : Int) + 4) = (n : Int) + 4 := by rw [IntKind.wrap_i64]; omega
  have e2 : wrap64 ((n : Int) + 4) = (n : Int) + 4 := by unfold wrap64; omega
  have e3 : IntKind.i64.wrap ((n : Int) + 4 - 1) = ((n + 3 : Nat) : Int) := by rw [IntKind.wrap_i64]; omega
  have e4 : wrap64 ((n : Int) + 4 - 1) = ((n + 3 : Nat) : Int) := by unfold wrap64; omega
  have e5 : IntKind.i64.wrap (2 + ((n : Int) + 3) / 4) = 2 + ((n : Int) + 3) / 4 := by rw [IntKind.wrap_i64]; omega
  have e6 : wrap64 (2 + ((n : Int) + 3) / 4) = 2 + ((n : Int) + 3) / 4 := by unfold wrap64; omega
  go_enter Tryd.func39, Tryd.ntmps39
  go_wp2
  go_ret
  exact ⟨by simp [szN], rfl⟩
theorem stand_ok (i : Nat) (hi : i < 65536) (W : World) : Calls Tryd.prog 43 #[.int .i64 ((i : Int) + 1)] W fun e w' => e = .returned (.tuple #[.int .i64 (2 + (i : Int) / 4), .int .i64 ((i : Int) % 4 * 2)]) ∧ w' = W := by
  have e1 : IntKind.i64.wrap ((i : Int) + 1 - 1) = (i : Int) := by rw [IntKind.wrap_i64]; omega
  have e1' : wrap64 ((i : Int) + 1 - 1) = (i : Int) := by unfold wrap64; omega
  have e3 : IntKind.i64.wrap (2 + (i : Int) / 4) = 2 + (i : Int) / 4 := by rw [IntKind.wrap_i64]; omega
  have e4 : wrap64 (2 + (i : Int) / 4) = 2 + (i : Int) / 4 := by unfold wrap64; omega
  have e5 : IntKind.i64.wrap ((i : Int) % 4 * 2) = (i : Int) % 4 * 2 := by rw [IntKind.wrap_i64]; omega
  have e6 : wrap64 ((i : Int) % 4 * 2) = (i : Int) % 4 * 2 := by unfold wrap64; omega
  go_enter Tryd.func43, Tryd.ntmps43
  go_wp2
  go_ret2
  exact ⟨rfl, rfl⟩
structure BytI (W : World) (b n : Nat) (h : Nat → Nat) (k : Nat) (X : World) : Prop where
  m : ThrMem (W.heap.size + 2) (W.heap.size + 3) n (howV b) X
  s : SAt X b n h
  r : IRow X W.heap.size .u8 (szN n) (byF n h k)
  c : X.cell? ⟨W.heap.size + 1, 0, none⟩ = some (.slice (some ⟨W.heap.size, 0, none⟩) (szN n) (szN n))
  b : Below W.heap.size W X
  z : W.heap.size + 4 ≤ X.heap.size
theorem IRow.belowB {u v : World} {b B : Nat} {k : IntKind} {N : Nat} {f : Nat → Int} (h : IRow u b k N f) (hb : Below B u v) (hl : b < B) : IRow v b k N f :=
  ⟨fun j hj => (hb.cell (p := ⟨b, j, none⟩) hl).trans (h.1 j hj), fun j => (hb.frozen (p := ⟨b, j, none⟩) hl).trans (h.2.1 j), Nat.lt_of_lt_of_le h.2.2 hb.size⟩
theorem BytI.below {W X X' : World} {b n k : Nat} {h : Nat → Nat} (i : BytI W b n h k X) (hb : Below (W.heap.size + 4) X X') (hl : b < W.heap.size) : BytI W b n h k X' :=
  ⟨i.m.below hb (by omega) (by omega), i.s.belowB hb (by omega), i.r.belowB hb (by omega), (hb.cell (p := ⟨W.heap.size + 1, 0, none⟩) (by show W.heap.size + 1 < _; omega)).trans i.c, i.b.trans (hb.mono (by omega)), Nat.le_trans i.z hb.size⟩
set_option maxRecDepth 100000 in
set_option maxHeartbeats 1000000 in
theorem bytes_ok (W : World) (b n : Nat) (h : Nat → Nat) (s : SAt W b n h) (q : SOk n h) : Calls Tryd.prog 20 #[.pointer (some ⟨b, 0, none⟩)] W fun e w' => e = .returned (.slice (some ⟨W.heap.size, 0, none⟩) (szN n) (szN n)) ∧ IRow w' W.heap.size .u8 (szN n) (byF n h n) ∧ Below W.heap.size W w' := by
  refine (callsIn_wide (n := 5)).1 ?_
  have hb := s.l
  have n1 := q.n1
  have n2 := q.n2
  have sz : 3 ≤ szN n ∧ szN n ≤ 130 := by unfold szN; omega
  have M := hidIt (smade_ok W b n h s)
  have S := hidIt s
  have K := hidIt q
  have SZ := hidIt fun (u : World) => size_ok n (by omega) u
  have c1 := s.c1
  have mk := make_bytes (szN n) (by omega)
  clear s q
  refine callsIn_of_wp_marks Tryd.func20 rfl trivial ?_ rfl
  simp only [Tryd.ntmps20, List.size_toArray, List.length_cons, List.length_nil, Nat.reduceAdd, Nat.reduceSub, Array.replicate_succ, Array.replicate_zero, List.push_toArray, List.append_toArray, List.nil_append, List.cons_append]
  gi_wp2
  refine ⟨trivial, ?_⟩
  refine CallsIn.mono ((callsIn_wide (n := _)).2 M.out) ?_
  rintro e w' ⟨rfl, hw⟩
  subst w'
  gi_wp2
  refine ⟨trivial, ?_⟩
  refine CallsIn.mono ((callsIn_wide (n := _)).2 (SZ.out _)) ?_
  rintro e w' ⟨rfl, hw⟩
  subst w'
  gi_wp2
  have R2 : Hid (IRow ((W.alloc (.cells (zeros (szN n)) 5)).alloc (.cells #[.slice (some ⟨W.heap.size, 0, none⟩) (szN n) (szN n)] 38)) W.heap.size .u8 (szN n) (fun _ => 0)) := (IRow.made W (szN n) _).alloc _
  have B2 : Hid (Below W.heap.size W ((W.alloc (.cells (zeros (szN n)) 5)).alloc (.cells #[.slice (some ⟨W.heap.size, 0, none⟩) (szN n) (szN n)] 38))) := ((Below.refl _ _).alloc (Nat.le_refl _) _).alloc (by simp) _
  have z2 : ((W.alloc (.cells (zeros (szN n)) 5)).alloc (.cells #[.slice (some ⟨W.heap.size, 0, none⟩) (szN n) (szN n)] 38)).heap.size = W.heap.size + 2 := by simp
  have p2 : ((W.alloc (.cells (zeros (szN n)) 5)).alloc (.cells #[.slice (some ⟨W.heap.size, 0, none⟩) (szN n) (szN n)] 38)).drew.cell? ⟨W.heap.size + 1, 0, none⟩ = some (.slice (some ⟨W.heap.size, 0, none⟩) (szN n) (szN n)) := by simp [go_sem]
  clear c1
  generalize ((W.alloc (.cells (zeros (szN n)) 5)).alloc (.cells #[.slice (some ⟨W.heap.size, 0, none⟩) (szN n) (szN n)] 38)) = W2 at R2 B2 z2 p2 ⊢
  have S2 := hidIt (S.out.below B2.out)
  have c1 : W2.drew.cell? ⟨b, 1, none⟩ = some (.int .i64 (n : Int)) := S2.out.c1
  have r0 : W2.drew.cell? ⟨W.heap.size, 0, none⟩ = some (.int .u8 0) := R2.out.1 0 (by omega)
  have r1 : W2.drew.cell? ⟨W.heap.size, 1, none⟩ = some (.int .u8 0) := R2.out.1 1 (by omega)
  have f0 : W2.drew.frozen? ⟨W.heap.size, 0, none⟩ = false := R2.out.2.1 0
  have f1 : W2.drew.frozen? ⟨W.heap.size, 1, none⟩ = false := R2.out.2.1 1
  have j0 : (0 : Int) < ((szN n : Nat) : Int) := by omega
  have j1 : (1 : Int) < ((szN n : Nat) : Int) := by omega
  have j2 : 0 < szN n := by omega
  clear mk SZ M
  have T1 : Hid (∀ X : World, IRow X W.heap.size .u8 (szN n) (fun _ => 0) → But W.heap.size W2 X → ∃ Y, (Instr.storeAt 5 (.pointer (some ⟨W.heap.size, 0, none⟩)) (.int .u8 (IntKind.u8.wrap (n : Int)))).run Tryd.prog X = .ok () Y ∧ IRow Y W.heap.size .u8 (szN n) (upd (fun _ => 0) 0 (IntKind.u8.wrap (n : Int))) ∧ But W.heap.size W2 Y ∧ Y.heap.size = X.heap.size) := fun X hX hB => by
    have c0 := hX.1 0 (by omega)
    have f0 := hX.2.1 0
    exact ⟨X.setCell ⟨W.heap.size, 0, none⟩ (.int .u8 (IntKind.u8.wrap (n : Int))), by simp [go_sem, c0, f0], hX.set 0 _, hB.trans (But.set _ _ _), by simp [World.setCell]⟩
  have T2 : Hid (∀ X : World, IRow X W.heap.size .u8 (szN n) (upd (fun _ => 0) 0 (IntKind.u8.wrap (n : Int))) → But W.heap.size W2 X → ∃ Y, (Instr.storeAt 5 (.pointer (some ⟨W.heap.size, 1, none⟩)) (.int .u8 (IntKind.u8.wrap ((n : Int) / 256)))).run Tryd.prog X = .ok () Y ∧ IRow Y W.heap.size .u8 (szN n) (byF n h 0) ∧ But W.heap.size W2 Y ∧ Y.heap.size = X.heap.size) := fun X hX hB => by
    have c0 := hX.1 1 (by omega)
    have f0 := hX.2.1 1
    refine ⟨X.setCell ⟨W.heap.size, 1, none⟩ (.int .u8 (IntKind.u8.wrap ((n : Int) / 256))), by simp [go_sem, c0, f0], (hX.set 1 _).congr (fun j _ => ?_), hB.trans (But.set _ _ _), by simp [World.setCell]⟩
    unfold upd byF
    by_cases e1 : j = 1
    · subst e1; rw [if_pos rfl, if_neg (by omega), if_pos rfl, IntKind.wrap_u8']; omega
    · rw [if_neg e1]
      by_cases e0 : j = 0
      · subst e0; rw [if_pos rfl, if_pos rfl, IntKind.wrap_u8']; omega
      · rw [if_neg e0, if_neg e0, if_neg e1]; simp [byteN, qd]
  have hSS : Hid (∀ X : World, But W.heap.size W2 X → X.cell? ⟨W.heap.size + 1, 0, none⟩ = some (.slice (some ⟨W.heap.size, 0, none⟩) (szN n) (szN n)) ∧ X.cell? ⟨b, 1, none⟩ = some (.int .i64 (n : Int))) := fun X hB => ⟨(hB.cell (p := ⟨W.heap.size + 1, 0, none⟩) (by show W.heap.size + 1 < _; omega) (by show W.heap.size + 1 ≠ _; omega)).trans p2, (hB.cell (p := ⟨b, 1, none⟩) (by show b < _; omega) (by show b ≠ _; omega)).trans c1⟩
  clear r0 r1 f0 f1
  refine region_wd (S := fun X => X.cell? ⟨W.heap.size + 1, 0, none⟩ = some (.slice (some ⟨W.heap.size, 0, none⟩) (szN n) (szN n)) ∧ X.cell? ⟨b, 1, none⟩ = some (.int .i64 (n : Int))) (by kernel_rfl) (by kernel_rfl) (hSS.out _ (But.refl _ _).drew) (fun hHeld => ?_)
  refine take_at (i := 0) (v := ?_) (some 17) rfl rfl (by kernel_rfl) (by kernel_rfl) (by kernel_rfl) (fun _ _ _ h => by cases h.1) (Or.inl ⟨by rfl, ?_⟩) (by assumption) ?_
  rotate_left
  · (intro w hSw; (try dsimp only at hSw); (try obtain ⟨_q1, _q2⟩ := hSw); go_simp; try with_reducible rfl)
  simp only [Act.put, List.setIfInBounds_toArray, List.set_cons_zero, List.set_cons_succ]
  refine take_at (i := 1) (v := ?_) (some 18) rfl rfl (by kernel_rfl) (by kernel_rfl) (by kernel_rfl) (fun _ _ _ h => by cases h.1) (Or.inl ⟨by rfl, ?_⟩) (by assumption) ?_
  rotate_left
  · (intro w hSw; (try dsimp only at hSw); (try obtain ⟨_q1, _q2⟩ := hSw); go_simp; try with_reducible rfl)
  simp only [Act.put, List.setIfInBounds_toArray, List.set_cons_zero, List.set_cons_succ]
  refine take_at (i := 2) (v := ?_) (some 19) rfl rfl (by kernel_rfl) (by kernel_rfl) (by kernel_rfl) (fun _ _ _ h => by cases h.1) (Or.inl ⟨by rfl, ?_⟩) (by assumption) ?_
  rotate_left
  · (intro w hSw; (try dsimp only at hSw); (try obtain ⟨_q1, _q2⟩ := hSw); go_simp; try with_reducible rfl)
  simp only [Act.put, List.setIfInBounds_toArray, List.set_cons_zero, List.set_cons_succ]
  refine take_at (i := 3) (v := ?_) (some 20) rfl rfl (by kernel_rfl) (by kernel_rfl) (by kernel_rfl) (fun _ _ _ h => by cases h.1) (Or.inl ⟨by rfl, ?_⟩) (by assumption) ?_
  rotate_left
  · (intro w hSw; (try dsimp only at hSw); (try obtain ⟨_q1, _q2⟩ := hSw); go_simp; try with_reducible rfl)
  simp only [Act.put, List.setIfInBounds_toArray, List.set_cons_zero, List.set_cons_succ]
  refine take_at (i := 4) (v := ?_) (some 21) rfl rfl (by kernel_rfl) (by kernel_rfl) (by kernel_rfl) (fun _ _ _ h => by cases h.1) (Or.inl ⟨by rfl, ?_⟩) (by assumption) ?_
  rotate_left
  · (intro w hSw; (try dsimp only at hSw); (try obtain ⟨_q1, _q2⟩ := hSw); go_simp; try with_reducible rfl)
  simp only [Act.put, List.setIfInBounds_toArray, List.set_cons_zero, List.set_cons_succ]
  refine take_at (i := 5) (v := ?_) (some 22) rfl rfl (by kernel_rfl) (by kernel_rfl) (by kernel_rfl) (fun _ _ _ h => by cases h.1) (Or.inl ⟨by rfl, ?_⟩) (by assumption) ?_
  rotate_left
  · (intro w hSw; (try dsimp only at hSw); (try obtain ⟨_q1, _q2⟩ := hSw); go_simp; try with_reducible rfl)
  simp only [Act.put, List.setIfInBounds_toArray, List.set_cons_zero, List.set_cons_succ]
  refine take_at (i := 6) (v := ?_) (some 23) rfl rfl (by kernel_rfl) (by kernel_rfl) (by kernel_rfl) (fun _ _ _ h => by cases h.1) (Or.inl ⟨by rfl, ?_⟩) (by assumption) ?_
  rotate_left
  · (intro w hSw; (try dsimp only at hSw); (try obtain ⟨_q1, _q2⟩ := hSw); go_simp; try with_reducible rfl)
  simp only [Act.put, List.setIfInBounds_toArray, List.set_cons_zero, List.set_cons_succ]
  refine take_at (i := 7) (v := ?_) (some 24) rfl rfl (by kernel_rfl) (by kernel_rfl) (by kernel_rfl) (fun _ _ _ h => by cases h.1) (Or.inl ⟨by rfl, ?_⟩) (by assumption) ?_
  rotate_left
  · (intro w hSw; (try dsimp only at hSw); (try obtain ⟨_q1, _q2⟩ := hSw); go_simp; try with_reducible rfl)
  simp only [Act.put, List.setIfInBounds_toArray, List.set_cons_zero, List.set_cons_succ]
  refine take_at (i := 8) (v := ?_) (some 25) rfl rfl (by kernel_rfl) (by kernel_rfl) (by kernel_rfl) (fun _ _ _ h => by cases h.1) (Or.inl ⟨by rfl, ?_⟩) (by assumption) ?_
  rotate_left
  · (intro w hSw; (try dsimp only at hSw); (try obtain ⟨_q1, _q2⟩ := hSw); go_simp; try with_reducible rfl)
  simp only [Act.put, List.setIfInBounds_toArray, List.set_cons_zero, List.set_cons_succ]
  refine take_at (i := 9) (v := ?_) (some 26) rfl rfl (by kernel_rfl) (by kernel_rfl) (by kernel_rfl) (fun _ _ _ h => by cases h.1) (Or.inl ⟨by rfl, ?_⟩) (by assumption) ?_
  rotate_left
  · (intro w hSw; (try dsimp only at hSw); (try obtain ⟨_q1, _q2⟩ := hSw); go_simp; try with_reducible rfl)
  simp only [Act.put, List.setIfInBounds_toArray, List.set_cons_zero, List.set_cons_succ]
  refine take_at (i := 10) (v := ?_) (some 27) rfl rfl (by kernel_rfl) (by kernel_rfl) (by kernel_rfl) (fun _ _ _ h => by cases h.1) (Or.inl ⟨by rfl, ?_⟩) (by assumption) ?_
  rotate_left
  · (intro w hSw; (try dsimp only at hSw); (try obtain ⟨_q1, _q2⟩ := hSw); go_simp; try with_reducible rfl)
  simp only [Act.put, List.setIfInBounds_toArray, List.set_cons_zero, List.set_cons_succ]
  refine take_at (i := 11) (v := ?_) (some 28) rfl rfl (by kernel_rfl) (by kernel_rfl) (by kernel_rfl) (fun _ _ _ h => by cases h.1) (Or.inl ⟨by rfl, ?_⟩) (by assumption) ?_
  rotate_left
  · (intro w hSw; (try dsimp only at hSw); (try obtain ⟨_q1, _q2⟩ := hSw); go_simp; try with_reducible rfl)
  simp only [Act.put, List.setIfInBounds_toArray, List.set_cons_zero, List.set_cons_succ]
  refine take_at (i := 12) (v := ?_) (some 29) rfl rfl (by kernel_rfl) (by kernel_rfl) (by kernel_rfl) (fun _ _ _ h => by cases h.1) (Or.inl ⟨by rfl, ?_⟩) (by assumption) ?_
  rotate_left
  · (intro w hSw; (try dsimp only at hSw); (try obtain ⟨_q1, _q2⟩ := hSw); go_simp; try with_reducible rfl)
  simp only [Act.put, List.setIfInBounds_toArray, List.set_cons_zero, List.set_cons_succ]
  refine take_at (i := 13) (v := ?_) (some 30) rfl rfl (by kernel_rfl) (by kernel_rfl) (by kernel_rfl) (fun _ _ _ h => by cases h.1) (Or.inl ⟨by rfl, ?_⟩) (by assumption) ?_
  rotate_left
  · (intro w hSw; (try dsimp only at hSw); (try obtain ⟨_q1, _q2⟩ := hSw); go_simp; try with_reducible rfl)
  simp only [Act.put, List.setIfInBounds_toArray, List.set_cons_zero, List.set_cons_succ]
  obtain ⟨W3, hr3, R3, B3, y3⟩ := T1.out _ R2.out.drew (But.refl _ _).drew
  refine mute_at (i := 14) none rfl rfl (by rfl) (by kernel_rfl) W3 (put_mute 5 (.tmp 30) (.tmp 23) rfl _ _ rfl rfl hr3) (hSS.out _ B3) (fun hHeld => ?_)
  simp only [Act.put]
  refine take_at (i := 15) (v := ?_) (some 31) rfl rfl (by kernel_rfl) (by kernel_rfl) (by kernel_rfl) (fun _ _ _ h => by cases h.1) (Or.inl ⟨by rfl, ?_⟩) (by assumption) ?_
  rotate_left
  · (intro w hSw; (try dsimp only at hSw); (try obtain ⟨_q1, _q2⟩ := hSw); go_simp; try with_reducible rfl)
  simp only [Act.put, List.setIfInBounds_toArray, List.set_cons_zero, List.set_cons_succ]
  obtain ⟨W4, hr4, R4, B4, y4⟩ := T2.out _ R3 B3
  refine mute_at (i := 16) none rfl rfl (by rfl) (by kernel_rfl) W4 (put_mute 5 (.tmp 31) (.tmp 29) rfl _ _ rfl rfl hr4) (hSS.out _ B4) (fun hHeld => ?_)
  simp only [Act.put]
  refine wpAnyH_done (by kernel_rfl) ?_ _
  refine ⟨rfl, ?_⟩
  have S4 := hidIt (S2.out.but B4 (by omega))
  have p4 := hidIt (hSS.out _ B4).1
  have E4 := hidIt (And.intro R4 (B2.out.trans (B4.below (Nat.le_refl _) (by omega))))
  have z4 : W4.heap.size = W.heap.size + 2 := by rw [y4, y3]; exact z2
  clear R3 B3 hr3 R4 B4 hr4 T1 T2 hSS p2 c1 y3 y4 hHeld
  gi_wp2
  refine ⟨trivial, ?_⟩
  refine CallsIn.mono ((callsIn_wide (n := _)).2 (each_ok W4 b n _ S4.out)) ?_
  rintro e w' ⟨rfl, rfl⟩
  have I0 : BytI W b n h 0 (eachW W4 b n) := ⟨by have := eachW_mem W4 b n; rw [z4] at this; exact this, S4.out.below (eachW_below _ _ _), E4.out.1.below (eachW_below _ _ _), ((eachW_below W4 b n).cell (p := ⟨W.heap.size + 1, 0, none⟩) (by show W.heap.size + 1 < _; omega)).trans p4.out, E4.out.2.trans ((eachW_below _ _ _).mono (by omega)), by rw [eachW_size]; omega⟩
  have z5 : (eachW W4 b n).heap.size = W.heap.size + 4 := by rw [eachW_size]; omega
  rw [z4]
  generalize eachW W4 b n = W5 at I0 z5 ⊢
  clear S4 E4 p4 z4 S2 R2 B2 z2
  gi_wp2
  refine range_thr (m := 5) 34 35 (by omega) (W.heap.size + 2) (W.heap.size + 3) n n2 49 (fun _ _ => by simp [go_sem]) [.pointer (some ⟨b, 0, none⟩)] [] (fun i => ((h i : Nat) : Int)) rfl (BytI W b n h) (fun k X X' i hB => i.below (by rw [← z5]; exact hB) hb) (fun k X i => by rw [z5]; exact i.z) I0 (fun k X i => i.m) (fun k X hk i => (how_ok X b n h k (by omega) (K.out.le k) i.s).mono fun e w' q => ⟨q.1, q.2.1⟩) ?_ ?_
  · intro l k X hk hI hl1 hl2
    have i0 : Hid (∀ X', But l X X' → BytI W b n h k X') := fun X' hB => hI.below (hB.below (by omega) hI.z) hb
    clear hI I0
    rw [z5] at hl1 ⊢
    simp only [List.setIfInBounds_toArray, List.set_cons_zero, List.set_cons_succ]
    gi_wp2
    refine ⟨KeepsFrom.refl _ _, fun X2 hB2 hz2 => ?_⟩
    have I2 := hidIt (i0.out X2 hB2)
    clear i0 hB2 hz2
    gi_wp2
    refine ⟨trivial, ?_⟩
    refine (CallsIn.inRound l ((callsIn_wide (n := _)).2 (stand_ok k (by omega) X2))).mono ?_
    rintro e X3 ⟨rfl, hw⟩
    subst X3
    gi_wp2
    have hle := K.out.le k
    have e1 : (2 + (k : Int) / 4).toNat = 2 + k / 4 := by omega
    have e2 : (0 : Int) ≤ 2 + (k : Int) / 4 := by omega
    have e3 : 2 + (k : Int) / 4 < ((szN n : Nat) : Int) := by unfold szN; omega
    have e4 : (0 : Int) ≤ (k : Int) % 4 * 2 := by omega
    have e5 : (k : Int) % 4 * 2 ≤ 8 := by omega
    have e6 : ((k : Int) % 4 * 2).toNat = k % 4 * 2 := by omega
    have e7 : IntKind.u8.wrap ((h k : Nat) : Int) = ((h k : Nat) : Int) := by rw [IntKind.wrap_u8']; omega
    have e8 := shl_step h K.out.le k
    have e9 : bits .or .u8 ((byteN h k (k / 4) : Nat) : Int) (((h k : Nat) : Int) * 4 ^ (k % 4)) = ((byteN h k (k / 4) + h k * 4 ^ (k % 4) : Nat) : Int) := by
      have := or_step h K.out.le k
      rw [← this]
      simp
    have l3 : X2.drew.cell? ⟨W.heap.size, 2 + k / 4, none⟩ = some (.int .u8 ((byteN h k (k / 4) : Nat) : Int)) := by
      rw [← byF_at n]
      exact I2.out.r.1 (2 + k / 4) (by unfold szN; omega)
    have f3 : X2.drew.frozen? ⟨W.heap.size, 2 + k / 4, none⟩ = false := I2.out.r.2.1 _
    have hr3 : (Instr.storeAt 5 (.pointer (some ⟨W.heap.size, 2 + k / 4, none⟩)) (.int .u8 ((byteN h k (k / 4) + h k * 4 ^ (k % 4) : Nat) : Int))).run Tryd.prog X2.drew = .ok () (X2.drew.setCell ⟨W.heap.size, 2 + k / 4, none⟩ (.int .u8 ((byteN h k (k / 4) + h k * 4 ^ (k % 4) : Nat) : Int))) := by simp [go_sem, l3, f3]
    have R3 := I2.out.r.drew.set (2 + k / 4) ((byteN h k (k / 4) + h k * 4 ^ (k % 4) : Nat) : Int)
    rw [byF_step] at R3
    have B3 : But W.heap.size X2 (X2.drew.setCell ⟨W.heap.size, 2 + k / 4, none⟩ (.int .u8 ((byteN h k (k / 4) + h k * 4 ^ (k % 4) : Nat) : Int))) := (But.refl _ _).drew.trans (But.set _ _ _)
    generalize (X2.drew.setCell ⟨W.heap.size, 2 + k / 4, none⟩ (.int .u8 ((byteN h k (k / 4) + h k * 4 ^ (k % 4) : Nat) : Int))) = X3 at hr3 R3 B3
    have z2 := I2.out.z
    have I3 : Hid (BytI W b n h (k + 1) X3 ∧ KeepsFrom (W.heap.size + 4) X2 X3) := by
      have i := I2.out
      have nm : ∀ (p : Nat), p < X2.heap.size → p ≠ W.heap.size → ∀ o, X3.cell? ⟨p, o, none⟩ = X2.cell? ⟨p, o, none⟩ := fun p hp hn o => B3.cell (p := ⟨p, o, none⟩) hp hn
      exact ⟨⟨⟨(nm _ (by omega) (by omega) _).trans i.m.cn, (nm _ (by omega) (by omega) _).trans i.m.ch⟩, i.s.but B3 (by omega), R3, (nm _ (by omega) (by omega) _).trans i.c, i.b.trans (B3.below (Nat.le_refl _) (by omega)), Nat.le_trans z2 B3.size⟩, keeps_but B3 (by omega)⟩
    clear R3 B3
    refine region_in (S := fun X => X.cell? ⟨W.heap.size + 1, 0, none⟩ = some (.slice (some ⟨W.heap.size, 0, none⟩) (szN n) (szN n))) (by kernel_rfl) (by kernel_rfl) I2.out.c (fun hHeld => ?_)
    refine take_at (i := 0) (v := ?_) (some 41) rfl rfl (by kernel_rfl) (by kernel_rfl) (by kernel_rfl) (fun _ _ _ h => by cases h.1) (Or.inl ⟨by rfl, ?_⟩) (by assumption) ?_
    rotate_left
    · (intro w hSw; (try dsimp only at hSw); (try obtain _q := hSw); go_simp; try with_reducible rfl)
    simp only [Act.put, List.setIfInBounds_toArray, List.set_cons_zero, List.set_cons_succ]
    refine take_at (i := 1) (v := ?_) (some 42) rfl rfl (by kernel_rfl) (by kernel_rfl) (by kernel_rfl) (fun _ _ _ h => by cases h.1) (Or.inl ⟨by rfl, ?_⟩) (by assumption) ?_
    rotate_left
    · (intro w hSw; (try dsimp only at hSw); (try obtain _q := hSw); go_simp; try with_reducible rfl)
    simp only [Act.put, List.setIfInBounds_toArray, List.set_cons_zero, List.set_cons_succ]
    refine take_at (i := 2) (v := ?_) (some 43) rfl rfl (by kernel_rfl) (by kernel_rfl) (by kernel_rfl) (fun _ _ _ h => by cases h.1) (Or.inl ⟨by rfl, ?_⟩) (by assumption) ?_
    rotate_left
    · (intro w hSw; (try dsimp only at hSw); (try obtain _q := hSw); go_simp; try with_reducible rfl)
    simp only [Act.put, List.setIfInBounds_toArray, List.set_cons_zero, List.set_cons_succ]
    refine take_at (i := 4) (v := ?_) (some 45) rfl rfl (by kernel_rfl) (by kernel_rfl) (by kernel_rfl) (fun _ _ _ h => by cases h.1) (Or.inl ⟨by rfl, ?_⟩) (by assumption) ?_
    rotate_left
    · (intro w hSw; (try dsimp only at hSw); (try obtain _q := hSw); go_simp; try with_reducible rfl)
    simp only [Act.put, List.setIfInBounds_toArray, List.set_cons_zero, List.set_cons_succ]
    refine take_at (i := 5) (v := ?_) (some 46) rfl rfl (by kernel_rfl) (by kernel_rfl) (by kernel_rfl) (fun _ _ _ h => by cases h.1) (Or.inl ⟨by rfl, ?_⟩) (by assumption) ?_
    rotate_left
    · (intro w hSw; (try dsimp only at hSw); (try obtain _q := hSw); go_simp; try with_reducible rfl)
    simp only [Act.put, List.setIfInBounds_toArray, List.set_cons_zero, List.set_cons_succ]
    refine take_at (i := 6) (v := ?_) (some 47) rfl rfl (by kernel_rfl) (by kernel_rfl) (by kernel_rfl) (fun _ _ _ h => by cases h.1) (Or.inl ⟨by rfl, ?_⟩) (by assumption) ?_
    rotate_left
    · (intro w hSw; (try dsimp only at hSw); (try obtain _q := hSw); go_simp; try with_reducible rfl)
    simp only [Act.put, List.setIfInBounds_toArray, List.set_cons_zero, List.set_cons_succ]
    refine take_at (i := 7) (v := ?_) (some 48) rfl rfl (by kernel_rfl) (by kernel_rfl) (by kernel_rfl) (fun _ _ _ h => by cases h.1) (Or.inl ⟨by rfl, ?_⟩) (by assumption) ?_
    rotate_left
    · (intro w hSw; (try dsimp only at hSw); (try obtain _q := hSw); go_simp; try with_reducible rfl)
    simp only [Act.put, List.setIfInBounds_toArray, List.set_cons_zero, List.set_cons_succ]
    refine step_at (i := 3) (some 44) rfl rfl (by rfl) (by kernel_rfl) (.int .u8 ((byteN h k (k / 4) : Nat) : Int)) X2.drew (by simp [execOp, go_sem, Act.eval, l3]) (by assumption) (fun hHeld => ?_)
    simp only [Act.put, List.setIfInBounds_toArray, List.set_cons_zero, List.set_cons_succ]
    refine take_at (i := 8) (v := ?_) (some 49) rfl rfl (by kernel_rfl) (by kernel_rfl) (by kernel_rfl) (fun _ _ _ h => by cases h.1) (Or.inl ⟨by rfl, ?_⟩) (by assumption) ?_
    rotate_left
    · (intro w hSw; (try dsimp only at hSw); (try obtain _q := hSw); go_simp; try with_reducible rfl)
    simp only [Act.put, List.setIfInBounds_toArray, List.set_cons_zero, List.set_cons_succ]
    refine take_at (i := 9) (v := ?_) (some 50) rfl rfl (by kernel_rfl) (by kernel_rfl) (by kernel_rfl) (fun _ _ _ h => by cases h.1) (Or.inl ⟨by rfl, ?_⟩) (by assumption) ?_
    rotate_left
    · (intro w hSw; (try dsimp only at hSw); (try obtain _q := hSw); go_simp; try with_reducible rfl)
    simp only [Act.put, List.setIfInBounds_toArray, List.set_cons_zero, List.set_cons_succ]
    refine mute_at (i := 10) none rfl rfl (by rfl) (by kernel_rfl) X3 (put_mute 5 (.tmp 50) (.tmp 49) rfl _ _ rfl rfl hr3) I3.out.1.c (fun hHeld => ?_)
    simp only [Act.put]
    refine wpAnyH_done (by kernel_rfl) ?_ _
    refine ⟨rfl, ?_⟩
    gi_wp2
    exact ⟨I3.out.2, I3.out.1⟩
  · intro D X hD hI hd
    have c1 := hI.c
    have E := hidIt hI
    rw [z5] at hD
    clear hI I0
    gi_wp2
    refine And.intro (by simp) (Or.inl ⟨_, _, rfl, run_takeDeferred hd, ?_⟩)
    refine ⟨.slice (some ⟨W.heap.size, 0, none⟩) (szN n) (szN n), by simp [results, Tryd.results20, go_sem], rfl, ?_⟩
    have U : But D X (X.putObj D (.deferred none)) := But.putO _ _ _
    exact ⟨E.out.r.but U (by omega), E.out.b.trans (U.below (by omega) E.out.b.size)⟩
end Go.Proofs.YtkncnpjhfcfmnaaDoor
