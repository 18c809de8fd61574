/-
  Walks, not a claim by itself: the reference's Read. By the verifier.
-/
import Derived.Test.YtkncnpjhfcfmnaaDoorFRef
namespace Go.Proofs.YtkncnpjhfcfmnaaDoor
open Go.RowKit Go.Shelf
attribute [local go_sem] Oper.semAt_some
theorem rread_short (W : World) (p : Option Addr) (L C : Nat) (h : L < 2) : Calls Tryd.prog 16 #[.slice p L C] W fun e w' => e = .returned (.tuple #[.pointer none, .int .i64 4]) ∧ w' = W := by
  have h1 : (L : Int) < 2 := by omega
  go_enter Tryd.func16, Tryd.ntmps16
  go_wp2
  go_ret2
  exact ⟨rfl, rfl⟩
/-- The blocks, as far as the reference has read them. -/
def rkH (f : Nat → Int) (k i : Nat) : Nat := if i < k then sdN f i else 0
theorem rkH_step (f : Nat → Int) (k : Nat) : upd (nts (rkH f k)) k ((sdN f k : Nat) : Int) = nts (rkH f (k + 1)) := by
  funext j
  unfold upd nts rkH
  by_cases e : j = k
  · subst e; rw [if_pos rfl, if_pos (by omega)]
  · rw [if_neg e]
    by_cases e2 : j < k
    · rw [if_pos e2, if_pos (by omega)]
    · rw [if_neg e2, if_neg (by omega)]
theorem rkH_le (f : Nat → Int) (n : Nat) (h : ∀ i, i < n → sdN f i ≠ 3) (i : Nat) : rkH f n i ≤ 2 := by
  unfold rkH
  split
  · have := h i (by assumption); have := sdN_lt f i; omega
  · omega
theorem putS_id (x : Nat) (h : x < 4) (h3 : x ≠ 3) : putS x = x := by
  have : x = 0 ∨ x = 1 ∨ x = 2 := by omega
  rcases this with rfl | rfl | rfl <;> rfl
theorem qd_congr (h g : Nat → Nat) (n j t : Nat) (e : ∀ i, i < n → h i = g i) : qd h n j t = qd g n j t := by
  unfold qd
  by_cases c : 4 * j + t < n
  · rw [if_pos c, if_pos c, e _ c]
  · rw [if_neg c, if_neg c]
theorem byF_congr (n : Nat) (h g : Nat → Nat) (e : ∀ i, i < n → h i = g i) (j : Nat) : byF n h n j = byF n g n j := by
  unfold byF byteN
  rw [qd_congr h g n _ 0 e, qd_congr h g n _ 1 e, qd_congr h g n _ 2 e, qd_congr h g n _ 3 e]
theorem rkH_all (f : Nat → Int) (n : Nat) (h : ∀ i, i < n → sdN f i ≠ 3) (i : Nat) (hi : i < n) : rkH f n i = rdH f n n i := by
  unfold rkH rdH
  rw [if_pos hi, if_pos hi, putS_id _ (sdN_lt f i) (h i hi)]
theorem rdOK_ne3 {L : Nat} {f : Nat → Int} (k : rdOK L f) (i : Nat) (hi : i < rdC f) : sdN f i ≠ 3 := by
  have so := rdH_sok f (rdC f) (rdC f) k.2.1 k.2.2.1 (Nat.le_refl _)
  have h1 := byF_sd so i hi
  have h2 : sdN f i = sdN (byF (rdC f) (rdH f (rdC f) (rdC f)) (rdC f)) i := by
    unfold sdN
    rw [k.2.2.2.2 (2 + i / 4) (by rw [k.2.2.2.1]; unfold szN; omega)]
  rw [h2, h1]
  have := so.le i
  omega
/-- What the reference's Read answers, and what it leaves. -/
def RrPost (W : World) (L : Nat) (f : Nat → Int) (e : Ending) (w' : World) : Prop :=
  (rdOK L f ∧ ∃ r B, W.heap.size ≤ r ∧ W.heap.size ≤ B ∧ e = .returned (.tuple #[.pointer (some ⟨r, 0, none⟩), .int .i64 0]) ∧ RAt w' r B (rdC f) (rkH f (rdC f)) ∧ Below W.heap.size W w') ∨
  (¬ rdOK L f ∧ e = .returned (.tuple #[.pointer none, .int .i64 4]) ∧ Below W.heap.size W w')
/-- What holds while the reference reads. -/
structure RrI (W : World) (r B : Nat) (f : Nat → Int) (k : Nat) (X : World) : Prop where
  a : RAt X r B (rdC f) (rkH f k)
  w : Below W.heap.size W X
  no : ∀ i, i < k → sdN f i ≠ 3
theorem rd_facts (f : Nat → Int) (y0 : 0 ≤ f 0 ∧ f 0 < 256) (y1 : 0 ≤ f 1 ∧ f 1 < 256) : IntKind.i64.wrap (f 0) = f 0 ∧ IntKind.i64.wrap (f 1) = f 1 ∧ IntKind.i64.wrap (256 * f 1) = 256 * f 1 ∧ IntKind.i64.wrap (f 0 + 256 * f 1) = ((rdC f : Nat) : Int) ∧ rdC f ≤ 65535 := by
  refine ⟨by rw [IntKind.wrap_i64]; omega, by rw [IntKind.wrap_i64]; omega, by rw [IntKind.wrap_i64]; omega, by rw [IntKind.wrap_i64]; unfold rdC; omega, by unfold rdC; omega⟩
theorem ne_b (a b : Nat) (h : a ≠ b) : ((a : Int) != (b : Int)) = true := by simpa using (fun q => h (by omega))
theorem sz_facts (n : Nat) (h : n ≤ 65535) : ∃ Q : Int, wrap64 ((n : Int) + 3) = (n : Int) + 3 ∧ wrap64 (Int.tdiv ((n : Int) + 3) 4) = Q ∧ wrap64 (2 + Q) = ((szN n : Nat) : Int) ∧ IntKind.i64.wrap ((n : Int) + 3) = (n : Int) + 3 ∧ IntKind.i64.wrap (Int.tdiv ((n : Int) + 3) 4) = Q ∧ IntKind.i64.wrap (2 + Q) = ((szN n : Nat) : Int) := by
  refine ⟨((n : Int) + 3) / 4, by unfold wrap64; omega, ?_, by unfold wrap64 szN; omega, by rw [IntKind.wrap_i64]; omega, ?_, by rw [IntKind.wrap_i64]; unfold szN; omega⟩
  · rw [Int.tdiv_eq_ediv_of_nonneg (by omega)]; unfold wrap64; omega
  · rw [Int.tdiv_eq_ediv_of_nonneg (by omega), IntKind.wrap_i64]; omega
theorem sd_val (f : Nat → Int) (k : Nat) (h0 : 0 ≤ f (2 + k / 4)) (h1 : f (2 + k / 4) < 256) : IntKind.i64.wrap (f (2 + k / 4) / 2 ^ (2 * (k % 4))) = f (2 + k / 4) / 2 ^ (2 * (k % 4)) ∧ Int.tmod (f (2 + k / 4) / 2 ^ (2 * (k % 4))) 4 = ((sdN f k : Nat) : Int) := by
  obtain ⟨x, hx⟩ := Int.eq_ofNat_of_zero_le h0
  have e : ((2 : Int) ^ (2 * (k % 4))) = ((4 ^ (k % 4) : Nat) : Int) := by rw [Nat.mul_comm, ← pow24]; simp
  unfold sdN
  rw [hx, e, ← Int.natCast_ediv]
  have hl : x / 4 ^ (k % 4) < 256 := Nat.lt_of_le_of_lt (Nat.div_le_self _ _) (by omega)
  rw [Int.toNat_natCast]
  generalize x / 4 ^ (k % 4) = q at *
  refine ⟨by rw [IntKind.wrap_i64]; omega, ?_⟩
  rw [Int.tmod_eq_emod_of_nonneg (by omega)]
  simp
theorem cvt_run {a : Act} {w : World} {o : Oper} (x : Operand) (hop : o.op = .convert 38 9 x) (p : Option Addr) (n C : Nat) (f : Nat → Int) (hx : a.eval x = .slice p n C) (h : Arg w p n f) : (execOp a.eval o).run Tryd.prog w = .ok (.value (.string (txtN n f))) w := by
  unfold execOp
  simp only [hop, hx, Sem.run_bind, conv_arg w p n C f h, Result.andThen_ok]
  rfl
set_option maxRecDepth 100000 in
set_option maxHeartbeats 400000 in
theorem rread_n (W : World) (bb off L C : Nat) (f : Nat → Int) (l : Lies W bb off L f) (hL : 2 ≤ L) (hn : rdC f < 1 ∨ 512 < rdC f) : Calls Tryd.prog 16 #[.slice (some ⟨bb, off, none⟩) L C] W fun e w' => e = .returned (.tuple #[.pointer none, .int .i64 4]) ∧ Below W.heap.size W w' := by
  refine (callsIn_wide (n := 3)).1 ?_
  have hb := l.2.2
  have y0 := l.2.1 0 (by omega)
  have y1 := l.2.1 1 (by omega)
  have i0 : ¬ (L : Int) < 2 := by omega
  have i1 : (1 : Int) < (L : Int) := by omega
  have i2 : (0 : Int) < (L : Int) := by omega
  have i3 : 0 < L := by omega
  obtain ⟨w0, w1, w2, w3, w4⟩ := rd_facts f y0 y1
  have SS : Hid (∀ X, Below W.heap.size W X → X.cell? ⟨bb, off, none⟩ = some (.int .u8 (f 0)) ∧ X.cell? ⟨bb, off + 1, none⟩ = some (.int .u8 (f 1))) := fun X hX => ⟨(hX.cell (p := ⟨bb, off, none⟩) hb).trans (l.1 0 (by omega)), (hX.cell (p := ⟨bb, off + 1, none⟩) hb).trans (l.1 1 (by omega))⟩
  have NW := hidIt fun (u : World) => rnew_er u ((rdC f : Nat) : Int) (by omega)
  clear l
  refine callsIn_of_wp Tryd.func16 rfl trivial ?_ rfl
  simp only [Tryd.ntmps16, List.size_toArray, List.length_cons, List.length_nil, Nat.reduceAdd, Nat.reduceSub, Array.replicate_succ, Array.replicate_zero, List.push_toArray, List.append_toArray, List.nil_append, List.cons_append]
  gi_wp2
  refine region_wd (S := fun X => X.cell? ⟨bb, off, none⟩ = some (.int .u8 (f 0)) ∧ X.cell? ⟨bb, off + 1, none⟩ = some (.int .u8 (f 1))) (by kernel_rfl) (by kernel_rfl) (SS.out _ (Below.refl _ _).drew) (fun hHeld => ?_)
  refine take_at (i := 0) (v := ?_) (some 11) rfl rfl (by kernel_rfl) (by kernel_rfl) (by kernel_rfl) (fun _ _ _ h => by cases h.1) (Or.inl ⟨by rfl, ?_⟩) (by assumption) ?_
  rotate_left
  · (intro w hSw; (try dsimp only at hSw); (try obtain ⟨_q1, _q2⟩ := hSw); go_simp; try with_reducible rfl)
  simp only [Act.put, List.setIfInBounds_toArray, List.set_cons_zero, List.set_cons_succ]
  refine take_at (i := 1) (v := ?_) (some 12) rfl rfl (by kernel_rfl) (by kernel_rfl) (by kernel_rfl) (fun _ _ _ h => by cases h.1) (Or.inl ⟨by rfl, ?_⟩) (by assumption) ?_
  rotate_left
  · (intro w hSw; (try dsimp only at hSw); (try obtain ⟨_q1, _q2⟩ := hSw); go_simp; try with_reducible rfl)
  simp only [Act.put, List.setIfInBounds_toArray, List.set_cons_zero, List.set_cons_succ]
  refine take_at (i := 2) (v := ?_) (some 13) rfl rfl (by kernel_rfl) (by kernel_rfl) (by kernel_rfl) (fun _ _ _ h => by cases h.1) (Or.inl ⟨by rfl, ?_⟩) (by assumption) ?_
  rotate_left
  · (intro w hSw; (try dsimp only at hSw); (try obtain ⟨_q1, _q2⟩ := hSw); go_simp; try with_reducible rfl)
  simp only [Act.put, List.setIfInBounds_toArray, List.set_cons_zero, List.set_cons_succ]
  refine take_at (i := 3) (v := ?_) (some 14) rfl rfl (by kernel_rfl) (by kernel_rfl) (by kernel_rfl) (fun _ _ _ h => by cases h.1) (Or.inl ⟨by rfl, ?_⟩) (by assumption) ?_
  rotate_left
  · (intro w hSw; (try dsimp only at hSw); (try obtain ⟨_q1, _q2⟩ := hSw); go_simp; try with_reducible rfl)
  simp only [Act.put, List.setIfInBounds_toArray, List.set_cons_zero, List.set_cons_succ]
  refine take_at (i := 4) (v := ?_) (some 15) rfl rfl (by kernel_rfl) (by kernel_rfl) (by kernel_rfl) (fun _ _ _ h => by cases h.1) (Or.inl ⟨by rfl, ?_⟩) (by assumption) ?_
  rotate_left
  · (intro w hSw; (try dsimp only at hSw); (try obtain ⟨_q1, _q2⟩ := hSw); go_simp; try with_reducible rfl)
  simp only [Act.put, List.setIfInBounds_toArray, List.set_cons_zero, List.set_cons_succ]
  refine take_at (i := 5) (v := ?_) (some 16) rfl rfl (by kernel_rfl) (by kernel_rfl) (by kernel_rfl) (fun _ _ _ h => by cases h.1) (Or.inl ⟨by rfl, ?_⟩) (by assumption) ?_
  rotate_left
  · (intro w hSw; (try dsimp only at hSw); (try obtain ⟨_q1, _q2⟩ := hSw); go_simp; try with_reducible rfl)
  simp only [Act.put, List.setIfInBounds_toArray, List.set_cons_zero, List.set_cons_succ]
  refine take_at (i := 6) (v := ?_) (some 17) rfl rfl (by kernel_rfl) (by kernel_rfl) (by kernel_rfl) (fun _ _ _ h => by cases h.1) (Or.inl ⟨by rfl, ?_⟩) (by assumption) ?_
  rotate_left
  · (intro w hSw; (try dsimp only at hSw); (try obtain ⟨_q1, _q2⟩ := hSw); go_simp; try with_reducible rfl)
  simp only [Act.put, List.setIfInBounds_toArray, List.set_cons_zero, List.set_cons_succ]
  refine take_at (i := 7) (v := ?_) (some 18) rfl rfl (by kernel_rfl) (by kernel_rfl) (by kernel_rfl) (fun _ _ _ h => by cases h.1) (Or.inl ⟨by rfl, ?_⟩) (by assumption) ?_
  rotate_left
  · (intro w hSw; (try dsimp only at hSw); (try obtain ⟨_q1, _q2⟩ := hSw); go_simp; try with_reducible rfl)
  simp only [Act.put, List.setIfInBounds_toArray, List.set_cons_zero, List.set_cons_succ]
  refine take_at (i := 8) (v := ?_) (some 19) rfl rfl (by kernel_rfl) (by kernel_rfl) (by kernel_rfl) (fun _ _ _ h => by cases h.1) (Or.inl ⟨by rfl, ?_⟩) (by assumption) ?_
  rotate_left
  · (intro w hSw; (try dsimp only at hSw); (try obtain ⟨_q1, _q2⟩ := hSw); go_simp; try with_reducible rfl)
  simp only [Act.put, List.setIfInBounds_toArray, List.set_cons_zero, List.set_cons_succ]
  refine take_at (i := 9) (v := ?_) (some 20) rfl rfl (by kernel_rfl) (by kernel_rfl) (by kernel_rfl) (fun _ _ _ h => by cases h.1) (Or.inl ⟨by rfl, ?_⟩) (by assumption) ?_
  rotate_left
  · (intro w hSw; (try dsimp only at hSw); (try obtain ⟨_q1, _q2⟩ := hSw); go_simp; try with_reducible rfl)
  simp only [Act.put, List.setIfInBounds_toArray, List.set_cons_zero, List.set_cons_succ]
  refine take_at (i := 10) (v := ?_) (some 4) rfl rfl (by kernel_rfl) (by kernel_rfl) (by kernel_rfl) (fun _ _ _ h => by cases h.1) (Or.inl ⟨by rfl, ?_⟩) (by assumption) ?_
  rotate_left
  · (intro w hSw; (try dsimp only at hSw); (try obtain ⟨_q1, _q2⟩ := hSw); go_simp; try with_reducible rfl)
  simp only [Act.put, List.setIfInBounds_toArray, List.set_cons_zero, List.set_cons_succ]
  refine wpAnyH_done (by kernel_rfl) ?_ _
  refine ⟨rfl, ?_⟩
  clear hHeld SS w3
  gi_wp2
  refine ⟨trivial, ?_⟩
  refine CallsIn.mono ((callsIn_wide (n := _)).2 (NW.out W.drew)) ?_
  rintro e w' ⟨rfl, hw⟩
  subst w'
  gi_wp2
  go_ret2
  exact ⟨rfl, (Below.refl _ _).drew⟩
end Go.Proofs.YtkncnpjhfcfmnaaDoor
