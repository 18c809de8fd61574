/-
  Walks, not a claim by itself: loosen. By the verifier.
-/
import Derived.Test.YtfapmogjmjlokaaDTwo
namespace Go.Proofs.Ytfapmogjmjlokaa
open Go.RowKit Go.Maps
theorem zero_sec (w : World) : (zeroValue 95).run Try.prog w = .ok (secV fun _ => 0) w := by
  obtain ⟨i, hi, hz0, hz1, hz2⟩ := info_parts info_sec
  simp [zeroValue, typeInfo, hi, hz0]
theorem held_inj {v u : Value} {ps : List MemPlace} (h : heldR v = some (.held u, ps)) : v = u := by
  unfold heldR at h
  injection h with h
  injection h with h _
  injection h
/-- What lies at a sector's number in the map of old ones. -/
def oldF (lo : Nat → Bool) (ob : Nat → Int) (i : Nat) : Nat → Int := if lo i = true then at256 ob i else fun _ => 0
theorem look_at (b : Bool) {W : World} {m N i : Nat} {lo : Nat → Bool} {ob : Nat → Int} (h : MapOk W m N lo ob) (hi : i < N) (hN : N ≤ 65536) :
    (Instr.lookup 44 (.map (some m)) (.int .i64 (i : Int)) b).run Try.prog W = .ok (if b = true then .tuple #[secV (oldF lo ob i), .bool (lo i)] else secV (oldF lo ob i)) W := by
  obtain ⟨D, n, h, k⟩ := h
  have at' : D.atKey (.int .i64 (i : Int)) (.held (secV fun _ => 0)) = .held (secV (oldF lo ob i)) := by
    unfold oldF
    cases e : lo i with
    | true => rw [if_pos rfl]; exact k.val i hi e _
    | false => rw [if_neg (by simp)]; exact atKey_of_not_has ((k.iff i hi).trans e) _
  cases b with
  | true =>
    obtain ⟨v, ps, hr, hv⟩ := h.look_ok keyed_int Try.underlying44 (zero_sec W) (zd := .held (secV fun _ => 0)) (zp := []) rfl (key_nat i (by omega))
    rw [at'] at hv
    rw [hr, held_inj hv, k.iff i hi, if_pos rfl]
  | false =>
    obtain ⟨v, ps, hr, hv⟩ := h.lookup keyed_int Try.underlying44 (zero_sec W) (zd := .held (secV fun _ => 0)) (zp := []) rfl (key_nat i (by omega))
    rw [at'] at hv
    rw [hr, held_inj hv, if_neg (by simp)]
/-- F with sector i as f. -/
def putF (F : Nat → Int) (i : Nat) (f : Nat → Int) (j : Nat) : Int := if j / 256 = i then f (j % 256) else F j
theorem putF_same (F : Nat → Int) (i : Nat) (f : Nat → Int) (j : Nat) (hj : j < 256) : at256 (putF F i f) i j = f j := by
  unfold at256 putF
  rw [if_pos (by omega), show (i * 256 + j) % 256 = j by omega]
theorem putF_other (F : Nat → Int) (i n : Nat) (f : Nat → Int) (j : Nat) (hj : j < 256) (h : n ≠ i) : at256 (putF F i f) n j = at256 F n j := by
  unfold at256 putF
  rw [if_neg (by omega)]
/-- b at i too. -/
def setB (lo : Nat → Bool) (i : Nat) (n : Nat) : Bool := if n = i then true else lo n
theorem lit_ne {n i : Nat} (e : ¬ n = i) : Lit.int .i64 (n : Int) ≠ Lit.int .i64 (i : Int) := by
  intro q
  have q' : (n : Int) = i := by simpa using q
  omega
theorem put_at {W : World} {m N i : Nat} {lo : Nat → Bool} {ob : Nat → Int} (f : Nat → Int) (h : MapOk W m N lo ob) (hi : i < N) (hN : N ≤ 65536) :
    ∃ W', (Instr.mapUpdate 44 (.map (some m)) (.int .i64 (i : Int)) (secV f)).run Try.prog W = .ok () W' ∧ MapOk W' m N (setB lo i) (putF ob i f) ∧ Off [m] W W' := by
  obtain ⟨D, h, k⟩ := h.tight
  obtain ⟨W', hr, ho, hg⟩ := h.update keyed_int Try.underlying44 (by unfold maxLen; omega) (key_nat i (by omega)) (val := secV f) (d := .held (secV f)) (ps := []) rfl
  have kl : WideAt.IsKeyLit (.int .i64 (i : Int)) := trivial
  refine ⟨W', hr, ⟨_, _, ho, k.map.put _ _, fun x hx => ?_, fun n hn => ?_, fun n hn hl z => ?_⟩, Off.grown hg (fun r e => by cases e; simp)⟩
  · by_cases e : x = (i : Int)
    · exact ⟨i, e, hi⟩
    · rw [has_put_other (fun q => e (by simpa using q))] at hx
      exact k.only x hx
  · unfold setB
    by_cases e : n = i
    · subst e
      rw [if_pos rfl]
      exact has_put_same k.map kl _
    · rw [if_neg e, has_put_other (lit_ne e)]
      exact k.iff n hn
  · unfold setB at hl
    by_cases e : n = i
    · subst e
      rw [atKey_put_same k.map kl]
      unfold secV
      rw [cl_congr .u8 256 _ _ (fun j hj => (putF_same ob n f j hj).symm)]
    · rw [if_neg e] at hl
      rw [atKey_put_other (lit_ne e), k.val n hn hl z]
      unfold secV
      rw [cl_congr .u8 256 _ _ (fun j hj => (putF_other ob i n f j hj e).symm)]
/-- A disk whose sector i is loose. -/
def Dsk.loosen (D : Dsk) (i : Nat) : Dsk := { D with lo := setB D.lo i, ob := if D.lo i = true then D.ob else putF D.ob i (at256 D.sec i) }
theorem sec_at {W : World} {d s m : Nat} {D : Dsk} (h : DiskAt W d s m D) (i : Nat) (hi : i < D.N) : W.rangeAt s (i * 256) (cl .u8 256 (at256 D.sec i)) := by
  intro j v hj
  obtain ⟨hk, rfl⟩ := cl_at' hj
  exact h.row.1 (i * 256 + j) (by omega)
/-- An operation that yields nothing and alone may come up, its run known. -/
theorem skip_at {P : Program} {ops : Array Oper} {Q : Exit → Act → World → Prop} {md : Region.Mode} {S : World → Prop} {i : Nat} {o : Oper} {fuel : Nat} {listed : Array Bool} {a : Act} {w : World} (d : Option Tmp) (hi : ops[i]? = some o) (hd : o.dst = d) (hw : Region.wanted o (yielded ops a.tmps) = true) (hr : Region.ready md ops listed = [i])
    (w' : World) (hx : (execOp a.eval o).run P w = .ok .skip w') (hS : S w') (h : S w' → wpAnyH P md ops Q S fuel (listed.setIfInBounds i true) (a.put d undef) w') : wpAnyH P md ops Q S (fuel + 1) listed a w := by
  subst hd
  refine wpAnyH_all hr (by simp) (fun j hj => ?_)
  obtain rfl : j = i := by simpa using hj
  unfold wpOp
  simp only [hi, hw, if_true]
  refine .inl ?_
  unfold Oper.wp
  rw [hx]
  exact ⟨hS, h hS⟩
theorem mapup_run {a : Act} {w : World} {o : Oper} (t : TypeId) (m x v : Operand) (hop : o.op = .mapUpdate t m x v) (M X V : Value) (hm : a.eval m = M) (hx : a.eval x = X) (hv : a.eval v = V) {w' : World} (hr : (Instr.mapUpdate t M X V).run Try.prog w = .ok () w') :
    (execOp a.eval o).run Try.prog w = .ok .skip w' := by
  simp [execOp, hop, hm, hx, hv, hr, Result.andThen]
theorem DiskAt.loosed {W W' : World} {d s m i : Nat} {D : Dsk} (h : DiskAt W d s m D) (hl : D.lo i = false) (hi : i < D.N) (hm : MapOk W' m D.N (setB D.lo i) (putF D.ob i (at256 D.sec i))) (hO : Off [m] W W') : DiskAt W' d s m (D.loosen i) := by
  have e : (D.loosen i).ob = putF D.ob i (at256 D.sec i) := if_neg (by rw [hl]; simp)
  refine { recd := h.recd.off hO (by have := h.dm; simp; omega), row := h.row.off hO (by have := h.sm; simp; omega), map := ?_, sb := h.sb, obb := fun n j hn q hj => ?_, n1 := h.n1, n2 := h.n2, ds := h.ds, dm := h.dm, sm := h.sm }
  · rw [e]; exact hm
  · rw [e]
    by_cases g : n = i
    · subst g
      rw [putF_same _ _ _ _ hj]
      have hn' : n < D.N := hn
      exact h.sb _ (by omega)
    · rw [putF_other _ _ _ _ _ hj g]
      have : setB D.lo i n = true := q
      unfold setB at this
      rw [if_neg g] at this
      exact h.obb n j hn this hj
theorem DiskAt.loosed' {W : World} {d s m i : Nat} {D : Dsk} (h : DiskAt W d s m D) (hl : D.lo i = true) : DiskAt W d s m (D.loosen i) := by
  have e : (D.loosen i).ob = D.ob := if_pos hl
  have e2 : ∀ n, D.lo n = setB D.lo i n := fun n => by
    unfold setB
    by_cases g : n = i
    · rw [if_pos g, g, hl]
    · rw [if_neg g]
  refine { recd := h.recd, row := h.row, map := ?_, sb := h.sb, obb := fun n j hn q hj => ?_, n1 := h.n1, n2 := h.n2, ds := h.ds, dm := h.dm, sm := h.sm }
  · rw [e]; exact h.map.congr (fun n _ => e2 n) (fun _ _ _ _ _ => rfl)
  · rw [e]; exact h.obb n j hn ((e2 n).trans q) hj
set_option maxRecDepth 100000 in
set_option maxHeartbeats 1000000 in
theorem loosen_ok (W : World) (d s m i : Nat) (D : Dsk) (h : DiskAt W d s m D) (hi : i < D.N) : Calls Try.prog 78 #[.pointer (some ⟨d, 0, none⟩), .int .i64 (i : Int)] W fun e w' => e = .returned (.tuple #[]) ∧ DiskAt w' d s m (D.loosen i) ∧ Off [m] W w' := by
  obtain ⟨c1, f1⟩ := h.recd.cel 1 _ rfl
  obtain ⟨c2, f2⟩ := h.recd.cel 2 _ rfl
  have hlk := look_at true h.map hi h.n2
  rw [if_pos rfl] at hlk
  unfold secV at hlk
  have HD : Hid (DiskAt W d s m D) := h
  have h2 := h.n2
  have i0 : (0 : Int) ≤ i := by omega
  have i1 : (i : Int) < D.N := by omega
  clear h
  cases e : D.lo i with
  | true =>
    have HE : Hid (D.lo i = true) := e
    rw [e] at hlk
    clear e
    go_enter Try.func78, Try.ntmps78
    go_wp2_with (first
      | (refine wpList_alloc_row rfl 95 rfl .u8 256 W.heap.size rfl (by kernel_rfl) ?_; intro W1 R1 B1 z1)
      | (refine wpList_store_row rfl 95 (.tmp 4) (.tmp 13) rfl W.heap.size .u8 256 (oldF D.lo D.ob i) (fun _ => 0) rfl rfl R1 (by kernel_rfl) ?_; intro W2 R2 B2 z2))
    go_end0
    have B3 : Below W.heap.size W W2 := B1.trans (B2.below (Nat.le_refl _) (by omega))
    exact ⟨rfl, (HD.out.below B3).loosed' HE.out, Off.of B3⟩
  | false =>
    have HE : Hid (D.lo i = false) := e
    rw [e] at hlk
    clear e
    go_enter Try.func78, Try.ntmps78
    go_wp2_with (first
      | (refine wpList_alloc_row rfl 95 rfl .u8 256 W.heap.size rfl (by kernel_rfl) ?_; intro W1 R1 B1 z1)
      | (refine wpList_store_row rfl 95 (.tmp 4) (.tmp 13) rfl W.heap.size .u8 256 (oldF D.lo D.ob i) (fun _ => 0) rfl rfl R1 (by kernel_rfl) ?_; intro W2 R2 B2 z2))
    have B3 : Below W.heap.size W W2 := B1.trans (B2.below (Nat.le_refl _) (by omega))
    have D3 : DiskAt W2.drew d s m D := (HD.out.below B3).drew
    obtain ⟨c1', _⟩ := D3.recd.cel 1 _ rfl
    obtain ⟨c2', _⟩ := D3.recd.cel 2 _ rfl
    obtain ⟨W4, hr4, hM4, hO4⟩ := put_at (at256 D.sec i) D3.map hi h2
    have PP : Hid (DiskAt W4 d s m (D.loosen i) ∧ Off [m] W W4) := ⟨D3.loosed HE.out hi hM4 hO4, (Off.of B3.drew).trans hO4⟩
    have rng := sec_at D3 i hi
    have S4 : W4.cell? ⟨d, 1, none⟩ = some (.slice (some ⟨s, 0, none⟩) D.N D.C) ∧ W4.cell? ⟨d, 2, none⟩ = some (.map (some m)) ∧ W4.rangeAt s (i * 256) (cl .u8 256 (at256 D.sec i)) :=
      ⟨(PP.out.1.recd.cel 1 _ rfl).1, (PP.out.1.recd.cel 2 _ rfl).1, sec_at PP.out.1 i hi⟩
    clear D3 hM4 hO4 B3 B1 B2 R1 R2 hlk
    unfold secV at hr4
    refine wp_region_noPanic ?_
    refine wp_region_held_drew (S := fun W => W.cell? ⟨d, 1, none⟩ = some (.slice (some ⟨s, 0, none⟩) D.N D.C) ∧ W.cell? ⟨d, 2, none⟩ = some (.map (some m)) ∧ W.rangeAt s (i * 256) (cl .u8 256 (at256 D.sec i))) (by kernel_rfl) ?_ (fun hHeld => ?_)
    · exact ⟨c1', c2', rng⟩
    refine take_at (i := 0) (v := ?_) (some 17) rfl rfl (by kernel_rfl) (by kernel_rfl) (by kernel_rfl) (fun _ _ _ h => h) (Or.inl ⟨by rfl, ?_⟩) (by assumption) ?_
    rotate_left
    · (intro w hSw; (try dsimp only at hSw); obtain ⟨q1, q2, q3⟩ := hSw; clear q3; go_simp; try with_reducible rfl)
    simp only [Act.put, List.setIfInBounds_toArray, List.set_cons_zero, List.set_cons_succ]
    refine take_at (i := 1) (v := ?_) (some 18) rfl rfl (by kernel_rfl) (by kernel_rfl) (by kernel_rfl) (fun _ _ _ h => h) (Or.inl ⟨by rfl, ?_⟩) (by assumption) ?_
    rotate_left
    · (intro w hSw; (try dsimp only at hSw); obtain ⟨q1, q2, q3⟩ := hSw; clear q3; go_simp; try with_reducible rfl)
    simp only [Act.put, List.setIfInBounds_toArray, List.set_cons_zero, List.set_cons_succ]
    refine take_at (i := 2) (v := ?_) (some 19) rfl rfl (by kernel_rfl) (by kernel_rfl) (by kernel_rfl) (fun _ _ _ h => h) (Or.inl ⟨by rfl, ?_⟩) (by assumption) ?_
    rotate_left
    · (intro w hSw; (try dsimp only at hSw); obtain ⟨q1, q2, q3⟩ := hSw; clear q3; go_simp; try with_reducible rfl)
    simp only [Act.put, List.setIfInBounds_toArray, List.set_cons_zero, List.set_cons_succ]
    refine take_at (i := 3) (v := ?_) (some 20) rfl rfl (by kernel_rfl) (by kernel_rfl) (by kernel_rfl) (fun _ _ _ h => h) (Or.inl ⟨by rfl, ?_⟩) (by assumption) ?_
    rotate_left
    · (intro w hSw; (try dsimp only at hSw); obtain ⟨q1, q2, q3⟩ := hSw; clear q3; go_simp; try with_reducible rfl)
    simp only [Act.put, List.setIfInBounds_toArray, List.set_cons_zero, List.set_cons_succ]
    refine take_at (i := 4) (v := ?_) (some 21) rfl rfl (by kernel_rfl) (by kernel_rfl) (by kernel_rfl) (fun _ _ _ h => h) (Or.inl ⟨by rfl, ?_⟩) (by assumption) ?_
    rotate_left
    · (intro w hSw; (try dsimp only at hSw); obtain ⟨q1, q2, q3⟩ := hSw; clear q3; go_simp; try with_reducible rfl)
    simp only [Act.put, List.setIfInBounds_toArray, List.set_cons_zero, List.set_cons_succ]
    refine take_at (i := 5) (v := ?_) (some 22) rfl rfl (by kernel_rfl) (by kernel_rfl) (by kernel_rfl) (fun _ _ _ h => h) (Or.inl ⟨by rfl, ?_⟩) (by assumption) ?_
    rotate_left
    · (intro w hSw; (try dsimp only at hSw); obtain ⟨q1, q2, q3⟩ := hSw; clear q3; go_simp; try with_reducible rfl)
    simp only [Act.put, List.setIfInBounds_toArray, List.set_cons_zero, List.set_cons_succ]
    refine take_at (i := 6) (v := ?_) (some 23) rfl rfl (by kernel_rfl) (by kernel_rfl) (by kernel_rfl) (fun _ _ _ h => h) (Or.inl ⟨by rfl, ?_⟩) (by assumption) ?_
    rotate_left
    · (intro w hSw; (try dsimp only at hSw); obtain ⟨q1, q2, q3⟩ := hSw; clear q3; go_simp; try with_reducible rfl)
    simp only [Act.put, List.setIfInBounds_toArray, List.set_cons_zero, List.set_cons_succ]
    refine take_at (i := 7) (v := ?_) (some 24) rfl rfl (by kernel_rfl) (by kernel_rfl) (by kernel_rfl) (fun _ _ _ h => h) (Or.inl ⟨by rfl, ?_⟩) (by assumption) ?_
    rotate_left
    · (intro w hSw; (try dsimp only at hSw); obtain ⟨q1, q2, q3⟩ := hSw; clear q3; go_simp; try with_reducible rfl)
    simp only [Act.put, List.setIfInBounds_toArray, List.set_cons_zero, List.set_cons_succ]
    refine take_at (i := 8) (v := ?_) (some 25) rfl rfl (by kernel_rfl) (by kernel_rfl) (by kernel_rfl) (fun _ _ _ h => h) (Or.inl ⟨by rfl, ?_⟩) (by assumption) ?_
    rotate_left
    · (intro w hSw; (try dsimp only at hSw); obtain ⟨q1, q2, q3⟩ := hSw; clear q3; go_simp; try with_reducible rfl)
    simp only [Act.put, List.setIfInBounds_toArray, List.set_cons_zero, List.set_cons_succ]
    refine take_at (i := 9) (v := ?_) (some 26) rfl rfl (by kernel_rfl) (by kernel_rfl) (by kernel_rfl) (fun _ _ _ h => h) (Or.inl ⟨by rfl, ?_⟩) (by assumption) ?_
    rotate_left
    · (intro w hSw; (try dsimp only at hSw); obtain ⟨q1, q2, q3⟩ := hSw; clear q3; go_simp; try with_reducible rfl)
    simp only [Act.put, List.setIfInBounds_toArray, List.set_cons_zero, List.set_cons_succ]
    refine take_at (i := 10) (v := ?_) (some 27) rfl rfl (by kernel_rfl) (by kernel_rfl) (by kernel_rfl) (fun _ _ _ h => h) (Or.inl ⟨by rfl, ?_⟩) (by assumption) ?_
    rotate_left
    · (intro w hSw; (try dsimp only at hSw); obtain ⟨q1, q2, q3⟩ := hSw; clear q3; go_simp; try with_reducible rfl)
    simp only [Act.put, List.setIfInBounds_toArray, List.set_cons_zero, List.set_cons_succ]
    refine take_at (i := 11) (v := _) (some 28) rfl rfl (by kernel_rfl) (by kernel_rfl) (by kernel_rfl) (fun _ _ _ h => h) (yieldsIf_load_mid (by rfl) 95 (.tmp 27) rfl s (i * 256) rfl (cl .u8 256 (at256 D.sec i)) _ (fun _ h => h.2.2) Try.underlying95 rfl (by rw [cl_len]; kernel_rfl)) (by assumption) ?_
    simp only [Act.put, List.setIfInBounds_toArray, List.set_cons_zero, List.set_cons_succ]
    refine skip_at (i := 12) none rfl rfl (by rfl) (by kernel_rfl) W4 (mapup_run 44 (.tmp 20) (.tmp 21) (.tmp 28) rfl _ _ _ rfl rfl rfl hr4) S4 (fun hHeld => ?_)
    simp only [Act.put]
    refine wpAnyH_done (by kernel_rfl) ?_ _
    refine NoPanic.normal ?_
    go_wp2_with fail
    go_end0
    exact ⟨rfl, PP.out.1, PP.out.2⟩
end Go.Proofs.Ytfapmogjmjlokaa
