/-
  Walks, not a claim by itself: Counts, Settle and Clone of a set. By the verifier.
-/
import Derived.Test.YtkncnpjhfcfmnaaDoorFCnt
import Derived.Test.YtkncnpjhfcfmnaaDoorReg2
namespace Go.Proofs.YtkncnpjhfcfmnaaDoor
open Go.RowKit Go.Shelf
set_option maxRecDepth 100000 in
theorem counts_ok (W : World) (b n : Nat) (h : Nat → Nat) (s : SAt W b n h) (k : SOk n h) : Calls Tryd.prog 23 #[.pointer (some ⟨b, 0, none⟩)] W fun e w' => e = .returned (.tuple #[.int .i64 ((cnt h 0 n : Nat) : Int), .int .i64 ((cnt h 1 n : Nat) : Int), .int .i64 ((cnt h 2 n : Nat) : Int)]) ∧ Below W.heap.size W w' := by
  have M := hidIt (smade_ok W b n h s)
  have E := hidIt (each_ok W b n h s)
  have B0 := hidIt (eachW_below W b n)
  have z0 := hidIt (eachW_size W b n)
  have C : Hid (∀ x u, Below (eachW W b n).heap.size (eachW W b n) u → Calls Tryd.prog 45 #[eachV W.heap.size, .int .i64 ((x : Nat) : Int)] u fun e w' => e = .returned (.int .i64 ((cnt h x n : Nat) : Int)) ∧ Below u.heap.size u w') := fun x u hu =>
    count_ok u b n h W.heap.size x ((s.below B0.out).below hu) k ((eachW_mem W b n).below hu (by rw [eachW_size]; omega) (by rw [eachW_size]; omega)) (by have := hu.size; rw [eachW_size] at this; omega)
  clear s k
  generalize eachW W b n = W0 at *
  have t0 : Hid True := trivial
  have t1 : Hid True := trivial
  go_enter Tryd.func23, Tryd.ntmps23
  go_wp2_with (first
    | (go_at_call 42; refine M.out.mono ?_; rintro e w' ⟨rfl, hw⟩; subst hw)
    | (go_at_call 30; refine E.out.mono ?_; rintro e w' ⟨rfl, hw⟩; subst hw)
    | (go_at_call 45; have _q := t0; clear t0 _q; refine (C.out 0 _ (Below.refl _ _)).mono ?_; rintro e w1 ⟨rfl, hb⟩; have B1 := hidIt hb; clear hb)
    | (go_at_call 45; have _q := t1; clear t1 _q; refine (C.out 1 _ B1.out).mono ?_; rintro e w2 ⟨rfl, hb⟩; have B2 := hidIt (B1.out.trans (hb.mono B1.out.size)); clear hb)
    | (go_at_call 45; refine (C.out 2 _ B2.out).mono ?_; rintro e w3 ⟨rfl, hb⟩; have B3 := hidIt (B2.out.trans (hb.mono B2.out.size)); clear hb))
  exact bodyPost_ret (v := .tuple #[.int .i64 ((cnt h 0 n : Nat) : Int), .int .i64 ((cnt h 1 n : Nat) : Int), .int .i64 ((cnt h 2 n : Nat) : Int)]) (by simp [results, Tryd.results23, go_sem]) rfl ⟨rfl, B0.out.trans (B3.out.mono B0.out.size)⟩
/-- All that were let go are free. -/
def setl (h : Nat → Nat) (i : Nat) : Nat := if h i = 2 then 0 else h i
theorem setl_fr (h : Nat → Nat) : (fun i => fr h i || gn h i) = fr (setl h) := by
  funext i; unfold fr gn setl
  by_cases e : h i = 2
  · simp [e]
  · simp [e]
theorem setl_gn (h : Nat → Nat) : (fun _ => false) = gn (setl h) := by
  funext i; unfold gn setl
  by_cases e : h i = 2
  · simp [e]
  · simp [e]
theorem SOk.setl {n : Nat} {h : Nat → Nat} (k : SOk n h) : SOk n (setl h) := ⟨k.n1, k.n2, fun i hi => by unfold Proofs.YtkncnpjhfcfmnaaDoor.setl; rw [k.out i hi]; rfl, fun i => by unfold Proofs.YtkncnpjhfcfmnaaDoor.setl; have := k.le i; split <;> omega⟩
theorem WAt.range {W : World} {b o : Nat} {p : Nat → Bool} (h : WAt W b o p) : W.rangeAt b o (cl .u64 8 (wds p)) := fun j v hj => by
  obtain ⟨hk, rfl⟩ := cl_at' hj
  exact h.c j hk
theorem WAt.store {W : World} {b o : Nat} {p : Nat → Bool} (h : WAt W b o p) (q : Nat → Bool) :
    ∃ W2, (Instr.storeAt 48 (.pointer (some ⟨b, o, none⟩)) (.agg (cl .u64 8 (wds q)).toArray)).run Tryd.prog W = .ok () W2 ∧ WAt W2 b o q ∧ InB b o W W2 := by
  have th : W.there b o 8 := fun j hj => ⟨by rw [h.c j hj]; rfl, h.f j hj⟩
  have th' : W.there b o (cl .u64 8 (wds q)).length := by rw [cl_len]; exact th
  refine ⟨_, run_storeAt_mid (P := Tryd.prog) W b o _ (cl .u64 8 (wds q)).toArray (by simpa using th') (by rw [List.size_toArray, cl_len]; kernel_rfl) (all_oneCell_toArray (cl_one _ _ _)), ⟨fun j hj => ?_, fun j hj => by rw [World.frozen?_setCells]; exact h.f j hj, by rw [size_cells]; exact h.l⟩, ⟨But.cells _ _ _, size_cells _ _ _ _, fun x hx => World.cell?_setCells_out _ _ _ _ _ (fun _ _ => by simpa [cl_len] using hx), fun x => World.frozen?_setCells _ _ _ _ _⟩⟩
  exact World.rangeAt_setCells_same W b o _ th' j _ (cl_at .u64 8 (wds q) j hj)

/-- What the drawn region of Settle does. -/
theorem wds_zero : Tryd.prog.built 48 [] = some (cl .u64 8 (wds fun _ => false)).toArray := by kernel_rfl
set_option maxRecDepth 100000 in
set_option maxHeartbeats 1000000 in
theorem settle_ok (W : World) (b n : Nat) (h : Nat → Nat) (s : SAt W b n h) (k : SOk n h) : Calls Tryd.prog 26 #[.pointer (some ⟨b, 0, none⟩)] W fun e w' => e = .returned (.int .i64 ((cnt h 2 n : Nat) : Int)) ∧ SAt w' b n (setl h) ∧ But b W w' := by
  have M := hidIt (smade_ok W b n h s)
  have E := hidIt (each_ok W b n h s)
  have B0 := hidIt (eachW_below W b n)
  have C : Hid (∀ x u, Below (eachW W b n).heap.size (eachW W b n) u → Calls Tryd.prog 45 #[eachV W.heap.size, .int .i64 ((x : Nat) : Int)] u fun e w' => e = .returned (.int .i64 ((cnt h x n : Nat) : Int)) ∧ Below u.heap.size u w') := fun x u hu =>
    count_ok u b n h W.heap.size x ((s.below B0.out).below hu) k ((eachW_mem W b n).below hu (by rw [eachW_size]; omega) (by rw [eachW_size]; omega)) (by have := hu.size; rw [eachW_size] at this; omega)
  have S := hidIt s
  clear s k
  generalize eachW W b n = W0 at *
  go_enter Tryd.func26, Tryd.ntmps26
  go_wp2_with (first
    | (go_at_call 42; refine M.out.mono ?_; rintro e w' ⟨rfl, hw⟩; subst w')
    | (go_at_call 30; refine E.out.mono ?_; rintro e w' ⟨rfl, hw⟩; subst w')
    | (go_at_call 45; refine (C.out 2 _ (Below.refl _ _)).mono ?_; rintro e w1 ⟨rfl, hb⟩; have B1 := hidIt (B0.out.trans (hb.mono B0.out.size)); clear hb))
  have S1 := hidIt ((S.out.below B1.out).below (Below.refl _ _).drew)
  refine wp_region_noPanic ?_
  refine wp_region_held_drew (S := fun _ => True) (by kernel_rfl) trivial (fun hHeld => ?_)
  have WW := hidIt fun (u : World) => wwith_ok (fr h) (gn h) u
  refine take_at (i := 0) (v := ?_) (some 10) rfl rfl (by kernel_rfl) (by kernel_rfl) (by kernel_rfl) (fun _ _ _ h => h) (Or.inl ⟨by rfl, ?_⟩) (by assumption) ?_
  rotate_left
  · (intro w hSw; go_simp; try with_reducible rfl)
  simp only [Act.put, List.setIfInBounds_toArray, List.set_cons_zero, List.set_cons_succ]
  refine take_at (i := 1) (v := ?_) (some 11) rfl rfl (by kernel_rfl) (by kernel_rfl) (by kernel_rfl) (fun _ _ _ h => h) (Or.inl ⟨by rfl, ?_⟩) (by assumption) ?_
  rotate_left
  · (intro w hSw; go_simp; try with_reducible rfl)
  simp only [Act.put, List.setIfInBounds_toArray, List.set_cons_zero, List.set_cons_succ]
  refine take_at (i := 2) (v := ?_) (some 12) rfl rfl (by kernel_rfl) (by kernel_rfl) (by kernel_rfl) (fun _ _ _ h => h) (Or.inl ⟨by rfl, ?_⟩) (by assumption) ?_
  rotate_left
  · (intro w hSw; go_simp; try with_reducible rfl)
  simp only [Act.put, List.setIfInBounds_toArray, List.set_cons_zero, List.set_cons_succ]
  refine take_at (i := 3) (v := ?_) (some 13) rfl rfl (by kernel_rfl) (by kernel_rfl) (by kernel_rfl) (fun _ _ _ h => h) (Or.inl ⟨by rfl, ?_⟩) (by assumption) ?_
  rotate_left
  · (intro w hSw; go_simp; try with_reducible rfl)
  simp only [Act.put, List.setIfInBounds_toArray, List.set_cons_zero, List.set_cons_succ]
  refine take_at (i := 4) (v := ?_) (some 14) rfl rfl (by kernel_rfl) (by kernel_rfl) (by kernel_rfl) (fun _ _ _ h => h) (Or.inl ⟨by rfl, ?_⟩) (by assumption) ?_
  rotate_left
  · (intro w hSw; go_simp; try with_reducible rfl)
  simp only [Act.put, List.setIfInBounds_toArray, List.set_cons_zero, List.set_cons_succ]
  refine take_at (i := 6) (v := ?_) (some 16) rfl rfl (by kernel_rfl) (by kernel_rfl) (by kernel_rfl) (fun _ _ _ h => h) (Or.inl ⟨by rfl, ?_⟩) (by assumption) ?_
  rotate_left
  · (intro w hSw; go_simp; try with_reducible rfl)
  simp only [Act.put, List.setIfInBounds_toArray, List.set_cons_zero, List.set_cons_succ]
  refine take_at (i := 7) (v := ?_) (some 17) rfl rfl (by kernel_rfl) (by kernel_rfl) (by kernel_rfl) (fun _ _ _ h => h) (Or.inl ⟨by rfl, ?_⟩) (by assumption) ?_
  rotate_left
  · (intro w hSw; go_simp; try with_reducible rfl)
  simp only [Act.put, List.setIfInBounds_toArray, List.set_cons_zero, List.set_cons_succ]
  refine take_at (i := 8) (v := ?_) (some 18) rfl rfl (by kernel_rfl) (by kernel_rfl) (by kernel_rfl) (fun _ _ _ h => h) (Or.inl ⟨by rfl, ?_⟩) (by assumption) ?_
  rotate_left
  · (intro w hSw; go_simp; try with_reducible rfl)
  simp only [Act.put, List.setIfInBounds_toArray, List.set_cons_zero, List.set_cons_succ]
  refine take_at (i := 11) (v := .agg (cl .u64 8 (wds fun _ => false)).toArray) (some 21) rfl rfl (by kernel_rfl) (by kernel_rfl) (by kernel_rfl) (fun _ _ _ h => h) (Or.inl ⟨by rfl, fun w _ => bld_run 48 #[] rfl _ (by simpa using wds_zero)⟩) (by assumption) ?_
  simp only [Act.put, List.setIfInBounds_toArray, List.set_cons_zero, List.set_cons_succ]
  refine pair_at (i := 5) (j := 9) (some 15) (some 19) rfl rfl rfl rfl (by kernel_rfl) (by rfl) (by rfl) _ _ _ _ (rowload_run 48 (.tmp 14) rfl b 2 (cl .u64 8 (wds (fr h))) rfl _ S1.out.fw.range Tryd.underlying48 rfl (by rw [cl_len]; kernel_rfl)) (rowload_run 48 (.tmp 18) rfl b 10 (cl .u64 8 (wds (gn h))) rfl _ S1.out.gw.range Tryd.underlying48 rfl (by rw [cl_len]; kernel_rfl)) ⟨trivial, trivial⟩ (fun hHeld => ?_) (fun hHeld => ?_)
  · simp only [Act.put, List.setIfInBounds_toArray, List.set_cons_zero, List.set_cons_succ]
    refine step_at (i := 9) (some 19) rfl rfl (by rfl) (by kernel_rfl) _ _ (rowload_run 48 (.tmp 18) rfl b 10 (cl .u64 8 (wds (gn h))) rfl _ S1.out.gw.range Tryd.underlying48 rfl (by rw [cl_len]; kernel_rfl)) trivial (fun hHeld => ?_)
    simp only [Act.put, List.setIfInBounds_toArray, List.set_cons_zero, List.set_cons_succ]
    refine call_at (i := 10) (some 20) 47 _ _ rfl rfl rfl (by rfl) (by kernel_rfl) #[.agg (cl .u64 8 (wds (fr h))).toArray, .agg (cl .u64 8 (wds (gn h))).toArray] rfl Tryd.func47 (by kernel_rfl) (by kernel_rfl) ?_
    refine (WW.out _).mono ?_
    rintro e w3 ⟨rfl, hb3⟩
    have S3 := hidIt (S1.out.below hb3)
    have B3 := hidIt hb3
    clear hb3
    refine ⟨_, rfl, trivial, fun hHeld => ?_⟩
    simp only [Act.put, List.setIfInBounds_toArray, List.set_cons_zero, List.set_cons_succ]
    refine take_at (i := 12) (v := ?_) (some 22) rfl rfl (by kernel_rfl) (by kernel_rfl) (by kernel_rfl) (fun _ _ _ h => h) (Or.inl ⟨by rfl, ?_⟩) (by assumption) ?_
    rotate_left
    · (intro w hSw; go_simp; try with_reducible rfl)
    simp only [Act.put, List.setIfInBounds_toArray, List.set_cons_zero, List.set_cons_succ]
    refine take_at (i := 13) (v := ?_) (some 23) rfl rfl (by kernel_rfl) (by kernel_rfl) (by kernel_rfl) (fun _ _ _ h => h) (Or.inl ⟨by rfl, ?_⟩) (by assumption) ?_
    rotate_left
    · (intro w hSw; go_simp; try with_reducible rfl)
    simp only [Act.put, List.setIfInBounds_toArray, List.set_cons_zero, List.set_cons_succ]
    obtain ⟨W4, hr4, A4, I4⟩ := S3.out.fw.store (fun i => fr h i || gn h i)
    refine mute_at (i := 14) none rfl rfl (by rfl) (by kernel_rfl) W4 (put_mute 48 (.tmp 23) (.tmp 20) rfl _ _ rfl rfl hr4) trivial (fun hHeld => ?_)
    simp only [Act.put]
    refine take_at (i := 15) (v := ?_) (some 24) rfl rfl (by kernel_rfl) (by kernel_rfl) (by kernel_rfl) (fun _ _ _ h => h) (Or.inl ⟨by rfl, ?_⟩) (by assumption) ?_
    rotate_left
    · (intro w hSw; go_simp; try with_reducible rfl)
    simp only [Act.put, List.setIfInBounds_toArray, List.set_cons_zero, List.set_cons_succ]
    refine take_at (i := 16) (v := ?_) (some 25) rfl rfl (by kernel_rfl) (by kernel_rfl) (by kernel_rfl) (fun _ _ _ h => h) (Or.inl ⟨by rfl, ?_⟩) (by assumption) ?_
    rotate_left
    · (intro w hSw; go_simp; try with_reducible rfl)
    simp only [Act.put, List.setIfInBounds_toArray, List.set_cons_zero, List.set_cons_succ]
    obtain ⟨W5, hr5, A5, I5⟩ := (S3.out.gw.in I4 (by omega)).store (fun _ => false)
    refine mute_at (i := 17) none rfl rfl (by rfl) (by kernel_rfl) W5 (put_mute 48 (.tmp 25) (.tmp 21) rfl _ _ rfl rfl hr5) trivial (fun hHeld => ?_)
    simp only [Act.put]
    refine wpAnyH_done (by kernel_rfl) ?_ _
    refine NoPanic.normal ?_
    have FIN : Hid (SAt W5 b n (setl h) ∧ But b W W5) := by
      refine ⟨⟨?_, ?_, ?_, ?_⟩, ?_⟩
      · rw [I5.c 0 (by omega), I4.c 0 (by omega)]; exact S3.out.c0
      · rw [I5.c 1 (by omega), I4.c 1 (by omega)]; exact S3.out.c1
      · rw [← setl_fr]; exact A4.in I5 (by omega)
      · rw [← setl_gn]; exact A5
      · exact (But.of (B1.out.drew.trans (B3.out.mono B1.out.size))).trans (I4.but.trans I5.but)
    clear A4 I4 A5 I5 hr4 hr5
    go_wp2
    go_ret
    exact ⟨rfl, FIN.out⟩
  · simp only [Act.put, List.setIfInBounds_toArray, List.set_cons_zero, List.set_cons_succ]
    refine step_at (i := 5) (some 15) rfl rfl (by rfl) (by kernel_rfl) _ _ (rowload_run 48 (.tmp 14) rfl b 2 (cl .u64 8 (wds (fr h))) rfl _ S1.out.fw.range Tryd.underlying48 rfl (by rw [cl_len]; kernel_rfl)) trivial (fun hHeld => ?_)
    simp only [Act.put, List.setIfInBounds_toArray, List.set_cons_zero, List.set_cons_succ]
    refine call_at (i := 10) (some 20) 47 _ _ rfl rfl rfl (by rfl) (by kernel_rfl) #[.agg (cl .u64 8 (wds (fr h))).toArray, .agg (cl .u64 8 (wds (gn h))).toArray] rfl Tryd.func47 (by kernel_rfl) (by kernel_rfl) ?_
    refine (WW.out _).mono ?_
    rintro e w3 ⟨rfl, hb3⟩
    have S3 := hidIt (S1.out.below hb3)
    have B3 := hidIt hb3
    clear hb3
    refine ⟨_, rfl, trivial, fun hHeld => ?_⟩
    simp only [Act.put, List.setIfInBounds_toArray, List.set_cons_zero, List.set_cons_succ]
    refine take_at (i := 12) (v := ?_) (some 22) rfl rfl (by kernel_rfl) (by kernel_rfl) (by kernel_rfl) (fun _ _ _ h => h) (Or.inl ⟨by rfl, ?_⟩) (by assumption) ?_
    rotate_left
    · (intro w hSw; go_simp; try with_reducible rfl)
    simp only [Act.put, List.setIfInBounds_toArray, List.set_cons_zero, List.set_cons_succ]
    refine take_at (i := 13) (v := ?_) (some 23) rfl rfl (by kernel_rfl) (by kernel_rfl) (by kernel_rfl) (fun _ _ _ h => h) (Or.inl ⟨by rfl, ?_⟩) (by assumption) ?_
    rotate_left
    · (intro w hSw; go_simp; try with_reducible rfl)
    simp only [Act.put, List.setIfInBounds_toArray, List.set_cons_zero, List.set_cons_succ]
    obtain ⟨W4, hr4, A4, I4⟩ := S3.out.fw.store (fun i => fr h i || gn h i)
    refine mute_at (i := 14) none rfl rfl (by rfl) (by kernel_rfl) W4 (put_mute 48 (.tmp 23) (.tmp 20) rfl _ _ rfl rfl hr4) trivial (fun hHeld => ?_)
    simp only [Act.put]
    refine take_at (i := 15) (v := ?_) (some 24) rfl rfl (by kernel_rfl) (by kernel_rfl) (by kernel_rfl) (fun _ _ _ h => h) (Or.inl ⟨by rfl, ?_⟩) (by assumption) ?_
    rotate_left
    · (intro w hSw; go_simp; try with_reducible rfl)
    simp only [Act.put, List.setIfInBounds_toArray, List.set_cons_zero, List.set_cons_succ]
    refine take_at (i := 16) (v := ?_) (some 25) rfl rfl (by kernel_rfl) (by kernel_rfl) (by kernel_rfl) (fun _ _ _ h => h) (Or.inl ⟨by rfl, ?_⟩) (by assumption) ?_
    rotate_left
    · (intro w hSw; go_simp; try with_reducible rfl)
    simp only [Act.put, List.setIfInBounds_toArray, List.set_cons_zero, List.set_cons_succ]
    obtain ⟨W5, hr5, A5, I5⟩ := (S3.out.gw.in I4 (by omega)).store (fun _ => false)
    refine mute_at (i := 17) none rfl rfl (by rfl) (by kernel_rfl) W5 (put_mute 48 (.tmp 25) (.tmp 21) rfl _ _ rfl rfl hr5) trivial (fun hHeld => ?_)
    simp only [Act.put]
    refine wpAnyH_done (by kernel_rfl) ?_ _
    refine NoPanic.normal ?_
    have FIN : Hid (SAt W5 b n (setl h) ∧ But b W W5) := by
      refine ⟨⟨?_, ?_, ?_, ?_⟩, ?_⟩
      · rw [I5.c 0 (by omega), I4.c 0 (by omega)]; exact S3.out.c0
      · rw [I5.c 1 (by omega), I4.c 1 (by omega)]; exact S3.out.c1
      · rw [← setl_fr]; exact A4.in I5 (by omega)
      · rw [← setl_gn]; exact A5
      · exact (But.of (B1.out.drew.trans (B3.out.mono B1.out.size))).trans (I4.but.trans I5.but)
    clear A4 I4 A5 I5 hr4 hr5
    go_wp2
    go_ret
    exact ⟨rfl, FIN.out⟩
/-- A set's cells. -/
def csS (x : Option Addr) (n : Nat) (h : Nat → Nat) : List Value := .pointer x :: .int .i64 (n : Int) :: (cl .u64 8 (wds (fr h)) ++ cl .u64 8 (wds (gn h)))
theorem csS_len (x : Option Addr) (n : Nat) (h : Nat → Nat) : (csS x n h).length = 18 := by simp [csS, cl_len]
theorem csS_one (x : Option Addr) (n : Nat) (h : Nat → Nat) : ∀ v ∈ csS x n h, v.oneCell' = true := by
  intro v hv
  unfold csS at hv
  rw [List.mem_cons, List.mem_cons, List.mem_append] at hv
  rcases hv with rfl | rfl | hv | hv
  · rfl
  · rfl
  · exact cl_one _ _ _ v hv
  · exact cl_one _ _ _ v hv
theorem csS_0 (x : Option Addr) (n : Nat) (h : Nat → Nat) : (csS x n h)[0]? = some (.pointer x) := rfl
theorem csS_1 (x : Option Addr) (n : Nat) (h : Nat → Nat) : (csS x n h)[1]? = some (.int .i64 (n : Int)) := rfl
theorem csS_fw (x : Option Addr) (n : Nat) (h : Nat → Nat) (j : Nat) (hj : j < 8) : (csS x n h)[2 + j]? = some (.int .u64 (wds (fr h) j)) := by
  rw [Nat.add_comm]
  unfold csS
  rw [List.getElem?_cons_succ, List.getElem?_cons_succ]
  rw [List.getElem?_append_left (by rw [cl_len]; exact hj), cl_at _ _ _ _ hj]
theorem csS_gw (x : Option Addr) (n : Nat) (h : Nat → Nat) (j : Nat) (hj : j < 8) : (csS x n h)[10 + j]? = some (.int .u64 (wds (gn h) j)) := by
  rw [show 10 + j = j + 8 + 1 + 1 by omega]
  unfold csS
  rw [List.getElem?_cons_succ, List.getElem?_cons_succ]
  rw [List.getElem?_append_right (by rw [cl_len]; omega), cl_len, Nat.add_sub_cancel, cl_at _ _ _ _ hj]
theorem SAt.range {W : World} {b n : Nat} {h : Nat → Nat} (s : SAt W b n h) : W.rangeAt b 0 (csS (some ⟨b, 0, none⟩) n h) := fun j v hj => by
  rw [Nat.zero_add]
  have hl : j < 18 := by
    rcases Nat.lt_or_ge j 18 with q | q
    · exact q
    · rw [List.getElem?_eq_none (by rw [csS_len]; exact q)] at hj; cases hj
  have fin : ∀ u, (csS (some ⟨b, 0, none⟩) n h)[j]? = some u → W.cell? ⟨b, j, none⟩ = some u → W.cell? ⟨b, j, none⟩ = some v := fun u h1 h2 => by
    rw [h1] at hj
    rw [h2, hj]
  by_cases e0 : j = 0
  · subst e0
    exact fin _ (csS_0 _ _ _) s.c0
  by_cases e1 : j = 1
  · subst e1
    exact fin _ (csS_1 _ _ _) s.c1
  by_cases e : j < 10
  · obtain ⟨i, rfl⟩ : ∃ i, j = 2 + i := ⟨j - 2, by omega⟩
    exact fin _ (csS_fw _ n h i (by omega)) (s.fw.c i (by omega))
  · obtain ⟨i, rfl⟩ : ∃ i, j = 10 + i := ⟨j - 10, by omega⟩
    exact fin _ (csS_gw _ n h i (by omega)) (s.gw.c i (by omega))
/-- A set whose own address is stored. -/
theorem SAt.of {W : World} {b n : Nat} {h : Nat → Nat} {x : Option Addr} (r : Rec19 W b 0 (csS x n h)) : SAt (W.setCell ⟨b, 0, none⟩ (.pointer (some ⟨b, 0, none⟩))) b n h := by
  have fz : ∀ j, j < 18 → W.frozen? ⟨b, j, none⟩ = false := fun j hj => by have := (r.2.1 j (by rw [csS_len]; exact hj)).2; rwa [Nat.zero_add] at this
  have cc : ∀ j v, (csS x n h)[j]? = some v → j ≠ 0 → (W.setCell ⟨b, 0, none⟩ (.pointer (some ⟨b, 0, none⟩))).cell? ⟨b, j, none⟩ = some v := fun j v hj h0 => by
    rw [World.cell?_setCell_other _ (a := ⟨b, 0, none⟩) (b := ⟨b, j, none⟩) _ (fun q => h0 (by injection q with _ q; exact q.symm))]
    have := r.1 j v hj
    rwa [Nat.zero_add] at this
  have l : b < (W.setCell ⟨b, 0, none⟩ (.pointer (some ⟨b, 0, none⟩))).heap.size := by simp [World.setCell]; exact r.2.2
  have c0 := r.1 0 _ (csS_0 x n h)
  refine ⟨by rw [World.cell?_setCell_same' _ _ _ (by rw [show (⟨b, 0, none⟩ : Addr) = ⟨b, 0 + 0, none⟩ from rfl, c0]; rfl)], cc 1 _ (csS_1 x n h) (by omega), ⟨fun j hj => cc _ _ (csS_fw x n h j hj) (by omega), fun j hj => by simp [fz (2 + j) (by omega)], l⟩, ⟨fun j hj => cc _ _ (csS_gw x n h j hj) (by omega), fun j hj => by simp [fz (10 + j) (by omega)], l⟩⟩
theorem wpList_alloc_rc {ops : Array Oper} {rest : List Oper} {op : Oper} {a : Act} {w : World} {Q : Exit → Act → World → Prop} (hgd : op.guard = none) (ty : TypeId) (ho : op.op = .alloc ty) (cs : List Value) (H : Nat) (hH : w.heap.size = H)
    (hz : (Tryd.prog.info? ty).bind (·.zero) = some (.agg cs.toArray))
    (hK : ∀ W, Rec19 W H 0 cs → Below H w W → W.heap.size = H + 1 → wpList Tryd.prog ops Q rest (a.put op.dst (.pointer (some ⟨H, 0, none⟩))) W) : wpList Tryd.prog ops Q (op :: rest) a w := by
  subst hH
  refine wpList_plain hgd fun K hK' => ?_
  unfold Oper.wp execOp
  cases hi : Tryd.prog.info? ty with
  | none => simp [hi] at hz
  | some i =>
    have hz' : i.zero = some (.agg cs.toArray) := by simpa [hi] using hz
    simp only [ho]
    simp [Instr.alloc, zeroValue, typeInfo, hi, hz', newVar, newRow, Value.cells, Result.andThen]
    exact hK' _ _ (hK _ (Rec19.new w ty cs) ((Below.refl _ _).alloc (Nat.le_refl _) _) (by simp))
theorem zeroSet : (Tryd.prog.info? 50).bind (·.zero) = some (.agg (csS none 0 fun _ => 1).toArray) := by kernel_rfl
set_option maxRecDepth 100000 in
theorem clone_ok (W : World) (b n : Nat) (h : Nat → Nat) (s : SAt W b n h) : Calls Tryd.prog 28 #[.pointer (some ⟨b, 0, none⟩)] W fun e w' => e = .returned (.pointer (some ⟨W.heap.size, 0, none⟩)) ∧ SAt w' W.heap.size n h ∧ Below W.heap.size W w' := by
  have M := hidIt (smade_ok W b n h s)
  have R := hidIt s.range
  clear s
  go_enter Tryd.func28, Tryd.ntmps28
  go_wp2_with (first
    | (go_at_call 42; refine M.out.mono ?_; rintro e w' ⟨rfl, hw⟩; subst w')
    | (refine wpList_load_mid (P := Tryd.prog) rfl 50 (.tmp 8) rfl b 0 rfl (csS (some ⟨b, 0, none⟩) n h) _ R.out Tryd.underlying50 rfl (by rw [csS_len]; kernel_rfl) ?_)
    | (refine wpList_alloc_rc rfl 50 rfl (csS none 0 fun _ => 1) W.heap.size rfl zeroSet ?_; intro W1 R1 B1 z1)
    | (refine wpList_store_rec rfl 50 (.tmp 3) (.tmp 9) rfl W.heap.size 0 _ (csS (some ⟨b, 0, none⟩) n h) rfl rfl R1 (by rw [csS_len, csS_len]) (by rw [csS_len]; kernel_rfl) (csS_one _ _ _) ?_; intro W2 R2 B2
       have c0 : W2.cell? ⟨W.heap.size, 0, none⟩ = some (.pointer (some ⟨b, 0, none⟩)) := R2.1 0 _ (csS_0 _ _ _)
       have f0 : W2.frozen? ⟨W.heap.size, 0, none⟩ = false := (R2.2.1 0 (by rw [csS_len]; omega)).2
       have F := hidIt (And.intro (SAt.of R2) (B1.trans (B2.below (Nat.le_refl _) (by omega))))
       clear R1 R2 B1 B2 z1))
  go_ret
  exact ⟨rfl, F.out.1, F.out.2.trans ((But.set _ _ _).below (Nat.le_refl _) F.out.2.size)⟩
end Go.Proofs.YtkncnpjhfcfmnaaDoor
