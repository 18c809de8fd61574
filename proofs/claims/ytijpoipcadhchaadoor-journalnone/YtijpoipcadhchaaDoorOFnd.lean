/-
  Walks, not a claim by itself: what slot finds: foundOf, same, older, state. By the verifier.
-/
import Derived.Test.YtijpoipcadhchaaDoorOSlo
import Derived.Test.YtijpoipcadhchaaDoorMSame
namespace Go.Proofs.YtijpoipcadhchaaDoor
open Go.RowKit
/-- The cells of what was found. -/
def fnd (x y z : Int) (f : Nat → Int) : List Value := [.int .i64 x, .int .i64 y, .int .i64 z] ++ cl .u8 256 f
theorem fnd_len (x y z : Int) (f : Nat → Int) : (fnd x y z f).length = 259 := by simp [fnd, cl_len]
theorem fnd_low (x y z : Int) (f : Nat → Int) (j : Nat) (h : j < 256) : (fnd x y z f)[3 + j]? = some (.int .u8 (f j)) := by
  unfold fnd
  rw [List.getElem?_append_right (by simp)]
  have := cl_at .u8 256 f j h
  simpa [show 3 + j - 3 = j by omega] using this
theorem fnd_one (x y z : Int) (f : Nat → Int) : ∀ v ∈ fnd x y z f, v.oneCell' = true := by
  intro v hv
  unfold fnd at hv
  rw [List.mem_append] at hv
  rcases hv with hv | hv
  · simp at hv; rcases hv with rfl | rfl | rfl <;> rfl
  · exact cl_one _ _ _ v hv
theorem fnd_congr (x y z : Int) (f g : Nat → Int) (h : ∀ j, j < 256 → f j = g j) : fnd x y z f = fnd x y z g := by
  unfold fnd; rw [cl_congr _ _ _ _ h]
theorem fnd_info (x y z : Int) (f : Nat → Int) : (Tryd.prog.info? 114).map (·.size) = some (fnd x y z f).length := by rw [fnd_len]; kernel_rfl
theorem zeroFnd : (Tryd.prog.info? 114).bind (·.zero) = some (.agg (fnd 0 0 0 (fun _ => 0)).toArray) := by kernel_rfl
theorem Rec19.fndArg {W : World} {g : Nat} {x y z : Int} {f : Nat → Int} (h : Rec19 W g 0 (fnd x y z f)) (hf : ∀ j, j < 256 → 0 ≤ f j ∧ f j < 256) : Arg W (some ⟨g, 3, none⟩) 256 f :=
  Arg.of ⟨fun j hj => by have := h.1 (3 + j) _ (fnd_low x y z f j hj); rwa [Nat.zero_add] at this, hf, h.2.2⟩
/-- copy of bytes into what was found. -/
theorem copy_found (W : World) (g n C : Nat) (a : Option Addr) (f h0 : Nat → Int) (x y z : Int) (hR : Rec19 W g 0 (fnd x y z h0)) (hn : 256 ≤ n) (hA : Arg W a n f) :
    ∃ W2, (∀ ty, (Builtin.copy_ #[27, 27] ty #[.slice (some ⟨g, 3, none⟩) 256 256, .slice a n C]).run Tryd.prog W = .ok (goInt (256 : Nat)) W2) ∧ Rec19 W2 g 0 (fnd x y z f) ∧ But g W W2 ∧ W2.heap.size = W.heap.size := by
  rcases hA with ⟨h, _⟩ | ⟨_, b, off, rfl, hl⟩
  · omega
  have ht : ∀ j, j < 256 → (W.cell? ⟨g, 3 + j, none⟩).isSome ∧ W.frozen? ⟨g, 3 + j, none⟩ = false := fun j hj => by
    have := hR.2.1 (3 + j) (by rw [fnd_len]; omega)
    rwa [Nat.zero_add] at this
  refine ⟨W.setCells g 3 (cl .u8 256 f), fun ty => ?_, ⟨fun j v hj => ?_, fun j hj => ?_, ?_⟩, But.cells _ _ _, size_cells _ _ _ _⟩
  · have := run_copy_cells (P := Tryd.prog) W 27 27 ty 5 g 3 256 256 ⟨b, off, none⟩ n C (cl .u8 256 f) Tryd.underlying27 (by kernel_rfl) (by rw [cl_len]; exact (Nat.min_eq_right hn).symm)
      (fun j v hj => by obtain ⟨hk, rfl⟩ := cl_at' hj; rw [Addr.add_mid]; exact hl.1 j (by omega))
      (fun j hj => by rw [cl_len] at hj; exact (ht j hj).1) (fun j hj => by rw [cl_len] at hj; exact (ht j hj).2) (cl_one _ _ _)
    rw [cl_len] at this
    exact this
  · have hj' : j < 259 := by have := (List.getElem?_eq_some_iff.1 hj).1; rwa [fnd_len] at this
    rw [Nat.zero_add]
    by_cases e : j < 3
    · rw [World.cell?_setCells_out g _ _ _ _ (fun _ _ => by rw [cl_len]; show j < 3 ∨ 3 + 256 ≤ j; omega)]
      have h2 : (fnd x y z h0)[j]? = some v := by
        rw [← hj]
        match j, e with
        | 0, _ | 1, _ | 2, _ => rfl
        | j + 3, e => omega
      have := hR.1 j v h2
      rwa [Nat.zero_add] at this
    · obtain ⟨i, rfl⟩ : ∃ i, j = 3 + i := ⟨j - 3, by omega⟩
      have := World.cell?_setCells_in g (cl .u8 256 f) 3 W (fun i hi => by rw [cl_len] at hi; exact (ht i hi).1) i (by rw [cl_len]; omega)
      rw [this, ← List.getElem?_eq_getElem, cl_at .u8 256 f i (by omega), ← hj, fnd_low x y z f i (by omega)]
  · rw [fnd_len] at hj
    have h3 := hR.2.1 j (by rw [fnd_len]; exact hj)
    refine ⟨?_, by rw [World.frozen?_setCells]; exact h3.2⟩
    rw [Nat.zero_add] at h3 ⊢
    by_cases e : j < 3
    · rw [World.cell?_setCells_out g _ _ _ _ (fun _ _ => by rw [cl_len]; show j < 3 ∨ 3 + 256 ≤ j; omega)]; exact h3.1
    · obtain ⟨i, rfl⟩ : ∃ i, j = 3 + i := ⟨j - 3, by omega⟩
      rw [World.cell?_setCells_in g (cl .u8 256 f) 3 W (fun i hi => by rw [cl_len] at hi; exact (ht i hi).1) i (by rw [cl_len]; omega)]
      rfl
  · rw [size_cells]; exact hR.2.2
set_option maxRecDepth 100000 in
set_option maxHeartbeats 1000000 in
theorem foundOf_any (h : Nat → Int) (a : Option Addr) (n C : Nat) (f : Nat → Int) (w : World) (hn : 256 ≤ n) (hA : Arg w a n f) :
    Calls Tryd.prog 83 #[.agg (hcs h).toArray, .slice a n C] w fun e w' => e = .returned (.agg (fnd 2 (h 5) (h 3) f).toArray) ∧ Below w.heap.size w w' := by
  have HA : Hid (Arg w a n f) := hA
  clear hA
  go_enter Tryd.func83, Tryd.ntmps83
  go_wp2_with (first
    | (refine wpList_box_rec rfl 26 (.tmp 0) rfl (hcs h) rfl w.heap.size rfl ?_; intro W0 R0 B0 z0
       have RH : Hid (Rec19 W0 w.heap.size 0 (hcs h)) := R0
       have BH : Hid (Below w.heap.size w W0) := B0
       clear R0 B0)
    | (have _q := RH; clear _q; refine wpList_alloc_rec rfl 114 rfl (fnd 0 0 0 (fun _ => 0)) (w.heap.size + 1) z0 zeroFnd ?_; intro W1 R1 B1 z1
       have E1 : Hid (Below w.heap.size w W1) := BH.out.trans (B1.mono (by omega))
       have H1 : Rec19 W1 w.heap.size 0 (hcs h) := RH.out.below (by rw [z0]; exact B1)
       have c5 := (H1.at 5 (.int .i64 (h 5)) rfl).1
       have c3 := (H1.at 3 (.int .i64 (h 3)) rfl).1
       have F1 : Hid (Rec19 W1 (w.heap.size + 1) 0 (fnd 0 0 0 (fun _ => 0))) := R1
       clear R1 H1 RH BH z0 B1)
    | (have _q := F1; clear _q; refine wpList_build_to rfl 114 _ rfl (fnd 2 (h 5) (h 3) (fun _ => 0)).toArray (by kernel_rfl) ?_)
    | (have _q := F1; clear _q; refine wpList_alloc_rec rfl 114 rfl (fnd 0 0 0 (fun _ => 0)) (w.heap.size + 1 + 1) z1 zeroFnd ?_; intro W2 R2 B2 z2)
    | (have _q := F1; clear _q; refine wpList_store_rec rfl 114 (.tmp 5) (.tmp 10) rfl (w.heap.size + 1 + 1) 0 _ (fnd 2 (h 5) (h 3) (fun _ => 0)) rfl rfl R2 (by rw [fnd_len, fnd_len]) (fnd_info _ _ _ _) (fnd_one _ _ _ _) ?_; intro W3 R3 B3
       have F3 : Hid (Rec19 W3 (w.heap.size + 1) 0 (fnd 0 0 0 (fun _ => 0))) := (F1.out.below (by rw [z1]; exact B2)).but B3 (by omega)
       have E3 : Hid (Below w.heap.size w W3) := E1.out.trans ((B2.mono (by omega)).trans (B3.below (by omega) (by omega)))
       have G3 : Hid (Rec19 W3 (w.heap.size + 1 + 1) 0 (fnd 2 (h 5) (h 3) (fun _ => 0))) := R3
       obtain ⟨W4, hc, R4, B4, z4⟩ := copy_found W3 (w.heap.size + 1 + 1) n C a f (fun _ => 0) 2 (h 5) (h 3) R3 hn (HA.out.below E3.out)
       clear c5 c3 F1 E1 R2 B2 z2 R3 B3 z1
       have F4 : Hid (Rec19 W4 (w.heap.size + 1) 0 (fnd 0 0 0 (fun _ => 0))) := F3.out.but B4 (by omega)
       have E4 : Hid (Below w.heap.size w W4) := E3.out.trans (B4.below (by omega) E3.out.size)
       have G4 : Hid (Rec19 W4 (w.heap.size + 1 + 1) 0 (fnd 2 (h 5) (h 3) f)) := R4
       clear R4 B4 z4 F3 E3 G3)
    | (have _q := F4; clear _q; refine wpList_load_rec rfl 114 (.tmp 5) rfl (w.heap.size + 1 + 1) 0 (fnd 2 (h 5) (h 3) f) rfl _ Tryd.underlying114 rfl (fnd_info _ _ _ _) G4.out ?_)
    | (have _q := F4; clear _q; refine wpList_store_rec rfl 114 (.tmp 4) (.tmp 15) rfl (w.heap.size + 1) 0 _ (fnd 2 (h 5) (h 3) f) rfl rfl F4.out (by rw [fnd_len, fnd_len]) (fnd_info _ _ _ _) (fnd_one _ _ _ _) ?_; intro W9 hR9 hB9))
  have hl := hR9.run_load 114 _ Tryd.underlying114 rfl (fnd_info _ _ _ _)
  refine bodyPost_ret (v := .agg (fnd 2 (h 5) (h 3) f).toArray) (by simp [results, Tryd.results83, asAddr, Act.put, hl]) rfl ⟨rfl, E4.out.trans (hB9.below (by omega) E4.out.size)⟩
set_option maxRecDepth 100000 in
set_option maxHeartbeats 1000000 in
theorem same_found (x y z x' y' z' : Int) (f g : Nat → Int) (w : World) (hf : ∀ j, j < 256 → 0 ≤ f j ∧ f j < 256) (hg : ∀ j, j < 256 → 0 ≤ g j ∧ g j < 256) :
    Calls Tryd.prog 70 #[.agg (fnd x y z f).toArray, .agg (fnd x' y' z' g).toArray] w fun e w' => e = .returned (.bool (decide (txtN 256 f = txtN 256 g))) ∧ Below w.heap.size w w' := by
  have HF : Hid (∀ j, j < 256 → 0 ≤ f j ∧ f j < 256) := hf
  have HG : Hid (∀ j, j < 256 → 0 ≤ g j ∧ g j < 256) := hg
  clear hf hg
  obtain ⟨p, hp⟩ : ∃ p, txtN 256 f = p := ⟨_, rfl⟩
  obtain ⟨q, hq⟩ : ∃ q, txtN 256 g = q := ⟨_, rfl⟩
  have HP : Hid (txtN 256 f = p) := hp
  have HQ : Hid (txtN 256 g = q) := hq
  rw [hp, hq]
  clear hp hq
  have T0 : Hid True := trivial
  go_enter Tryd.func70, Tryd.ntmps70
  go_wp2_with (first
    | (have _q := T0; clear _q; refine wpList_box_rec rfl 114 (.tmp 0) rfl (fnd x y z f) rfl w.heap.size rfl ?_; intro W0 R0 B0 z0; clear T0)
    | (have _q := z0; clear _q; refine wpList_box_rec rfl 114 (.tmp 1) rfl (fnd x' y' z' g) rfl (w.heap.size + 1) z0 ?_; intro W1 R1 B1 z1
       have E1 : Hid (Below w.heap.size w W1) := B0.trans (B1.mono (by omega))
       have S1 : Rec19 W1 w.heap.size 0 (fnd x y z f) := R0.below (by rw [z0]; exact B1)
       have k1 := conv_arg W1.drew (some ⟨w.heap.size, 3, none⟩) 256 256 f (S1.fndArg HF.out)
       have k2 := conv_arg W1.drew (some ⟨w.heap.size + 1, 3, none⟩) 256 256 g (R1.fndArg HG.out)
       rw [HP.out] at k1
       rw [HQ.out] at k2
       clear R0 B0 B1 z0 z1 S1 R1))
  refine wp_region_noPanic ?_
  refine wp_region_held_drew (S := fun W' => (convert 27 9 (.slice (some ⟨w.heap.size, 3, none⟩) 256 256)).run Tryd.prog W' = .ok (.string p) W' ∧ (convert 27 9 (.slice (some ⟨w.heap.size + 1, 3, none⟩) 256 256)).run Tryd.prog W' = .ok (.string q) W') (by kernel_rfl) ?_ (fun hHeld => ?_)
  · exact ⟨k1, k2⟩
  refine take_at (i := 0) (v := ?_) (some 5) rfl rfl (by kernel_rfl) (by kernel_rfl) (by kernel_rfl) (fun _ _ _ h => h) (Or.inl ⟨by rfl, ?_⟩) (by assumption) ?_
  rotate_left
  · (intro w hSw; (try dsimp only at hSw); go_simp; try with_reducible rfl)
  simp only [Act.put, List.setIfInBounds_toArray, List.set_cons_zero, List.set_cons_succ]
  refine take_at (i := 1) (v := ?_) (some 6) rfl rfl (by kernel_rfl) (by kernel_rfl) (by kernel_rfl) (fun _ _ _ h => h) (Or.inl ⟨by rfl, ?_⟩) (by assumption) ?_
  rotate_left
  · (intro w hSw; (try dsimp only at hSw); go_simp; try with_reducible rfl)
  simp only [Act.put, List.setIfInBounds_toArray, List.set_cons_zero, List.set_cons_succ]
  refine take_at (i := 2) (v := ?_) (some 7) rfl rfl (by kernel_rfl) (by kernel_rfl) (by kernel_rfl) (fun _ _ _ h => h) (Or.inl ⟨by rfl, ?_⟩) (by assumption) ?_
  rotate_left
  · (intro w hSw; (try dsimp only at hSw); go_simp; try with_reducible rfl)
  simp only [Act.put, List.setIfInBounds_toArray, List.set_cons_zero, List.set_cons_succ]
  refine take_at (i := 3) (v := ?_) (some 8) rfl rfl (by kernel_rfl) (by kernel_rfl) (by kernel_rfl) (fun _ _ _ h => h) (Or.inl ⟨by rfl, ?_⟩) (by assumption) ?_
  rotate_left
  · (intro w hSw; (try dsimp only at hSw); go_simp; try with_reducible rfl)
  simp only [Act.put, List.setIfInBounds_toArray, List.set_cons_zero, List.set_cons_succ]
  refine take_at (i := 4) (v := ?_) (some 9) rfl rfl (by kernel_rfl) (by kernel_rfl) (by kernel_rfl) (fun _ _ _ h => h) (Or.inl ⟨by rfl, ?_⟩) (by assumption) ?_
  rotate_left
  · (intro w hSw; (try dsimp only at hSw); go_simp; try with_reducible rfl)
  simp only [Act.put, List.setIfInBounds_toArray, List.set_cons_zero, List.set_cons_succ]
  refine take_at (i := 5) (v := ?_) (some 10) rfl rfl (by kernel_rfl) (by kernel_rfl) (by kernel_rfl) (fun _ _ _ h => h) (Or.inl ⟨by rfl, ?_⟩) (by assumption) ?_
  rotate_left
  · (intro w hSw; (try dsimp only at hSw); go_simp; try with_reducible rfl)
  simp only [Act.put, List.setIfInBounds_toArray, List.set_cons_zero, List.set_cons_succ]
  refine take_at (i := 6) (v := ?_) (some 11) rfl rfl (by kernel_rfl) (by kernel_rfl) (by kernel_rfl) (fun _ _ _ h => h) (Or.inl ⟨by rfl, ?_⟩) (by assumption) ?_
  rotate_left
  · (intro w hSw; (try dsimp only at hSw); go_simp; try with_reducible rfl)
  simp only [Act.put, List.setIfInBounds_toArray, List.set_cons_zero, List.set_cons_succ]
  refine take_at (i := 7) (v := ?_) (some 4) rfl rfl (by kernel_rfl) (by kernel_rfl) (by kernel_rfl) (fun _ _ _ h => h) (Or.inl ⟨by rfl, ?_⟩) (by assumption) ?_
  rotate_left
  · (intro w hSw; (try dsimp only at hSw); go_simp; try with_reducible rfl)
  simp only [Act.put, List.setIfInBounds_toArray, List.set_cons_zero, List.set_cons_succ]
  refine wpAnyH_done (by kernel_rfl) ?_ _
  refine NoPanic.normal ?_
  go_wp2_with fail
  go_ret
  exact ⟨by rw [bytes_beq]; rfl, E1.out.drew⟩
/-- Is one that was found older? -/
def olderB (y z y' z' : Int) : Bool := decide (y < y') || (decide (y = y') && decide (z < z'))
set_option maxRecDepth 100000 in
set_option maxHeartbeats 1000000 in
theorem older_found (x y z x' y' z' : Int) (f g : Nat → Int) (w : World) :
    Calls Tryd.prog 72 #[.agg (fnd x y z f).toArray, .agg (fnd x' y' z' g).toArray] w fun e w' => e = .returned (.bool (olderB y z y' z')) ∧ Below w.heap.size w w' := by
  by_cases h1 : y < y'
  · rw [show olderB y z y' z' = true from by simp [olderB, h1]]
    have T0 : Hid True := trivial
    go_enter Tryd.func72, Tryd.ntmps72
    go_wp2_with (first
      | (have _q := T0; clear _q; refine wpList_box_rec rfl 114 (.tmp 0) rfl (fnd x y z f) rfl w.heap.size rfl ?_; intro W0 R0 B0 z0; clear T0)
      | (have _q := z0; clear _q; refine wpList_box_rec rfl 114 (.tmp 1) rfl (fnd x' y' z' g) rfl (w.heap.size + 1) z0 ?_; intro W1 R1 B1 z1
         have E1 : Hid (Below w.heap.size w W1) := B0.trans (B1.mono (by omega))
         have S1 : Rec19 W1 w.heap.size 0 (fnd x y z f) := R0.below (by rw [z0]; exact B1)
         have c1 := (S1.at 1 (.int .i64 y) rfl).1
         have c2 := (S1.at 2 (.int .i64 z) rfl).1
         have d1 := (R1.at 1 (.int .i64 y') rfl).1
         have d2 := (R1.at 2 (.int .i64 z') rfl).1
         clear R0 B0 B1 z0 z1 S1 R1))
    go_ret
    exact ⟨rfl, E1.out⟩
  · have h1' : (y < y') = False := eq_false h1
    clear h1
    by_cases h2 : y = y'
    · subst h2
      by_cases h3 : z < z'
      · rw [show olderB y z y z' = true from by simp [olderB, h3]]
        have T0 : Hid True := trivial
        go_enter Tryd.func72, Tryd.ntmps72
        go_wp2_with (first
          | (have _q := T0; clear _q; refine wpList_box_rec rfl 114 (.tmp 0) rfl (fnd x y z f) rfl w.heap.size rfl ?_; intro W0 R0 B0 z0; clear T0)
          | (have _q := z0; clear _q; refine wpList_box_rec rfl 114 (.tmp 1) rfl (fnd x' y z' g) rfl (w.heap.size + 1) z0 ?_; intro W1 R1 B1 z1
             have E1 : Hid (Below w.heap.size w W1) := B0.trans (B1.mono (by omega))
             have S1 : Rec19 W1 w.heap.size 0 (fnd x y z f) := R0.below (by rw [z0]; exact B1)
             have c1 := (S1.at 1 (.int .i64 y) rfl).1
             have c2 := (S1.at 2 (.int .i64 z) rfl).1
             have d1 := (R1.at 1 (.int .i64 y) rfl).1
             have d2 := (R1.at 2 (.int .i64 z') rfl).1
             clear R0 B0 B1 z0 z1 S1 R1))
        go_ret
        exact ⟨rfl, E1.out⟩
      · have h3' : (z < z') = False := eq_false h3
        rw [show olderB y z y z' = false from by simp [olderB, h3]]
        clear h3
        have T0 : Hid True := trivial
        go_enter Tryd.func72, Tryd.ntmps72
        go_wp2_with (first
          | (have _q := T0; clear _q; refine wpList_box_rec rfl 114 (.tmp 0) rfl (fnd x y z f) rfl w.heap.size rfl ?_; intro W0 R0 B0 z0; clear T0)
          | (have _q := z0; clear _q; refine wpList_box_rec rfl 114 (.tmp 1) rfl (fnd x' y z' g) rfl (w.heap.size + 1) z0 ?_; intro W1 R1 B1 z1
             have E1 : Hid (Below w.heap.size w W1) := B0.trans (B1.mono (by omega))
             have S1 : Rec19 W1 w.heap.size 0 (fnd x y z f) := R0.below (by rw [z0]; exact B1)
             have c1 := (S1.at 1 (.int .i64 y) rfl).1
             have c2 := (S1.at 2 (.int .i64 z) rfl).1
             have d1 := (R1.at 1 (.int .i64 y) rfl).1
             have d2 := (R1.at 2 (.int .i64 z') rfl).1
             clear R0 B0 B1 z0 z1 S1 R1))
        go_ret
        exact ⟨rfl, E1.out⟩
    · rw [show olderB y z y' z' = false from by simp [olderB, h1', h2]]
      have T0 : Hid True := trivial
      go_enter Tryd.func72, Tryd.ntmps72
      go_wp2_with (first
        | (have _q := T0; clear _q; refine wpList_box_rec rfl 114 (.tmp 0) rfl (fnd x y z f) rfl w.heap.size rfl ?_; intro W0 R0 B0 z0; clear T0)
        | (have _q := z0; clear _q; refine wpList_box_rec rfl 114 (.tmp 1) rfl (fnd x' y' z' g) rfl (w.heap.size + 1) z0 ?_; intro W1 R1 B1 z1
           have E1 : Hid (Below w.heap.size w W1) := B0.trans (B1.mono (by omega))
           have S1 : Rec19 W1 w.heap.size 0 (fnd x y z f) := R0.below (by rw [z0]; exact B1)
           have c1 := (S1.at 1 (.int .i64 y) rfl).1
           have c2 := (S1.at 2 (.int .i64 z) rfl).1
           have d1 := (R1.at 1 (.int .i64 y') rfl).1
           have d2 := (R1.at 2 (.int .i64 z') rfl).1
           clear R0 B0 B1 z0 z1 S1 R1))
      go_ret
      exact ⟨rfl, E1.out⟩
/-- A state's cells. -/
def ss (st op vw : Int) (m : Bool) : List Value := [.int .i64 st, .int .i64 op, .int .i64 vw, .bool m]
theorem ss_one (st op vw : Int) (m : Bool) : ∀ v ∈ ss st op vw m, v.oneCell' = true := by
  intro v hv; unfold ss at hv; simp at hv; rcases hv with rfl | rfl | rfl | rfl <;> rfl
theorem zeroSs : (Tryd.prog.info? 34).bind (·.zero) = some (.agg (ss 0 0 0 false).toArray) := by kernel_rfl
set_option maxRecDepth 100000 in
set_option maxHeartbeats 1000000 in
theorem state_found (x y z st : Int) (m : Bool) (f : Nat → Int) (w : World) :
    Calls Tryd.prog 71 #[.agg (fnd x y z f).toArray, .int .i64 st, .bool m] w fun e w' => e = .returned (.agg (ss st y z m).toArray) ∧ Below w.heap.size w w' := by
  go_enter Tryd.func71, Tryd.ntmps71
  go_wp2_with (first
    | (refine wpList_box_rec rfl 114 (.tmp 0) rfl (fnd x y z f) rfl w.heap.size rfl ?_; intro W0 R0 B0 z0)
    | (have _q := z0; clear _q; refine wpList_alloc_rec rfl 34 rfl (ss 0 0 0 false) (w.heap.size + 1) z0 zeroSs ?_; intro W1 R1 B1 z1
       have E1 : Hid (Below w.heap.size w W1) := B0.trans (B1.mono (by omega))
       have S1 : Rec19 W1 w.heap.size 0 (fnd x y z f) := R0.below (by rw [z0]; exact B1)
       have c1 := (S1.at 1 (.int .i64 y) rfl).1
       have c2 := (S1.at 2 (.int .i64 z) rfl).1
       have F1 : Hid (Rec19 W1 (w.heap.size + 1) 0 (ss 0 0 0 false)) := R1
       clear R0 B0 B1 z0 S1 R1)
    | (have _q := F1; clear _q; refine wpList_build_to rfl 34 _ rfl (ss st y z m).toArray (by kernel_rfl) ?_)
    | (have _q := F1; clear _q; refine wpList_store_rec rfl 34 (.tmp 6) (.tmp 13) rfl (w.heap.size + 1) 0 _ (ss st y z m) rfl rfl F1.out rfl (by kernel_rfl) (ss_one _ _ _ _) ?_; intro W9 hR9 hB9))
  have hl := hR9.run_load 34 _ Tryd.underlying34 rfl (by kernel_rfl)
  refine bodyPost_ret (v := .agg (ss st y z m).toArray) (by simp [results, Tryd.results71, asAddr, Act.put, hl]) rfl ⟨rfl, E1.out.trans (hB9.below (by omega) E1.out.size)⟩
end Go.Proofs.YtijpoipcadhchaaDoor
