/-
  Walks, not a claim by itself: level's copiedTable. By the verifier.
-/
import Derived.Test.YtelcijfcgflagaaLvChk
import Derived.Test.YtelcijfcgflagaaReg3
namespace Go.Proofs.Ytelcijfcgflagaa
open Go.RowKit
attribute [-go_sem] Builtin.append_
/-- What copiedTable answers. -/
def CtPost (W : World) (r : Rn) (e : Ending) (w' : World) : Prop := ∃ y : RV, y.r = r ∧ e = .returned (.agg y.cs.toArray) ∧ FrC w' W.heap.size y.f r.f ∧ FrC w' W.heap.size y.l r.l ∧ Below W.heap.size W w'
set_option maxRecDepth 100000 in
set_option maxHeartbeats 1000000 in
theorem copiedTable_any {W : World} {N : List Nat} {x : RV} (h : RVOk W N x) (hz : x.r.f.size ≤ 1000000 ∧ x.r.l.size ≤ 1000000) : Calls Try.prog 52 #[.agg x.cs.toArray] W (CtPost W x.r) := by
  have HX := hidIt h
  have HK := hidIt hz
  clear h hz
  go_enter Try.func52, Try.ntmps52
  go_wp2_with (first
    | (refine wpList_box_rec rfl 45 (.tmp 0) rfl x.cs rfl W.heap.size rfl ?_; intro W1 R1 B1 z1; have E1 := hidIt B1; have P1 := hidIt R1; clear R1 B1)
    | (refine wpList_alloc_rec rfl 45 rfl _ (W.heap.size + 1) z1 run_zero ?_; intro W2 R2 B2 z2; have E2 := hidIt (E1.out.trans (B2.mono (by omega))); have P2 := hidIt (P1.out.below (by rw [z1]; exact B2)); have Q2 := hidIt R2; clear R2 B2 P1 E1 z1))
  have c3 : W2.drew.cell? ⟨W.heap.size, 3, none⟩ = some x.f := (P2.out.cel 3 _ rfl).1
  have c4 : W2.drew.cell? ⟨W.heap.size, 4, none⟩ = some x.l := (P2.out.cel 4 _ rfl).1
  refine wp_region_noPanic ?_
  refine wp_region_held_drew (S := fun _ => True) (by kernel_rfl) ?_ (fun hHeld => ?_)
  · trivial
  refine take_at (i := 0) (v := ?_) (some 3) rfl rfl (by kernel_rfl) (by kernel_rfl) (by kernel_rfl) (fun _ _ _ h => h) (Or.inl ⟨by rfl, ?_⟩) (by assumption) ?_
  rotate_left
  · (intro w hSw; (try dsimp only at hSw); go_simp; try with_reducible rfl)
  simp only [Act.put, List.setIfInBounds_toArray, List.set_cons_zero, List.set_cons_succ]
  refine take_at (i := 3) (v := ?_) (some 6) rfl rfl (by kernel_rfl) (by kernel_rfl) (by kernel_rfl) (fun _ _ _ h => h) (Or.inl ⟨by rfl, ?_⟩) (by assumption) ?_
  rotate_left
  · (intro w hSw; (try dsimp only at hSw); go_simp; try with_reducible rfl)
  simp only [Act.put, List.setIfInBounds_toArray, List.set_cons_zero, List.set_cons_succ]
  refine pair_at (i := 1) (j := 4) (some 4) (some 7) rfl rfl rfl rfl (by kernel_rfl) (by rfl) (by rfl) x.f x.l W2.drew W2.drew (by go_simp) (by go_simp) ⟨trivial, trivial⟩ (fun _ => ?_) (fun _ => ?_)
  · simp only [Act.put, List.setIfInBounds_toArray, List.set_cons_zero, List.set_cons_succ]
    refine duo_at (i := 2) (j := 4) (some 5) (some 7) 67 #[.tmp 4] _ rfl rfl rfl rfl rfl (by rfl) (by rfl) (by kernel_rfl) x.l W2.drew (by go_simp) trivial (fun hHeld => ?_) #[x.f] rfl Try.func67 (by kernel_rfl) (by kernel_rfl) ?_
    · simp only [Act.put, List.setIfInBounds_toArray, List.set_cons_zero, List.set_cons_succ]
      refine call_at (i := 2) (some 5) 67 _ _ rfl rfl rfl (by rfl) (by kernel_rfl) #[x.f] rfl Try.func67 (by kernel_rfl) (by kernel_rfl) ?_
      refine (clone_any ((HX.out.1.below E2.out).below (Below.refl _ _).drew) HK.out.1).mono ?_
      rintro e W3 ⟨ka, kn, kC, rfl, F3, B3⟩
      have zz : W2.drew.heap.size = W.heap.size + 1 + 1 := z2
      have P3 := hidIt ((P2.out.below (Below.refl _ _).drew).below B3)
      have Q3 := hidIt ((Q2.out.below (Below.refl _ _).drew).below B3)
      have E3 := hidIt (E2.out.drew.trans (B3.mono (by omega)))
      have G3 := hidIt (F3.low (base' := W.heap.size + 1 + 1) (by omega))
      have s3 := hidIt B3.size
      clear F3 B3 P2 Q2 c3 c4
      refine ⟨_, rfl, trivial, fun hHeld => ?_⟩
      simp only [Act.put, List.setIfInBounds_toArray, List.set_cons_zero, List.set_cons_succ]
      refine take_at (i := 6) (v := ?_) (some 9) rfl rfl (by kernel_rfl) (by kernel_rfl) (by kernel_rfl) (fun _ _ _ h => h) (Or.inl ⟨by rfl, ?_⟩) (by assumption) ?_
      rotate_left
      · (intro w hSw; (try dsimp only at hSw); go_simp; try with_reducible rfl)
      simp only [Act.put, List.setIfInBounds_toArray, List.set_cons_zero, List.set_cons_succ]
      refine call_at (i := 5) (some 8) 67 _ _ rfl rfl rfl (by rfl) (by kernel_rfl) #[x.l] rfl Try.func67 (by kernel_rfl) (by kernel_rfl) ?_
      refine (clone_any (HX.out.2.below E3.out) HK.out.2).mono ?_
      rintro e W4 ⟨va, vn, vC, rfl, F4, B4⟩
      have P4 := hidIt (P3.out.below B4)
      have Q4 := hidIt (Q3.out.below B4)
      have E4 := hidIt (E3.out.trans (B4.mono E3.out.size))
      have G4 := hidIt (G3.out.below B4)
      have F4' := hidIt (F4.low (base' := W.heap.size + 1 + 1) (by have := s3.out; omega))
      clear F4 B4 P3 Q3 G3
      refine ⟨_, rfl, trivial, fun hHeld => ?_⟩
      simp only [Act.put, List.setIfInBounds_toArray, List.set_cons_zero, List.set_cons_succ]
      have hr5 := store_v 43 (by kernel_rfl) (v := .slice ka kn kC) rfl rfl (P4.out.cel 3 _ rfl).1 (P4.out.cel 3 _ rfl).2
      have B5 := But.set (b := W.heap.size) W4 3 (.slice ka kn kC)
      have P5 := hidIt (P4.out.putR 3 (.slice ka kn kC) (by simp [RV.cs]))
      generalize W4.setCell ⟨W.heap.size, 3, none⟩ (.slice ka kn kC) = W5 at *
      refine mute_at (i := 7) none rfl rfl (by rfl) (by kernel_rfl) W5 (put_mute 43 (.tmp 9) (.tmp 5) rfl _ _ rfl rfl hr5) trivial (fun hHeld => ?_)
      simp only [Act.put]
      refine take_at (i := 8) (v := ?_) (some 10) rfl rfl (by kernel_rfl) (by kernel_rfl) (by kernel_rfl) (fun _ _ _ h => h) (Or.inl ⟨by rfl, ?_⟩) (by assumption) ?_
      rotate_left
      · (intro w hSw; (try dsimp only at hSw); go_simp; try with_reducible rfl)
      simp only [Act.put, List.setIfInBounds_toArray, List.set_cons_zero, List.set_cons_succ]
      have hr6 := store_v 43 (by kernel_rfl) (v := .slice va vn vC) rfl rfl (P5.out.cel 4 x.l rfl).1 (P5.out.cel 4 x.l rfl).2
      have B6 := But.set (b := W.heap.size) W5 4 (.slice va vn vC)
      have P6 := hidIt (P5.out.putR 4 (.slice va vn vC) (by simp [RV.cs]))
      generalize W5.setCell ⟨W.heap.size, 4, none⟩ (.slice va vn vC) = W6 at *
      refine mute_at (i := 9) none rfl rfl (by rfl) (by kernel_rfl) W6 (put_mute 43 (.tmp 10) (.tmp 8) rfl _ _ rfl rfl hr6) trivial (fun hHeld => ?_)
      simp only [Act.put]
      have Q6 := hidIt ((Q4.out.but B5 (by omega)).but B6 (by omega))
      have O6 := hidIt ((Off.but (bs := [W.heap.size]) B5 (by simp)).trans (Off.but (bs := [W.heap.size]) B6 (by simp)))
      have P7 : Hid (Rec19 W6 W.heap.size 0 (RV.mk (.slice ka kn kC) (.slice va vn vC) x.r).cs) := hidIt P6.out
      have K6 := hidIt (And.intro (G4.out.off O6.out (fun b hb => by simp at hb; omega)) (F4'.out.off O6.out (fun b hb => by simp at hb; omega)))
      have E6 := hidIt (E4.out.trans (O6.out.below (by simp) E4.out.size))
      clear hr5 hr6 B5 B6 P4 P5 P6 Q4 O6 G4 F4' E4
      refine wpAnyH_done (by kernel_rfl) ?_ _
      refine NoPanic.normal ?_
      have t1 : Hid True := trivial
      go_wp2_with (first
        | (have _q := t1; refine wpList_load_rec rfl 45 (.tmp 1) rfl W.heap.size 0 (RV.mk (.slice ka kn kC) (.slice va vn vC) x.r).cs rfl _ Try.underlying45 rfl run_size P7.out ?_; clear t1 _q)
        | (refine wpList_store_rec rfl 45 (.tmp 2) (.tmp 11) rfl (W.heap.size + 1) 0 _ (RV.mk (.slice ka kn kC) (.slice va vn vC) x.r).cs rfl rfl Q6.out rfl run_size (by intro u hu; simp only [RV.cs, List.mem_cons, List.not_mem_nil, or_false] at hu; rcases hu with rfl | rfl | rfl | rfl | rfl <;> rfl) ?_; intro W7 R7 B7; have RR := hidIt R7; have FIN : Hid (CtPost W x.r (.returned (.agg (RV.mk (.slice ka kn kC) (.slice va vn vC) x.r).cs.toArray)) W7) := hidIt ⟨RV.mk (.slice ka kn kC) (.slice va vn vC) x.r, rfl, rfl, (K6.out.1.off (Off.but (bs := [W.heap.size + 1]) B7 (by simp)) (by simp)).low (base' := W.heap.size) (by omega), (K6.out.2.off (Off.but (bs := [W.heap.size + 1]) B7 (by simp)) (by simp)).low (base' := W.heap.size) (by omega), E6.out.trans (B7.below (by omega) E6.out.size)⟩; clear R7 B7))
      have hl := RR.out.run_load 45 _ Try.underlying45 rfl run_size
      exact bodyPost_ret (v := .agg (RV.mk (.slice ka kn kC) (.slice va vn vC) x.r).cs.toArray) (by simp [results, Try.results52, asAddr, Act.put, hl]) rfl FIN.out
    · refine (clone_any ((HX.out.1.below E2.out).below (Below.refl _ _).drew) HK.out.1).mono ?_
      rintro e W3 ⟨ka, kn, kC, rfl, F3, B3⟩
      have zz : W2.drew.heap.size = W.heap.size + 1 + 1 := z2
      have P3 := hidIt ((P2.out.below (Below.refl _ _).drew).below B3)
      have Q3 := hidIt ((Q2.out.below (Below.refl _ _).drew).below B3)
      have E3 := hidIt (E2.out.drew.trans (B3.mono (by omega)))
      have G3 := hidIt (F3.low (base' := W.heap.size + 1 + 1) (by omega))
      have s3 := hidIt B3.size
      clear F3 B3 P2 Q2 c3 c4
      refine ⟨_, rfl, trivial, fun hHeld => ?_⟩
      simp only [Act.put, List.setIfInBounds_toArray, List.set_cons_zero, List.set_cons_succ]
      have c4 : W3.cell? ⟨W.heap.size, 4, none⟩ = some x.l := (P3.out.cel 4 _ rfl).1
      refine step_at (i := 4) (some 7) rfl rfl (by rfl) (by kernel_rfl) x.l W3 (by go_simp) trivial (fun hHeld => ?_)
      clear c4
      simp only [Act.put, List.setIfInBounds_toArray, List.set_cons_zero, List.set_cons_succ]
      refine take_at (i := 6) (v := ?_) (some 9) rfl rfl (by kernel_rfl) (by kernel_rfl) (by kernel_rfl) (fun _ _ _ h => h) (Or.inl ⟨by rfl, ?_⟩) (by assumption) ?_
      rotate_left
      · (intro w hSw; (try dsimp only at hSw); go_simp; try with_reducible rfl)
      simp only [Act.put, List.setIfInBounds_toArray, List.set_cons_zero, List.set_cons_succ]
      refine call_at (i := 5) (some 8) 67 _ _ rfl rfl rfl (by rfl) (by kernel_rfl) #[x.l] rfl Try.func67 (by kernel_rfl) (by kernel_rfl) ?_
      refine (clone_any (HX.out.2.below E3.out) HK.out.2).mono ?_
      rintro e W4 ⟨va, vn, vC, rfl, F4, B4⟩
      have P4 := hidIt (P3.out.below B4)
      have Q4 := hidIt (Q3.out.below B4)
      have E4 := hidIt (E3.out.trans (B4.mono E3.out.size))
      have G4 := hidIt (G3.out.below B4)
      have F4' := hidIt (F4.low (base' := W.heap.size + 1 + 1) (by have := s3.out; omega))
      clear F4 B4 P3 Q3 G3
      refine ⟨_, rfl, trivial, fun hHeld => ?_⟩
      simp only [Act.put, List.setIfInBounds_toArray, List.set_cons_zero, List.set_cons_succ]
      have hr5 := store_v 43 (by kernel_rfl) (v := .slice ka kn kC) rfl rfl (P4.out.cel 3 _ rfl).1 (P4.out.cel 3 _ rfl).2
      have B5 := But.set (b := W.heap.size) W4 3 (.slice ka kn kC)
      have P5 := hidIt (P4.out.putR 3 (.slice ka kn kC) (by simp [RV.cs]))
      generalize W4.setCell ⟨W.heap.size, 3, none⟩ (.slice ka kn kC) = W5 at *
      refine mute_at (i := 7) none rfl rfl (by rfl) (by kernel_rfl) W5 (put_mute 43 (.tmp 9) (.tmp 5) rfl _ _ rfl rfl hr5) trivial (fun hHeld => ?_)
      simp only [Act.put]
      refine take_at (i := 8) (v := ?_) (some 10) rfl rfl (by kernel_rfl) (by kernel_rfl) (by kernel_rfl) (fun _ _ _ h => h) (Or.inl ⟨by rfl, ?_⟩) (by assumption) ?_
      rotate_left
      · (intro w hSw; (try dsimp only at hSw); go_simp; try with_reducible rfl)
      simp only [Act.put, List.setIfInBounds_toArray, List.set_cons_zero, List.set_cons_succ]
      have hr6 := store_v 43 (by kernel_rfl) (v := .slice va vn vC) rfl rfl (P5.out.cel 4 x.l rfl).1 (P5.out.cel 4 x.l rfl).2
      have B6 := But.set (b := W.heap.size) W5 4 (.slice va vn vC)
      have P6 := hidIt (P5.out.putR 4 (.slice va vn vC) (by simp [RV.cs]))
      generalize W5.setCell ⟨W.heap.size, 4, none⟩ (.slice va vn vC) = W6 at *
      refine mute_at (i := 9) none rfl rfl (by rfl) (by kernel_rfl) W6 (put_mute 43 (.tmp 10) (.tmp 8) rfl _ _ rfl rfl hr6) trivial (fun hHeld => ?_)
      simp only [Act.put]
      have Q6 := hidIt ((Q4.out.but B5 (by omega)).but B6 (by omega))
      have O6 := hidIt ((Off.but (bs := [W.heap.size]) B5 (by simp)).trans (Off.but (bs := [W.heap.size]) B6 (by simp)))
      have P7 : Hid (Rec19 W6 W.heap.size 0 (RV.mk (.slice ka kn kC) (.slice va vn vC) x.r).cs) := hidIt P6.out
      have K6 := hidIt (And.intro (G4.out.off O6.out (fun b hb => by simp at hb; omega)) (F4'.out.off O6.out (fun b hb => by simp at hb; omega)))
      have E6 := hidIt (E4.out.trans (O6.out.below (by simp) E4.out.size))
      clear hr5 hr6 B5 B6 P4 P5 P6 Q4 O6 G4 F4' E4
      refine wpAnyH_done (by kernel_rfl) ?_ _
      refine NoPanic.normal ?_
      have t1 : Hid True := trivial
      go_wp2_with (first
        | (have _q := t1; refine wpList_load_rec rfl 45 (.tmp 1) rfl W.heap.size 0 (RV.mk (.slice ka kn kC) (.slice va vn vC) x.r).cs rfl _ Try.underlying45 rfl run_size P7.out ?_; clear t1 _q)
        | (refine wpList_store_rec rfl 45 (.tmp 2) (.tmp 11) rfl (W.heap.size + 1) 0 _ (RV.mk (.slice ka kn kC) (.slice va vn vC) x.r).cs rfl rfl Q6.out rfl run_size (by intro u hu; simp only [RV.cs, List.mem_cons, List.not_mem_nil, or_false] at hu; rcases hu with rfl | rfl | rfl | rfl | rfl <;> rfl) ?_; intro W7 R7 B7; have RR := hidIt R7; have FIN : Hid (CtPost W x.r (.returned (.agg (RV.mk (.slice ka kn kC) (.slice va vn vC) x.r).cs.toArray)) W7) := hidIt ⟨RV.mk (.slice ka kn kC) (.slice va vn vC) x.r, rfl, rfl, (K6.out.1.off (Off.but (bs := [W.heap.size + 1]) B7 (by simp)) (by simp)).low (base' := W.heap.size) (by omega), (K6.out.2.off (Off.but (bs := [W.heap.size + 1]) B7 (by simp)) (by simp)).low (base' := W.heap.size) (by omega), E6.out.trans (B7.below (by omega) E6.out.size)⟩; clear R7 B7))
      have hl := RR.out.run_load 45 _ Try.underlying45 rfl run_size
      exact bodyPost_ret (v := .agg (RV.mk (.slice ka kn kC) (.slice va vn vC) x.r).cs.toArray) (by simp [results, Try.results52, asAddr, Act.put, hl]) rfl FIN.out
  · simp only [Act.put, List.setIfInBounds_toArray, List.set_cons_zero, List.set_cons_succ]
    refine step_at (i := 1) (some 4) rfl rfl (by rfl) (by kernel_rfl) x.f W2.drew (by go_simp) trivial (fun hHeld => ?_)
    simp only [Act.put, List.setIfInBounds_toArray, List.set_cons_zero, List.set_cons_succ]
    refine call_at (i := 2) (some 5) 67 _ _ rfl rfl rfl (by rfl) (by kernel_rfl) #[x.f] rfl Try.func67 (by kernel_rfl) (by kernel_rfl) ?_
    refine (clone_any ((HX.out.1.below E2.out).below (Below.refl _ _).drew) HK.out.1).mono ?_
    rintro e W3 ⟨ka, kn, kC, rfl, F3, B3⟩
    have zz : W2.drew.heap.size = W.heap.size + 1 + 1 := z2
    have P3 := hidIt ((P2.out.below (Below.refl _ _).drew).below B3)
    have Q3 := hidIt ((Q2.out.below (Below.refl _ _).drew).below B3)
    have E3 := hidIt (E2.out.drew.trans (B3.mono (by omega)))
    have G3 := hidIt (F3.low (base' := W.heap.size + 1 + 1) (by omega))
    have s3 := hidIt B3.size
    clear F3 B3 P2 Q2 c3 c4
    refine ⟨_, rfl, trivial, fun hHeld => ?_⟩
    simp only [Act.put, List.setIfInBounds_toArray, List.set_cons_zero, List.set_cons_succ]
    refine take_at (i := 6) (v := ?_) (some 9) rfl rfl (by kernel_rfl) (by kernel_rfl) (by kernel_rfl) (fun _ _ _ h => h) (Or.inl ⟨by rfl, ?_⟩) (by assumption) ?_
    rotate_left
    · (intro w hSw; (try dsimp only at hSw); go_simp; try with_reducible rfl)
    simp only [Act.put, List.setIfInBounds_toArray, List.set_cons_zero, List.set_cons_succ]
    refine call_at (i := 5) (some 8) 67 _ _ rfl rfl rfl (by rfl) (by kernel_rfl) #[x.l] rfl Try.func67 (by kernel_rfl) (by kernel_rfl) ?_
    refine (clone_any (HX.out.2.below E3.out) HK.out.2).mono ?_
    rintro e W4 ⟨va, vn, vC, rfl, F4, B4⟩
    have P4 := hidIt (P3.out.below B4)
    have Q4 := hidIt (Q3.out.below B4)
    have E4 := hidIt (E3.out.trans (B4.mono E3.out.size))
    have G4 := hidIt (G3.out.below B4)
    have F4' := hidIt (F4.low (base' := W.heap.size + 1 + 1) (by have := s3.out; omega))
    clear F4 B4 P3 Q3 G3
    refine ⟨_, rfl, trivial, fun hHeld => ?_⟩
    simp only [Act.put, List.setIfInBounds_toArray, List.set_cons_zero, List.set_cons_succ]
    have hr5 := store_v 43 (by kernel_rfl) (v := .slice ka kn kC) rfl rfl (P4.out.cel 3 _ rfl).1 (P4.out.cel 3 _ rfl).2
    have B5 := But.set (b := W.heap.size) W4 3 (.slice ka kn kC)
    have P5 := hidIt (P4.out.putR 3 (.slice ka kn kC) (by simp [RV.cs]))
    generalize W4.setCell ⟨W.heap.size, 3, none⟩ (.slice ka kn kC) = W5 at *
    refine mute_at (i := 7) none rfl rfl (by rfl) (by kernel_rfl) W5 (put_mute 43 (.tmp 9) (.tmp 5) rfl _ _ rfl rfl hr5) trivial (fun hHeld => ?_)
    simp only [Act.put]
    refine take_at (i := 8) (v := ?_) (some 10) rfl rfl (by kernel_rfl) (by kernel_rfl) (by kernel_rfl) (fun _ _ _ h => h) (Or.inl ⟨by rfl, ?_⟩) (by assumption) ?_
    rotate_left
    · (intro w hSw; (try dsimp only at hSw); go_simp; try with_reducible rfl)
    simp only [Act.put, List.setIfInBounds_toArray, List.set_cons_zero, List.set_cons_succ]
    have hr6 := store_v 43 (by kernel_rfl) (v := .slice va vn vC) rfl rfl (P5.out.cel 4 x.l rfl).1 (P5.out.cel 4 x.l rfl).2
    have B6 := But.set (b := W.heap.size) W5 4 (.slice va vn vC)
    have P6 := hidIt (P5.out.putR 4 (.slice va vn vC) (by simp [RV.cs]))
    generalize W5.setCell ⟨W.heap.size, 4, none⟩ (.slice va vn vC) = W6 at *
    refine mute_at (i := 9) none rfl rfl (by rfl) (by kernel_rfl) W6 (put_mute 43 (.tmp 10) (.tmp 8) rfl _ _ rfl rfl hr6) trivial (fun hHeld => ?_)
    simp only [Act.put]
    have Q6 := hidIt ((Q4.out.but B5 (by omega)).but B6 (by omega))
    have O6 := hidIt ((Off.but (bs := [W.heap.size]) B5 (by simp)).trans (Off.but (bs := [W.heap.size]) B6 (by simp)))
    have P7 : Hid (Rec19 W6 W.heap.size 0 (RV.mk (.slice ka kn kC) (.slice va vn vC) x.r).cs) := hidIt P6.out
    have K6 := hidIt (And.intro (G4.out.off O6.out (fun b hb => by simp at hb; omega)) (F4'.out.off O6.out (fun b hb => by simp at hb; omega)))
    have E6 := hidIt (E4.out.trans (O6.out.below (by simp) E4.out.size))
    clear hr5 hr6 B5 B6 P4 P5 P6 Q4 O6 G4 F4' E4
    refine wpAnyH_done (by kernel_rfl) ?_ _
    refine NoPanic.normal ?_
    have t1 : Hid True := trivial
    go_wp2_with (first
      | (have _q := t1; refine wpList_load_rec rfl 45 (.tmp 1) rfl W.heap.size 0 (RV.mk (.slice ka kn kC) (.slice va vn vC) x.r).cs rfl _ Try.underlying45 rfl run_size P7.out ?_; clear t1 _q)
      | (refine wpList_store_rec rfl 45 (.tmp 2) (.tmp 11) rfl (W.heap.size + 1) 0 _ (RV.mk (.slice ka kn kC) (.slice va vn vC) x.r).cs rfl rfl Q6.out rfl run_size (by intro u hu; simp only [RV.cs, List.mem_cons, List.not_mem_nil, or_false] at hu; rcases hu with rfl | rfl | rfl | rfl | rfl <;> rfl) ?_; intro W7 R7 B7; have RR := hidIt R7; have FIN : Hid (CtPost W x.r (.returned (.agg (RV.mk (.slice ka kn kC) (.slice va vn vC) x.r).cs.toArray)) W7) := hidIt ⟨RV.mk (.slice ka kn kC) (.slice va vn vC) x.r, rfl, rfl, (K6.out.1.off (Off.but (bs := [W.heap.size + 1]) B7 (by simp)) (by simp)).low (base' := W.heap.size) (by omega), (K6.out.2.off (Off.but (bs := [W.heap.size + 1]) B7 (by simp)) (by simp)).low (base' := W.heap.size) (by omega), E6.out.trans (B7.below (by omega) E6.out.size)⟩; clear R7 B7))
    have hl := RR.out.run_load 45 _ Try.underlying45 rfl run_size
    exact bodyPost_ret (v := .agg (RV.mk (.slice ka kn kC) (.slice va vn vC) x.r).cs.toArray) (by simp [results, Try.results52, asAddr, Act.put, hl]) rfl FIN.out
end Go.Proofs.Ytelcijfcgflagaa
