
/-
  Walks, not a claim by itself: pairs that are copied. By the verifier.
-/
import Derived.Test.YtgpafmgncolnmaaMgCo
import Derived.Laws.Cover3
import Derived.Test.YtgpafmgncolnmaaMgA
namespace Go.Proofs.Ytgpafmgncolnmaa
open Go.RowKit
attribute [-go_sem] Builtin.append_
/-- What copied answers. -/
def CcPost (W : World) (p : Pr) (e : Ending) (w' : World) : Prop := ∃ k v, e = .returned (.agg (PV.mk k v p).cs.toArray) ∧ FrC w' W.heap.size k p.k ∧ FrC w' W.heap.size v p.v ∧ Below W.heap.size W w'
set_option maxRecDepth 100000 in
set_option maxHeartbeats 1000000 in
theorem ucopied_any {W : World} {N : List Nat} {x : PV} (h : PVOk W N x) (hk : x.p.k.size ≤ 1000000) (hv : x.p.v.size ≤ 1000000) : Calls Try.prog 34 #[.agg x.cs.toArray] W (CcPost W x.p) := by
  have HX := hidIt h
  have HK := hidIt (And.intro hk hv)
  clear h hk hv
  go_enter Try.func34, Try.ntmps34
  go_wp2_with (first
    | (refine wpList_box_rec rfl 32 (.tmp 0) rfl x.cs rfl W.heap.size rfl ?_; intro W1 R1 B1 z1; have E1 := hidIt B1; have P1 := hidIt R1; clear R1 B1)
    | (refine wpList_alloc_rec rfl 32 rfl _ (W.heap.size + 1) z1 pair_zero ?_; intro W2 R2 B2 z2; have E2 := hidIt (E1.out.trans (B2.mono (by omega))); have P2 := hidIt (P1.out.below (by rw [z1]; exact B2)); have Q2 := hidIt R2; clear R2 B2 P1 E1 z1))
  refine wp_region_noPanic ?_
  refine wp_region_held_drew (S := fun w' => w'.cell? ⟨W.heap.size, 0, none⟩ = some x.k ∧ w'.cell? ⟨W.heap.size, 1, none⟩ = some x.v ∧ w'.cell? ⟨W.heap.size, 2, none⟩ = some (.bool x.p.g)) (by kernel_rfl) ?_ (fun hHeld => ?_)
  · exact ⟨(P2.out.cel 0 _ rfl).1, (P2.out.cel 1 _ rfl).1, (P2.out.cel 2 _ rfl).1⟩
  refine take_at (i := 0) (v := ?_) (some 3) rfl rfl (by kernel_rfl) (by kernel_rfl) (by kernel_rfl) (fun _ _ _ h => h) (Or.inl ⟨by rfl, ?_⟩) (by assumption) ?_
  rotate_left
  · (intro w hSw; (try dsimp only at hSw); go_simp; try with_reducible rfl)
  simp only [Act.put, List.setIfInBounds_toArray, List.set_cons_zero, List.set_cons_succ]
  refine take_at (i := 1) (v := ?_) (some 4) rfl rfl (by kernel_rfl) (by kernel_rfl) (by kernel_rfl) (fun _ _ _ h => h) (Or.inl ⟨by rfl, ?_⟩) (by assumption) ?_
  rotate_left
  · (intro w hSw; (try dsimp only at hSw); go_simp; try with_reducible rfl)
  simp only [Act.put, List.setIfInBounds_toArray, List.set_cons_zero, List.set_cons_succ]
  refine take_at (i := 3) (v := ?_) (some 6) rfl rfl (by kernel_rfl) (by kernel_rfl) (by kernel_rfl) (fun _ _ _ h => h) (Or.inl ⟨by rfl, ?_⟩) (by assumption) ?_
  rotate_left
  · (intro w hSw; (try dsimp only at hSw); go_simp; try with_reducible rfl)
  simp only [Act.put, List.setIfInBounds_toArray, List.set_cons_zero, List.set_cons_succ]
  refine take_at (i := 4) (v := ?_) (some 7) rfl rfl (by kernel_rfl) (by kernel_rfl) (by kernel_rfl) (fun _ _ _ h => h) (Or.inl ⟨by rfl, ?_⟩) (by assumption) ?_
  rotate_left
  · (intro w hSw; (try dsimp only at hSw); go_simp; try with_reducible rfl)
  simp only [Act.put, List.setIfInBounds_toArray, List.set_cons_zero, List.set_cons_succ]
  refine take_at (i := 6) (v := ?_) (some 9) rfl rfl (by kernel_rfl) (by kernel_rfl) (by kernel_rfl) (fun _ _ _ h => h) (Or.inl ⟨by rfl, ?_⟩) (by assumption) ?_
  rotate_left
  · (intro w hSw; (try dsimp only at hSw); go_simp; try with_reducible rfl)
  simp only [Act.put, List.setIfInBounds_toArray, List.set_cons_zero, List.set_cons_succ]
  refine take_at (i := 7) (v := ?_) (some 10) rfl rfl (by kernel_rfl) (by kernel_rfl) (by kernel_rfl) (fun _ _ _ h => h) (Or.inl ⟨by rfl, ?_⟩) (by assumption) ?_
  rotate_left
  · (intro w hSw; (try dsimp only at hSw); go_simp; try with_reducible rfl)
  simp only [Act.put, List.setIfInBounds_toArray, List.set_cons_zero, List.set_cons_succ]
  refine call_at (i := 2) (some 5) 49 _ _ rfl rfl rfl (by rfl) (by kernel_rfl) #[x.k] rfl Try.func49 (by kernel_rfl) (by kernel_rfl) ?_
  refine (clone_any ((HX.out.1.below E2.out).below (Below.refl _ _).drew) HK.out.1).mono ?_
  rintro e W3 ⟨ka, kn, kC, rfl, F3, B3⟩
  have zz : W2.drew.heap.size = W.heap.size + 1 + 1 := z2
  have P3 := hidIt ((P2.out.below (Below.refl _ _).drew).below B3)
  have Q3 := hidIt ((Q2.out.below (Below.refl _ _).drew).below B3)
  have E3 := hidIt (E2.out.drew.trans (B3.mono (by omega)))
  have G3 := hidIt (F3.low (base' := W.heap.size + 1 + 1) (by omega))
  have s3 := hidIt B3.size
  clear F3 B3 P2 Q2
  refine ⟨_, rfl, ⟨(P3.out.cel 0 _ rfl).1, (P3.out.cel 1 _ rfl).1, (P3.out.cel 2 _ rfl).1⟩, fun hHeld => ?_⟩
  simp only [Act.put, List.setIfInBounds_toArray, List.set_cons_zero, List.set_cons_succ]
  refine call_at (i := 5) (some 8) 49 _ _ rfl rfl rfl (by rfl) (by kernel_rfl) #[x.v] rfl Try.func49 (by kernel_rfl) (by kernel_rfl) ?_
  refine (clone_any (HX.out.2.below E3.out) HK.out.2).mono ?_
  rintro e W4 ⟨va, vn, vC, rfl, F4, B4⟩
  have P4 := hidIt (P3.out.below B4)
  have Q4 := hidIt (Q3.out.below B4)
  have E4 := hidIt (E3.out.trans (B4.mono E3.out.size))
  have G4 := hidIt (G3.out.below B4)
  have F4' := hidIt (F4.low (base' := W.heap.size + 1 + 1) (by have := s3.out; omega))
  clear F4 B4 P3 Q3 G3
  refine ⟨_, rfl, ⟨(P4.out.cel 0 _ rfl).1, (P4.out.cel 1 _ rfl).1, (P4.out.cel 2 _ rfl).1⟩, fun hHeld => ?_⟩
  simp only [Act.put, List.setIfInBounds_toArray, List.set_cons_zero, List.set_cons_succ]
  refine take_at (i := 8) (v := .agg (PV.mk (.slice ka kn kC) (.slice va vn vC) x.p).cs.toArray) (some 11) rfl rfl (by kernel_rfl) (by kernel_rfl) (by kernel_rfl) (fun _ _ _ h => h) (Or.inl ⟨by rfl, ?_⟩) (by assumption) ?_
  · intro w hSw
    exact bld_run 32 _ rfl _ (by kernel_rfl)
  simp only [Act.put, List.setIfInBounds_toArray, List.set_cons_zero, List.set_cons_succ]
  obtain ⟨W5, hr5, R5, B5⟩ := Q4.out.run_store 32 (PV.mk (.slice ka kn kC) (.slice va vn vC) x.p).cs rfl pair_size (by
    intro u hu
    simp only [PV.cs, List.mem_cons, List.not_mem_nil, or_false] at hu
    rcases hu with rfl | rfl | rfl
    · exact (G4.out.txt (N := []) (fun _ h => by cases h)).one
    · exact (F4'.out.txt (N := []) (fun _ h => by cases h)).one
    · rfl)
  have P5 := hidIt (P4.out.but B5 (by omega))
  have FIN : Hid (CcPost W x.p (.returned (.agg (PV.mk (.slice ka kn kC) (.slice va vn vC) x.p).cs.toArray)) W5) := ⟨_, _, rfl, (G4.out.off (Off.but (bs := [W.heap.size + 1]) B5 (by simp)) (by simp)).low (by omega), (F4'.out.off (Off.but (bs := [W.heap.size + 1]) B5 (by simp)) (by simp)).low (by omega), E4.out.trans (B5.below (by omega) E4.out.size)⟩
  have RR := hidIt R5
  refine mute_at (i := 9) none rfl rfl (by rfl) (by kernel_rfl) W5 (put_mute 32 (.tmp 2) (.tmp 11) rfl _ _ rfl rfl hr5) ⟨(P5.out.cel 0 _ rfl).1, (P5.out.cel 1 _ rfl).1, (P5.out.cel 2 _ rfl).1⟩ (fun hHeld => ?_)
  simp only [Act.put]
  refine wpAnyH_done (by kernel_rfl) ?_ _
  refine NoPanic.normal ?_
  go_wp2_with fail
  have hl := RR.out.run_load 32 _ Try.underlying32 rfl pair_size
  exact bodyPost_ret (v := .agg (PV.mk (.slice ka kn kC) (.slice va vn vC) x.p).cs.toArray) (by simp [results, Try.results34, asAddr, hl]) rfl FIN.out
end Go.Proofs.Ytgpafmgncolnmaa
