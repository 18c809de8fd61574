/-
  Walks, not a claim by itself: is one place ahead of another? By the verifier.
-/
import Derived.Test.YtgpafmgncolnmaaMgHp
import Derived.Test.YtgpafmgncolnmaaReg3
namespace Go.Proofs.Ytgpafmgncolnmaa
open Go.RowKit
theorem range2 {W : World} {n : Nat} {a b : Value} (h : Rec19 W n 0 [a, b]) : W.rangeAt n 0 [a, b] := h.1
set_option maxRecDepth 100000 in
set_option maxHeartbeats 1000000 in
theorem ahead_any {W : World} {x y : LV} {s t : Nat} {p q : PV} {r r' : List PV} (h : LOk W x) (e : x.ps = p :: r) (h' : LOk W y) (e' : y.ps = q :: r') : Calls Try.prog 54 #[.agg (plV x s).toArray, .agg (plV y t).toArray] W fun e w' => e = .returned (.bool (decide (ahd p.p.k q.p.k s t))) ∧ Below W.heap.size W w' := by
  have HX := hidIt (And.intro h e)
  have HY := hidIt (And.intro h' e')
  obtain ⟨_, _, _, _, _, PX⟩ := h.front e
  obtain ⟨_, _, _, _, _, PY⟩ := h'.front e'
  have TX := hidIt PX.1
  have TY := hidIt PY.1
  have OA := hidIt (or_ahd p.p.k q.p.k s t)
  clear h h' e e' PX PY
  go_enter Try.func54, Try.ntmps54
  go_wp2_with (first
    | (refine wpList_box_rec rfl 72 (.tmp 0) rfl (plV x s) rfl W.heap.size rfl ?_; intro W1 R1 B1 z1; have E1 := hidIt B1; have P1 := hidIt R1; clear R1 B1)
    | (refine wpList_box_rec rfl 72 (.tmp 1) rfl (plV y t) rfl (W.heap.size + 1) z1 ?_; intro W2 R2 B2 z2; have E2 := hidIt (E1.out.trans (B2.mono (by omega))); have P2 := hidIt (P1.out.below (by rw [z1]; exact B2)); have Q2 := hidIt R2; clear R2 B2 P1 E1 z1))
  refine wp_region_noPanic ?_
  refine wp_region_held_drew (S := fun w' => w'.rangeAt W.heap.size 0 (plV x s) ∧ w'.rangeAt (W.heap.size + 1) 0 (plV y t) ∧ w'.cell? ⟨W.heap.size, 1, none⟩ = some (.int .i64 (s : Int)) ∧ w'.cell? ⟨W.heap.size + 1, 1, none⟩ = some (.int .i64 (t : Int))) (by kernel_rfl) ?_ (fun hHeld => ?_)
  · exact ⟨P2.out.1, Q2.out.1, (P2.out.cel 1 _ rfl).1, (Q2.out.cel 1 _ rfl).1⟩
  refine take_at (i := 0) (v := _) (some 5) rfl rfl (by kernel_rfl) (by kernel_rfl) (by kernel_rfl) (fun _ _ _ h => h) (yieldsIf_load_mid (by rfl) _ _ rfl _ _ rfl _ _ (fun w h => h.1) Try.underlying72 rfl (by kernel_rfl)) (by assumption) ?_
  simp only [Act.put, List.setIfInBounds_toArray, List.set_cons_zero, List.set_cons_succ]
  refine take_at (i := 2) (v := _) (some 7) rfl rfl (by kernel_rfl) (by kernel_rfl) (by kernel_rfl) (fun _ _ _ h => h) (yieldsIf_load_mid (by rfl) _ _ rfl _ _ rfl _ _ (fun w h => h.2.1) Try.underlying72 rfl (by kernel_rfl)) (by assumption) ?_
  simp only [Act.put, List.setIfInBounds_toArray, List.set_cons_zero, List.set_cons_succ]
  refine take_at (i := 5) (v := ?_) (some 10) rfl rfl (by kernel_rfl) (by kernel_rfl) (by kernel_rfl) (fun _ _ _ h => h) (Or.inl ⟨by rfl, ?_⟩) (by assumption) ?_
  rotate_left
  · (intro w hSw; (try dsimp only at hSw); go_simp; try with_reducible rfl)
  simp only [Act.put, List.setIfInBounds_toArray, List.set_cons_zero, List.set_cons_succ]
  refine take_at (i := 6) (v := ?_) (some 11) rfl rfl (by kernel_rfl) (by kernel_rfl) (by kernel_rfl) (fun _ _ _ h => h) (Or.inl ⟨by rfl, ?_⟩) (by assumption) ?_
  rotate_left
  · (intro w hSw; (try dsimp only at hSw); go_simp; try with_reducible rfl)
  simp only [Act.put, List.setIfInBounds_toArray, List.set_cons_zero, List.set_cons_succ]
  refine take_at (i := 7) (v := ?_) (some 12) rfl rfl (by kernel_rfl) (by kernel_rfl) (by kernel_rfl) (fun _ _ _ h => h) (Or.inl ⟨by rfl, ?_⟩) (by assumption) ?_
  rotate_left
  · (intro w hSw; (try dsimp only at hSw); go_simp; try with_reducible rfl)
  simp only [Act.put, List.setIfInBounds_toArray, List.set_cons_zero, List.set_cons_succ]
  refine take_at (i := 8) (v := ?_) (some 13) rfl rfl (by kernel_rfl) (by kernel_rfl) (by kernel_rfl) (fun _ _ _ h => h) (Or.inl ⟨by rfl, ?_⟩) (by assumption) ?_
  rotate_left
  · (intro w hSw; (try dsimp only at hSw); go_simp; try with_reducible rfl)
  simp only [Act.put, List.setIfInBounds_toArray, List.set_cons_zero, List.set_cons_succ]
  have E2 := hidIt E2.out.drew
  have P2 := hidIt (P2.out.below (Below.refl _ _).drew)
  have Q2 := hidIt (Q2.out.below (Below.refl _ _).drew)
  refine call_at (i := 1) (some 6) 48 _ _ rfl rfl rfl (by rfl) (by kernel_rfl) #[.agg (plV x s).toArray] rfl Try.func48 (by kernel_rfl) (by kernel_rfl) ?_
  refine (least_any (HX.out.1.below E2.out) HX.out.2).mono ?_
  rintro e W3 ⟨rfl, B3⟩
  have E3 := hidIt (E2.out.trans (B3.mono E2.out.size))
  have P3 := hidIt (P2.out.below B3)
  have Q3 := hidIt (Q2.out.below B3)
  clear B3
  refine ⟨_, rfl, ⟨P3.out.1, Q3.out.1, (P3.out.cel 1 _ rfl).1, (Q3.out.cel 1 _ rfl).1⟩, fun hHeld => ?_⟩
  simp only [Act.put, List.setIfInBounds_toArray, List.set_cons_zero, List.set_cons_succ]
  refine call_at (i := 3) (some 8) 48 _ _ rfl rfl rfl (by rfl) (by kernel_rfl) #[.agg (plV y t).toArray] rfl Try.func48 (by kernel_rfl) (by kernel_rfl) ?_
  refine (least_any (HY.out.1.below E3.out) HY.out.2).mono ?_
  rintro e W4 ⟨rfl, B4⟩
  have E4 := hidIt (E3.out.trans (B4.mono E3.out.size))
  have P4 := hidIt (P3.out.below B4)
  have Q4 := hidIt (Q3.out.below B4)
  clear B4
  refine ⟨_, rfl, ⟨P4.out.1, Q4.out.1, (P4.out.cel 1 _ rfl).1, (Q4.out.cel 1 _ rfl).1⟩, fun hHeld => ?_⟩
  simp only [Act.put, List.setIfInBounds_toArray, List.set_cons_zero, List.set_cons_succ]
  refine call_at (i := 4) (some 9) 43 _ _ rfl rfl rfl (by rfl) (by kernel_rfl) #[p.k, q.k] rfl Try.func43 (by kernel_rfl) (by kernel_rfl) ?_
  refine (ycmp_any (TX.out.below E4.out) (TY.out.below E4.out)).mono ?_
  rintro e w5 ⟨rfl, hw⟩
  rw [hw]
  clear hw
  refine ⟨_, rfl, ⟨P4.out.1, Q4.out.1, (P4.out.cel 1 _ rfl).1, (Q4.out.cel 1 _ rfl).1⟩, fun hHeld => ?_⟩
  simp only [Act.put, List.setIfInBounds_toArray, List.set_cons_zero, List.set_cons_succ]
  generalize cmpB p.p.k q.p.k = c at *
  refine call_at (i := 9) (some 14) 56 _ _ rfl rfl rfl (by rfl) (by kernel_rfl) #[.int .i64 (s : Int), .int .i64 (t : Int)] rfl Try.func56 (by kernel_rfl) (by kernel_rfl) ?_
  refine (ccmp_any W4 s t).mono ?_
  rintro e w5 ⟨rfl, hw⟩
  rw [hw]
  clear hw
  refine ⟨_, rfl, ⟨P4.out.1, Q4.out.1, (P4.out.cel 1 _ rfl).1, (Q4.out.cel 1 _ rfl).1⟩, fun hHeld => ?_⟩
  simp only [Act.put, List.setIfInBounds_toArray, List.set_cons_zero, List.set_cons_succ]
  generalize cmpN s t = d at *
  have A5 : Below W4.heap.size W4 (W4.alloc (.cells ([.int .i64 c, .int .i64 d] : List Value).toArray 3)) := (Below.refl _ _).alloc (Nat.le_refl _) _
  have R5 := hidIt (Rec19.new W4 3 [.int .i64 c, .int .i64 d])
  obtain ⟨W5, hW5⟩ : ∃ W5, W5 = W4.alloc (.cells ([.int .i64 c, .int .i64 d] : List Value).toArray 3) := ⟨_, rfl⟩
  rw [← hW5] at A5 R5
  have E5 := hidIt (E4.out.trans (A5.mono E4.out.size))
  have P5 := hidIt (P4.out.below A5)
  have Q5 := hidIt (Q4.out.below A5)
  clear A5
  refine step_at (i := 10) (some 15) rfl rfl (by rfl) (by kernel_rfl) (.slice (some ⟨W4.heap.size, 0, none⟩) 2 2) W5 (by rw [hW5]; exact bsl_run 81 3 2 _ rfl 1 8 (.int .i64 0) _ _ (by kernel_rfl) (by kernel_rfl) (by decide) (by decide) rfl (by kernel_rfl)) ⟨P5.out.1, Q5.out.1, (P5.out.cel 1 _ rfl).1, (Q5.out.cel 1 _ rfl).1⟩ (fun hHeld => ?_)
  simp only [Act.put, List.setIfInBounds_toArray, List.set_cons_zero, List.set_cons_succ]
  refine call_at (i := 11) (some 16) 55 _ _ rfl rfl rfl (by rfl) (by kernel_rfl) #[.slice (some ⟨W4.heap.size, 0, none⟩) 2 2] rfl Try.func55 (by kernel_rfl) (by kernel_rfl) ?_
  refine (cor_any c d R5.out.1).mono ?_
  rintro e w5 ⟨rfl, hw⟩
  rw [hw]
  clear hw
  refine ⟨_, rfl, ⟨P5.out.1, Q5.out.1, (P5.out.cel 1 _ rfl).1, (Q5.out.cel 1 _ rfl).1⟩, fun hHeld => ?_⟩
  simp only [Act.put, List.setIfInBounds_toArray, List.set_cons_zero, List.set_cons_succ]
  refine take_at (i := 12) (v := ?_) (some 17) rfl rfl (by kernel_rfl) (by kernel_rfl) (by kernel_rfl) (fun _ _ _ h => h) (Or.inl ⟨by rfl, ?_⟩) (by assumption) ?_
  rotate_left
  · (intro w hSw; (try dsimp only at hSw); go_simp; try with_reducible rfl)
  simp only [Act.put, List.setIfInBounds_toArray, List.set_cons_zero, List.set_cons_succ]
  refine take_at (i := 13) (v := ?_) (some 4) rfl rfl (by kernel_rfl) (by kernel_rfl) (by kernel_rfl) (fun _ _ _ h => h) (Or.inl ⟨by rfl, ?_⟩) (by assumption) ?_
  rotate_left
  · (intro w hSw; (try dsimp only at hSw); go_simp; try with_reducible rfl)
  simp only [Act.put, List.setIfInBounds_toArray, List.set_cons_zero, List.set_cons_succ]
  refine wpAnyH_done (by kernel_rfl) ?_ _
  refine NoPanic.normal ?_
  go_wp2_with fail
  go_ret
  exact ⟨by rw [← OA.out]; rfl, E5.out⟩
end Go.Proofs.Ytgpafmgncolnmaa
