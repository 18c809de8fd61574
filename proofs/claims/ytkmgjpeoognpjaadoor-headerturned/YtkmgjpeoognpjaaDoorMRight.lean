/-
  Walks, not a claim by itself: whether both seals of a message's bytes are right. By the verifier.
-/
import Derived.Test.YtkmgjpeoognpjaaDoorMBk
namespace Go.Proofs.YtkmgjpeoognpjaaDoor
open Go.RowKit
/-- What holds at the head of the loop. -/
def rgtRel (w : World) (g N : Nat) (F : Nat → Int) (i : Value) (wr : World) : Prop := ∃ k : Nat, k ≤ 16 ∧ i = .int .i64 k ∧ IRow wr w.heap.size .u8 16 (upto F k) ∧ IRow wr (w.heap.size + 1) .u8 16 (upto (fun j => F (16 + j)) k) ∧ IRow wr g .u8 N F ∧ Below w.heap.size w wr
theorem rgt_step (w wr : World) (g N k : Nat) (F : Nat → Int) (hk : k < 16) (hg : g < w.heap.size) (h1 : IRow wr w.heap.size .u8 16 (upto F k)) (h2 : IRow wr (w.heap.size + 1) .u8 16 (upto (fun j => F (16 + j)) k)) (h3 : IRow wr g .u8 N F) (h4 : Below w.heap.size w wr) (m : Nat) (v : Int) (hm : m = k) (hv : v = F (16 + k)) :
    rgtRel w g N F (.int .i64 ((k : Int) + 1)) ((wr.setCell ⟨w.heap.size, k, none⟩ (.int .u8 (F k))).setCell ⟨w.heap.size + 1, m, none⟩ (.int .u8 v)) := by
  subst hm hv
  refine ⟨m + 1, by omega, by go_num, ?_, ?_, ?_, ?_⟩
  · have := (h1.set m (F m)).but (But.set (b := w.heap.size + 1) _ m (.int .u8 (F (16 + m)))) (by omega)
    rw [upto_step] at this
    exact this
  · have := (h2.but (But.set (b := w.heap.size) _ m (.int .u8 (F m))) (by omega)).set m (F (16 + m))
    rw [upto_step (fun j => F (16 + j))] at this
    exact this
  · exact (h3.but (But.set _ _ _) (by omega)).but (But.set _ _ _) (by omega)
  · exact (h4.setCell (p := ⟨w.heap.size, m, none⟩) (Nat.le_refl _) _).setCell (p := ⟨w.heap.size + 1, m, none⟩) (Nat.le_succ _) _
theorem rgtS {w : World} {g N : Nat} {F : Nat → Int} {W W' : World} (h : IRow W w.heap.size .u8 16 F ∧ IRow W (w.heap.size + 1) .u8 16 (fun j => F (16 + j)) ∧ IRow W g .u8 N F ∧ Below w.heap.size w W) (hB : Below W.heap.size W W') :
    W'.rangeAt w.heap.size 0 (cl .u8 16 F) ∧ W'.rangeAt (w.heap.size + 1) 0 (cl .u8 16 (fun j => F (16 + j))) ∧ Hid (IRow W' w.heap.size .u8 16 F ∧ IRow W' (w.heap.size + 1) .u8 16 (fun j => F (16 + j)) ∧ IRow W' g .u8 N F ∧ Below w.heap.size w W') :=
  ⟨(h.1.below hB).rec.1, (h.2.1.below hB).rec.1, ⟨h.1.below hB, h.2.1.below hB, h.2.2.1.below hB, h.2.2.2.trans (hB.mono h.2.2.2.size)⟩⟩
theorem right_is (a : Option Addr) (n C : Nat) (f g : Nat → Int) (w : World) (h : Arg w a n f) (hC : n ≤ C) (hn : n ≤ 1000000) {r : Bool} (hr : eqN 16 (sealF n f) g = r) :
    Calls Tryd.prog 35 #[.slice a n C, .agg (cl .u8 16 g).toArray] w fun e w' => e = .returned (.bool r) ∧ Below w.heap.size w w' := by
  subst hr
  exact right16 a n C f g w h hC hn
set_option maxRecDepth 100000 in
set_option maxHeartbeats 1000000 in
theorem rgt_f (g N : Nat) (F : Nat → Int) (w : World) (hR : IRow w g .u8 N F) (hF : ∀ j, j < N → 0 ≤ F j ∧ F j < 256) (hN : 256 < N) (hM : N ≤ 1000000) (hh : headSeal F = false) :
    Calls Tryd.prog 26 #[.slice (some ⟨g, 0, none⟩) N N] w fun e w' => e = .returned (.bool false) ∧ Below w.heap.size w w' := by
  have FB : Hid (∀ j, j < N → 0 ≤ F j ∧ F j < 256) := hF
  have RG : Hid (IRow w g .u8 N F) := hR
  have hg := hR.2.2
  have HD : Hid (eqN 16 (sealF 240 (fun j => F (16 + j))) F = false) := hh

  clear hR hF hh
  have k1 : (256 : Int) ≤ N := by omega
  have k2 : (16 : Int) ≤ N := by omega
  have k3 : ¬ N = 16 := by omega
  have k4 : ¬ N = 256 := by omega
  go_enter Tryd.func26, Tryd.ntmps26
  go_wp2_with (first
    | (refine wpList_alloc_row rfl 58 rfl .u8 16 w.heap.size rfl zero8_16 ?_; intro W1 hR1 hB1 hz1)
    | (refine wpList_alloc_row rfl 58 rfl .u8 16 (w.heap.size + 1) hz1 zero8_16 ?_; intro W2 hR2 hB2 hz2))
  have E2 : Below w.heap.size w W2 := hB1.trans (hB2.mono (by omega))
  have ST : Hid (rgtRel w g N F (.int .i64 0) W2) := ⟨0, by omega, rfl, (hR1.below (by rw [hz1]; exact hB2)).congr (fun j _ => by unfold upto; rw [if_neg (by omega)]), hR2.congr (fun j _ => by unfold upto; rw [if_neg (by omega)]), RG.out.below E2, E2⟩
  clear hR1 hB1 hz1 hR2 hB2 hz2 E2
  go_loopw [5] (fun i wr => rgtRel w g N F i wr) (fun i _ => 16 - (intOf i).toNat)
  case atStart => exact ST.out
  case round =>
    obtain ⟨k, hk, rfl, h1, h2, h3, h4⟩ := hrel
    clear ST
    by_cases hlt : k < 16
    · have c1 := h1.1 k hlt
      have c2 := h2.1 k hlt
      have f1 := h1.2.1 k
      have f2 := h2.2.1 k
      have c3 := h3.1 k (by omega)
      have c4 := h3.1 (16 + k) (by omega)
      have STP := rgt_step w wr g N k F hlt hg h1 h2 h3 h4
      have SS : Hid (∀ (m : Nat) (v : Int), m = k → v = F (16 + k) → rgtRel w g N F (.int .i64 ((k : Int) + 1)) ((wr.setCell ⟨w.heap.size, k, none⟩ (.int .u8 (F k))).setCell ⟨w.heap.size + 1, m, none⟩ (.int .u8 v))) := STP
      clear STP h1 h2 h3 h4
      have i0 : (k : Int) < 16 := by omega
      have i1 : wrap64 (16 + (k : Int)) = 16 + (k : Int) := by unfold wrap64; omega
      have i2 : (0 : Int) ≤ 16 + (k : Int) := by omega
      have i3 : 16 + (k : Int) < N := by omega
      have i4 : (16 + (k : Int)).toNat = 16 + k := by omega
      have i5 : IntKind.i64.wrap (16 + (k : Int)) = 16 + (k : Int) := by rw [IntKind.wrap_i64]; omega
      have n1 : ¬ g = w.heap.size := by omega
      have n2 : ¬ w.heap.size = g := by omega
      generalize F k = v1 at c3 SS
      generalize hv2 : F (16 + k) = v2 at c4 SS
      go_wp2_with fail
      exact ⟨SS.out k v2 rfl rfl, by simp [intOf]; omega⟩
    · obtain rfl : k = 16 := by omega
      have g1 : IRow wr w.heap.size .u8 16 F := h1.congr (fun j hj => by unfold upto; rw [if_pos hj])
      have g2 : IRow wr (w.heap.size + 1) .u8 16 (fun j => F (16 + j)) := h2.congr (fun j hj => by unfold upto; rw [if_pos hj])
      have hS0 : wr.drew.rangeAt w.heap.size 0 (cl .u8 16 F) ∧ wr.drew.rangeAt (w.heap.size + 1) 0 (cl .u8 16 (fun j => F (16 + j))) ∧ Hid (IRow wr.drew w.heap.size .u8 16 F ∧ IRow wr.drew (w.heap.size + 1) .u8 16 (fun j => F (16 + j)) ∧ IRow wr.drew g .u8 N F ∧ Below w.heap.size w wr.drew) := ⟨g1.rec.1, g2.rec.1, ⟨g1, g2, h3, h4.drew⟩⟩
      clear h1 h2 h3 h4 g1 g2
      rw [show ((16 : Nat) : Int) = 16 from rfl]
      go_wp2_with fail
      refine wp_region_noPanic ?_
      refine wp_region_held_drew (S := fun W' => W'.rangeAt w.heap.size 0 (cl .u8 16 F) ∧ W'.rangeAt (w.heap.size + 1) 0 (cl .u8 16 (fun j => F (16 + j))) ∧ Hid (IRow W' w.heap.size .u8 16 F ∧ IRow W' (w.heap.size + 1) .u8 16 (fun j => F (16 + j)) ∧ IRow W' g .u8 N F ∧ Below w.heap.size w W')) (by kernel_rfl) ?_ (fun hHeld => ?_)
      · exact hS0
      refine take_at (i := 0) (v := ?_) (some 23) rfl rfl (by kernel_rfl) (by kernel_rfl) (by kernel_rfl) (fun _ _ _ h => h) (Or.inl ⟨by rfl, ?_⟩) (by assumption) ?_
      rotate_left
      · (intro w hSw; (try dsimp only at hSw); go_simp; try with_reducible rfl)
      simp only [Act.put, List.setIfInBounds_toArray, List.set_cons_zero, List.set_cons_succ]
      refine take_at (i := 1) (v := ?_) (some 24) rfl rfl (by kernel_rfl) (by kernel_rfl) (by kernel_rfl) (fun _ _ _ h => h) (Or.inl ⟨by rfl, ?_⟩) (by assumption) ?_
      rotate_left
      · (intro w hSw; (try dsimp only at hSw); go_simp; try with_reducible rfl)
      simp only [Act.put, List.setIfInBounds_toArray, List.set_cons_zero, List.set_cons_succ]
      refine take_at (i := 2) (v := _) (some 25) rfl rfl (by kernel_rfl) (by kernel_rfl) (by kernel_rfl) (fun _ _ _ h => h) (yieldsIf_load_mid (by rfl) _ _ rfl _ _ rfl _ _ (fun _ h => h.1) Tryd.underlying58 rfl (by rw [cl_len]; kernel_rfl)) (by assumption) ?_
      simp only [Act.put, List.setIfInBounds_toArray, List.set_cons_zero, List.set_cons_succ]
      refine call_at (i := 3) (some 26) 35 _ _ rfl rfl rfl (by rfl) (by kernel_rfl) #[.slice (some ⟨g, 16, none⟩) 240 (N - 16), .agg (cl .u8 16 F).toArray] rfl Tryd.func35 (by kernel_rfl) (by kernel_rfl) ?_
      refine (right_is (some ⟨g, 16, none⟩) 240 (N - 16) (fun j => F (16 + j)) F _ (by have := (Arg.part (hHeld.2.2.out.2.2.1.lies FB.out) 16 240 (by omega)); rwa [Nat.zero_add] at this) (by omega) (by omega) HD.out).mono ?_; rintro e w' ⟨rfl, hB⟩
      refine ⟨_, rfl, rgtS (hHeld.2.2.out) hB, fun hHeld => ?_⟩
      simp only [Act.put, List.setIfInBounds_toArray, List.set_cons_zero, List.set_cons_succ]
      refine take_at (i := 4) (v := ?_) (some 27) rfl rfl (by kernel_rfl) (by kernel_rfl) (by kernel_rfl) (fun _ _ _ h => h) (Or.inl ⟨by rfl, ?_⟩) (by assumption) ?_
      rotate_left
      · (intro w hSw; (try dsimp only at hSw); go_simp; try with_reducible rfl)
      simp only [Act.put, List.setIfInBounds_toArray, List.set_cons_zero, List.set_cons_succ]
      refine take_at (i := 5) (v := undef) (some 28) rfl rfl (by kernel_rfl) (by kernel_rfl) (by kernel_rfl) (fun _ _ _ h => h) (Or.inr ⟨by rfl, rfl⟩) (by assumption) ?_
      simp only [Act.put, List.setIfInBounds_toArray, List.set_cons_zero, List.set_cons_succ]
      refine take_at (i := 6) (v := undef) (some 29) rfl rfl (by kernel_rfl) (by kernel_rfl) (by kernel_rfl) (fun _ _ _ h => h) (Or.inr ⟨by rfl, rfl⟩) (by assumption) ?_
      simp only [Act.put, List.setIfInBounds_toArray, List.set_cons_zero, List.set_cons_succ]
      refine take_at (i := 7) (v := undef) (some 30) rfl rfl (by kernel_rfl) (by kernel_rfl) (by kernel_rfl) (fun _ _ _ h => h) (Or.inr ⟨by rfl, rfl⟩) (by assumption) ?_
      simp only [Act.put, List.setIfInBounds_toArray, List.set_cons_zero, List.set_cons_succ]
      refine take_at (i := 8) (v := undef) (some 31) rfl rfl (by kernel_rfl) (by kernel_rfl) (by kernel_rfl) (fun _ _ _ h => h) (Or.inr ⟨by rfl, rfl⟩) (by assumption) ?_
      simp only [Act.put, List.setIfInBounds_toArray, List.set_cons_zero, List.set_cons_succ]
      refine take_at (i := 9) (v := ?_) (some 32) rfl rfl (by kernel_rfl) (by kernel_rfl) (by kernel_rfl) (fun _ _ _ h => h) (Or.inl ⟨by rfl, ?_⟩) (by assumption) ?_
      rotate_left
      · (intro w hSw; (try dsimp only at hSw); go_simp; try with_reducible rfl)
      simp only [Act.put, List.setIfInBounds_toArray, List.set_cons_zero, List.set_cons_succ]
      refine take_at (i := 10) (v := ?_) (some 2) rfl rfl (by kernel_rfl) (by kernel_rfl) (by kernel_rfl) (fun _ _ _ h => h) (Or.inl ⟨by rfl, ?_⟩) (by assumption) ?_
      rotate_left
      · (intro w hSw; (try dsimp only at hSw); go_simp; try with_reducible rfl)
      simp only [Act.put, List.setIfInBounds_toArray, List.set_cons_zero, List.set_cons_succ]
      refine wpAnyH_done (by kernel_rfl) ?_ _
      refine NoPanic.normal ?_
      go_wp2_with fail
      go_ret
      exact ⟨rfl, hHeld.2.2.out.2.2.2⟩
set_option maxRecDepth 100000 in
set_option maxHeartbeats 1000000 in
theorem rgt_tt (g N : Nat) (F : Nat → Int) (w : World) (hR : IRow w g .u8 N F) (hF : ∀ j, j < N → 0 ≤ F j ∧ F j < 256) (hN : 256 < N) (hM : N ≤ 1000000) (hh : headSeal F = true) (hb : bodySeal N F = true) :
    Calls Tryd.prog 26 #[.slice (some ⟨g, 0, none⟩) N N] w fun e w' => e = .returned (.bool true) ∧ Below w.heap.size w w' := by
  have FB : Hid (∀ j, j < N → 0 ≤ F j ∧ F j < 256) := hF
  have RG : Hid (IRow w g .u8 N F) := hR
  have hg := hR.2.2
  have HD : Hid (eqN 16 (sealF 240 (fun j => F (16 + j))) F = true) := hh
  have BD : Hid (eqN 16 (sealF (N - 256) (fun j => F (256 + j))) (fun j => F (16 + j)) = true) := hb
  clear hR hF hh hb
  have k1 : (256 : Int) ≤ N := by omega
  have k2 : (16 : Int) ≤ N := by omega
  have k3 : ¬ N = 16 := by omega
  have k4 : ¬ N = 256 := by omega
  go_enter Tryd.func26, Tryd.ntmps26
  go_wp2_with (first
    | (refine wpList_alloc_row rfl 58 rfl .u8 16 w.heap.size rfl zero8_16 ?_; intro W1 hR1 hB1 hz1)
    | (refine wpList_alloc_row rfl 58 rfl .u8 16 (w.heap.size + 1) hz1 zero8_16 ?_; intro W2 hR2 hB2 hz2))
  have E2 : Below w.heap.size w W2 := hB1.trans (hB2.mono (by omega))
  have ST : Hid (rgtRel w g N F (.int .i64 0) W2) := ⟨0, by omega, rfl, (hR1.below (by rw [hz1]; exact hB2)).congr (fun j _ => by unfold upto; rw [if_neg (by omega)]), hR2.congr (fun j _ => by unfold upto; rw [if_neg (by omega)]), RG.out.below E2, E2⟩
  clear hR1 hB1 hz1 hR2 hB2 hz2 E2
  go_loopw [5] (fun i wr => rgtRel w g N F i wr) (fun i _ => 16 - (intOf i).toNat)
  case atStart => exact ST.out
  case round =>
    obtain ⟨k, hk, rfl, h1, h2, h3, h4⟩ := hrel
    clear ST
    by_cases hlt : k < 16
    · have c1 := h1.1 k hlt
      have c2 := h2.1 k hlt
      have f1 := h1.2.1 k
      have f2 := h2.2.1 k
      have c3 := h3.1 k (by omega)
      have c4 := h3.1 (16 + k) (by omega)
      have STP := rgt_step w wr g N k F hlt hg h1 h2 h3 h4
      have SS : Hid (∀ (m : Nat) (v : Int), m = k → v = F (16 + k) → rgtRel w g N F (.int .i64 ((k : Int) + 1)) ((wr.setCell ⟨w.heap.size, k, none⟩ (.int .u8 (F k))).setCell ⟨w.heap.size + 1, m, none⟩ (.int .u8 v))) := STP
      clear STP h1 h2 h3 h4
      have i0 : (k : Int) < 16 := by omega
      have i1 : wrap64 (16 + (k : Int)) = 16 + (k : Int) := by unfold wrap64; omega
      have i2 : (0 : Int) ≤ 16 + (k : Int) := by omega
      have i3 : 16 + (k : Int) < N := by omega
      have i4 : (16 + (k : Int)).toNat = 16 + k := by omega
      have i5 : IntKind.i64.wrap (16 + (k : Int)) = 16 + (k : Int) := by rw [IntKind.wrap_i64]; omega
      have n1 : ¬ g = w.heap.size := by omega
      have n2 : ¬ w.heap.size = g := by omega
      generalize F k = v1 at c3 SS
      generalize hv2 : F (16 + k) = v2 at c4 SS
      go_wp2_with fail
      exact ⟨SS.out k v2 rfl rfl, by simp [intOf]; omega⟩
    · obtain rfl : k = 16 := by omega
      have g1 : IRow wr w.heap.size .u8 16 F := h1.congr (fun j hj => by unfold upto; rw [if_pos hj])
      have g2 : IRow wr (w.heap.size + 1) .u8 16 (fun j => F (16 + j)) := h2.congr (fun j hj => by unfold upto; rw [if_pos hj])
      have hS0 : wr.drew.rangeAt w.heap.size 0 (cl .u8 16 F) ∧ wr.drew.rangeAt (w.heap.size + 1) 0 (cl .u8 16 (fun j => F (16 + j))) ∧ Hid (IRow wr.drew w.heap.size .u8 16 F ∧ IRow wr.drew (w.heap.size + 1) .u8 16 (fun j => F (16 + j)) ∧ IRow wr.drew g .u8 N F ∧ Below w.heap.size w wr.drew) := ⟨g1.rec.1, g2.rec.1, ⟨g1, g2, h3, h4.drew⟩⟩
      clear h1 h2 h3 h4 g1 g2
      rw [show ((16 : Nat) : Int) = 16 from rfl]
      go_wp2_with fail
      refine wp_region_noPanic ?_
      refine wp_region_held_drew (S := fun W' => W'.rangeAt w.heap.size 0 (cl .u8 16 F) ∧ W'.rangeAt (w.heap.size + 1) 0 (cl .u8 16 (fun j => F (16 + j))) ∧ Hid (IRow W' w.heap.size .u8 16 F ∧ IRow W' (w.heap.size + 1) .u8 16 (fun j => F (16 + j)) ∧ IRow W' g .u8 N F ∧ Below w.heap.size w W')) (by kernel_rfl) ?_ (fun hHeld => ?_)
      · exact hS0
      refine take_at (i := 0) (v := ?_) (some 23) rfl rfl (by kernel_rfl) (by kernel_rfl) (by kernel_rfl) (fun _ _ _ h => h) (Or.inl ⟨by rfl, ?_⟩) (by assumption) ?_
      rotate_left
      · (intro w hSw; (try dsimp only at hSw); go_simp; try with_reducible rfl)
      simp only [Act.put, List.setIfInBounds_toArray, List.set_cons_zero, List.set_cons_succ]
      refine take_at (i := 1) (v := ?_) (some 24) rfl rfl (by kernel_rfl) (by kernel_rfl) (by kernel_rfl) (fun _ _ _ h => h) (Or.inl ⟨by rfl, ?_⟩) (by assumption) ?_
      rotate_left
      · (intro w hSw; (try dsimp only at hSw); go_simp; try with_reducible rfl)
      simp only [Act.put, List.setIfInBounds_toArray, List.set_cons_zero, List.set_cons_succ]
      refine take_at (i := 2) (v := _) (some 25) rfl rfl (by kernel_rfl) (by kernel_rfl) (by kernel_rfl) (fun _ _ _ h => h) (yieldsIf_load_mid (by rfl) _ _ rfl _ _ rfl _ _ (fun _ h => h.1) Tryd.underlying58 rfl (by rw [cl_len]; kernel_rfl)) (by assumption) ?_
      simp only [Act.put, List.setIfInBounds_toArray, List.set_cons_zero, List.set_cons_succ]
      refine call_at (i := 3) (some 26) 35 _ _ rfl rfl rfl (by rfl) (by kernel_rfl) #[.slice (some ⟨g, 16, none⟩) 240 (N - 16), .agg (cl .u8 16 F).toArray] rfl Tryd.func35 (by kernel_rfl) (by kernel_rfl) ?_
      refine (right_is (some ⟨g, 16, none⟩) 240 (N - 16) (fun j => F (16 + j)) F _ (by have := (Arg.part (hHeld.2.2.out.2.2.1.lies FB.out) 16 240 (by omega)); rwa [Nat.zero_add] at this) (by omega) (by omega) HD.out).mono ?_; rintro e w' ⟨rfl, hB⟩
      refine ⟨_, rfl, rgtS (hHeld.2.2.out) hB, fun hHeld => ?_⟩
      simp only [Act.put, List.setIfInBounds_toArray, List.set_cons_zero, List.set_cons_succ]
      refine take_at (i := 4) (v := ?_) (some 27) rfl rfl (by kernel_rfl) (by kernel_rfl) (by kernel_rfl) (fun _ _ _ h => h) (Or.inl ⟨by rfl, ?_⟩) (by assumption) ?_
      rotate_left
      · (intro w hSw; (try dsimp only at hSw); go_simp; try with_reducible rfl)
      simp only [Act.put, List.setIfInBounds_toArray, List.set_cons_zero, List.set_cons_succ]
      refine take_at (i := 5) (v := ?_) (some 28) rfl rfl (by kernel_rfl) (by kernel_rfl) (by kernel_rfl) (fun _ _ _ h => h) (Or.inl ⟨by rfl, ?_⟩) (by assumption) ?_
      rotate_left
      · (intro w hSw; (try dsimp only at hSw); go_simp; try with_reducible rfl)
      simp only [Act.put, List.setIfInBounds_toArray, List.set_cons_zero, List.set_cons_succ]
      refine take_at (i := 6) (v := ?_) (some 29) rfl rfl (by kernel_rfl) (by kernel_rfl) (by kernel_rfl) (fun _ _ _ h => h) (Or.inl ⟨by rfl, ?_⟩) (by assumption) ?_
      rotate_left
      · (intro w hSw; (try dsimp only at hSw); go_simp; try with_reducible rfl)
      simp only [Act.put, List.setIfInBounds_toArray, List.set_cons_zero, List.set_cons_succ]
      refine take_at (i := 7) (v := _) (some 30) rfl rfl (by kernel_rfl) (by kernel_rfl) (by kernel_rfl) (fun _ _ _ h => h) (yieldsIf_load_mid (by rfl) _ _ rfl _ _ rfl _ _ (fun _ h => h.2.1) Tryd.underlying58 rfl (by rw [cl_len]; kernel_rfl)) (by assumption) ?_
      simp only [Act.put, List.setIfInBounds_toArray, List.set_cons_zero, List.set_cons_succ]
      refine call_at (i := 8) (some 31) 35 _ _ rfl rfl rfl (by rfl) (by kernel_rfl) #[.slice (some ⟨g, 256, none⟩) (N - 256) (N - 256), .agg (cl .u8 16 (fun j => F (16 + j))).toArray] rfl Tryd.func35 (by kernel_rfl) (by kernel_rfl) ?_
      refine (right_is (some ⟨g, 256, none⟩) (N - 256) (N - 256) (fun j => F (256 + j)) (fun j => F (16 + j)) _ (by have := (Arg.part (hHeld.2.2.out.2.2.1.lies FB.out) 256 (N - 256) (by omega)); rwa [Nat.zero_add] at this) (by omega) (by omega) BD.out).mono ?_; rintro e w' ⟨rfl, hB⟩
      refine ⟨_, rfl, rgtS (hHeld.2.2.out) hB, fun hHeld => ?_⟩
      simp only [Act.put, List.setIfInBounds_toArray, List.set_cons_zero, List.set_cons_succ]
      refine take_at (i := 9) (v := ?_) (some 32) rfl rfl (by kernel_rfl) (by kernel_rfl) (by kernel_rfl) (fun _ _ _ h => h) (Or.inl ⟨by rfl, ?_⟩) (by assumption) ?_
      rotate_left
      · (intro w hSw; (try dsimp only at hSw); go_simp; try with_reducible rfl)
      simp only [Act.put, List.setIfInBounds_toArray, List.set_cons_zero, List.set_cons_succ]
      refine take_at (i := 10) (v := ?_) (some 2) rfl rfl (by kernel_rfl) (by kernel_rfl) (by kernel_rfl) (fun _ _ _ h => h) (Or.inl ⟨by rfl, ?_⟩) (by assumption) ?_
      rotate_left
      · (intro w hSw; (try dsimp only at hSw); go_simp; try with_reducible rfl)
      simp only [Act.put, List.setIfInBounds_toArray, List.set_cons_zero, List.set_cons_succ]
      refine wpAnyH_done (by kernel_rfl) ?_ _
      refine NoPanic.normal ?_
      go_wp2_with fail
      go_ret
      exact ⟨rfl, hHeld.2.2.out.2.2.2⟩
set_option maxRecDepth 100000 in
set_option maxHeartbeats 1000000 in
theorem rgt_tf (g N : Nat) (F : Nat → Int) (w : World) (hR : IRow w g .u8 N F) (hF : ∀ j, j < N → 0 ≤ F j ∧ F j < 256) (hN : 256 < N) (hM : N ≤ 1000000) (hh : headSeal F = true) (hb : bodySeal N F = false) :
    Calls Tryd.prog 26 #[.slice (some ⟨g, 0, none⟩) N N] w fun e w' => e = .returned (.bool false) ∧ Below w.heap.size w w' := by
  have FB : Hid (∀ j, j < N → 0 ≤ F j ∧ F j < 256) := hF
  have RG : Hid (IRow w g .u8 N F) := hR
  have hg := hR.2.2
  have HD : Hid (eqN 16 (sealF 240 (fun j => F (16 + j))) F = true) := hh
  have BD : Hid (eqN 16 (sealF (N - 256) (fun j => F (256 + j))) (fun j => F (16 + j)) = false) := hb
  clear hR hF hh hb
  have k1 : (256 : Int) ≤ N := by omega
  have k2 : (16 : Int) ≤ N := by omega
  have k3 : ¬ N = 16 := by omega
  have k4 : ¬ N = 256 := by omega
  go_enter Tryd.func26, Tryd.ntmps26
  go_wp2_with (first
    | (refine wpList_alloc_row rfl 58 rfl .u8 16 w.heap.size rfl zero8_16 ?_; intro W1 hR1 hB1 hz1)
    | (refine wpList_alloc_row rfl 58 rfl .u8 16 (w.heap.size + 1) hz1 zero8_16 ?_; intro W2 hR2 hB2 hz2))
  have E2 : Below w.heap.size w W2 := hB1.trans (hB2.mono (by omega))
  have ST : Hid (rgtRel w g N F (.int .i64 0) W2) := ⟨0, by omega, rfl, (hR1.below (by rw [hz1]; exact hB2)).congr (fun j _ => by unfold upto; rw [if_neg (by omega)]), hR2.congr (fun j _ => by unfold upto; rw [if_neg (by omega)]), RG.out.below E2, E2⟩
  clear hR1 hB1 hz1 hR2 hB2 hz2 E2
  go_loopw [5] (fun i wr => rgtRel w g N F i wr) (fun i _ => 16 - (intOf i).toNat)
  case atStart => exact ST.out
  case round =>
    obtain ⟨k, hk, rfl, h1, h2, h3, h4⟩ := hrel
    clear ST
    by_cases hlt : k < 16
    · have c1 := h1.1 k hlt
      have c2 := h2.1 k hlt
      have f1 := h1.2.1 k
      have f2 := h2.2.1 k
      have c3 := h3.1 k (by omega)
      have c4 := h3.1 (16 + k) (by omega)
      have STP := rgt_step w wr g N k F hlt hg h1 h2 h3 h4
      have SS : Hid (∀ (m : Nat) (v : Int), m = k → v = F (16 + k) → rgtRel w g N F (.int .i64 ((k : Int) + 1)) ((wr.setCell ⟨w.heap.size, k, none⟩ (.int .u8 (F k))).setCell ⟨w.heap.size + 1, m, none⟩ (.int .u8 v))) := STP
      clear STP h1 h2 h3 h4
      have i0 : (k : Int) < 16 := by omega
      have i1 : wrap64 (16 + (k : Int)) = 16 + (k : Int) := by unfold wrap64; omega
      have i2 : (0 : Int) ≤ 16 + (k : Int) := by omega
      have i3 : 16 + (k : Int) < N := by omega
      have i4 : (16 + (k : Int)).toNat = 16 + k := by omega
      have i5 : IntKind.i64.wrap (16 + (k : Int)) = 16 + (k : Int) := by rw [IntKind.wrap_i64]; omega
      have n1 : ¬ g = w.heap.size := by omega
      have n2 : ¬ w.heap.size = g := by omega
      generalize F k = v1 at c3 SS
      generalize hv2 : F (16 + k) = v2 at c4 SS
      go_wp2_with fail
      exact ⟨SS.out k v2 rfl rfl, by simp [intOf]; omega⟩
    · obtain rfl : k = 16 := by omega
      have g1 : IRow wr w.heap.size .u8 16 F := h1.congr (fun j hj => by unfold upto; rw [if_pos hj])
      have g2 : IRow wr (w.heap.size + 1) .u8 16 (fun j => F (16 + j)) := h2.congr (fun j hj => by unfold upto; rw [if_pos hj])
      have hS0 : wr.drew.rangeAt w.heap.size 0 (cl .u8 16 F) ∧ wr.drew.rangeAt (w.heap.size + 1) 0 (cl .u8 16 (fun j => F (16 + j))) ∧ Hid (IRow wr.drew w.heap.size .u8 16 F ∧ IRow wr.drew (w.heap.size + 1) .u8 16 (fun j => F (16 + j)) ∧ IRow wr.drew g .u8 N F ∧ Below w.heap.size w wr.drew) := ⟨g1.rec.1, g2.rec.1, ⟨g1, g2, h3, h4.drew⟩⟩
      clear h1 h2 h3 h4 g1 g2
      rw [show ((16 : Nat) : Int) = 16 from rfl]
      go_wp2_with fail
      refine wp_region_noPanic ?_
      refine wp_region_held_drew (S := fun W' => W'.rangeAt w.heap.size 0 (cl .u8 16 F) ∧ W'.rangeAt (w.heap.size + 1) 0 (cl .u8 16 (fun j => F (16 + j))) ∧ Hid (IRow W' w.heap.size .u8 16 F ∧ IRow W' (w.heap.size + 1) .u8 16 (fun j => F (16 + j)) ∧ IRow W' g .u8 N F ∧ Below w.heap.size w W')) (by kernel_rfl) ?_ (fun hHeld => ?_)
      · exact hS0
      refine take_at (i := 0) (v := ?_) (some 23) rfl rfl (by kernel_rfl) (by kernel_rfl) (by kernel_rfl) (fun _ _ _ h => h) (Or.inl ⟨by rfl, ?_⟩) (by assumption) ?_
      rotate_left
      · (intro w hSw; (try dsimp only at hSw); go_simp; try with_reducible rfl)
      simp only [Act.put, List.setIfInBounds_toArray, List.set_cons_zero, List.set_cons_succ]
      refine take_at (i := 1) (v := ?_) (some 24) rfl rfl (by kernel_rfl) (by kernel_rfl) (by kernel_rfl) (fun _ _ _ h => h) (Or.inl ⟨by rfl, ?_⟩) (by assumption) ?_
      rotate_left
      · (intro w hSw; (try dsimp only at hSw); go_simp; try with_reducible rfl)
      simp only [Act.put, List.setIfInBounds_toArray, List.set_cons_zero, List.set_cons_succ]
      refine take_at (i := 2) (v := _) (some 25) rfl rfl (by kernel_rfl) (by kernel_rfl) (by kernel_rfl) (fun _ _ _ h => h) (yieldsIf_load_mid (by rfl) _ _ rfl _ _ rfl _ _ (fun _ h => h.1) Tryd.underlying58 rfl (by rw [cl_len]; kernel_rfl)) (by assumption) ?_
      simp only [Act.put, List.setIfInBounds_toArray, List.set_cons_zero, List.set_cons_succ]
      refine call_at (i := 3) (some 26) 35 _ _ rfl rfl rfl (by rfl) (by kernel_rfl) #[.slice (some ⟨g, 16, none⟩) 240 (N - 16), .agg (cl .u8 16 F).toArray] rfl Tryd.func35 (by kernel_rfl) (by kernel_rfl) ?_
      refine (right_is (some ⟨g, 16, none⟩) 240 (N - 16) (fun j => F (16 + j)) F _ (by have := (Arg.part (hHeld.2.2.out.2.2.1.lies FB.out) 16 240 (by omega)); rwa [Nat.zero_add] at this) (by omega) (by omega) HD.out).mono ?_; rintro e w' ⟨rfl, hB⟩
      refine ⟨_, rfl, rgtS (hHeld.2.2.out) hB, fun hHeld => ?_⟩
      simp only [Act.put, List.setIfInBounds_toArray, List.set_cons_zero, List.set_cons_succ]
      refine take_at (i := 4) (v := ?_) (some 27) rfl rfl (by kernel_rfl) (by kernel_rfl) (by kernel_rfl) (fun _ _ _ h => h) (Or.inl ⟨by rfl, ?_⟩) (by assumption) ?_
      rotate_left
      · (intro w hSw; (try dsimp only at hSw); go_simp; try with_reducible rfl)
      simp only [Act.put, List.setIfInBounds_toArray, List.set_cons_zero, List.set_cons_succ]
      refine take_at (i := 5) (v := ?_) (some 28) rfl rfl (by kernel_rfl) (by kernel_rfl) (by kernel_rfl) (fun _ _ _ h => h) (Or.inl ⟨by rfl, ?_⟩) (by assumption) ?_
      rotate_left
      · (intro w hSw; (try dsimp only at hSw); go_simp; try with_reducible rfl)
      simp only [Act.put, List.setIfInBounds_toArray, List.set_cons_zero, List.set_cons_succ]
      refine take_at (i := 6) (v := ?_) (some 29) rfl rfl (by kernel_rfl) (by kernel_rfl) (by kernel_rfl) (fun _ _ _ h => h) (Or.inl ⟨by rfl, ?_⟩) (by assumption) ?_
      rotate_left
      · (intro w hSw; (try dsimp only at hSw); go_simp; try with_reducible rfl)
      simp only [Act.put, List.setIfInBounds_toArray, List.set_cons_zero, List.set_cons_succ]
      refine take_at (i := 7) (v := _) (some 30) rfl rfl (by kernel_rfl) (by kernel_rfl) (by kernel_rfl) (fun _ _ _ h => h) (yieldsIf_load_mid (by rfl) _ _ rfl _ _ rfl _ _ (fun _ h => h.2.1) Tryd.underlying58 rfl (by rw [cl_len]; kernel_rfl)) (by assumption) ?_
      simp only [Act.put, List.setIfInBounds_toArray, List.set_cons_zero, List.set_cons_succ]
      refine call_at (i := 8) (some 31) 35 _ _ rfl rfl rfl (by rfl) (by kernel_rfl) #[.slice (some ⟨g, 256, none⟩) (N - 256) (N - 256), .agg (cl .u8 16 (fun j => F (16 + j))).toArray] rfl Tryd.func35 (by kernel_rfl) (by kernel_rfl) ?_
      refine (right_is (some ⟨g, 256, none⟩) (N - 256) (N - 256) (fun j => F (256 + j)) (fun j => F (16 + j)) _ (by have := (Arg.part (hHeld.2.2.out.2.2.1.lies FB.out) 256 (N - 256) (by omega)); rwa [Nat.zero_add] at this) (by omega) (by omega) BD.out).mono ?_; rintro e w' ⟨rfl, hB⟩
      refine ⟨_, rfl, rgtS (hHeld.2.2.out) hB, fun hHeld => ?_⟩
      simp only [Act.put, List.setIfInBounds_toArray, List.set_cons_zero, List.set_cons_succ]
      refine take_at (i := 9) (v := ?_) (some 32) rfl rfl (by kernel_rfl) (by kernel_rfl) (by kernel_rfl) (fun _ _ _ h => h) (Or.inl ⟨by rfl, ?_⟩) (by assumption) ?_
      rotate_left
      · (intro w hSw; (try dsimp only at hSw); go_simp; try with_reducible rfl)
      simp only [Act.put, List.setIfInBounds_toArray, List.set_cons_zero, List.set_cons_succ]
      refine take_at (i := 10) (v := ?_) (some 2) rfl rfl (by kernel_rfl) (by kernel_rfl) (by kernel_rfl) (fun _ _ _ h => h) (Or.inl ⟨by rfl, ?_⟩) (by assumption) ?_
      rotate_left
      · (intro w hSw; (try dsimp only at hSw); go_simp; try with_reducible rfl)
      simp only [Act.put, List.setIfInBounds_toArray, List.set_cons_zero, List.set_cons_succ]
      refine wpAnyH_done (by kernel_rfl) ?_ _
      refine NoPanic.normal ?_
      go_wp2_with fail
      go_ret
      exact ⟨rfl, hHeld.2.2.out.2.2.2⟩
set_option maxRecDepth 100000 in
set_option maxHeartbeats 1000000 in
theorem rgt_f0 (g : Nat) (F : Nat → Int) (w : World) (hR : IRow w g .u8 256 F) (hF : ∀ j, j < 256 → 0 ≤ F j ∧ F j < 256) (hh : headSeal F = false) :
    Calls Tryd.prog 26 #[.slice (some ⟨g, 0, none⟩) 256 256] w fun e w' => e = .returned (.bool false) ∧ Below w.heap.size w w' := by
  have FB : Hid (∀ j, j < 256 → 0 ≤ F j ∧ F j < 256) := hF
  have RG : Hid (IRow w g .u8 256 F) := hR
  have hg := hR.2.2
  have HD : Hid (eqN 16 (sealF 240 (fun j => F (16 + j))) F = false) := hh

  clear hR hF hh
  go_enter Tryd.func26, Tryd.ntmps26
  go_wp2_with (first
    | (refine wpList_alloc_row rfl 58 rfl .u8 16 w.heap.size rfl zero8_16 ?_; intro W1 hR1 hB1 hz1)
    | (refine wpList_alloc_row rfl 58 rfl .u8 16 (w.heap.size + 1) hz1 zero8_16 ?_; intro W2 hR2 hB2 hz2))
  have E2 : Below w.heap.size w W2 := hB1.trans (hB2.mono (by omega))
  have ST : Hid (rgtRel w g 256 F (.int .i64 0) W2) := ⟨0, by omega, rfl, (hR1.below (by rw [hz1]; exact hB2)).congr (fun j _ => by unfold upto; rw [if_neg (by omega)]), hR2.congr (fun j _ => by unfold upto; rw [if_neg (by omega)]), RG.out.below E2, E2⟩
  clear hR1 hB1 hz1 hR2 hB2 hz2 E2
  go_loopw [5] (fun i wr => rgtRel w g 256 F i wr) (fun i _ => 16 - (intOf i).toNat)
  case atStart => exact ST.out
  case round =>
    obtain ⟨k, hk, rfl, h1, h2, h3, h4⟩ := hrel
    clear ST
    by_cases hlt : k < 16
    · have c1 := h1.1 k hlt
      have c2 := h2.1 k hlt
      have f1 := h1.2.1 k
      have f2 := h2.2.1 k
      have c3 := h3.1 k (by omega)
      have c4 := h3.1 (16 + k) (by omega)
      have STP := rgt_step w wr g 256 k F hlt hg h1 h2 h3 h4
      have SS : Hid (∀ (m : Nat) (v : Int), m = k → v = F (16 + k) → rgtRel w g 256 F (.int .i64 ((k : Int) + 1)) ((wr.setCell ⟨w.heap.size, k, none⟩ (.int .u8 (F k))).setCell ⟨w.heap.size + 1, m, none⟩ (.int .u8 v))) := STP
      clear STP h1 h2 h3 h4
      have i0 : (k : Int) < 16 := by omega
      have i1 : wrap64 (16 + (k : Int)) = 16 + (k : Int) := by unfold wrap64; omega
      have i2 : (0 : Int) ≤ 16 + (k : Int) := by omega
      have i3 : 16 + (k : Int) < 256 := by omega
      have i4 : (16 + (k : Int)).toNat = 16 + k := by omega
      have i5 : IntKind.i64.wrap (16 + (k : Int)) = 16 + (k : Int) := by rw [IntKind.wrap_i64]; omega
      have n1 : ¬ g = w.heap.size := by omega
      have n2 : ¬ w.heap.size = g := by omega
      generalize F k = v1 at c3 SS
      generalize hv2 : F (16 + k) = v2 at c4 SS
      go_wp2_with fail
      exact ⟨SS.out k v2 rfl rfl, by simp [intOf]; omega⟩
    · obtain rfl : k = 16 := by omega
      have g1 : IRow wr w.heap.size .u8 16 F := h1.congr (fun j hj => by unfold upto; rw [if_pos hj])
      have g2 : IRow wr (w.heap.size + 1) .u8 16 (fun j => F (16 + j)) := h2.congr (fun j hj => by unfold upto; rw [if_pos hj])
      have hS0 : wr.drew.rangeAt w.heap.size 0 (cl .u8 16 F) ∧ wr.drew.rangeAt (w.heap.size + 1) 0 (cl .u8 16 (fun j => F (16 + j))) ∧ Hid (IRow wr.drew w.heap.size .u8 16 F ∧ IRow wr.drew (w.heap.size + 1) .u8 16 (fun j => F (16 + j)) ∧ IRow wr.drew g .u8 256 F ∧ Below w.heap.size w wr.drew) := ⟨g1.rec.1, g2.rec.1, ⟨g1, g2, h3, h4.drew⟩⟩
      clear h1 h2 h3 h4 g1 g2
      rw [show ((16 : Nat) : Int) = 16 from rfl]
      go_wp2_with fail
      refine wp_region_noPanic ?_
      refine wp_region_held_drew (S := fun W' => W'.rangeAt w.heap.size 0 (cl .u8 16 F) ∧ W'.rangeAt (w.heap.size + 1) 0 (cl .u8 16 (fun j => F (16 + j))) ∧ Hid (IRow W' w.heap.size .u8 16 F ∧ IRow W' (w.heap.size + 1) .u8 16 (fun j => F (16 + j)) ∧ IRow W' g .u8 256 F ∧ Below w.heap.size w W')) (by kernel_rfl) ?_ (fun hHeld => ?_)
      · exact hS0
      refine take_at (i := 0) (v := ?_) (some 23) rfl rfl (by kernel_rfl) (by kernel_rfl) (by kernel_rfl) (fun _ _ _ h => h) (Or.inl ⟨by rfl, ?_⟩) (by assumption) ?_
      rotate_left
      · (intro w hSw; (try dsimp only at hSw); go_simp; try with_reducible rfl)
      simp only [Act.put, List.setIfInBounds_toArray, List.set_cons_zero, List.set_cons_succ]
      refine take_at (i := 1) (v := ?_) (some 24) rfl rfl (by kernel_rfl) (by kernel_rfl) (by kernel_rfl) (fun _ _ _ h => h) (Or.inl ⟨by rfl, ?_⟩) (by assumption) ?_
      rotate_left
      · (intro w hSw; (try dsimp only at hSw); go_simp; try with_reducible rfl)
      simp only [Act.put, List.setIfInBounds_toArray, List.set_cons_zero, List.set_cons_succ]
      refine take_at (i := 2) (v := _) (some 25) rfl rfl (by kernel_rfl) (by kernel_rfl) (by kernel_rfl) (fun _ _ _ h => h) (yieldsIf_load_mid (by rfl) _ _ rfl _ _ rfl _ _ (fun _ h => h.1) Tryd.underlying58 rfl (by rw [cl_len]; kernel_rfl)) (by assumption) ?_
      simp only [Act.put, List.setIfInBounds_toArray, List.set_cons_zero, List.set_cons_succ]
      refine call_at (i := 3) (some 26) 35 _ _ rfl rfl rfl (by rfl) (by kernel_rfl) #[.slice (some ⟨g, 16, none⟩) 240 240, .agg (cl .u8 16 F).toArray] rfl Tryd.func35 (by kernel_rfl) (by kernel_rfl) ?_
      refine (right_is (some ⟨g, 16, none⟩) 240 240 (fun j => F (16 + j)) F _ (by have := (Arg.part (hHeld.2.2.out.2.2.1.lies FB.out) 16 240 (by omega)); rwa [Nat.zero_add] at this) (by omega) (by omega) HD.out).mono ?_; rintro e w' ⟨rfl, hB⟩
      refine ⟨_, rfl, rgtS (hHeld.2.2.out) hB, fun hHeld => ?_⟩
      simp only [Act.put, List.setIfInBounds_toArray, List.set_cons_zero, List.set_cons_succ]
      refine take_at (i := 4) (v := ?_) (some 27) rfl rfl (by kernel_rfl) (by kernel_rfl) (by kernel_rfl) (fun _ _ _ h => h) (Or.inl ⟨by rfl, ?_⟩) (by assumption) ?_
      rotate_left
      · (intro w hSw; (try dsimp only at hSw); go_simp; try with_reducible rfl)
      simp only [Act.put, List.setIfInBounds_toArray, List.set_cons_zero, List.set_cons_succ]
      refine take_at (i := 5) (v := undef) (some 28) rfl rfl (by kernel_rfl) (by kernel_rfl) (by kernel_rfl) (fun _ _ _ h => h) (Or.inr ⟨by rfl, rfl⟩) (by assumption) ?_
      simp only [Act.put, List.setIfInBounds_toArray, List.set_cons_zero, List.set_cons_succ]
      refine take_at (i := 6) (v := undef) (some 29) rfl rfl (by kernel_rfl) (by kernel_rfl) (by kernel_rfl) (fun _ _ _ h => h) (Or.inr ⟨by rfl, rfl⟩) (by assumption) ?_
      simp only [Act.put, List.setIfInBounds_toArray, List.set_cons_zero, List.set_cons_succ]
      refine take_at (i := 7) (v := undef) (some 30) rfl rfl (by kernel_rfl) (by kernel_rfl) (by kernel_rfl) (fun _ _ _ h => h) (Or.inr ⟨by rfl, rfl⟩) (by assumption) ?_
      simp only [Act.put, List.setIfInBounds_toArray, List.set_cons_zero, List.set_cons_succ]
      refine take_at (i := 8) (v := undef) (some 31) rfl rfl (by kernel_rfl) (by kernel_rfl) (by kernel_rfl) (fun _ _ _ h => h) (Or.inr ⟨by rfl, rfl⟩) (by assumption) ?_
      simp only [Act.put, List.setIfInBounds_toArray, List.set_cons_zero, List.set_cons_succ]
      refine take_at (i := 9) (v := ?_) (some 32) rfl rfl (by kernel_rfl) (by kernel_rfl) (by kernel_rfl) (fun _ _ _ h => h) (Or.inl ⟨by rfl, ?_⟩) (by assumption) ?_
      rotate_left
      · (intro w hSw; (try dsimp only at hSw); go_simp; try with_reducible rfl)
      simp only [Act.put, List.setIfInBounds_toArray, List.set_cons_zero, List.set_cons_succ]
      refine take_at (i := 10) (v := ?_) (some 2) rfl rfl (by kernel_rfl) (by kernel_rfl) (by kernel_rfl) (fun _ _ _ h => h) (Or.inl ⟨by rfl, ?_⟩) (by assumption) ?_
      rotate_left
      · (intro w hSw; (try dsimp only at hSw); go_simp; try with_reducible rfl)
      simp only [Act.put, List.setIfInBounds_toArray, List.set_cons_zero, List.set_cons_succ]
      refine wpAnyH_done (by kernel_rfl) ?_ _
      refine NoPanic.normal ?_
      go_wp2_with fail
      go_ret
      exact ⟨rfl, hHeld.2.2.out.2.2.2⟩
set_option maxRecDepth 100000 in
set_option maxHeartbeats 1000000 in
theorem rgt_tt0 (g : Nat) (F : Nat → Int) (w : World) (hR : IRow w g .u8 256 F) (hF : ∀ j, j < 256 → 0 ≤ F j ∧ F j < 256) (hh : headSeal F = true) (hb : bodySeal 256 F = true) :
    Calls Tryd.prog 26 #[.slice (some ⟨g, 0, none⟩) 256 256] w fun e w' => e = .returned (.bool true) ∧ Below w.heap.size w w' := by
  have FB : Hid (∀ j, j < 256 → 0 ≤ F j ∧ F j < 256) := hF
  have RG : Hid (IRow w g .u8 256 F) := hR
  have hg := hR.2.2
  have HD : Hid (eqN 16 (sealF 240 (fun j => F (16 + j))) F = true) := hh
  have BD : Hid (eqN 16 (sealF 0 (fun j => F (256 + j))) (fun j => F (16 + j)) = true) := hb
  clear hR hF hh hb
  go_enter Tryd.func26, Tryd.ntmps26
  go_wp2_with (first
    | (refine wpList_alloc_row rfl 58 rfl .u8 16 w.heap.size rfl zero8_16 ?_; intro W1 hR1 hB1 hz1)
    | (refine wpList_alloc_row rfl 58 rfl .u8 16 (w.heap.size + 1) hz1 zero8_16 ?_; intro W2 hR2 hB2 hz2))
  have E2 : Below w.heap.size w W2 := hB1.trans (hB2.mono (by omega))
  have ST : Hid (rgtRel w g 256 F (.int .i64 0) W2) := ⟨0, by omega, rfl, (hR1.below (by rw [hz1]; exact hB2)).congr (fun j _ => by unfold upto; rw [if_neg (by omega)]), hR2.congr (fun j _ => by unfold upto; rw [if_neg (by omega)]), RG.out.below E2, E2⟩
  clear hR1 hB1 hz1 hR2 hB2 hz2 E2
  go_loopw [5] (fun i wr => rgtRel w g 256 F i wr) (fun i _ => 16 - (intOf i).toNat)
  case atStart => exact ST.out
  case round =>
    obtain ⟨k, hk, rfl, h1, h2, h3, h4⟩ := hrel
    clear ST
    by_cases hlt : k < 16
    · have c1 := h1.1 k hlt
      have c2 := h2.1 k hlt
      have f1 := h1.2.1 k
      have f2 := h2.2.1 k
      have c3 := h3.1 k (by omega)
      have c4 := h3.1 (16 + k) (by omega)
      have STP := rgt_step w wr g 256 k F hlt hg h1 h2 h3 h4
      have SS : Hid (∀ (m : Nat) (v : Int), m = k → v = F (16 + k) → rgtRel w g 256 F (.int .i64 ((k : Int) + 1)) ((wr.setCell ⟨w.heap.size, k, none⟩ (.int .u8 (F k))).setCell ⟨w.heap.size + 1, m, none⟩ (.int .u8 v))) := STP
      clear STP h1 h2 h3 h4
      have i0 : (k : Int) < 16 := by omega
      have i1 : wrap64 (16 + (k : Int)) = 16 + (k : Int) := by unfold wrap64; omega
      have i2 : (0 : Int) ≤ 16 + (k : Int) := by omega
      have i3 : 16 + (k : Int) < 256 := by omega
      have i4 : (16 + (k : Int)).toNat = 16 + k := by omega
      have i5 : IntKind.i64.wrap (16 + (k : Int)) = 16 + (k : Int) := by rw [IntKind.wrap_i64]; omega
      have n1 : ¬ g = w.heap.size := by omega
      have n2 : ¬ w.heap.size = g := by omega
      generalize F k = v1 at c3 SS
      generalize hv2 : F (16 + k) = v2 at c4 SS
      go_wp2_with fail
      exact ⟨SS.out k v2 rfl rfl, by simp [intOf]; omega⟩
    · obtain rfl : k = 16 := by omega
      have g1 : IRow wr w.heap.size .u8 16 F := h1.congr (fun j hj => by unfold upto; rw [if_pos hj])
      have g2 : IRow wr (w.heap.size + 1) .u8 16 (fun j => F (16 + j)) := h2.congr (fun j hj => by unfold upto; rw [if_pos hj])
      have hS0 : wr.drew.rangeAt w.heap.size 0 (cl .u8 16 F) ∧ wr.drew.rangeAt (w.heap.size + 1) 0 (cl .u8 16 (fun j => F (16 + j))) ∧ Hid (IRow wr.drew w.heap.size .u8 16 F ∧ IRow wr.drew (w.heap.size + 1) .u8 16 (fun j => F (16 + j)) ∧ IRow wr.drew g .u8 256 F ∧ Below w.heap.size w wr.drew) := ⟨g1.rec.1, g2.rec.1, ⟨g1, g2, h3, h4.drew⟩⟩
      clear h1 h2 h3 h4 g1 g2
      rw [show ((16 : Nat) : Int) = 16 from rfl]
      go_wp2_with fail
      refine wp_region_noPanic ?_
      refine wp_region_held_drew (S := fun W' => W'.rangeAt w.heap.size 0 (cl .u8 16 F) ∧ W'.rangeAt (w.heap.size + 1) 0 (cl .u8 16 (fun j => F (16 + j))) ∧ Hid (IRow W' w.heap.size .u8 16 F ∧ IRow W' (w.heap.size + 1) .u8 16 (fun j => F (16 + j)) ∧ IRow W' g .u8 256 F ∧ Below w.heap.size w W')) (by kernel_rfl) ?_ (fun hHeld => ?_)
      · exact hS0
      refine take_at (i := 0) (v := ?_) (some 23) rfl rfl (by kernel_rfl) (by kernel_rfl) (by kernel_rfl) (fun _ _ _ h => h) (Or.inl ⟨by rfl, ?_⟩) (by assumption) ?_
      rotate_left
      · (intro w hSw; (try dsimp only at hSw); go_simp; try with_reducible rfl)
      simp only [Act.put, List.setIfInBounds_toArray, List.set_cons_zero, List.set_cons_succ]
      refine take_at (i := 1) (v := ?_) (some 24) rfl rfl (by kernel_rfl) (by kernel_rfl) (by kernel_rfl) (fun _ _ _ h => h) (Or.inl ⟨by rfl, ?_⟩) (by assumption) ?_
      rotate_left
      · (intro w hSw; (try dsimp only at hSw); go_simp; try with_reducible rfl)
      simp only [Act.put, List.setIfInBounds_toArray, List.set_cons_zero, List.set_cons_succ]
      refine take_at (i := 2) (v := _) (some 25) rfl rfl (by kernel_rfl) (by kernel_rfl) (by kernel_rfl) (fun _ _ _ h => h) (yieldsIf_load_mid (by rfl) _ _ rfl _ _ rfl _ _ (fun _ h => h.1) Tryd.underlying58 rfl (by rw [cl_len]; kernel_rfl)) (by assumption) ?_
      simp only [Act.put, List.setIfInBounds_toArray, List.set_cons_zero, List.set_cons_succ]
      refine call_at (i := 3) (some 26) 35 _ _ rfl rfl rfl (by rfl) (by kernel_rfl) #[.slice (some ⟨g, 16, none⟩) 240 240, .agg (cl .u8 16 F).toArray] rfl Tryd.func35 (by kernel_rfl) (by kernel_rfl) ?_
      refine (right_is (some ⟨g, 16, none⟩) 240 240 (fun j => F (16 + j)) F _ (by have := (Arg.part (hHeld.2.2.out.2.2.1.lies FB.out) 16 240 (by omega)); rwa [Nat.zero_add] at this) (by omega) (by omega) HD.out).mono ?_; rintro e w' ⟨rfl, hB⟩
      refine ⟨_, rfl, rgtS (hHeld.2.2.out) hB, fun hHeld => ?_⟩
      simp only [Act.put, List.setIfInBounds_toArray, List.set_cons_zero, List.set_cons_succ]
      refine take_at (i := 4) (v := ?_) (some 27) rfl rfl (by kernel_rfl) (by kernel_rfl) (by kernel_rfl) (fun _ _ _ h => h) (Or.inl ⟨by rfl, ?_⟩) (by assumption) ?_
      rotate_left
      · (intro w hSw; (try dsimp only at hSw); go_simp; try with_reducible rfl)
      simp only [Act.put, List.setIfInBounds_toArray, List.set_cons_zero, List.set_cons_succ]
      refine take_at (i := 5) (v := ?_) (some 28) rfl rfl (by kernel_rfl) (by kernel_rfl) (by kernel_rfl) (fun _ _ _ h => h) (Or.inl ⟨by rfl, ?_⟩) (by assumption) ?_
      rotate_left
      · (intro w hSw; (try dsimp only at hSw); go_simp; try with_reducible rfl)
      simp only [Act.put, List.setIfInBounds_toArray, List.set_cons_zero, List.set_cons_succ]
      refine take_at (i := 6) (v := ?_) (some 29) rfl rfl (by kernel_rfl) (by kernel_rfl) (by kernel_rfl) (fun _ _ _ h => h) (Or.inl ⟨by rfl, ?_⟩) (by assumption) ?_
      rotate_left
      · (intro w hSw; (try dsimp only at hSw); go_simp; try with_reducible rfl)
      simp only [Act.put, List.setIfInBounds_toArray, List.set_cons_zero, List.set_cons_succ]
      refine take_at (i := 7) (v := _) (some 30) rfl rfl (by kernel_rfl) (by kernel_rfl) (by kernel_rfl) (fun _ _ _ h => h) (yieldsIf_load_mid (by rfl) _ _ rfl _ _ rfl _ _ (fun _ h => h.2.1) Tryd.underlying58 rfl (by rw [cl_len]; kernel_rfl)) (by assumption) ?_
      simp only [Act.put, List.setIfInBounds_toArray, List.set_cons_zero, List.set_cons_succ]
      refine call_at (i := 8) (some 31) 35 _ _ rfl rfl rfl (by rfl) (by kernel_rfl) #[.slice (some ⟨g, 0, none⟩) 0 0, .agg (cl .u8 16 (fun j => F (16 + j))).toArray] rfl Tryd.func35 (by kernel_rfl) (by kernel_rfl) ?_
      refine (right_is (some ⟨g, 0, none⟩) 0 0 (fun j => F (256 + j)) (fun j => F (16 + j)) _ (.inl ⟨rfl, .inr ⟨_, rfl⟩⟩ : Arg _ _ 0 _) (by omega) (by omega) BD.out).mono ?_; rintro e w' ⟨rfl, hB⟩
      refine ⟨_, rfl, rgtS (hHeld.2.2.out) hB, fun hHeld => ?_⟩
      simp only [Act.put, List.setIfInBounds_toArray, List.set_cons_zero, List.set_cons_succ]
      refine take_at (i := 9) (v := ?_) (some 32) rfl rfl (by kernel_rfl) (by kernel_rfl) (by kernel_rfl) (fun _ _ _ h => h) (Or.inl ⟨by rfl, ?_⟩) (by assumption) ?_
      rotate_left
      · (intro w hSw; (try dsimp only at hSw); go_simp; try with_reducible rfl)
      simp only [Act.put, List.setIfInBounds_toArray, List.set_cons_zero, List.set_cons_succ]
      refine take_at (i := 10) (v := ?_) (some 2) rfl rfl (by kernel_rfl) (by kernel_rfl) (by kernel_rfl) (fun _ _ _ h => h) (Or.inl ⟨by rfl, ?_⟩) (by assumption) ?_
      rotate_left
      · (intro w hSw; (try dsimp only at hSw); go_simp; try with_reducible rfl)
      simp only [Act.put, List.setIfInBounds_toArray, List.set_cons_zero, List.set_cons_succ]
      refine wpAnyH_done (by kernel_rfl) ?_ _
      refine NoPanic.normal ?_
      go_wp2_with fail
      go_ret
      exact ⟨rfl, hHeld.2.2.out.2.2.2⟩
set_option maxRecDepth 100000 in
set_option maxHeartbeats 1000000 in
theorem rgt_tf0 (g : Nat) (F : Nat → Int) (w : World) (hR : IRow w g .u8 256 F) (hF : ∀ j, j < 256 → 0 ≤ F j ∧ F j < 256) (hh : headSeal F = true) (hb : bodySeal 256 F = false) :
    Calls Tryd.prog 26 #[.slice (some ⟨g, 0, none⟩) 256 256] w fun e w' => e = .returned (.bool false) ∧ Below w.heap.size w w' := by
  have FB : Hid (∀ j, j < 256 → 0 ≤ F j ∧ F j < 256) := hF
  have RG : Hid (IRow w g .u8 256 F) := hR
  have hg := hR.2.2
  have HD : Hid (eqN 16 (sealF 240 (fun j => F (16 + j))) F = true) := hh
  have BD : Hid (eqN 16 (sealF 0 (fun j => F (256 + j))) (fun j => F (16 + j)) = false) := hb
  clear hR hF hh hb
  go_enter Tryd.func26, Tryd.ntmps26
  go_wp2_with (first
    | (refine wpList_alloc_row rfl 58 rfl .u8 16 w.heap.size rfl zero8_16 ?_; intro W1 hR1 hB1 hz1)
    | (refine wpList_alloc_row rfl 58 rfl .u8 16 (w.heap.size + 1) hz1 zero8_16 ?_; intro W2 hR2 hB2 hz2))
  have E2 : Below w.heap.size w W2 := hB1.trans (hB2.mono (by omega))
  have ST : Hid (rgtRel w g 256 F (.int .i64 0) W2) := ⟨0, by omega, rfl, (hR1.below (by rw [hz1]; exact hB2)).congr (fun j _ => by unfold upto; rw [if_neg (by omega)]), hR2.congr (fun j _ => by unfold upto; rw [if_neg (by omega)]), RG.out.below E2, E2⟩
  clear hR1 hB1 hz1 hR2 hB2 hz2 E2
  go_loopw [5] (fun i wr => rgtRel w g 256 F i wr) (fun i _ => 16 - (intOf i).toNat)
  case atStart => exact ST.out
  case round =>
    obtain ⟨k, hk, rfl, h1, h2, h3, h4⟩ := hrel
    clear ST
    by_cases hlt : k < 16
    · have c1 := h1.1 k hlt
      have c2 := h2.1 k hlt
      have f1 := h1.2.1 k
      have f2 := h2.2.1 k
      have c3 := h3.1 k (by omega)
      have c4 := h3.1 (16 + k) (by omega)
      have STP := rgt_step w wr g 256 k F hlt hg h1 h2 h3 h4
      have SS : Hid (∀ (m : Nat) (v : Int), m = k → v = F (16 + k) → rgtRel w g 256 F (.int .i64 ((k : Int) + 1)) ((wr.setCell ⟨w.heap.size, k, none⟩ (.int .u8 (F k))).setCell ⟨w.heap.size + 1, m, none⟩ (.int .u8 v))) := STP
      clear STP h1 h2 h3 h4
      have i0 : (k : Int) < 16 := by omega
      have i1 : wrap64 (16 + (k : Int)) = 16 + (k : Int) := by unfold wrap64; omega
      have i2 : (0 : Int) ≤ 16 + (k : Int) := by omega
      have i3 : 16 + (k : Int) < 256 := by omega
      have i4 : (16 + (k : Int)).toNat = 16 + k := by omega
      have i5 : IntKind.i64.wrap (16 + (k : Int)) = 16 + (k : Int) := by rw [IntKind.wrap_i64]; omega
      have n1 : ¬ g = w.heap.size := by omega
      have n2 : ¬ w.heap.size = g := by omega
      generalize F k = v1 at c3 SS
      generalize hv2 : F (16 + k) = v2 at c4 SS
      go_wp2_with fail
      exact ⟨SS.out k v2 rfl rfl, by simp [intOf]; omega⟩
    · obtain rfl : k = 16 := by omega
      have g1 : IRow wr w.heap.size .u8 16 F := h1.congr (fun j hj => by unfold upto; rw [if_pos hj])
      have g2 : IRow wr (w.heap.size + 1) .u8 16 (fun j => F (16 + j)) := h2.congr (fun j hj => by unfold upto; rw [if_pos hj])
      have hS0 : wr.drew.rangeAt w.heap.size 0 (cl .u8 16 F) ∧ wr.drew.rangeAt (w.heap.size + 1) 0 (cl .u8 16 (fun j => F (16 + j))) ∧ Hid (IRow wr.drew w.heap.size .u8 16 F ∧ IRow wr.drew (w.heap.size + 1) .u8 16 (fun j => F (16 + j)) ∧ IRow wr.drew g .u8 256 F ∧ Below w.heap.size w wr.drew) := ⟨g1.rec.1, g2.rec.1, ⟨g1, g2, h3, h4.drew⟩⟩
      clear h1 h2 h3 h4 g1 g2
      rw [show ((16 : Nat) : Int) = 16 from rfl]
      go_wp2_with fail
      refine wp_region_noPanic ?_
      refine wp_region_held_drew (S := fun W' => W'.rangeAt w.heap.size 0 (cl .u8 16 F) ∧ W'.rangeAt (w.heap.size + 1) 0 (cl .u8 16 (fun j => F (16 + j))) ∧ Hid (IRow W' w.heap.size .u8 16 F ∧ IRow W' (w.heap.size + 1) .u8 16 (fun j => F (16 + j)) ∧ IRow W' g .u8 256 F ∧ Below w.heap.size w W')) (by kernel_rfl) ?_ (fun hHeld => ?_)
      · exact hS0
      refine take_at (i := 0) (v := ?_) (some 23) rfl rfl (by kernel_rfl) (by kernel_rfl) (by kernel_rfl) (fun _ _ _ h => h) (Or.inl ⟨by rfl, ?_⟩) (by assumption) ?_
      rotate_left
      · (intro w hSw; (try dsimp only at hSw); go_simp; try with_reducible rfl)
      simp only [Act.put, List.setIfInBounds_toArray, List.set_cons_zero, List.set_cons_succ]
      refine take_at (i := 1) (v := ?_) (some 24) rfl rfl (by kernel_rfl) (by kernel_rfl) (by kernel_rfl) (fun _ _ _ h => h) (Or.inl ⟨by rfl, ?_⟩) (by assumption) ?_
      rotate_left
      · (intro w hSw; (try dsimp only at hSw); go_simp; try with_reducible rfl)
      simp only [Act.put, List.setIfInBounds_toArray, List.set_cons_zero, List.set_cons_succ]
      refine take_at (i := 2) (v := _) (some 25) rfl rfl (by kernel_rfl) (by kernel_rfl) (by kernel_rfl) (fun _ _ _ h => h) (yieldsIf_load_mid (by rfl) _ _ rfl _ _ rfl _ _ (fun _ h => h.1) Tryd.underlying58 rfl (by rw [cl_len]; kernel_rfl)) (by assumption) ?_
      simp only [Act.put, List.setIfInBounds_toArray, List.set_cons_zero, List.set_cons_succ]
      refine call_at (i := 3) (some 26) 35 _ _ rfl rfl rfl (by rfl) (by kernel_rfl) #[.slice (some ⟨g, 16, none⟩) 240 240, .agg (cl .u8 16 F).toArray] rfl Tryd.func35 (by kernel_rfl) (by kernel_rfl) ?_
      refine (right_is (some ⟨g, 16, none⟩) 240 240 (fun j => F (16 + j)) F _ (by have := (Arg.part (hHeld.2.2.out.2.2.1.lies FB.out) 16 240 (by omega)); rwa [Nat.zero_add] at this) (by omega) (by omega) HD.out).mono ?_; rintro e w' ⟨rfl, hB⟩
      refine ⟨_, rfl, rgtS (hHeld.2.2.out) hB, fun hHeld => ?_⟩
      simp only [Act.put, List.setIfInBounds_toArray, List.set_cons_zero, List.set_cons_succ]
      refine take_at (i := 4) (v := ?_) (some 27) rfl rfl (by kernel_rfl) (by kernel_rfl) (by kernel_rfl) (fun _ _ _ h => h) (Or.inl ⟨by rfl, ?_⟩) (by assumption) ?_
      rotate_left
      · (intro w hSw; (try dsimp only at hSw); go_simp; try with_reducible rfl)
      simp only [Act.put, List.setIfInBounds_toArray, List.set_cons_zero, List.set_cons_succ]
      refine take_at (i := 5) (v := ?_) (some 28) rfl rfl (by kernel_rfl) (by kernel_rfl) (by kernel_rfl) (fun _ _ _ h => h) (Or.inl ⟨by rfl, ?_⟩) (by assumption) ?_
      rotate_left
      · (intro w hSw; (try dsimp only at hSw); go_simp; try with_reducible rfl)
      simp only [Act.put, List.setIfInBounds_toArray, List.set_cons_zero, List.set_cons_succ]
      refine take_at (i := 6) (v := ?_) (some 29) rfl rfl (by kernel_rfl) (by kernel_rfl) (by kernel_rfl) (fun _ _ _ h => h) (Or.inl ⟨by rfl, ?_⟩) (by assumption) ?_
      rotate_left
      · (intro w hSw; (try dsimp only at hSw); go_simp; try with_reducible rfl)
      simp only [Act.put, List.setIfInBounds_toArray, List.set_cons_zero, List.set_cons_succ]
      refine take_at (i := 7) (v := _) (some 30) rfl rfl (by kernel_rfl) (by kernel_rfl) (by kernel_rfl) (fun _ _ _ h => h) (yieldsIf_load_mid (by rfl) _ _ rfl _ _ rfl _ _ (fun _ h => h.2.1) Tryd.underlying58 rfl (by rw [cl_len]; kernel_rfl)) (by assumption) ?_
      simp only [Act.put, List.setIfInBounds_toArray, List.set_cons_zero, List.set_cons_succ]
      refine call_at (i := 8) (some 31) 35 _ _ rfl rfl rfl (by rfl) (by kernel_rfl) #[.slice (some ⟨g, 0, none⟩) 0 0, .agg (cl .u8 16 (fun j => F (16 + j))).toArray] rfl Tryd.func35 (by kernel_rfl) (by kernel_rfl) ?_
      refine (right_is (some ⟨g, 0, none⟩) 0 0 (fun j => F (256 + j)) (fun j => F (16 + j)) _ (.inl ⟨rfl, .inr ⟨_, rfl⟩⟩ : Arg _ _ 0 _) (by omega) (by omega) BD.out).mono ?_; rintro e w' ⟨rfl, hB⟩
      refine ⟨_, rfl, rgtS (hHeld.2.2.out) hB, fun hHeld => ?_⟩
      simp only [Act.put, List.setIfInBounds_toArray, List.set_cons_zero, List.set_cons_succ]
      refine take_at (i := 9) (v := ?_) (some 32) rfl rfl (by kernel_rfl) (by kernel_rfl) (by kernel_rfl) (fun _ _ _ h => h) (Or.inl ⟨by rfl, ?_⟩) (by assumption) ?_
      rotate_left
      · (intro w hSw; (try dsimp only at hSw); go_simp; try with_reducible rfl)
      simp only [Act.put, List.setIfInBounds_toArray, List.set_cons_zero, List.set_cons_succ]
      refine take_at (i := 10) (v := ?_) (some 2) rfl rfl (by kernel_rfl) (by kernel_rfl) (by kernel_rfl) (fun _ _ _ h => h) (Or.inl ⟨by rfl, ?_⟩) (by assumption) ?_
      rotate_left
      · (intro w hSw; (try dsimp only at hSw); go_simp; try with_reducible rfl)
      simp only [Act.put, List.setIfInBounds_toArray, List.set_cons_zero, List.set_cons_succ]
      refine wpAnyH_done (by kernel_rfl) ?_ _
      refine NoPanic.normal ?_
      go_wp2_with fail
      go_ret
      exact ⟨rfl, hHeld.2.2.out.2.2.2⟩
theorem rgt_any (g N : Nat) (F : Nat → Int) (w : World) (hR : IRow w g .u8 N F) (hF : ∀ j, j < N → 0 ≤ F j ∧ F j < 256) (hN : 256 ≤ N) (hM : N ≤ 1000000) :
    Calls Tryd.prog 26 #[.slice (some ⟨g, 0, none⟩) N N] w fun e w' => e = .returned (.bool (headSeal F && bodySeal N F)) ∧ Below w.heap.size w w' := by
  by_cases e : N = 256
  · subst e
    cases h1 : headSeal F with
    | false => exact rgt_f0 g F w hR hF h1
    | true =>
      cases h2 : bodySeal 256 F with
      | false => exact rgt_tf0 g F w hR hF h1 h2
      | true => exact rgt_tt0 g F w hR hF h1 h2
  · cases h1 : headSeal F with
    | false => exact rgt_f g N F w hR hF (by omega) hM h1
    | true =>
      cases h2 : bodySeal N F with
      | false => exact rgt_tf g N F w hR hF (by omega) hM h1 h2
      | true => exact rgt_tt g N F w hR hF (by omega) hM h1 h2
end Go.Proofs.YtkmgjpeoognpjaaDoor
