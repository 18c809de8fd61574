/-
  Walks, not a claim by itself: slices.Insert of a pair ahead of others, where there is no room. By the verifier.
-/
import Derived.Test.YtelcijfcgflagaaLvIns3
namespace Go.Proofs.Ytelcijfcgflagaa
open Go.RowKit
attribute [-go_sem] Builtin.append_
theorem insR_ag (n i cap G : Nat) (hf : n ≤ 63) (hi : i < n) (hr : cap < n + 1) (hc : n ≤ cap) (hG : n + 1 ≤ G) : wrap64 ((n : Int) + 1) = (n : Int) + 1 ∧ wrap64 ((i : Int) + 1) = (i : Int) + 1 ∧ ((cap : Int) < (n : Int) + 1) = True ∧ (0 : Int) ≤ (i : Int) ∧ ((i : Int) == (n : Int)) = false ∧ (i : Int) ≤ (n : Int) ∧ (G = i + 1) = False ∧ (G = i) = False ∧ (cap = i) = False ∧ (i : Int) + 1 ≤ (n : Int) + 1 ∧ (i : Int) ≤ (n : Int) + 1 ∧ (0 : Int) ≤ (i : Int) + 1 ∧ IntKind.i64.wrap ((i : Int) + 1) = (i : Int) + 1 ∧ ((i : Int) + 1).toNat = i + 1 ∧ wrap64 ((n : Int) + 1 - (i : Int)) = (n : Int) + 1 - (i : Int) ∧ (i : Int) ≤ (cap : Int) ∧ ((n + 1 - i : Nat) : Int) = (n : Int) + 1 - (i : Int) :=
  ⟨by unfold wrap64; omega, by unfold wrap64; omega, eq_true (by omega), by omega, by rw [beq_eq_false_iff_ne]; omega, by omega, eq_false (by omega), eq_false (by omega), eq_false (by omega), by omega, by omega, by omega, by rw [IntKind.wrap_i64]; omega, by omega, by unfold wrap64; omega, by omega, by omega⟩
theorem insR_grow_pre (W : World) (ps : List RV) (x : RV) (vb n i g cap : Nat) (hn : ps.length = n) (hO : OwnR W 0 (.slice (some ⟨g, 0, none⟩) n cap) ps) (hp : ∀ u ∈ rcs ps, u.oneCell' = true) (hv : LoneR W vb x) (hf : n ≤ 63) (hi : i < n) (hr : cap < n + 1) :
    ∃ (G : Nat) (WA W1 W2 : World), n + 1 ≤ G ∧ (∀ ty, (Builtin.append_ #[23, 3] ty #[.slice (some ⟨g, 0, none⟩) i cap, .int .i64 ((n + 1 - i : Nat) : Int)]).run Try.prog W = .ok (.slice (some ⟨W.heap.size, 0, none⟩) (n + 1) G) WA) ∧
      (∀ dL dC ty, dL = n + 1 - i → (Builtin.copy_ #[23, 23] ty #[.slice (some ⟨W.heap.size, i * 5, none⟩) dL dC, .slice (some ⟨vb, 0, none⟩) 1 1]).run Try.prog WA = .ok (goInt 1) W1) ∧
      (∀ dL sL dC sC ty, dL = n - i → sL = n - i → (Builtin.copy_ #[23, 23] ty #[.slice (some ⟨W.heap.size, (i + 1) * 5, none⟩) dL dC, .slice (some ⟨g, i * 5, none⟩) sL sC]).run Try.prog W1.drew = .ok (goInt (n - i : Nat)) W2) ∧
      InsRPost W (.slice (some ⟨g, 0, none⟩) n cap) (ps.take i ++ x :: ps.drop i) (.returned (.slice (some ⟨W.heap.size, 0, none⟩) (n + 1) G)) W2 := by
  obtain ⟨cur, hg, hcm, hcs, htake⟩ := hO.cur hn
  obtain ⟨i0, hi0, hz0, hz1, hz2⟩ := info_parts info_run
  have hgl : g < W.heap.size := (Array.getElem?_eq_some_iff.1 hg).1
  have hvl : vb < W.heap.size := (Array.getElem?_eq_some_iff.1 hv.1).1
  have hd : (rcs (ps.drop i)).length = (n - i) * 5 := by rw [rcs_len, List.length_drop, hn]
  have hti : (rcs (ps.take i)).length = i * 5 := by rw [rcs_len, List.length_take, hn, Nat.min_eq_left (by omega)]
  have cells : ∀ (U : World), U.heap[g]? = W.heap[g]? → ∀ j u, (rcs ps)[j]? = some u → U.cell? ⟨g, j, none⟩ = some u := fun U hU j u hj => by
    rw [cell_of_row U g _ cur _ (0, 0) (hU.trans hg)]
    rw [← htake, List.getElem?_take] at hj
    split at hj
    · simpa using hj
    · cases hj
  have hold : (Builtin.firstCells i0.size i (.slice (some ⟨g, 0, none⟩) i cap)).run Try.prog W.drew = .ok (rcs (ps.take i)).toArray W.drew := by
    rw [hz1]
    exact run_firstCells_some W.drew 5 i ⟨g, 0, none⟩ i cap (rcs (ps.take i)) (by rw [hti]) (fun j u hj => by
      rw [Addr.add_mid, Nat.zero_add]
      rw [← rcs_take, List.getElem?_take] at hj
      split at hj
      · exact cells W.drew rfl j u hj
      · cases hj)
  have hge := grownCap_ge W (n + 1) cap 45
  have hle := grownCap_le_maxLen W (n + 1) cap 45 (by unfold maxLen; omega)
  have hap := fun ty => Lib.run_append_grow_zeros (P := Try.prog) W 23 3 ty 45 i0 _ .i64 .i64 under_runs Try.underlying3 hi0 hz0 (some ⟨g, 0, none⟩) i cap (rcs (ps.take i)) hold (n + 1 - i) (by omega) (by rw [hz1]; omega) (by omega) (by omega) (by rw [hz2]; omega) (by rw [hz2]; exact growslice_fits (by omega) (by omega))
  rw [show i + (n + 1 - i) = n + 1 by omega] at hap
  generalize grownCap W (n + 1) cap 45 = G at *
  obtain ⟨Z, hZ⟩ : ∃ Z : List Value, Z = (Builtin.zeroCells (Value.agg #[.int .i64 0, .int .i64 0, .int .i64 0, .slice none 0 0, .slice none 0 0]).cells (n + 1 - i)).toList ++ (Builtin.zeroCells (Value.agg #[.int .i64 0, .int .i64 0, .int .i64 0, .slice none 0 0, .slice none 0 0]).cells (G - (n + 1))).toList := ⟨_, rfl⟩
  have hZl : Z.length = (G - i) * 5 := by
    rw [hZ, List.length_append, Array.length_toList, Array.length_toList, size_zeroCells, size_zeroCells]
    show (n + 1 - i) * 5 + (G - (n + 1)) * 5 = _
    omega
  have hrow : (rcs (ps.take i)).toArray ++ Builtin.zeroCells (Value.agg #[.int .i64 0, .int .i64 0, .int .i64 0, .slice none 0 0, .slice none 0 0]).cells (n + 1 - i) ++ Builtin.zeroCells (Value.agg #[.int .i64 0, .int .i64 0, .int .i64 0, .slice none 0 0, .slice none 0 0]).cells (G - (n + 1)) = (rcs (ps.take i) ++ Z).toArray := by
    rw [hZ]
    apply Array.toList_inj.1
    simp
  rw [hrow] at hap
  clear hrow hZ hold
  obtain ⟨WA, hWA⟩ : ∃ WA, WA = W.drew.alloc (.cells (rcs (ps.take i) ++ Z).toArray 45) := ⟨_, rfl⟩
  rw [← hWA] at hap
  have gA : WA.heap[W.heap.size]? = some (.cells (rcs (ps.take i) ++ Z).toArray 45 (0, 0)) := by rw [hWA]; exact heap_alloc_new W.drew _
  have BA : Below W.heap.size W WA := by rw [hWA]; exact (Below.refl W.heap.size W).drew.alloc (Nat.le_refl _) _
  have hII := insR_new Z ps x i n hn (by omega) (by rw [hZl]; omega)
  have l0 : (rcs (ps.take i) ++ Z).length = G * 5 := by rw [List.length_append, hti, hZl]; omega
  have C1 : ∀ dL dC ty, dL = n + 1 - i → (Builtin.copy_ #[23, 23] ty #[.slice (some ⟨W.heap.size, i * 5, none⟩) dL dC, .slice (some ⟨vb, 0, none⟩) 1 1]).run Try.prog WA = .ok (goInt 1) (WA.setRow W.heap.size (lovR (rcs (ps.take i) ++ Z) (i * 5) x.cs).toArray) := fun dL dC ty h1 => copy5 WA W.heap.size (i * 5) dL dC 1 1 1 _ ⟨vb, 0, none⟩ x.cs gA (by show min _ _ = _; omega) rfl (fun j u hj => by
    rw [Addr.add_mid, Nat.zero_add, World.cell?_of_block (w := W) (BA.block vb hvl)]
    exact hv.cell j u hj) (by rw [List.size_toArray, l0]; show i * 5 + 5 ≤ _; omega) hv.2 ty
  have g1 := setRow_heap WA W.heap.size _ (lovR (rcs (ps.take i) ++ Z) (i * 5) x.cs).toArray _ _ gA
  have l1 := lovR_len (rcs (ps.take i) ++ Z) (i * 5) x.cs (by rw [l0]; show i * 5 + 5 ≤ _; omega)
  have b1 := setRow_butR WA W.heap.size (lovR (rcs (ps.take i) ++ Z) (i * 5) x.cs).toArray
  obtain ⟨W1, hW1⟩ : ∃ W1, W1 = WA.setRow W.heap.size (lovR (rcs (ps.take i) ++ Z) (i * 5) x.cs).toArray := ⟨_, rfl⟩
  rw [← hW1] at C1 g1 b1
  have E1 : Below W.heap.size W W1.drew := (BA.trans (b1.below (Nat.le_refl _) BA.size)).drew
  have g1D : W1.drew.heap[W.heap.size]? = some (.cells (lovR (rcs (ps.take i) ++ Z) (i * 5) x.cs).toArray 45 (0, 0)) := g1
  obtain ⟨WD, hWD⟩ : ∃ WD, WD = W1.drew := ⟨_, rfl⟩
  rw [← hWD] at E1 g1D
  have C2 : ∀ dL sL dC sC ty, dL = n - i → sL = n - i → (Builtin.copy_ #[23, 23] ty #[.slice (some ⟨W.heap.size, (i + 1) * 5, none⟩) dL dC, .slice (some ⟨g, i * 5, none⟩) sL sC]).run Try.prog WD = .ok (goInt (n - i : Nat)) (WD.setRow W.heap.size (lovR (lovR (rcs (ps.take i) ++ Z) (i * 5) x.cs) ((i + 1) * 5) (rcs (ps.drop i))).toArray) := fun dL sL dC sC ty h1 h2 => copy5 WD W.heap.size ((i + 1) * 5) dL dC sL sC (n - i) _ ⟨g, i * 5, none⟩ (rcs (ps.drop i)) g1D (by show min _ _ = _; omega) hd (fun j u hj => by
    rw [Addr.add_mid]
    rw [← rcs_drop, List.getElem?_drop] at hj
    exact cells WD (E1.block g hgl) _ u hj) (by rw [List.size_toArray, l1, l0, hd]; omega) (fun u hu => hp u (by rw [← rcs_drop] at hu; exact List.mem_of_mem_drop hu)) ty
  have R : Hid (InsRPost W (.slice (some ⟨g, 0, none⟩) n cap) (ps.take i ++ x :: ps.drop i) (.returned (.slice (some ⟨W.heap.size, 0, none⟩) (n + 1) G)) (WD.setRow W.heap.size (lovR (lovR (rcs (ps.take i) ++ Z) (i * 5) x.cs) ((i + 1) * 5) (rcs (ps.drop i))).toArray)) := by
    have hl : (ps.take i ++ x :: ps.drop i).length = n + 1 := by simp; omega
    refine ⟨_, rfl, ⟨by rw [rcs_len], .inr ⟨W.heap.size, G, _, by rw [hl], Nat.zero_le _, setRow_heap _ W.heap.size _ _ _ _ g1D, by omega, hle, ?_, ?_⟩⟩, Off.of (E1.trans ((setRow_butR WD W.heap.size _).below (Nat.le_refl _) E1.size)), fun b hb => .inr ?_⟩
    · rw [List.size_toArray, hII.1, hZl]; omega
    · rw [hl]; exact hII.2
    · injection hb with hb
      exact Nat.le_of_eq hb
  subst hWD
  exact ⟨G, WA, W1, _, hge, hap, C1, C2, R.out⟩
set_option maxRecDepth 100000 in
set_option maxHeartbeats 1000000 in
theorem insR_grow (W : World) (ps : List RV) (x : RV) (vb n i g cap : Nat) (hn : ps.length = n) (hO : OwnR W 0 (.slice (some ⟨g, 0, none⟩) n cap) ps) (hp : ∀ u ∈ rcs ps, u.oneCell' = true) (hv : LoneR W vb x) (hf : n ≤ 63) (hi : i < n) (hnc : n ≤ cap) (hr : cap < n + 1) : Calls Try.prog 58 #[.slice (some ⟨g, 0, none⟩) n cap, .int .i64 (i : Int), .slice (some ⟨vb, 0, none⟩) 1 1] W (InsRPost W (.slice (some ⟨g, 0, none⟩) n cap) (ps.take i ++ x :: ps.drop i)) := by
  obtain ⟨G, WA, W1, W2, hge, hap, C1, C2, R0⟩ := insR_grow_pre W ps x vb n i g cap hn hO hp hv hf hi hr
  have R := hidIt R0
  obtain ⟨hw1, hw2, k1, k2, k3, k4, k5, k6, k7, k8, k9, k10, k11, k12, k13, k14, k15⟩ := insR_ag n i cap G hf hi hr hnc hge
  have hr1 := hap 23
  have CC := hidIt (And.intro C1 C2)
  obtain ⟨z, hz⟩ : ∃ z : Int, z = ((n + 1 - i : Nat) : Int) := ⟨_, rfl⟩
  rw [← hz] at hr1 k15
  replace k13 := k13.trans k15.symm
  clear k15 hz C1 C2 hap hge hO hp hv hn hf hi hr hnc R0
  generalize W.heap.size = H at *
  go_enter Try.func58, Try.ntmps58
  go_wp2_with fail
  clear hr1
  rw [CC.out.1 _ _ _ rfl]
  simp only [Result.andThen]
  rw [Oper.upon_value]
  go_wp2_with fail
  refine wp_region_noPanic ?_
  refine wp_region_held_drew (S := fun _ => True) (by kernel_rfl) ?_ (fun hHeld => ?_)
  · trivial
  refine take_at (i := 0) (v := ?_) (some 46) rfl rfl (by kernel_rfl) (by kernel_rfl) (by kernel_rfl) (fun _ _ _ h => h) (Or.inl ⟨by rfl, ?_⟩) (by assumption) ?_
  rotate_left
  · (intro w hSw; (try dsimp only at hSw); go_simp; try with_reducible rfl)
  simp only [Act.put, List.setIfInBounds_toArray, List.set_cons_zero, List.set_cons_succ]
  refine take_at (i := 1) (v := ?_) (some 47) rfl rfl (by kernel_rfl) (by kernel_rfl) (by kernel_rfl) (fun _ _ _ h => h) (Or.inl ⟨by rfl, ?_⟩) (by assumption) ?_
  rotate_left
  · (intro w hSw; (try dsimp only at hSw); go_simp; try with_reducible rfl)
  simp only [Act.put, List.setIfInBounds_toArray, List.set_cons_zero, List.set_cons_succ]
  refine take_at (i := 2) (v := ?_) (some 48) rfl rfl (by kernel_rfl) (by kernel_rfl) (by kernel_rfl) (fun _ _ _ h => h) (Or.inl ⟨by rfl, ?_⟩) (by assumption) ?_
  rotate_left
  · (intro w hSw; (try dsimp only at hSw); go_simp; try with_reducible rfl)
  simp only [Act.put, List.setIfInBounds_toArray, List.set_cons_zero, List.set_cons_succ]
  refine take_at (i := 3) (v := ?_) (some 49) rfl rfl (by kernel_rfl) (by kernel_rfl) (by kernel_rfl) (fun _ _ _ h => h) (Or.inl ⟨by rfl, ?_⟩) (by assumption) ?_
  rotate_left
  · (intro w hSw; (try dsimp only at hSw); go_simp; try with_reducible rfl)
  simp only [Act.put, List.setIfInBounds_toArray, List.set_cons_zero, List.set_cons_succ]
  refine take_at (i := 4) (v := ?_) (some 50) rfl rfl (by kernel_rfl) (by kernel_rfl) (by kernel_rfl) (fun _ _ _ h => h) (Or.inl ⟨by rfl, ?_⟩) (by assumption) ?_
  rotate_left
  · (intro w hSw; (try dsimp only at hSw); go_simp; try with_reducible rfl)
  simp only [Act.put, List.setIfInBounds_toArray, List.set_cons_zero, List.set_cons_succ]
  refine take_at (i := 5) (v := ?_) (some 51) rfl rfl (by kernel_rfl) (by kernel_rfl) (by kernel_rfl) (fun _ _ _ h => h) (Or.inl ⟨by rfl, ?_⟩) (by assumption) ?_
  rotate_left
  · (intro w hSw; (try dsimp only at hSw); go_simp; try with_reducible rfl)
  simp only [Act.put, List.setIfInBounds_toArray, List.set_cons_zero, List.set_cons_succ]
  refine take_at (i := 6) (v := ?_) (some 52) rfl rfl (by kernel_rfl) (by kernel_rfl) (by kernel_rfl) (fun _ _ _ h => h) (Or.inl ⟨by rfl, ?_⟩) (by assumption) ?_
  rotate_left
  · (intro w hSw; (try dsimp only at hSw); go_simp; try with_reducible rfl)
  simp only [Act.put, List.setIfInBounds_toArray, List.set_cons_zero, List.set_cons_succ]
  refine take_at (i := 7) (v := ?_) (some 53) rfl rfl (by kernel_rfl) (by kernel_rfl) (by kernel_rfl) (fun _ _ _ h => h) (Or.inl ⟨by rfl, ?_⟩) (by assumption) ?_
  rotate_left
  · (intro w hSw; (try dsimp only at hSw); go_simp; try with_reducible rfl)
  simp only [Act.put, List.setIfInBounds_toArray, List.set_cons_zero, List.set_cons_succ]
  refine step_at (i := 8) (some 54) rfl rfl (by rfl) (by kernel_rfl) (goInt (n - i : Nat)) W2 (copy_run (.tmp 50) (.tmp 53) 23 23 rfl _ _ rfl rfl (CC.out.2 _ _ _ _ _ (by omega) (by omega))) trivial (fun hHeld => ?_)
  simp only [Act.put, List.setIfInBounds_toArray, List.set_cons_zero, List.set_cons_succ]
  refine wpAnyH_done (by kernel_rfl) ?_ _
  refine NoPanic.normal ?_
  go_wp2_with fail
  exact bodyPost_ret (v := .slice (some ⟨H, 0, none⟩) (n + 1) G) (by simp [results, Try.results58, go_sem]) rfl R.out
end Go.Proofs.Ytelcijfcgflagaa
