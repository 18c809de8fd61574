/-
  Walks, not a claim by itself: slices.Insert of a pair ahead of others. By the verifier.
-/
import Derived.Test.YtelcijfcgflagaaHold
import Derived.Test.YtelcijfcgflagaaLvIns2
import Derived.Test.YtelcijfcgflagaaReg2
namespace Go.Proofs.Ytelcijfcgflagaa
open Go.RowKit
/-- cs laid over L from o on. -/
def lovR (L : List Value) (o : Nat) (cs : List Value) : List Value := L.take o ++ cs ++ L.drop (o + cs.length)
theorem lovR_len (L : List Value) (o : Nat) (cs : List Value) (h : o + cs.length ≤ L.length) : (lovR L o cs).length = L.length := by unfold lovR; simp; omega
theorem lovR_take (L : List Value) (o : Nat) (cs : List Value) (h : o ≤ L.length) (k : Nat) (hk : k ≤ o) : (lovR L o cs).take k = L.take k := by
  unfold lovR
  rw [List.append_assoc, List.take_append, List.length_take, Nat.min_eq_left h, show k - o = 0 by omega, List.take_zero, List.append_nil, List.take_take, Nat.min_eq_left hk]
theorem lovR_upto (L : List Value) (o : Nat) (cs : List Value) (h : o ≤ L.length) : (lovR L o cs).take (o + cs.length) = L.take o ++ cs := by
  unfold lovR
  rw [List.take_append, List.take_of_length_le (by simp; omega)]
  simp
  omega
theorem lovR_behind (L : List Value) (o : Nat) (cs : List Value) (h : o ≤ L.length) (k : Nat) (hk : o ≤ k) (hk2 : k ≤ o + cs.length) : (lovR L o cs).drop k = cs.drop (k - o) ++ L.drop (o + cs.length) := by
  unfold lovR
  rw [List.append_assoc, List.drop_append, List.drop_of_length_le (by simp; omega), List.nil_append, List.length_take, Nat.min_eq_left h, List.drop_append, show k - o - cs.length = 0 by omega, List.drop_zero]
theorem insR_in (L : List Value) (ps : List RV) (x : RV) (i n : Nat) (hn : ps.length = n) (hi : i ≤ n) (hL : (n + 1) * 5 ≤ L.length) (ht : L.take (n * 5) = rcs ps) :
    (lovR (lovR L ((i + 1) * 5) (rcs (ps.drop i))) (i * 5) x.cs).length = L.length ∧ (lovR (lovR L ((i + 1) * 5) (rcs (ps.drop i))) (i * 5) x.cs).take ((n + 1) * 5) = rcs (ps.take i ++ x :: ps.drop i) := by
  have hd : (rcs (ps.drop i)).length = (n - i) * 5 := by rw [rcs_len, List.length_drop, hn]
  have x3 : x.cs.length = 5 := rfl
  have l1 := lovR_len L ((i + 1) * 5) (rcs (ps.drop i)) (by rw [hd]; omega)
  have l2 := lovR_len (lovR L ((i + 1) * 5) (rcs (ps.drop i))) (i * 5) x.cs (by rw [l1, x3]; omega)
  refine ⟨l2.trans l1, ?_⟩
  have e : L.take (i * 5) = rcs (ps.take i) := by rw [← rcs_take, ← ht, List.take_take, Nat.min_eq_left (by omega)]
  have t1 := lovR_take L ((i + 1) * 5) (rcs (ps.drop i)) (by omega) (i * 5) (by omega)
  have b1 := lovR_behind L ((i + 1) * 5) (rcs (ps.drop i)) (by omega) (i * 5 + x.cs.length) (by rw [x3]; omega) (by rw [x3, hd]; omega)
  rw [show i * 5 + x.cs.length - (i + 1) * 5 = 0 by rw [x3]; omega, List.drop_zero] at b1
  generalize lovR L ((i + 1) * 5) (rcs (ps.drop i)) = L1 at t1 b1 ⊢
  unfold lovR
  rw [t1, e, b1, rcs_app]
  rw [show rcs (x :: ps.drop i) = x.cs ++ rcs (ps.drop i) from rfl, ← List.append_assoc, ← List.append_assoc]
  have : (rcs (ps.take i) ++ x.cs ++ rcs (ps.drop i)).length = (n + 1) * 5 := by
    rw [List.length_append, List.length_append, hd, x3, rcs_len, List.length_take, hn, Nat.min_eq_left hi]; omega
  rw [← this]
  exact List.take_left
theorem insR_new (Z : List Value) (ps : List RV) (x : RV) (i n : Nat) (hn : ps.length = n) (hi : i ≤ n) (hL : (n + 1) * 5 ≤ i * 5 + Z.length) :
    (lovR (lovR (rcs (ps.take i) ++ Z) (i * 5) x.cs) ((i + 1) * 5) (rcs (ps.drop i))).length = i * 5 + Z.length ∧ (lovR (lovR (rcs (ps.take i) ++ Z) (i * 5) x.cs) ((i + 1) * 5) (rcs (ps.drop i))).take ((n + 1) * 5) = rcs (ps.take i ++ x :: ps.drop i) := by
  have hd : (rcs (ps.drop i)).length = (n - i) * 5 := by rw [rcs_len, List.length_drop, hn]
  have x3 : x.cs.length = 5 := rfl
  have ht : (rcs (ps.take i)).length = i * 5 := by rw [rcs_len, List.length_take, hn, Nat.min_eq_left hi]
  have l0 : (rcs (ps.take i) ++ Z).length = i * 5 + Z.length := by rw [List.length_append, ht]
  have l1 := lovR_len (rcs (ps.take i) ++ Z) (i * 5) x.cs (by rw [l0, x3]; omega)
  have l2 := lovR_len (lovR (rcs (ps.take i) ++ Z) (i * 5) x.cs) ((i + 1) * 5) (rcs (ps.drop i)) (by rw [l1, l0, hd]; omega)
  refine ⟨by rw [l2, l1, l0], ?_⟩
  have u := lovR_upto (lovR (rcs (ps.take i) ++ Z) (i * 5) x.cs) ((i + 1) * 5) (rcs (ps.drop i)) (by rw [l1, l0]; omega)
  have u1 := lovR_upto (rcs (ps.take i) ++ Z) (i * 5) x.cs (by rw [l0]; omega)
  rw [x3, show i * 5 + 5 = (i + 1) * 5 by omega] at u1
  rw [hd, show (i + 1) * 5 + (n - i) * 5 = (n + 1) * 5 by omega, u1] at u
  rw [u, rcs_app, show rcs (x :: ps.drop i) = x.cs ++ rcs (ps.drop i) from rfl, ← List.append_assoc]
  congr 2
  rw [← ht]
  exact List.take_left
theorem insR_ar (n i cap : Nat) (hf : n ≤ 63) (hi : i < n) (hr : n < cap) : wrap64 ((n : Int) + 1) = (n : Int) + 1 ∧ wrap64 ((i : Int) + 1) = (i : Int) + 1 ∧ (n : Int) + 1 ≤ (cap : Int) ∧ ((cap : Int) < (n : Int) + 1) = False ∧ (0 : Int) ≤ (i : Int) ∧ ((i : Int) == (n : Int)) = false ∧ (i : Int) ≤ (n : Int) ∧ (cap = i + 1) = False ∧ (cap = i) = False ∧ (i : Int) + 1 ≤ (n : Int) + 1 ∧ (i : Int) ≤ (n : Int) + 1 ∧ (0 : Int) ≤ (i : Int) + 1 ∧ IntKind.i64.wrap ((i : Int) + 1) = (i : Int) + 1 ∧ ((i : Int) + 1).toNat = i + 1 :=
  ⟨by unfold wrap64; omega, by unfold wrap64; omega, by omega, eq_false (by omega), by omega, by rw [beq_eq_false_iff_ne]; omega, by omega, eq_false (by omega), eq_false (by omega), by omega, by omega, by omega, by rw [IntKind.wrap_i64]; omega, by omega⟩
theorem overR_run (W : World) (vb g o n c lb cb : Nat) (x : RV) (cur : Array Value) (hv : LoneR W vb x) (hg : W.heap[g]? = some (.cells cur 45 (0, 0))) (hc : cur.size ≠ 0) (hne : vb ≠ g) :
    (callFunc 78 #[.slice (some ⟨vb, 0, none⟩) n c, .slice (some ⟨g, o, none⟩) lb cb]).run Try.prog W = .ok (.value (.bool false)) W := by
  have sh : ∀ (b : Nat) (k : Array Value), W.heap[b]? = some (.cells k 45 (0, 0)) → W.shape? b = some (45, k.size) := fun b k hk => by
    unfold World.shape?
    rw [hk]
  rw [run_callFunc_extern Try.func78 (by kernel_rfl) (by kernel_rfl) (by kernel_rfl) (e := Extern.SlicesOverlaps.overlaps #[23, 23] #[4]) (by kernel_rfl),
    Lib.run_overlaps_apart W 23 4 45 under_runs 5 (fun w => by obtain ⟨i0, hi, _, hz1, _⟩ := info_parts info_run; simp [Go.sizeOf, typeInfo, hi, hz1]) ⟨vb, 0, none⟩ ⟨g, o, none⟩ n c lb cb hne 45 45 5 cur.size (sh vb _ hv.1) (sh g _ hg) hc (frozen_of_row W vb 0 _ _ hv.1) (frozen_of_row W vb 5 _ _ hv.1)]
  rfl
theorem OwnR.cur {W : World} {g n cap : Nat} {ps : List RV} (h : OwnR W 0 (.slice (some ⟨g, 0, none⟩) n cap) ps) (hn : ps.length = n) : ∃ cur : Array Value, W.heap[g]? = some (.cells cur 45 (0, 0)) ∧ cap ≤ maxLen ∧ cur.size = cap * 5 ∧ cur.toList.take (n * 5) = rcs ps := by
  rcases h.2 with ⟨h, _⟩ | ⟨g', cap', cur, he, _, hg, hnc, hcm, hcs, htake⟩
  · cases h
  injection he with he _ hcc
  injection he with he
  injection he with he
  subst he hcc
  rw [hn] at htake
  exact ⟨cur, hg, hcm, hcs, htake⟩
set_option maxRecDepth 100000 in
set_option maxHeartbeats 400000 in
theorem insR_room (W : World) (ps : List RV) (x : RV) (vb n i g cap : Nat) (hn : ps.length = n) (hO : OwnR W 0 (.slice (some ⟨g, 0, none⟩) n cap) ps) (hp : ∀ u ∈ rcs ps, u.oneCell' = true) (hv : LoneR W vb x) (hf : n ≤ 63) (hi : i < n) (hne : vb ≠ g) (hr : n < cap) : Calls Try.prog 58 #[.slice (some ⟨g, 0, none⟩) n cap, .int .i64 (i : Int), .slice (some ⟨vb, 0, none⟩) 1 1] W (InsRPost W (.slice (some ⟨g, 0, none⟩) n cap) (ps.take i ++ x :: ps.drop i)) := by
  obtain ⟨cur, hg, hcm, hcs, htake⟩ := hO.cur hn
  have OV := fun lb cb => overR_run W vb g ((i + 1) * 5) 1 1 lb cb x cur hv hg (by omega) hne
  have hgD : W.drew.heap[g]? = some (.cells cur 45 (0, 0)) := hg
  have hvD : LoneR W.drew vb x := hv
  have DD : Off [g] W W.drew := (Off.refl _ _).drew
  clear hg hv hO
  obtain ⟨WD, hWD⟩ : ∃ WD, WD = W.drew := ⟨_, rfl⟩
  rw [← hWD] at hgD hvD DD
  have hII := insR_in cur.toList ps x i n hn (by omega) (by rw [Array.length_toList, hcs]; omega) htake
  have hd : (rcs (ps.drop i)).length = (n - i) * 5 := by rw [rcs_len, List.length_drop, hn]
  have C1 : ∀ dL sL dC sC ty, dL = n - i → sL = n + 1 - i → (Builtin.copy_ #[23, 23] ty #[.slice (some ⟨g, (i + 1) * 5, none⟩) dL dC, .slice (some ⟨g, i * 5, none⟩) sL sC]).run Try.prog WD = .ok (goInt (n - i : Nat)) (WD.setRow g (lovR cur.toList ((i + 1) * 5) (rcs (ps.drop i))).toArray) := fun dL sL dC sC ty h1 h2 => copy5 WD g ((i + 1) * 5) dL dC sL sC (n - i) cur ⟨g, i * 5, none⟩ (rcs (ps.drop i)) hgD (by show min _ _ = _; omega) hd (fun j u hj => by
    rw [Addr.add_mid, cell_of_row WD g _ cur _ (0, 0) hgD]
    rw [← rcs_drop, List.getElem?_drop, ← htake, List.getElem?_take] at hj
    split at hj
    · simpa using hj
    · cases hj) (by rw [hd, hcs]; omega) (fun u hu => hp u (by rw [← rcs_drop] at hu; exact List.mem_of_mem_drop hu)) ty
  have g1 := setRow_heap WD g cur (lovR cur.toList ((i + 1) * 5) (rcs (ps.drop i))).toArray _ _ hgD
  have l1 := lovR_len cur.toList ((i + 1) * 5) (rcs (ps.drop i)) (by rw [hd, Array.length_toList, hcs]; omega)
  have z1 : (lovR cur.toList ((i + 1) * 5) (rcs (ps.drop i))).toArray.size = cap * 5 := by rw [List.size_toArray, l1, Array.length_toList, hcs]
  have C2 : ∀ dL dC ty, dL = n + 1 - i → (Builtin.copy_ #[23, 23] ty #[.slice (some ⟨g, i * 5, none⟩) dL dC, .slice (some ⟨vb, 0, none⟩) 1 1]).run Try.prog (WD.setRow g (lovR cur.toList ((i + 1) * 5) (rcs (ps.drop i))).toArray) = .ok (goInt 1) ((WD.setRow g (lovR cur.toList ((i + 1) * 5) (rcs (ps.drop i))).toArray).setRow g (lovR (lovR cur.toList ((i + 1) * 5) (rcs (ps.drop i))) (i * 5) x.cs).toArray) := fun dL dC ty h1 => copy5 (WD.setRow g (lovR cur.toList ((i + 1) * 5) (rcs (ps.drop i))).toArray) g (i * 5) dL dC 1 1 1 _ ⟨vb, 0, none⟩ x.cs g1 (by show min _ _ = _; omega) rfl (fun j u hj => by
    rw [Addr.add_mid, Nat.zero_add, World.cell?_of_block (w := WD) (setRow_other WD g vb _ hne)]
    exact hvD.cell j u hj) (by rw [z1]; show i * 5 + 5 ≤ _; omega) hvD.2 ty
  have R : Hid (InsRPost W (.slice (some ⟨g, 0, none⟩) n cap) (ps.take i ++ x :: ps.drop i) (.returned (.slice (some ⟨g, 0, none⟩) (n + 1) cap)) ((WD.setRow g (lovR cur.toList ((i + 1) * 5) (rcs (ps.drop i))).toArray).setRow g (lovR (lovR cur.toList ((i + 1) * 5) (rcs (ps.drop i))) (i * 5) x.cs).toArray)) := by
    have hl : (ps.take i ++ x :: ps.drop i).length = n + 1 := by simp; omega
    refine ⟨_, rfl, ⟨by rw [rcs_len], .inr ⟨g, cap, _, by rw [hl], Nat.zero_le _, setRow_heap _ g _ _ _ _ g1, by omega, hcm, ?_, ?_⟩⟩, ((DD.trans (Off.but (setRow_butR WD g _) (by simp))).trans (Off.but (setRow_butR _ g _) (by simp))), fun _ h => .inl h⟩
    · rw [List.size_toArray, hII.1, Array.length_toList, hcs]
    · rw [hl]; exact hII.2
  obtain ⟨hw1, hw2, k1, k2, k3, k4, k5, k6, k7, k8, k9, k10, k11, k12⟩ := insR_ar n i cap hf hi hr
  have K := hidIt (And.intro hi (And.intro hr hf))
  have CC := hidIt (And.intro C1 (And.intro C2 OV))
  clear hII hd C1 C2 OV g1 l1 z1 hp hvD hne hgD hcm hcs htake hn hf hi hr DD
  generalize (WD.setRow g (lovR cur.toList ((i + 1) * 5) (rcs (ps.drop i))).toArray) = W1 at *
  generalize W1.setRow g (lovR (lovR cur.toList ((i + 1) * 5) (rcs (ps.drop i))) (i * 5) x.cs).toArray = W2 at *
  have WDD := hidIt hWD
  clear hWD
  go_enter Try.func58, Try.ntmps58
  go_wp2_with fail
  rw [CC.out.2.2]
  rw [Oper.upon_value]
  go_wp2_with fail
  refine wp_region_noPanic ?_
  refine wp_region_held_drew (S := fun _ => True) (by kernel_rfl) ?_ (fun hHeld => ?_)
  · trivial
  refine take_at (i := 0) (v := ?_) (some 69) rfl rfl (by kernel_rfl) (by kernel_rfl) (by kernel_rfl) (fun _ _ _ h => h) (Or.inl ⟨by rfl, ?_⟩) (by assumption) ?_
  rotate_left
  · (intro w hSw; (try dsimp only at hSw); go_simp; try with_reducible rfl)
  simp only [Act.put, List.setIfInBounds_toArray, List.set_cons_zero, List.set_cons_succ]
  refine take_at (i := 1) (v := ?_) (some 70) rfl rfl (by kernel_rfl) (by kernel_rfl) (by kernel_rfl) (fun _ _ _ h => h) (Or.inl ⟨by rfl, ?_⟩) (by assumption) ?_
  rotate_left
  · (intro w hSw; (try dsimp only at hSw); go_simp; try with_reducible rfl)
  simp only [Act.put, List.setIfInBounds_toArray, List.set_cons_zero, List.set_cons_succ]
  refine take_at (i := 2) (v := ?_) (some 71) rfl rfl (by kernel_rfl) (by kernel_rfl) (by kernel_rfl) (fun _ _ _ h => h) (Or.inl ⟨by rfl, ?_⟩) (by assumption) ?_
  rotate_left
  · (intro w hSw; (try dsimp only at hSw); go_simp; try with_reducible rfl)
  simp only [Act.put, List.setIfInBounds_toArray, List.set_cons_zero, List.set_cons_succ]
  refine take_at (i := 3) (v := ?_) (some 72) rfl rfl (by kernel_rfl) (by kernel_rfl) (by kernel_rfl) (fun _ _ _ h => h) (Or.inl ⟨by rfl, ?_⟩) (by assumption) ?_
  rotate_left
  · (intro w hSw; (try dsimp only at hSw); go_simp; try with_reducible rfl)
  simp only [Act.put, List.setIfInBounds_toArray, List.set_cons_zero, List.set_cons_succ]
  refine take_at (i := 4) (v := ?_) (some 73) rfl rfl (by kernel_rfl) (by kernel_rfl) (by kernel_rfl) (fun _ _ _ h => h) (Or.inl ⟨by rfl, ?_⟩) (by assumption) ?_
  rotate_left
  · (intro w hSw; (try dsimp only at hSw); go_simp; try with_reducible rfl)
  simp only [Act.put, List.setIfInBounds_toArray, List.set_cons_zero, List.set_cons_succ]
  refine take_at (i := 5) (v := ?_) (some 74) rfl rfl (by kernel_rfl) (by kernel_rfl) (by kernel_rfl) (fun _ _ _ h => h) (Or.inl ⟨by rfl, ?_⟩) (by assumption) ?_
  rotate_left
  · (intro w hSw; (try dsimp only at hSw); go_simp; try with_reducible rfl)
  simp only [Act.put, List.setIfInBounds_toArray, List.set_cons_zero, List.set_cons_succ]
  refine take_at (i := 6) (v := ?_) (some 75) rfl rfl (by kernel_rfl) (by kernel_rfl) (by kernel_rfl) (fun _ _ _ h => h) (Or.inl ⟨by rfl, ?_⟩) (by assumption) ?_
  rotate_left
  · (intro w hSw; (try dsimp only at hSw); go_simp; try with_reducible rfl)
  simp only [Act.put, List.setIfInBounds_toArray, List.set_cons_zero, List.set_cons_succ]
  refine take_at (i := 7) (v := ?_) (some 76) rfl rfl (by kernel_rfl) (by kernel_rfl) (by kernel_rfl) (fun _ _ _ h => h) (Or.inl ⟨by rfl, ?_⟩) (by assumption) ?_
  rotate_left
  · (intro w hSw; (try dsimp only at hSw); go_simp; try with_reducible rfl)
  simp only [Act.put, List.setIfInBounds_toArray, List.set_cons_zero, List.set_cons_succ]
  rw [← WDD.out]
  refine step_at (i := 8) (some 77) rfl rfl (by rfl) (by kernel_rfl) (goInt (n - i : Nat)) W1 (copy_run (.tmp 73) (.tmp 76) 23 23 rfl _ _ rfl rfl (CC.out.1 _ _ _ _ _ (by omega) (by omega))) trivial (fun hHeld => ?_)
  simp only [Act.put, List.setIfInBounds_toArray, List.set_cons_zero, List.set_cons_succ]
  refine wpAnyH_done (by kernel_rfl) ?_ _
  refine NoPanic.normal ?_
  go_wp2_with fail
  rw [CC.out.2.1 _ _ _ rfl]
  simp only [Result.andThen]
  rw [Oper.upon_value]
  go_wp2_with fail
  exact bodyPost_ret (v := .slice (some ⟨g, 0, none⟩) (n + 1) cap) (by simp [results, Try.results58, go_sem]) rfl R.out
end Go.Proofs.Ytelcijfcgflagaa
