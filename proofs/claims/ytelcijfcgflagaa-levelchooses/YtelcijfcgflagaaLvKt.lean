/-
  Walks, not a claim by itself: the kit's SameRun, SameRuns, SameLevels, where both are the same. By the verifier.
-/
import Derived.Test.YtelcijfcgflagaaLvSp
import Derived.Test.YtelcijfcgflagaaBCopy
namespace Go.Proofs.Ytelcijfcgflagaa
open Go.RowKit
theorem same_txtR {W : World} {N M : List Nat} {s s' : Value} {t : ByteArray} (h : Txt W N s t) (h' : Txt W M s' t) : Calls Try.prog 57 #[s, s'] W fun e w' => e = .returned (.bool true) ∧ w' = W := by
  obtain ⟨a, C, f, rfl, hA, ht, _⟩ := h
  obtain ⟨a', C', f', rfl, hA', ht', _⟩ := h'
  have := same_any a a' t.size t.size C C' f f' W hA hA'
  rw [ht, ht', decide_eq_true rfl] at this
  exact this
set_option maxRecDepth 100000 in
set_option maxHeartbeats 1000000 in
theorem sameRun_eq {W : World} {N M : List Nat} {x y : RV} (h : RVOk W N x) (h' : RVOk W M y) (he : x.r = y.r) : Calls Try.prog 39 #[.agg x.cs.toArray, .agg y.cs.toArray] W fun e w' => e = .returned (.bool true) ∧ Below W.heap.size W w' := by
  obtain ⟨xf, xl, r⟩ := x
  obtain ⟨yf, yl, r'⟩ := y
  simp only at he
  subst he
  have HX := hidIt h
  have HY := hidIt h'
  clear h h'
  have q1 : Hid True := trivial
  go_enter Try.func39, Try.ntmps39
  go_wp2_with (first
    | (refine wpList_box_rec rfl 45 (.tmp 0) rfl (RV.mk xf xl r).cs rfl W.heap.size rfl ?_; intro W1 R1 B1 z1; have P1 := hidIt R1; have E1 := hidIt (And.intro B1 z1); clear R1 B1 z1)
    | (refine wpList_box_rec rfl 45 (.tmp 1) rfl (RV.mk yf yl r).cs rfl (W.heap.size + 1) E1.out.2 ?_; intro W2 R2 B2 z2; have bb : Below W1.heap.size W1 W2 := (by rw [E1.out.2]; exact B2); have E2 := hidIt (E1.out.1.trans (B2.mono (by omega))); have c0 := ((P1.out.below bb).cel 0 _ rfl).1; have c1 := ((P1.out.below bb).cel 1 _ rfl).1; have c2 := ((P1.out.below bb).cel 2 _ rfl).1; have c3 := ((P1.out.below bb).cel 3 _ rfl).1; have c4 := ((P1.out.below bb).cel 4 _ rfl).1; have d0 := (R2.cel 0 _ rfl).1; have d1 := (R2.cel 1 _ rfl).1; have d2 := (R2.cel 2 _ rfl).1; have d3 := (R2.cel 3 _ rfl).1; have d4 := (R2.cel 4 _ rfl).1; clear R2 B2 z2 bb)
    | (go_at_call 57; have _q := q1; clear q1 _q; refine (same_txtR (HX.out.1.below E2.out) (HY.out.1.below E2.out)).mono ?_; rintro e w1 ⟨rfl, hw⟩; rw [hw]; clear hw)
    | (go_at_call 57; refine (same_txtR (HX.out.2.below E2.out) (HY.out.2.below E2.out)).mono ?_; rintro e w2 ⟨rfl, hw⟩; rw [hw]; clear hw))
  exact bodyPost_ret (v := .bool true) (by simp [results, Try.results39, go_sem]) rfl ⟨rfl, E2.out⟩
set_option maxRecDepth 100000 in
set_option maxHeartbeats 1000000 in
theorem sameRuns_eq {W : World} {a b : Option Addr} {ps qs : List RV} (n m C D : Nat) (hn : ps.length = n) (hm : qs.length = m) (hL : LsR W a ps) (hM : LsR W b qs) (hf : n ≤ 100000) (he : ps.map RV.r = qs.map RV.r) : Calls Try.prog 15 #[.slice a n C, .slice b m D] W fun e w' => e = .returned (.bool true) ∧ Below W.heap.size W w' := by
  obtain rfl : n = m := by have := congrArg List.length he; rw [List.length_map, List.length_map] at this; omega
  have HL := hidIt hL
  have HM := hidIt hM
  have HN := hidIt (And.intro hn (And.intro hm (And.intro hf he)))
  have st : Hid (Below W.heap.size W W) := hidIt (Below.refl _ _)
  have n0 : ((n : Int) == (n : Int)) = true := by simp
  clear hL hM hn hm hf he
  go_enter Try.func15, Try.ntmps15
  go_wp2_with fail
  go_loopw [5] (fun i wr => ∃ k : Nat, k ≤ n ∧ i = .int .i64 (k : Int) ∧ Hid (Below W.heap.size W wr)) (fun i _ => n - (RowKit.intOf i).toNat)
  case atStart => exact ⟨0, Nat.zero_le _, rfl, st⟩
  case round =>
    clear st n0
    obtain ⟨k, hk, rfl, BB⟩ := hrel
    by_cases hlt : k < n
    · obtain ⟨x, hx⟩ : ∃ x, ps[k]? = some x := ⟨_, List.getElem?_eq_getElem (by have := HN.out.1; omega)⟩
      obtain ⟨y, hy⟩ : ∃ y, qs[k]? = some y := ⟨_, List.getElem?_eq_getElem (by have := HN.out.2.1; omega)⟩
      obtain ⟨b1, o1, ha, hr1, l1⟩ := (HL.out.below BB.out).at k x hx
      obtain ⟨b2, o2, hb, hr2, l2⟩ := (HM.out.below BB.out).at k y hy
      subst ha hb
      rename World => wr
      have XY : Hid (x.r = y.r) := hidIt (by
        have := congrArg (fun l : List Rn => l[k]?) HN.out.2.2.2
        simp only [List.getElem?_map, hx, hy, Option.map_some] at this
        exact Option.some.inj this)
      have SP := hidIt (sameRun_eq (((HL.out.1 x (List.mem_of_getElem? hx)).below BB.out).below (Below.refl _ _).drew) (((HM.out.1 y (List.mem_of_getElem? hy)).below BB.out).below (Below.refl _ _).drew) XY.out)
      have LT := hidIt hlt
      obtain ⟨i0, i1, i2, i3, i4⟩ := tb_ar k n hlt HN.out.2.2.1
      have GO := hidIt i4
      clear hx hy hlt hk i4
      go_wp2_with fail
      refine wp_region_noPanic ?_
      refine wp_region_held_drew (S := fun w' => w'.rangeAt b1 (o1 + k * 5) x.cs ∧ w'.rangeAt b2 (o2 + k * 5) y.cs) (by kernel_rfl) ?_ (fun hHeld => ?_)
      · exact ⟨hr1, hr2⟩
      refine take_at (i := 0) (v := ?_) (some 17) rfl rfl (by kernel_rfl) (by kernel_rfl) (by kernel_rfl) (fun _ _ _ h => h) (Or.inl ⟨by rfl, ?_⟩) (by assumption) ?_
      rotate_left
      · (intro w hSw; (try dsimp only at hSw); go_simp; try with_reducible rfl)
      simp only [Act.put, List.setIfInBounds_toArray, List.set_cons_zero, List.set_cons_succ]
      refine take_at (i := 1) (v := ?_) (some 18) rfl rfl (by kernel_rfl) (by kernel_rfl) (by kernel_rfl) (fun _ _ _ h => h) (Or.inl ⟨by rfl, ?_⟩) (by assumption) ?_
      rotate_left
      · (intro w hSw; (try dsimp only at hSw); go_simp; try with_reducible rfl)
      simp only [Act.put, List.setIfInBounds_toArray, List.set_cons_zero, List.set_cons_succ]
      refine take_at (i := 2) (v := ?_) (some 19) rfl rfl (by kernel_rfl) (by kernel_rfl) (by kernel_rfl) (fun _ _ _ h => h) (Or.inl ⟨by rfl, ?_⟩) (by assumption) ?_
      rotate_left
      · (intro w hSw; (try dsimp only at hSw); go_simp; try with_reducible rfl)
      simp only [Act.put, List.setIfInBounds_toArray, List.set_cons_zero, List.set_cons_succ]
      refine take_at (i := 3) (v := _) (some 20) rfl rfl (by kernel_rfl) (by kernel_rfl) (by kernel_rfl) (fun _ _ _ h => h) (yieldsIf_load_mid (by rfl) _ _ rfl _ _ rfl _ _ (fun w h => h.1) Try.underlying45 rfl (by kernel_rfl)) (by assumption) ?_
      simp only [Act.put, List.setIfInBounds_toArray, List.set_cons_zero, List.set_cons_succ]
      refine take_at (i := 4) (v := ?_) (some 21) rfl rfl (by kernel_rfl) (by kernel_rfl) (by kernel_rfl) (fun _ _ _ h => h) (Or.inl ⟨by rfl, ?_⟩) (by assumption) ?_
      rotate_left
      · (intro w hSw; (try dsimp only at hSw); go_simp; try with_reducible rfl)
      simp only [Act.put, List.setIfInBounds_toArray, List.set_cons_zero, List.set_cons_succ]
      refine take_at (i := 5) (v := ?_) (some 22) rfl rfl (by kernel_rfl) (by kernel_rfl) (by kernel_rfl) (fun _ _ _ h => h) (Or.inl ⟨by rfl, ?_⟩) (by assumption) ?_
      rotate_left
      · (intro w hSw; (try dsimp only at hSw); go_simp; try with_reducible rfl)
      simp only [Act.put, List.setIfInBounds_toArray, List.set_cons_zero, List.set_cons_succ]
      refine take_at (i := 6) (v := ?_) (some 23) rfl rfl (by kernel_rfl) (by kernel_rfl) (by kernel_rfl) (fun _ _ _ h => h) (Or.inl ⟨by rfl, ?_⟩) (by assumption) ?_
      rotate_left
      · (intro w hSw; (try dsimp only at hSw); go_simp; try with_reducible rfl)
      simp only [Act.put, List.setIfInBounds_toArray, List.set_cons_zero, List.set_cons_succ]
      refine take_at (i := 7) (v := _) (some 24) rfl rfl (by kernel_rfl) (by kernel_rfl) (by kernel_rfl) (fun _ _ _ h => h) (yieldsIf_load_mid (by rfl) _ _ rfl _ _ rfl _ _ (fun w h => h.2) Try.underlying45 rfl (by kernel_rfl)) (by assumption) ?_
      simp only [Act.put, List.setIfInBounds_toArray, List.set_cons_zero, List.set_cons_succ]
      refine call_at (i := 8) (some 25) 39 _ _ rfl rfl rfl (by rfl) (by kernel_rfl) #[.agg x.cs.toArray, .agg y.cs.toArray] rfl Try.func39 (by kernel_rfl) (by kernel_rfl) ?_
      refine SP.out.mono ?_
      rintro e W2 ⟨rfl, hb2⟩
      have E2 := hidIt (BB.out.drew.trans (hb2.mono BB.out.size))
      refine ⟨_, rfl, ⟨fun j u hj => (hb2.cell (p := ⟨b1, o1 + k * 5 + j, none⟩) l1).trans (hr1 j u hj), fun j u hj => (hb2.cell (p := ⟨b2, o2 + k * 5 + j, none⟩) l2).trans (hr2 j u hj)⟩, fun hHeld => ?_⟩
      simp only [Act.put, List.setIfInBounds_toArray, List.set_cons_zero, List.set_cons_succ]
      clear hb2 hr1 hr2 l1 l2 SP
      refine take_at (i := 9) (v := ?_) (some 26) rfl rfl (by kernel_rfl) (by kernel_rfl) (by kernel_rfl) (fun _ _ _ h => h) (Or.inl ⟨by rfl, ?_⟩) (by assumption) ?_
      rotate_left
      · (intro w hSw; (try dsimp only at hSw); go_simp; try with_reducible rfl)
      simp only [Act.put, List.setIfInBounds_toArray, List.set_cons_zero, List.set_cons_succ]
      refine wpAnyH_done (by kernel_rfl) ?_ _
      refine NoPanic.normal ?_
      go_wp2_with fail
      exact ⟨⟨k + 1, LT.out, rfl, E2⟩, GO.out⟩
    · obtain rfl : k = n := by omega
      have i0 : ((k : Int) < (k : Int)) = False := eq_false (by omega)
      clear hk hlt
      go_wp2_with fail
      exact bodyPost_ret (v := .bool true) (by simp [results, Try.results15, go_sem]) rfl ⟨rfl, BB.out⟩
set_option maxRecDepth 100000 in
set_option maxHeartbeats 1000000 in
theorem sameLevels_eq {W : World} {A B : Option Addr} {ls ms : List LR} (n m C D : Nat) (hn : ls.length = n) (hm : ms.length = m) (hL : Lvs W A ls) (hM : Lvs W B ms) (hf : n ≤ 100000) (hs : ∀ x ∈ ls, x.rs.length ≤ 100000) (he : rns ls = rns ms) : Calls Try.prog 13 #[.slice A n C, .slice B m D] W fun e w' => e = .returned (.bool true) ∧ Below W.heap.size W w' := by
  obtain rfl : n = m := by have := congrArg List.length he; unfold rns at this; rw [List.length_map, List.length_map] at this; omega
  have HL := hidIt hL
  have HM := hidIt hM
  have HN := hidIt (And.intro hn (And.intro hm (And.intro hf (And.intro hs he))))
  have st : Hid (Below W.heap.size W W) := hidIt (Below.refl _ _)
  have n0 : ((n : Int) == (n : Int)) = true := by simp
  clear hL hM hn hm hf he hs
  go_enter Try.func13, Try.ntmps13
  go_wp2_with fail
  go_loopw [5] (fun i wr => ∃ k : Nat, k ≤ n ∧ i = .int .i64 (k : Int) ∧ Hid (Below W.heap.size W wr)) (fun i _ => n - (RowKit.intOf i).toNat)
  case atStart => exact ⟨0, Nat.zero_le _, rfl, st⟩
  case round =>
    clear st n0
    obtain ⟨k, hk, rfl, BB⟩ := hrel
    by_cases hlt : k < n
    · obtain ⟨x, hx⟩ : ∃ x, ls[k]? = some x := ⟨_, List.getElem?_eq_getElem (by have := HN.out.1; omega)⟩
      obtain ⟨y, hy⟩ : ∃ y, ms[k]? = some y := ⟨_, List.getElem?_eq_getElem (by have := HN.out.2.1; omega)⟩
      obtain ⟨b1, o1, ha, hr1, l1⟩ := (HL.out.below BB.out).at k x hx
      obtain ⟨b2, o2, hb, hr2, l2⟩ := (HM.out.below BB.out).at k y hy
      subst ha hb
      rename World => wr
      have XY : Hid (x.rs.map RV.r = y.rs.map RV.r) := hidIt (by
        have := congrArg (fun l : List (List Rn) => l[k]?) HN.out.2.2.2.2
        unfold rns at this
        simp only [List.getElem?_map, hx, hy, Option.map_some] at this
        exact Option.some.inj this)
      have SP := hidIt (sameRuns_eq x.rs.length y.rs.length x.c y.c rfl rfl (((HL.out.1 x (List.mem_of_getElem? hx)).1.below BB.out).below (Below.refl _ _).drew) (((HM.out.1 y (List.mem_of_getElem? hy)).1.below BB.out).below (Below.refl _ _).drew) (HN.out.2.2.2.1 x (List.mem_of_getElem? hx)) XY.out)
      have LT := hidIt hlt
      obtain ⟨i0, i1, i2, i3, i4⟩ := tb_ar k n hlt HN.out.2.2.1
      have GO := hidIt i4
      unfold LR.v at hr1 hr2
      clear hx hy hlt hk i4
      go_wp2_with fail
      refine wp_region_noPanic ?_
      refine wp_region_held_drew (S := fun w' => w'.cell? ⟨b1, o1 + k, none⟩ = some (.slice x.a x.rs.length x.c) ∧ w'.cell? ⟨b2, o2 + k, none⟩ = some (.slice y.a y.rs.length y.c)) (by kernel_rfl) ?_ (fun hHeld => ?_)
      · exact ⟨hr1, hr2⟩
      refine take_at (i := 0) (v := ?_) (some 17) rfl rfl (by kernel_rfl) (by kernel_rfl) (by kernel_rfl) (fun _ _ _ h => h) (Or.inl ⟨by rfl, ?_⟩) (by assumption) ?_
      rotate_left
      · (intro w hSw; (try dsimp only at hSw); go_simp; try with_reducible rfl)
      simp only [Act.put, List.setIfInBounds_toArray, List.set_cons_zero, List.set_cons_succ]
      refine take_at (i := 1) (v := ?_) (some 18) rfl rfl (by kernel_rfl) (by kernel_rfl) (by kernel_rfl) (fun _ _ _ h => h) (Or.inl ⟨by rfl, ?_⟩) (by assumption) ?_
      rotate_left
      · (intro w hSw; (try dsimp only at hSw); go_simp; try with_reducible rfl)
      simp only [Act.put, List.setIfInBounds_toArray, List.set_cons_zero, List.set_cons_succ]
      refine take_at (i := 2) (v := ?_) (some 19) rfl rfl (by kernel_rfl) (by kernel_rfl) (by kernel_rfl) (fun _ _ _ h => h) (Or.inl ⟨by rfl, ?_⟩) (by assumption) ?_
      rotate_left
      · (intro w hSw; (try dsimp only at hSw); go_simp; try with_reducible rfl)
      simp only [Act.put, List.setIfInBounds_toArray, List.set_cons_zero, List.set_cons_succ]
      refine take_at (i := 3) (v := ?_) (some 20) rfl rfl (by kernel_rfl) (by kernel_rfl) (by kernel_rfl) (fun _ _ _ h => h) (Or.inl ⟨by rfl, ?_⟩) (by assumption) ?_
      rotate_left
      · (intro w hSw; (try dsimp only at hSw); go_simp; try with_reducible rfl)
      simp only [Act.put, List.setIfInBounds_toArray, List.set_cons_zero, List.set_cons_succ]
      refine take_at (i := 4) (v := ?_) (some 21) rfl rfl (by kernel_rfl) (by kernel_rfl) (by kernel_rfl) (fun _ _ _ h => h) (Or.inl ⟨by rfl, ?_⟩) (by assumption) ?_
      rotate_left
      · (intro w hSw; (try dsimp only at hSw); go_simp; try with_reducible rfl)
      simp only [Act.put, List.setIfInBounds_toArray, List.set_cons_zero, List.set_cons_succ]
      refine take_at (i := 5) (v := ?_) (some 22) rfl rfl (by kernel_rfl) (by kernel_rfl) (by kernel_rfl) (fun _ _ _ h => h) (Or.inl ⟨by rfl, ?_⟩) (by assumption) ?_
      rotate_left
      · (intro w hSw; (try dsimp only at hSw); go_simp; try with_reducible rfl)
      simp only [Act.put, List.setIfInBounds_toArray, List.set_cons_zero, List.set_cons_succ]
      refine take_at (i := 6) (v := ?_) (some 23) rfl rfl (by kernel_rfl) (by kernel_rfl) (by kernel_rfl) (fun _ _ _ h => h) (Or.inl ⟨by rfl, ?_⟩) (by assumption) ?_
      rotate_left
      · (intro w hSw; (try dsimp only at hSw); go_simp; try with_reducible rfl)
      simp only [Act.put, List.setIfInBounds_toArray, List.set_cons_zero, List.set_cons_succ]
      refine take_at (i := 7) (v := ?_) (some 24) rfl rfl (by kernel_rfl) (by kernel_rfl) (by kernel_rfl) (fun _ _ _ h => h) (Or.inl ⟨by rfl, ?_⟩) (by assumption) ?_
      rotate_left
      · (intro w hSw; (try dsimp only at hSw); go_simp; try with_reducible rfl)
      simp only [Act.put, List.setIfInBounds_toArray, List.set_cons_zero, List.set_cons_succ]
      refine call_at (i := 8) (some 25) 15 _ _ rfl rfl rfl (by rfl) (by kernel_rfl) #[.slice x.a x.rs.length x.c, .slice y.a y.rs.length y.c] rfl Try.func15 (by kernel_rfl) (by kernel_rfl) ?_
      refine SP.out.mono ?_
      rintro e W2 ⟨rfl, hb2⟩
      have E2 := hidIt (BB.out.drew.trans (hb2.mono BB.out.size))
      refine ⟨_, rfl, ⟨(hb2.cell (p := ⟨b1, o1 + k, none⟩) l1).trans hr1, (hb2.cell (p := ⟨b2, o2 + k, none⟩) l2).trans hr2⟩, fun hHeld => ?_⟩
      simp only [Act.put, List.setIfInBounds_toArray, List.set_cons_zero, List.set_cons_succ]
      clear hb2 hr1 hr2 l1 l2 SP
      refine take_at (i := 9) (v := ?_) (some 26) rfl rfl (by kernel_rfl) (by kernel_rfl) (by kernel_rfl) (fun _ _ _ h => h) (Or.inl ⟨by rfl, ?_⟩) (by assumption) ?_
      rotate_left
      · (intro w hSw; (try dsimp only at hSw); go_simp; try with_reducible rfl)
      simp only [Act.put, List.setIfInBounds_toArray, List.set_cons_zero, List.set_cons_succ]
      refine wpAnyH_done (by kernel_rfl) ?_ _
      refine NoPanic.normal ?_
      go_wp2_with fail
      exact ⟨⟨k + 1, LT.out, rfl, E2⟩, GO.out⟩
    · obtain rfl : k = n := by omega
      have i0 : ((k : Int) < (k : Int)) = False := eq_false (by omega)
      clear hk hlt
      go_wp2_with fail
      exact bodyPost_ret (v := .bool true) (by simp [results, Try.results13, go_sem]) rfl ⟨rfl, BB.out⟩
end Go.Proofs.Ytelcijfcgflagaa
