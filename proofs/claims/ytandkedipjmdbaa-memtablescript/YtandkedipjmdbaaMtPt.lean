/-
  Walks, not a claim by itself: MemtableParts' function. By the verifier.
-/
import Derived.Test.YtandkedipjmdbaaMtKn
import Derived.Test.YtandkedipjmdbaaMtLrg
namespace Go.Proofs.Ytandkedipjmdbaa
open Go.RowKit
attribute [-go_sem] Builtin.append_
/-- A slice literal of nothing. -/
theorem bs0_run {a : Act} {w : World} {o : Oper} (ho : o.op = .buildSlice 27 0 #[]) : (execOp a.eval o).run Try.prog w = .ok (.value (.slice (some ⟨w.heap.size, 0, none⟩) 0 0)) (w.alloc (.cells #[] 47)) := by
  obtain ⟨i0, hi, _, _, _⟩ := info_parts info_pair
  unfold execOp
  simp only [ho]
  simp [Instr.buildSlice, run_underlying under_pairs, sizeOf, typeInfo, hi, newRow, Instr.fill, Result.andThen]
  congr 2
  exact Array.eq_empty_of_size_eq_zero (by simp)
/-- append of pairs, of none, too. -/
theorem app_any (ty : TypeId) (W : World) (v : Value) (ps qs : List PV) (a : Option Addr) (C : Nat) (ho : OwnP W 0 v ps) (hq : Lst W a qs) (hm : ps.length + qs.length ≤ 100000) :
    ∃ v' W', (Builtin.append_ #[27, 27] ty #[v, .slice a qs.length C]).run Try.prog W = .ok v' W' ∧ Insd W v (ps ++ qs) v' W' := by
  by_cases h0 : qs = []
  · subst h0
    obtain ⟨i0, hi, hz0, hz1, hz2⟩ := info_parts info_pair
    refine ⟨v, W, ?_, ⟨by rw [List.append_nil]; exact ho, Off.refl _ _, fun _ h => .inl h⟩⟩
    rcases ho.form with ⟨rfl, rfl⟩ | ⟨g, cap, rfl, _, hc, _⟩
    · cases a <;> simp [Builtin.append_, run_underlying under_pairs, sizeOf, typeInfo, hi, Builtin.lenOf, Builtin.firstCells, loadCells, loadCellsFrom]
    · cases a <;> simp [Builtin.append_, run_underlying under_pairs, sizeOf, typeInfo, hi, Builtin.lenOf, Builtin.firstCells, loadCells, loadCellsFrom, hc, storeCells]
  · obtain ⟨b, off, rfl, hr, _⟩ := hq.2 h0
    exact app_pairs ty W v ps qs ⟨b, off, none⟩ C ho (fun j u hj => by rw [Addr.add_mid]; exact hr j u hj) (pcs_one hq.1) (by cases qs with | nil => exact absurd rfl h0 | cons x r => simp) hm
theorem own_empty (W : World) : OwnP (W.alloc (.cells #[] 47)) 0 (.slice (some ⟨W.heap.size, 0, none⟩) 0 0) [] := World.ownsRow_lit (e := 47) (size := 3) (base := 0) W #[] 0 (Nat.zero_le _) (by unfold maxLen; omega) (by simp)
/-- What holds at the head of the loop. -/
structure PtR (W1 : World) (t : Nat) (wr : World) (v : Value) (qs : List PV) : Prop where
  tab : Tab wr t v qs
  new : ∀ g, v.ownBlock = some g → W1.heap.size ≤ g
  below : Below W1.heap.size W1 wr
theorem parts_map (l : List Pr) (f m b : ByteArray) (hs : Srt l) (g1 : (0 < cmpB f m) = False) (g2 : (0 < cmpB m b) = False) (h3 : m.size ≠ 0) : btwL l f m ++ btwL l m b = btwL l f b := by
  have g1 := of_eq_false g1
  have g2 := of_eq_false g2
  rw [btw_eq l f m hs, btw_eq l m b hs, btw_eq l f b hs]
  refine btw_parts l f m b hs (by omega) (by omega) h3 (fun h => ?_)
  have g3 := c_empty m b h
  have z : cmpB m b = 0 := by omega
  have := (c_zero m b).1 z
  exact h3 (by rw [this]; exact h)
theorem gt_run (x y : ByteArray) (w : World) : (binOp .gtr 9 (.string x) (.string y)).run Try.prog w = .ok (.bool (decide (0 < cmpB x y))) w := by
  have e : (!Op.bytesLess x.toList y.toList && !(x.toList == y.toList)) = decide (0 < cmpB x y) := by
    rw [less_is, bytes_beq]
    by_cases h1 : cmpB x y < 0
    · simp [h1]; omega
    · by_cases h2 : x = y
      · subst h2; simp [c_self]
      · have : ¬ cmpB x y = 0 := fun q => h2 ((c_zero x y).1 q)
        have h3 : 0 < cmpB x y := by omega
        simp [h1, h2, h3]
  rw [← e]
  simp [binOp, Op.stringOp]
theorem conv_of {W : World} {N : List Nat} {a : Option Addr} {n C : Nat} {t : ByteArray} (h : Txt W N (.slice a n C) t) : (convert 33 9 (.slice a n C)).run Try.prog W = .ok (.string t) W := by
  obtain ⟨a', C', f, hs, hA, ht, _⟩ := h
  injection hs with h1 h2 h3
  subst h1 h2 h3
  have := conv_arg W a t.size C f hA
  rwa [ht] at this
theorem btwL_few (l : List Pr) (f b : ByteArray) : (btwL l f b).length ≤ l.length := by
  unfold btwL
  have : ((l.drop (pos l f)).takeWhile fun p => blw p.k b).length ≤ (l.drop (pos l f)).length := (List.takeWhile_sublist _).length_le
  rw [List.length_drop] at this
  omega
theorem os_few {os qs : List PV} {f b : ByteArray} (h : os.map PV.p = btwL (qs.map PV.p) f b) (hq : qs.length ≤ 64) : os.length ≤ 64 := by
  have := congrArg List.length h
  have := btwL_few (qs.map PV.p) f b
  simp at *
  omega
theorem ins_low {Y W5 : World} {H : Nat} {v5 : Value} {ps : List PV} (h : Insd Y (.slice (some ⟨H, 0, none⟩) 0 0) ps v5 W5) (hH : H ≤ Y.heap.size) : ∀ b, b ∈ v5.ownBlock.toList → H ≤ b := fun b hb => by
  cases e : v5.ownBlock with
  | none => rw [e] at hb; cases hb
  | some g =>
    rw [e] at hb
    simp at hb
    subst hb
    rcases h.blk _ e with q | q
    · injection q with q; exact Nat.le_of_eq q
    · omega
theorem cat_lst {W6 : World} {v6 : Value} {os1 os2 : List PV} {a6 la1 la2 : Option Addr} {k c6 : Nat} (h : OwnP W6 0 v6 ([] ++ os1 ++ os2)) (hv : v6 = .slice a6 k c6) (h1 : Lst W6 la1 os1) (h2 : Lst W6 la2 os2) : Lst W6 a6 (os1 ++ os2) := by
  subst hv
  rw [List.nil_append] at h
  refine OwnP.lst h (fun x hx => ?_)
  rcases List.mem_append.1 hx with hx | hx
  · exact h1.1 x hx
  · exact h2.1 x hx
set_option maxRecDepth 100000 in
set_option maxHeartbeats 8000000 in
theorem parts_any (W : World) (a : Option Addr) (ps : List PV) (n C : Nat) (hn : ps.length = n) (hL : Lst W a ps) (fa ma ta : Option Addr) (n1 n2 n3 fC mC tC : Nat) (f m b : ByteArray) (hz : n1 = f.size ∧ n2 = m.size ∧ n3 = b.size) (hf : Txt W [] (.slice fa n1 fC) f) (hm : Txt W [] (.slice ma n2 mC) m) (ht : Txt W [] (.slice ta n3 tC) b) :
    Calls Try.prog 8 #[.slice a n C, .slice fa n1 fC, .slice ma n2 mC, .slice ta n3 tC] W fun e w' => e = .returned (.bool true) ∧ Below W.heap.size W w' := by
  have HL := hidIt hL
  have HN := hidIt hn
  have HF := hidIt hf
  have HM := hidIt hm
  have HT := hidIt ht
  have SZ := hidIt hz
  clear hL hn hf hm ht hz
  go_enter Try.func8, Try.ntmps8
  go_wp2_with (first
    | (go_at_call 6; refine (known_any W).mono ?_; rintro e W1 ⟨rfl, hb⟩; have G1 := hidIt hb; have cf := conv_of (HF.out.below hb); have cm := conv_of (HM.out.below hb); have ct := conv_of (HT.out.below hb); clear hb)
    | (go_at_call 16; refine (large_any n C HN.out (HL.out.below G1.out)).mono ?_; rintro e w2 ⟨lb, rfl, hw, hI⟩; rw [hw]; have LB := hidIt hI; clear hw hI; refine Held.out ?_))
  have gt1 := gt_run f m W1
  have gt2 := gt_run m b W1
  refine Held.mk ?_
  cases lb with
  | true =>
    go_wp2_with fail
    exact bodyPost_ret (v := .bool true) (by simp [results, Try.results8, go_sem]) rfl ⟨rfl, G1.out⟩
  | false =>
    by_cases h0 : 300 < (n1 : Int)
    · have c0 : (300 < (n1 : Int)) = True := eq_true h0
      clear h0
      go_wp2_with fail
      exact bodyPost_ret (v := .bool true) (by simp [results, Try.results8, go_sem]) rfl ⟨rfl, G1.out⟩
    · have c0 : (300 < (n1 : Int)) = False := eq_false h0
      clear h0
      by_cases h1 : 300 < (n2 : Int)
      · have c1 : (300 < (n2 : Int)) = True := eq_true h1
        clear h1
        go_wp2_with fail
        exact bodyPost_ret (v := .bool true) (by simp [results, Try.results8, go_sem]) rfl ⟨rfl, G1.out⟩
      · have c1 : (300 < (n2 : Int)) = False := eq_false h1
        clear h1
        by_cases h2 : 300 < (n3 : Int)
        · have c2 : (300 < (n3 : Int)) = True := eq_true h2
          clear h2
          go_wp2_with fail
          exact bodyPost_ret (v := .bool true) (by simp [results, Try.results8, go_sem]) rfl ⟨rfl, G1.out⟩
        · have c2 : (300 < (n3 : Int)) = False := eq_false h2
          clear h2
          by_cases h3 : 0 < cmpB f m
          · have c3 : (0 < cmpB f m) = True := eq_true h3
            clear h3
            go_wp2_with fail
            exact bodyPost_ret (v := .bool true) (by simp [results, Try.results8, go_sem]) rfl ⟨rfl, G1.out⟩
          · have c3 : (0 < cmpB f m) = False := eq_false h3
            clear h3
            by_cases h4 : 0 < cmpB m b
            · have c4 : (0 < cmpB m b) = True := eq_true h4
              clear h4
              go_wp2_with fail
              exact bodyPost_ret (v := .bool true) (by simp [results, Try.results8, go_sem]) rfl ⟨rfl, G1.out⟩
            · have c4 : (0 < cmpB m b) = False := eq_false h4
              clear h4
              by_cases h5 : (n2 : Int) = 0
              · have c5 : ((n2 : Int) == 0) = true := by simpa using h5
                clear h5
                go_wp2_with fail
                exact bodyPost_ret (v := .bool true) (by simp [results, Try.results8, go_sem]) rfl ⟨rfl, G1.out⟩
              · have c5 : ((n2 : Int) == 0) = false := by simpa using h5
                clear h5
                have PM := hidIt (And.intro c3 (And.intro c4 (show m.size ≠ 0 by rw [← SZ.out.2.1]; intro q; rw [q] at c5; simp at c5)))
                go_wp2_with (go_at_call 9; refine (tnew_any W1).mono ?_; rintro e W2 ⟨rfl, h1, h2⟩; have T2 := hidIt h1; have B2 := hidIt h2; clear h1 h2)
                have st : Hid (PtR W1 W1.heap.size W2 (.slice none 0 0) []) := hidIt ⟨T2.out, fun g hg => (by cases hg), B2.out⟩
                have N100 := hidIt (LB.out trivial)
                clear c0 c1 c2 c3 c4 c5 cf cm ct gt1 gt2 T2 B2 LB
                go_loopw [11] (fun i wr => ∃ (k : Nat) (v : Value) (qs : List PV), k ≤ n ∧ i = .int .i64 (k : Int) ∧ Hid (PtR W1 W1.heap.size wr v qs)) (fun i _ => n - (RowKit.intOf i).toNat)
                case atStart => exact ⟨0, _, _, Nat.zero_le _, rfl, st⟩
                case round =>
                  clear st
                  obtain ⟨k, v, qs, hk, rfl, hR⟩ := hrel
                  by_cases hlt : k < n
                  · obtain ⟨x, hx⟩ : ∃ x, ps[k]? = some x := ⟨_, List.getElem?_eq_getElem (by have := HN.out; omega)⟩
                    obtain ⟨bl, o1, ha, hr1, l1⟩ := (HL.out.below G1.out).at k x hx
                    subst ha
                    have CE : Hid (∀ U, Below W1.heap.size W1 U → U.cell? ⟨bl, o1 + k * 3, none⟩ = some x.k ∧ U.cell? ⟨bl, o1 + k * 3 + 1, none⟩ = some x.v) := hidIt (fun U hU => ⟨(hU.cell (p := ⟨bl, o1 + k * 3, none⟩) l1).trans (three_cells hr1).1, (hU.cell (p := ⟨bl, o1 + k * 3 + 1, none⟩) l1).trans (three_cells hr1).2.1⟩)
                    have OK := hidIt (((HL.out.1 x (List.mem_of_getElem? hx)).below G1.out).below hR.out.below.drew)
                    have PT := hidIt (tput_ok (hR.out.tab.below (Below.refl _ _).drew) OK.out.1 OK.out.2)
                    have LT := hidIt hlt
                    obtain ⟨i0, i1, i2, i3⟩ := k_ar k n hlt (by have := N100.out.1; have := HN.out; omega)
                    clear hx hr1 l1 hlt hk OK
                    go_wp2_with fail
                    refine wp_region_noPanic ?_
                    refine wp_region_held_drew (S := fun w' => w'.cell? ⟨bl, o1 + k * 3, none⟩ = some x.k ∧ w'.cell? ⟨bl, o1 + k * 3 + 1, none⟩ = some x.v) (by kernel_rfl) ?_ (fun hHeld => ?_)
                    · exact CE.out _ hR.out.below.drew
                    refine take_at (i := 0) (v := ?_) (some 60) rfl rfl (by kernel_rfl) (by kernel_rfl) (by kernel_rfl) (fun _ _ _ h => h) (Or.inl ⟨by rfl, ?_⟩) (by assumption) ?_
                    rotate_left
                    · (intro w hSw; (try dsimp only at hSw); go_simp; try with_reducible rfl)
                    simp only [Act.put, List.setIfInBounds_toArray, List.set_cons_zero, List.set_cons_succ]
                    refine take_at (i := 1) (v := ?_) (some 61) rfl rfl (by kernel_rfl) (by kernel_rfl) (by kernel_rfl) (fun _ _ _ h => h) (Or.inl ⟨by rfl, ?_⟩) (by assumption) ?_
                    rotate_left
                    · (intro w hSw; (try dsimp only at hSw); go_simp; try with_reducible rfl)
                    simp only [Act.put, List.setIfInBounds_toArray, List.set_cons_zero, List.set_cons_succ]
                    refine take_at (i := 2) (v := ?_) (some 62) rfl rfl (by kernel_rfl) (by kernel_rfl) (by kernel_rfl) (fun _ _ _ h => h) (Or.inl ⟨by rfl, ?_⟩) (by assumption) ?_
                    rotate_left
                    · (intro w hSw; (try dsimp only at hSw); go_simp; try with_reducible rfl)
                    simp only [Act.put, List.setIfInBounds_toArray, List.set_cons_zero, List.set_cons_succ]
                    refine take_at (i := 3) (v := ?_) (some 63) rfl rfl (by kernel_rfl) (by kernel_rfl) (by kernel_rfl) (fun _ _ _ h => h) (Or.inl ⟨by rfl, ?_⟩) (by assumption) ?_
                    rotate_left
                    · (intro w hSw; (try dsimp only at hSw); go_simp; try with_reducible rfl)
                    simp only [Act.put, List.setIfInBounds_toArray, List.set_cons_zero, List.set_cons_succ]
                    refine take_at (i := 4) (v := ?_) (some 64) rfl rfl (by kernel_rfl) (by kernel_rfl) (by kernel_rfl) (fun _ _ _ h => h) (Or.inl ⟨by rfl, ?_⟩) (by assumption) ?_
                    rotate_left
                    · (intro w hSw; (try dsimp only at hSw); go_simp; try with_reducible rfl)
                    simp only [Act.put, List.setIfInBounds_toArray, List.set_cons_zero, List.set_cons_succ]
                    refine take_at (i := 5) (v := ?_) (some 65) rfl rfl (by kernel_rfl) (by kernel_rfl) (by kernel_rfl) (fun _ _ _ h => h) (Or.inl ⟨by rfl, ?_⟩) (by assumption) ?_
                    rotate_left
                    · (intro w hSw; (try dsimp only at hSw); go_simp; try with_reducible rfl)
                    simp only [Act.put, List.setIfInBounds_toArray, List.set_cons_zero, List.set_cons_succ]
                    refine take_at (i := 6) (v := ?_) (some 66) rfl rfl (by kernel_rfl) (by kernel_rfl) (by kernel_rfl) (fun _ _ _ h => h) (Or.inl ⟨by rfl, ?_⟩) (by assumption) ?_
                    rotate_left
                    · (intro w hSw; (try dsimp only at hSw); go_simp; try with_reducible rfl)
                    simp only [Act.put, List.setIfInBounds_toArray, List.set_cons_zero, List.set_cons_succ]
                    refine take_at (i := 7) (v := ?_) (some 67) rfl rfl (by kernel_rfl) (by kernel_rfl) (by kernel_rfl) (fun _ _ _ h => h) (Or.inl ⟨by rfl, ?_⟩) (by assumption) ?_
                    rotate_left
                    · (intro w hSw; (try dsimp only at hSw); go_simp; try with_reducible rfl)
                    simp only [Act.put, List.setIfInBounds_toArray, List.set_cons_zero, List.set_cons_succ]
                    refine take_at (i := 8) (v := ?_) (some 68) rfl rfl (by kernel_rfl) (by kernel_rfl) (by kernel_rfl) (fun _ _ _ h => h) (Or.inl ⟨by rfl, ?_⟩) (by assumption) ?_
                    rotate_left
                    · (intro w hSw; (try dsimp only at hSw); go_simp; try with_reducible rfl)
                    simp only [Act.put, List.setIfInBounds_toArray, List.set_cons_zero, List.set_cons_succ]
                    refine take_at (i := 9) (v := ?_) (some 69) rfl rfl (by kernel_rfl) (by kernel_rfl) (by kernel_rfl) (fun _ _ _ h => h) (Or.inl ⟨by rfl, ?_⟩) (by assumption) ?_
                    rotate_left
                    · (intro w hSw; (try dsimp only at hSw); go_simp; try with_reducible rfl)
                    simp only [Act.put, List.setIfInBounds_toArray, List.set_cons_zero, List.set_cons_succ]
                    refine take_at (i := 10) (v := ?_) (some 70) rfl rfl (by kernel_rfl) (by kernel_rfl) (by kernel_rfl) (fun _ _ _ h => h) (Or.inl ⟨by rfl, ?_⟩) (by assumption) ?_
                    rotate_left
                    · (intro w hSw; (try dsimp only at hSw); go_simp; try with_reducible rfl)
                    simp only [Act.put, List.setIfInBounds_toArray, List.set_cons_zero, List.set_cons_succ]
                    refine call_at (i := 11) (some 71) 24 _ _ rfl rfl rfl (by rfl) (by kernel_rfl) #[.pointer (some ⟨W1.heap.size, 0, none⟩), x.k, x.v] rfl Try.func24 (by kernel_rfl) (by kernel_rfl) ?_
                    refine PT.out.mono ?_
                    rintro e W4 ⟨v', qs', rfl, h1, h2, h3, h4⟩
                    have hB4 : Below W1.heap.size W1 W4 := hR.out.below.drew.trans (h3.below (tab_new hR.out.new) hR.out.below.size)
                    have NX : Hid (PtR W1 W1.heap.size W4 v' qs') := hidIt ⟨h1, fun g hg => by rcases h4.1 g hg with q | q; exact hR.out.new g q; exact Nat.le_trans hR.out.below.size q, hB4⟩
                    refine ⟨_, rfl, CE.out W4 hB4, fun hHeld => ?_⟩
                    simp only [Act.put, List.setIfInBounds_toArray, List.set_cons_zero, List.set_cons_succ]
                    clear hB4 h1 h2 h3 h4 hHeld PT CE hR
                    refine wpAnyH_done (by kernel_rfl) ?_ _
                    refine NoPanic.normal ?_
                    go_wp2_with fail
                    exact ⟨⟨k + 1, v', qs', LT.out, rfl, NX⟩, meas_k n k _ rfl LT.out⟩
                  · have i0 : ((k : Int) < (n : Int)) = False := eq_false (by omega)
                    obtain ⟨Z, hZ⟩ : ∃ Z, Z = wr := ⟨_, rfl⟩
                    subst hZ
                    have TT := hidIt hR.out.tab
                    have G := hidIt (G1.out.trans (hR.out.below.mono G1.out.size))
                    have F1 := hidIt (HF.out.below G.out)
                    have M1 := hidIt (HM.out.below G.out)
                    have O1 := hidIt (HT.out.below G.out)
                    have HQ : Hid (qs.length ≤ 64 ∧ btwL (qs.map PV.p) f m ++ btwL (qs.map PV.p) m b = btwL (qs.map PV.p) f b) := hidIt ⟨hR.out.tab.few, parts_map _ f m b hR.out.tab.srt PM.out.1 PM.out.2.1 PM.out.2.2⟩
                    have na : Hid True := trivial
                    have nb : Hid True := trivial
                    have nc : Hid True := trivial
                    have sa : Hid True := trivial
                    clear hlt hk hR PM N100
                    go_wp2_with (first
                      | (go_at_call 26; have _q := na; clear na _q; refine (btw_any TT.out F1.out M1.out).mono ?_; rintro e Z ⟨lv, os1, rfl, h1, h2, h3, h4, hb⟩; obtain ⟨la1, lc1, rfl, hL⟩ := BtwPost.lst h1 (fun x hx => (h3 x hx).2); replace TT := hidIt (TT.out.below hb); replace G := hidIt (G.out.trans (hb.mono G.out.size)); replace F1 := hidIt (F1.out.below hb); replace M1 := hidIt (M1.out.below hb); replace O1 := hidIt (O1.out.below hb); (try replace L1 := hidIt (L1.out.below hb)); (try replace L2 := hidIt (L2.out.below hb)); (try replace L3 := hidIt (L3.out.below hb)); (try replace L4 := hidIt (L4.out.below hb)); have L1 := hidIt hL; have LM1 := hidIt h4; have LN1 := hidIt (os_few h4 HQ.out.1); clear h1 h2 h3 h4 hb hL)
                      | (go_at_call 26; have _q := nb; clear nb _q; refine (btw_any TT.out M1.out O1.out).mono ?_; rintro e Z ⟨lv, os2, rfl, h1, h2, h3, h4, hb⟩; obtain ⟨la2, lc2, rfl, hL⟩ := BtwPost.lst h1 (fun x hx => (h3 x hx).2); replace TT := hidIt (TT.out.below hb); replace G := hidIt (G.out.trans (hb.mono G.out.size)); replace F1 := hidIt (F1.out.below hb); replace M1 := hidIt (M1.out.below hb); replace O1 := hidIt (O1.out.below hb); (try replace L1 := hidIt (L1.out.below hb)); (try replace L2 := hidIt (L2.out.below hb)); (try replace L3 := hidIt (L3.out.below hb)); (try replace L4 := hidIt (L4.out.below hb)); have L2 := hidIt hL; have LM2 := hidIt h4; have LN2 := hidIt (os_few h4 HQ.out.1); clear h1 h2 h3 h4 hb hL)
                      | (go_at_call 26; have _q := nc; clear nc _q; refine (btw_any TT.out F1.out O1.out).mono ?_; rintro e Z ⟨lv, os3, rfl, h1, h2, h3, h4, hb⟩; obtain ⟨la3, lc3, rfl, hL⟩ := BtwPost.lst h1 (fun x hx => (h3 x hx).2); replace TT := hidIt (TT.out.below hb); replace G := hidIt (G.out.trans (hb.mono G.out.size)); replace F1 := hidIt (F1.out.below hb); replace M1 := hidIt (M1.out.below hb); replace O1 := hidIt (O1.out.below hb); (try replace L1 := hidIt (L1.out.below hb)); (try replace L2 := hidIt (L2.out.below hb)); (try replace L3 := hidIt (L3.out.below hb)); (try replace L4 := hidIt (L4.out.below hb)); have L3 := hidIt hL; have LM3 := hidIt h4; have LN3 := hidIt (os_few h4 HQ.out.1); clear h1 h2 h3 h4 hb hL))
                    obtain ⟨Y, hY⟩ : ∃ Y, Y = Z.alloc (.cells #[] 47) := ⟨_, rfl⟩
                    have hZY : Below Z.heap.size Z Y := by rw [hY]; exact (Below.refl _ _).alloc (Nat.le_refl _) _
                    have OW : OwnP Y 0 (.slice (some ⟨Z.heap.size, 0, none⟩) 0 0) [] := by rw [hY]; exact own_empty Z
                    obtain ⟨v5, W5, hr5, I5⟩ := app_any 27 Y _ [] os1 la1 lc1 OW (L1.out.below hZY) (by have := LN1.out; simp; omega)
                    have hZ5 : Below Z.heap.size Z W5 := hZY.trans (I5.off.below (by simp [Value.ownBlock]) hZY.size)
                    obtain ⟨v6, W6, hr6, I6⟩ := app_any 27 W5 v5 _ os2 la2 lc2 I5.own (L2.out.below hZ5) (by have := LN1.out; have := LN2.out; simp; omega)
                    have hb : Below Z.heap.size Z W6 := hZ5.trans (I6.off.below (ins_low I5 hZY.size) hZ5.size)
                    obtain ⟨a6, c6, hv6, _⟩ := I6.own.slice
                    have L12 : Hid (Lst W6 a6 (os1 ++ os2)) := hidIt (cat_lst I6.own hv6 (L1.out.below hb) (L2.out.below hb))
                    simp only [List.nil_append] at hv6
                    subst hv6
                    replace TT := hidIt (TT.out.below hb)
                    replace G := hidIt (G.out.trans (hb.mono G.out.size))
                    replace F1 := hidIt (F1.out.below hb)
                    replace M1 := hidIt (M1.out.below hb)
                    replace O1 := hidIt (O1.out.below hb)
                    replace L3 := hidIt (L3.out.below hb)
                    rw [← hY, hr5]
                    clear hY hZY OW I5 hZ5 I6 hb L1 L2 hr5
                    simp only [Result.andThen]
                    rw [Oper.upon_value]
                    go_wp2_with fail
                    clear hr6 sa
                    (refine (samePairs_any (os1.length + os2.length) os3.length _ _ (by simp) rfl L12.out L3.out (by have := LN1.out; have := LN2.out; omega)).mono ?_; rintro e Z ⟨h1, hb⟩; have h2 : e = .returned (.bool true) := (by rw [h1, decide_eq_true (show (os1 ++ os2).map PV.p = os3.map PV.p by rw [List.map_append, LM1.out, LM2.out, LM3.out]; exact HQ.out.2)]); subst h2; clear h1 L12; replace TT := hidIt (TT.out.below hb); replace G := hidIt (G.out.trans (hb.mono G.out.size)); replace F1 := hidIt (F1.out.below hb); replace M1 := hidIt (M1.out.below hb); replace O1 := hidIt (O1.out.below hb); (try replace L1 := hidIt (L1.out.below hb)); (try replace L2 := hidIt (L2.out.below hb)); (try replace L3 := hidIt (L3.out.below hb)); (try replace L4 := hidIt (L4.out.below hb)); clear hb)
                    go_wp2_with (first
                      | (go_at_call 14; refine (samePairs_any os4.length os5.length _ _ rfl rfl L4.out L5.out (by have := LN4.out; omega)).mono ?_; rintro e Z ⟨h1, hb⟩; have h2 : e = .returned (.bool true) := (by rw [h1, decide_eq_true (show os4.map PV.p = os5.map PV.p by rw [LM4.out, LM5.out])]); subst h2; clear h1; replace TT := hidIt (TT.out.below hb); replace G := hidIt (G.out.trans (hb.mono G.out.size)); replace F1 := hidIt (F1.out.below hb); replace M1 := hidIt (M1.out.below hb); replace O1 := hidIt (O1.out.below hb); (try replace L1 := hidIt (L1.out.below hb)); (try replace L2 := hidIt (L2.out.below hb)); (try replace L3 := hidIt (L3.out.below hb)); (try replace L4 := hidIt (L4.out.below hb)); clear hb)
                      | (go_at_call 26; refine (btw_any TT.out (Txt.nil _ [] 0) (Txt.nil _ [] 0)).mono ?_; rintro e Z ⟨lv, os4, rfl, h1, h2, h3, h4, hb⟩; obtain ⟨la4, lc4, rfl, hL⟩ := BtwPost.lst h1 (fun x hx => (h3 x hx).2); replace TT := hidIt (TT.out.below hb); replace G := hidIt (G.out.trans (hb.mono G.out.size)); replace F1 := hidIt (F1.out.below hb); replace M1 := hidIt (M1.out.below hb); replace O1 := hidIt (O1.out.below hb); (try replace L1 := hidIt (L1.out.below hb)); (try replace L2 := hidIt (L2.out.below hb)); (try replace L3 := hidIt (L3.out.below hb)); (try replace L4 := hidIt (L4.out.below hb)); have L4 := hidIt hL; have LM4 := hidIt h4; have LN4 := hidIt (os_few h4 HQ.out.1); clear h1 h2 h3 h4 hb hL)
                      | (go_at_call 11; refine (tall_ok TT.out).mono ?_; rintro e Z ⟨lv, os5, rfl, h1, h2, h3, h4, hb⟩; obtain ⟨la5, lc5, rfl, hL⟩ := BtwPost.lst h1 (fun x hx => (h3 x hx).2); replace TT := hidIt (TT.out.below hb); replace G := hidIt (G.out.trans (hb.mono G.out.size)); replace F1 := hidIt (F1.out.below hb); replace M1 := hidIt (M1.out.below hb); replace O1 := hidIt (O1.out.below hb); (try replace L1 := hidIt (L1.out.below hb)); (try replace L2 := hidIt (L2.out.below hb)); (try replace L3 := hidIt (L3.out.below hb)); (try replace L4 := hidIt (L4.out.below hb)); have L5 := hidIt hL; have LM5 := hidIt h4; have LN5 := hidIt (os_few h4 HQ.out.1); clear h1 h2 h3 h4 hb hL))
                    exact bodyPost_ret (v := .bool true) (by simp [results, Try.results8, go_sem]) rfl ⟨rfl, G.out⟩
end Go.Proofs.Ytandkedipjmdbaa
