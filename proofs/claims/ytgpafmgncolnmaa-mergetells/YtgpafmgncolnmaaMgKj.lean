/-
  Walks, not a claim by itself: the kit's copies of lists, and lists that are compared. By the verifier.
-/
import Derived.Test.YtgpafmgncolnmaaMgKi
namespace Go.Proofs.Ytgpafmgncolnmaa
open Go.RowKit
attribute [-go_sem] Builtin.append_
/-- What holds at the head of CopyPairLists' loop. -/
structure ClI (W : World) (N : List Nat) (ls : List LV) (k : Nat) (wr : World) (v : Value) (os : List LV) : Prop where
  own : OwnLs wr 0 v os
  new : ∀ g, v.ownBlock = some g → W.heap.size ≤ g
  oks : ∀ x ∈ os, LokN wr (v.ownBlock.toList ++ N) x
  prs : prs os = prs (ls.take k)
  len : os.length = k
  below : Below W.heap.size W wr
theorem LokN.bothL {W W' : World} {N M : List Nat} {x : LV} (h : LokN W M x) (k : LokN W N x) (hO : Off N W W') : LokN W' M x := by
  have a := k.off hO
  refine ⟨fun y hy => (h.1 y hy).both (k.1 y hy) hO, fun hne => ?_, h.2.2⟩
  obtain ⟨b, off, ha, hn, _, _⟩ := h.2.1 hne
  obtain ⟨b', off', ha', _, hr, hb⟩ := a.2.1 hne
  rw [ha] at ha'
  injection ha' with ha'
  injection ha' with h1 h2
  subst h1 h2
  exact ⟨b, off, ha, hn, hr, hb⟩
theorem prs_take {ls : List LV} {k : Nat} {x : LV} (h : ls[k]? = some x) : prs (ls.take (k + 1)) = prs (ls.take k) ++ [x.ps.map PV.p] := by
  obtain ⟨hk, rfl⟩ := List.getElem?_eq_some_iff.1 h
  unfold prs
  rw [List.take_succ_eq_append_getElem hk, List.map_append]
  rfl
theorem ClI.step {W W4 W5 W6 : World} {N : List Nat} {ls os : List LV} {k : Nat} {v v6 : Value} {x y : LV} (h : ClI W N ls k W4 v os) (hB : Below W4.heap.size W4 W5) (hy : LokN W5 (v.ownBlock.toList ++ N) y) (hI : InsL W5 v (os ++ [y]) v6 W6) (hx : ls[k]? = some x) (hp : y.ps.map PV.p = x.ps.map PV.p) : ClI W N ls (k + 1) W6 v6 (os ++ [y]) := by
  have s5 := Nat.le_trans h.below.size hB.size
  have n6 : ∀ b, b ∈ v6.ownBlock.toList ++ N → b ∈ v.ownBlock.toList ++ N ∨ W5.heap.size ≤ b := fun b hb => by
    rcases List.mem_append.1 hb with hb | hb
    · cases e : v6.ownBlock with
      | none => rw [e] at hb; cases hb
      | some g =>
        rw [e] at hb
        simp at hb
        subst hb
        rcases hI.blk _ e with q | q
        · exact .inl (by rw [q]; simp)
        · exact .inr q
    · exact .inl (List.mem_append_right _ hb)
  refine ⟨hI.own, fun g hg => ?_, fun z hz => ?_, ?_, by simp [h.len], (h.below.trans (hB.mono h.below.size)).trans (hI.off.below (fun b hb => ?_) s5)⟩
  · rcases hI.blk g hg with q | q
    · exact h.new g q
    · omega
  · have a : LokN W5 (v.ownBlock.toList ++ N) z := by
      rcases List.mem_append.1 hz with hz | hz
      · exact (h.oks z hz).below hB
      · rcases List.mem_singleton.1 hz with rfl
        exact hy
    exact (a.mono n6).bothL (a.mono (fun b hb => .inl (List.mem_append_left _ hb))) hI.off
  · rw [prs_take hx, ← h.prs, ← hp]
    simp [Go.Proofs.Ytgpafmgncolnmaa.prs]
  · cases e : v.ownBlock with
    | none => rw [e] at hb; cases hb
    | some g => rw [e] at hb; simp at hb; subst hb; exact h.new _ e
/-- What CopyPairLists answers. -/
def ClsPost (W : World) (ls : List LV) (e : Ending) (w' : World) : Prop := ∃ A C os, e = .returned (.slice A os.length C) ∧ os.length = ls.length ∧ prs os = prs ls ∧ Lsts w' A os ∧ Below W.heap.size W w'
set_option maxRecDepth 100000 in
set_option maxHeartbeats 1000000 in
theorem copyLists_any {W : World} {N : List Nat} {A : Option Addr} {ls : List LV} (L C : Nat) (hL : ls.length = L) (h : Lsts W A ls) (hf : L ≤ 1000) (hs : ∀ x ∈ ls, x.ps.length ≤ 10000 ∧ ∀ y ∈ x.ps, Sm y) (hN : ∀ b ∈ N, b < W.heap.size) : Calls Try.prog 11 #[.slice A L C] W (ClsPost W ls) := by
  have HL := hidIt h
  have HN := hidIt (And.intro hL (And.intro hf (And.intro hs hN)))
  have st : Hid (ClI W N ls 0 W (.slice none 0 0) []) := hidIt ⟨OwnLs.nil _ _, fun g hg => (by cases hg), fun x hx => (by cases hx), rfl, rfl, Below.refl _ _⟩
  clear h hL hf hs hN
  go_enter Try.func11, Try.ntmps11
  go_wp2_with fail
  go_loopw [3, 4] (fun lv i wr => ∃ (k : Nat) (os : List LV), k ≤ L ∧ i = .int .i64 (k : Int) ∧ Hid (ClI W N ls k wr lv os)) (fun _ i _ => L - (RowKit.intOf i).toNat)
  case atStart => exact ⟨0, _, Nat.zero_le _, rfl, st⟩
  case round =>
    clear st
    obtain ⟨k, os, hk, rfl, hI⟩ := hrel
    by_cases hlt : k < L
    · obtain ⟨x, hx⟩ : ∃ x, ls[k]? = some x := ⟨_, List.getElem?_eq_getElem (by have := HN.out.1; omega)⟩
      obtain ⟨b, o, ha, hc, hb⟩ := (HL.out.below hI.out.below).at k x hx
      subst ha
      have HX := hidIt hx
      have LT := hidIt hlt
      have ow : Hid (∀ g, g ∈ u3.ownBlock.toList ++ N → g < wr.heap.size) := hidIt (fun g hg => by
        rcases List.mem_append.1 hg with hg | hg
        · cases e : u3.ownBlock with
          | none => rw [e] at hg; cases hg
          | some q => rw [e] at hg; simp at hg; subst hg; exact (World.ownsRow.lt hI.out.own _ e).2
        · exact Nat.lt_of_lt_of_le (HN.out.2.2.2 g hg) hI.out.below.size)
      have G := hidIt (copyPairs_gen (N := u3.ownBlock.toList ++ N) x.ps.length x.c rfl ((HL.out.below hI.out.below).1 x (List.mem_of_getElem? hx)).1 (HN.out.2.2.1 x (List.mem_of_getElem? hx)).1 (HN.out.2.2.1 x (List.mem_of_getElem? hx)).2 ow.out)
      obtain ⟨i0, i1, i2, i3⟩ := k_ar k L hlt (by have := HN.out.2.1; omega)
      unfold LV.v at hc
      clear hb hx hlt hk
      obtain ⟨mm, hmm⟩ : ∃ mm, mm = x.ps.length := ⟨_, rfl⟩
      rw [← hmm] at G hc
      clear hmm
      go_wp2_with (go_at_call 23; refine G.out.mono ?_; rintro e W2 ⟨ya, yc, yps, rfl, hq, hp, hl, b2⟩; clear hq; have Y2 := hidIt hl; have P2 := hidIt hp; have B2 := hidIt b2; clear hl hp b2; refine Held.out ?_)
      obtain ⟨W5, hW5, hl5, b5⟩ := bs_lists W2 [⟨ya, yc, yps⟩] (by intro z hz; rcases List.mem_singleton.1 hz with rfl; exact Y2.out.ok)
      obtain ⟨yn, hyn⟩ : ∃ yn, yn = yps.length := ⟨_, rfl⟩
      have dB : Below wr.heap.size wr W5 := B2.out.trans (b5.mono B2.out.size)
      have R5 : Rec19 W5 W2.heap.size 0 [.slice ya yps.length yc] := by rw [hW5]; exact Rec19.new W2 _ _
      obtain ⟨v6, W6, hr6, I6⟩ := app_lists 22 W5 u3 os [⟨ya, yc, yps⟩] ⟨W2.heap.size, 0, none⟩ 1 (hI.out.own.below dB) (fun j u hj => by rw [Addr.add_mid]; exact R5.1 j u hj) (lcs_one _) (by simp) (by have := hI.out.len; have := LT.out; have := HN.out.2.1; simp; omega)
      simp only [List.length_singleton] at hr6
      have NX : Hid (ClI W N ls (k + 1) W6 v6 (os ++ [⟨ya, yc, yps⟩])) := hidIt (hI.out.step dB (Y2.out.below b5) I6 HX.out P2.out)
      have HW5 : Hid (W5 = W2.alloc (.cells #[.slice ya yn yc] 27)) := hidIt (by rw [hW5, hyn]; rfl)
      rw [← hyn]
      clear hW5 hl5 b5 dB R5 I6 ow G hyn
      refine Held.mk ?_
      go_wp2_with (first
        | (refine wpList_run_w (by rfl) (.slice (some ⟨W2.heap.size, 0, none⟩) 1 1) W5 (by rw [HW5.out]; exact bsl_run 22 27 1 _ rfl 1 24 _ _ _ under_lists info_list (by decide) (by decide) rfl (by kernel_rfl)) ?_)
        | (at_builtin; refine wpList_append_go rfl (.tmp 11) (.tmp 17) 22 22 rfl _ _ rfl rfl hr6 ?_))
      exact ⟨⟨k + 1, _, LT.out, rfl, NX⟩, meas_k L k _ rfl LT.out⟩
    · obtain rfl : k = L := by omega
      have i0 : ((k : Int) < (k : Int)) = False := eq_false (by omega)
      obtain ⟨ua, uc, hu⟩ := hI.out.own.sl
      have FIN : Hid (ClsPost W ls (.returned u3) wr) := hidIt ⟨ua, uc, os, by rw [hu], by rw [hI.out.len, HN.out.1], by rw [hI.out.prs, List.take_of_length_le (by have := HN.out.1; omega)], OwnLs.lsts (a := ua) (n := os.length) (cap := uc) (hu ▸ hI.out.own) (fun x hx => (hI.out.oks x hx).ok), hI.out.below⟩
      clear hlt hk hu
      go_wp2_with fail
      exact bodyPost_ret (v := u3) (by simp [results, Try.results11, go_sem]) rfl FIN.out
set_option maxRecDepth 100000 in
set_option maxHeartbeats 1000000 in
theorem sameLists_any {W : World} {A B : Option Addr} {ls ms : List LV} (L M C D : Nat) (hL : ls.length = L) (hM : ms.length = M) (h : Lsts W A ls) (k : Lsts W B ms) (hf : L ≤ 1000) (hs : ∀ x ∈ ls, x.ps.length ≤ 10000) : Calls Try.prog 18 #[.slice A L C, .slice B M D] W fun e w' => e = .returned (.bool (decide (prs ls = prs ms))) ∧ Below W.heap.size W w' := by
  have lp : ∀ l : List LV, (prs l).length = l.length := fun l => by simp [prs]
  have HL := hidIt h
  have HM := hidIt k
  have HN := hidIt (And.intro hL (And.intro hM (And.intro hf hs)))
  by_cases hne : L = M
  · subst hne
    have q0 : ((L : Int) != (L : Int)) = false := by simp
    clear h k hL hM hf hs
    go_enter Try.func18, Try.ntmps18
    go_wp2_with fail
    clear q0
    go_loopw [5] (fun i wr => ∃ k : Nat, k ≤ L ∧ i = .int .i64 (k : Int) ∧ Hid (Below W.heap.size W wr ∧ prs (ls.take k) = prs (ms.take k))) (fun i _ => L - (RowKit.intOf i).toNat)
    case atStart => exact ⟨0, Nat.zero_le _, rfl, hidIt ⟨Below.refl _ _, rfl⟩⟩
    case round =>
      obtain ⟨k, hk, rfl, hI⟩ := hrel
      by_cases hlt : k < L
      · obtain ⟨x, hx⟩ : ∃ x, ls[k]? = some x := ⟨_, List.getElem?_eq_getElem (by have := HN.out.1; omega)⟩
        obtain ⟨y, hy⟩ : ∃ y, ms[k]? = some y := ⟨_, List.getElem?_eq_getElem (by have := HN.out.2.1; omega)⟩
        obtain ⟨b, o, ha, hc, hb⟩ := (HL.out.below hI.out.1).at k x hx
        obtain ⟨b', o', ha', hc', hb'⟩ := (HM.out.below hI.out.1).at k y hy
        subst ha ha'
        have LT := hidIt hlt
        have XY := hidIt (And.intro hx hy)
        have TX := hidIt (prs_take hx)
        have TY := hidIt (prs_take hy)
        have LX := hidIt ((HL.out.below hI.out.1).1 x (List.mem_of_getElem? hx)).1
        have LY := hidIt ((HM.out.below hI.out.1).1 y (List.mem_of_getElem? hy)).1
        have SX := hidIt (HN.out.2.2.2 x (List.mem_of_getElem? hx))
        obtain ⟨i0, i1, i2, i3⟩ := k_ar k L hlt (by have := HN.out.2.2.1; omega)
        unfold LV.v at hc hc'
        obtain ⟨xn, hxn⟩ : ∃ xn, x.ps.length = xn := ⟨_, rfl⟩
        obtain ⟨yn, hyn⟩ : ∃ yn, y.ps.length = yn := ⟨_, rfl⟩
        have SP := hidIt (fun (U : World) (hU : Below wr.heap.size wr U) => samePairs_any xn yn x.c y.c hxn hyn (LX.out.below hU) (LY.out.below hU) (by have := SX.out; omega))
        have CE : Hid (∀ U, Below wr.heap.size wr U → U.cell? ⟨b, o + k, none⟩ = some (.slice x.a xn x.c) ∧ U.cell? ⟨b', o' + k, none⟩ = some (.slice y.a yn y.c)) := hidIt (fun U hU => ⟨(hU.cell (p := ⟨b, o + k, none⟩) hb).trans (by rw [hc, hxn]), (hU.cell (p := ⟨b', o' + k, none⟩) hb').trans (by rw [hc', hyn])⟩)
        clear hb hb' hx hy hlt hk hc hc' hxn hyn
        go_wp2_with fail
        refine wp_region_noPanic ?_
        refine wp_region_held_drew (S := fun w' => w'.cell? ⟨b, o + k, none⟩ = some (.slice x.a xn x.c) ∧ w'.cell? ⟨b', o' + k, none⟩ = some (.slice y.a yn y.c)) (by kernel_rfl) ?_ (fun hHeld => ?_)
        · exact CE.out _ (Below.refl _ _).drew
        refine take_at (i := 0) (v := ?_) (some 17) rfl rfl (by kernel_rfl) (by kernel_rfl) (by kernel_rfl) (fun _ _ _ h => h) (Or.inl ⟨by rfl, ?_⟩) (by assumption) ?_
        rotate_left
        · (intro w hSw; (try dsimp only at hSw); go_simp; try with_reducible rfl)
        simp only [Act.put, List.setIfInBounds_toArray, List.set_cons_zero, List.set_cons_succ]
        refine take_at (i := 1) (v := ?_) (some 18) rfl rfl (by kernel_rfl) (by kernel_rfl) (by kernel_rfl) (fun _ _ _ h => h) (Or.inl ⟨by rfl, ?_⟩) (by assumption) ?_
        rotate_left
        · (intro w hSw; (try dsimp only at hSw); go_simp; try with_reducible rfl)
        simp only [Act.put, List.setIfInBounds_toArray, List.set_cons_zero, List.set_cons_succ]
        refine take_at (i := 2) (v := ?_) (some 19) rfl rfl (by kernel_rfl) (by kernel_rfl) (by kernel_rfl) (fun _ _ _ h => h) (Or.inl ⟨by rfl, ?_⟩) (by assumption) ?_
        rotate_left
        · (intro w hSw; (try dsimp only at hSw); go_simp; try with_reducible rfl)
        simp only [Act.put, List.setIfInBounds_toArray, List.set_cons_zero, List.set_cons_succ]
        refine take_at (i := 3) (v := ?_) (some 20) rfl rfl (by kernel_rfl) (by kernel_rfl) (by kernel_rfl) (fun _ _ _ h => h) (Or.inl ⟨by rfl, ?_⟩) (by assumption) ?_
        rotate_left
        · (intro w hSw; (try dsimp only at hSw); go_simp; try with_reducible rfl)
        simp only [Act.put, List.setIfInBounds_toArray, List.set_cons_zero, List.set_cons_succ]
        refine take_at (i := 4) (v := ?_) (some 21) rfl rfl (by kernel_rfl) (by kernel_rfl) (by kernel_rfl) (fun _ _ _ h => h) (Or.inl ⟨by rfl, ?_⟩) (by assumption) ?_
        rotate_left
        · (intro w hSw; (try dsimp only at hSw); go_simp; try with_reducible rfl)
        simp only [Act.put, List.setIfInBounds_toArray, List.set_cons_zero, List.set_cons_succ]
        refine take_at (i := 5) (v := ?_) (some 22) rfl rfl (by kernel_rfl) (by kernel_rfl) (by kernel_rfl) (fun _ _ _ h => h) (Or.inl ⟨by rfl, ?_⟩) (by assumption) ?_
        rotate_left
        · (intro w hSw; (try dsimp only at hSw); go_simp; try with_reducible rfl)
        simp only [Act.put, List.setIfInBounds_toArray, List.set_cons_zero, List.set_cons_succ]
        refine take_at (i := 6) (v := ?_) (some 23) rfl rfl (by kernel_rfl) (by kernel_rfl) (by kernel_rfl) (fun _ _ _ h => h) (Or.inl ⟨by rfl, ?_⟩) (by assumption) ?_
        rotate_left
        · (intro w hSw; (try dsimp only at hSw); go_simp; try with_reducible rfl)
        simp only [Act.put, List.setIfInBounds_toArray, List.set_cons_zero, List.set_cons_succ]
        refine take_at (i := 7) (v := ?_) (some 24) rfl rfl (by kernel_rfl) (by kernel_rfl) (by kernel_rfl) (fun _ _ _ h => h) (Or.inl ⟨by rfl, ?_⟩) (by assumption) ?_
        rotate_left
        · (intro w hSw; (try dsimp only at hSw); go_simp; try with_reducible rfl)
        simp only [Act.put, List.setIfInBounds_toArray, List.set_cons_zero, List.set_cons_succ]
        refine call_at (i := 8) (some 25) 16 _ _ rfl rfl rfl (by rfl) (by kernel_rfl) #[.slice x.a xn x.c, .slice y.a yn y.c] rfl Try.func16 (by kernel_rfl) (by kernel_rfl) ?_
        refine (SP.out _ (Below.refl _ _).drew).mono ?_
        rintro e W2 ⟨rfl, b2⟩
        have D2 := hidIt ((Below.refl wr.heap.size wr).drew.trans b2)
        refine ⟨_, rfl, CE.out W2 D2.out, fun hHeld => ?_⟩
        simp only [Act.put, List.setIfInBounds_toArray, List.set_cons_zero, List.set_cons_succ]
        have B2 := hidIt (hI.out.1.trans (D2.out.mono hI.out.1.size))
        by_cases e : x.ps.map PV.p = y.ps.map PV.p
        · rw [decide_eq_true e]
          have TK : Hid (prs (ls.take (k + 1)) = prs (ms.take (k + 1))) := hidIt (by rw [TX.out, TY.out, hI.out.2, e])
          clear e b2
          refine take_at (i := 9) (v := ?_) (some 26) rfl rfl (by kernel_rfl) (by kernel_rfl) (by kernel_rfl) (fun _ _ _ h => h) (Or.inl ⟨by rfl, ?_⟩) (by assumption) ?_
          rotate_left
          · (intro w hSw; (try dsimp only at hSw); go_simp; try with_reducible rfl)
          simp only [Act.put, List.setIfInBounds_toArray, List.set_cons_zero, List.set_cons_succ]
          refine wpAnyH_done (by kernel_rfl) ?_ _
          refine NoPanic.normal ?_
          clear hHeld CE SP
          go_wp2_with fail
          exact ⟨⟨k + 1, LT.out, rfl, hidIt ⟨B2.out, TK.out⟩⟩, meas_k L k _ rfl LT.out⟩
        · rw [decide_eq_false e]
          have FN : Hid (decide (prs ls = prs ms) = false) := hidIt (decide_eq_false (fun q => e (by
            have h1 : (prs ls)[k]? = some (x.ps.map PV.p) := by unfold prs; rw [List.getElem?_map, XY.out.1]; rfl
            have h2 : (prs ms)[k]? = some (y.ps.map PV.p) := by unfold prs; rw [List.getElem?_map, XY.out.2]; rfl
            rw [q, h2] at h1
            injection h1 with h1
            exact h1.symm)))
          clear e b2
          refine take_at (i := 9) (v := ?_) (some 26) rfl rfl (by kernel_rfl) (by kernel_rfl) (by kernel_rfl) (fun _ _ _ h => h) (Or.inl ⟨by rfl, ?_⟩) (by assumption) ?_
          rotate_left
          · (intro w hSw; (try dsimp only at hSw); go_simp; try with_reducible rfl)
          simp only [Act.put, List.setIfInBounds_toArray, List.set_cons_zero, List.set_cons_succ]
          refine wpAnyH_done (by kernel_rfl) ?_ _
          refine NoPanic.normal ?_
          clear hHeld CE SP
          go_wp2_with fail
          exact bodyPost_ret (v := .bool false) (by simp [results, Try.results18, go_sem]) rfl ⟨by rw [FN.out], B2.out⟩
      · have i0 : ((k : Int) < (L : Int)) = False := eq_false (by omega)
        have FN : Hid (decide (prs ls = prs ms) = true) := hidIt (decide_eq_true (by have := hI.out.2; rwa [List.take_of_length_le (by have := HN.out.1; omega), List.take_of_length_le (by have := HN.out.2.1; omega)] at this))
        clear hlt hk
        go_wp2_with fail
        exact bodyPost_ret (v := .bool true) (by simp [results, Try.results18, go_sem]) rfl ⟨by rw [FN.out], hI.out.1⟩
  · have q0 : ((L : Int) != (M : Int)) = true := by simp; omega
    have FN : Hid (decide (prs ls = prs ms) = false) := hidIt (decide_eq_false (fun q => hne (by have := congrArg List.length q; rw [lp, lp] at this; omega)))
    clear h k hL hM hf hs hne
    go_enter Try.func18, Try.ntmps18
    go_wp2_with fail
    exact bodyPost_ret (v := .bool false) (by simp [results, Try.results18, go_sem]) rfl ⟨by rw [FN.out], Below.refl _ _⟩
end Go.Proofs.Ytgpafmgncolnmaa
