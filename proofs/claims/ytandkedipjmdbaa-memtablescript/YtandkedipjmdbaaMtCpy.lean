/-
  Walks, not a claim by itself: the reference's Check; the kit's CopyPairs. By the verifier.
-/
import Derived.Test.YtandkedipjmdbaaMtSrt
import Derived.Test.YtandkedipjmdbaaMtLrg
import Derived.Test.YtandkedipjmdbaaBCopy
namespace Go.Proofs.Ytandkedipjmdbaa
open Go.RowKit
attribute [-go_sem] Builtin.append_
theorem may_r (p : Pr) : may p ↔ ¬ ((p.k.size : Int) < 1) ∧ ¬ (32 < (p.k.size : Int)) ∧ ¬ (128 < (p.v.size : Int)) ∧ (p.g = true → ¬ (0 < (p.v.size : Int))) := by
  unfold may
  cases p.g <;> simp only [if_true, Bool.false_eq_true, if_false, false_implies, true_implies, and_true] <;> omega
set_option maxRecDepth 100000 in
set_option maxHeartbeats 1000000 in
theorem rcheck_any {W : World} {N : List Nat} {x : PV} (h : PVOk W N x) : Calls Try.prog 19 #[.agg x.cs.toArray] W fun e w' => e = .returned (.int .i64 (mayE x.p)) ∧ Below W.heap.size W w' := by
  obtain ⟨k, v, p⟩ := x
  obtain ⟨⟨a, C, f, hk, _⟩, b, D, f2, hv, _⟩ := h
  simp only at hk hv
  subst hk hv
  have hM := may_r p
  generalize mayE_def : mayE p = E at *
  have EE := hidIt mayE_def
  clear mayE_def
  show Calls Try.prog 19 #[.agg ([.slice a p.k.size C, .slice b p.v.size D, .bool p.g] : List Value).toArray] W _
  generalize p.k.size = n at *
  generalize p.v.size = m at *
  have hg : p.g = true ∨ p.g = false := by cases p.g <;> simp
  by_cases h1 : (n : Int) < 1
  · have e1 : ((n : Int) < 1) = True := eq_true h1
    have q : E = 2 := by rw [← EE.out]; exact mayE_not (fun z => (hM.1 z).1 h1)
    clear EE hM
    subst q
    clear h1
    rcases hg with hg | hg <;> rw [hg]
    all_goals
      clear hg
      go_enter Try.func19, Try.ntmps19
      go_wp2_with (refine wpList_box_rec rfl 47 (.tmp 0) rfl _ rfl W.heap.size rfl ?_; intro W1 R1 B1 z1; have E1 := hidIt B1; have c0 := (R1.cel 0 _ rfl).1; have c1 := (R1.cel 1 _ rfl).1; have c2 := (R1.cel 2 _ rfl).1; clear R1 B1 z1; refine Held.out ?_)
      refine Held.mk ?_
      go_wp2_with fail
      go_ret
      exact ⟨rfl, E1.out⟩
  · have e1 : ((n : Int) < 1) = False := eq_false h1
    by_cases h2 : 32 < (n : Int)
    · have e2 : (32 < (n : Int)) = True := eq_true h2
      have q : E = 2 := by rw [← EE.out]; exact mayE_not (fun z => (hM.1 z).2.1 h2)
      clear EE hM
      subst q
      clear h1 h2
      rcases hg with hg | hg <;> rw [hg]
      all_goals
        clear hg
        go_enter Try.func19, Try.ntmps19
        go_wp2_with (refine wpList_box_rec rfl 47 (.tmp 0) rfl _ rfl W.heap.size rfl ?_; intro W1 R1 B1 z1; have E1 := hidIt B1; have c0 := (R1.cel 0 _ rfl).1; have c1 := (R1.cel 1 _ rfl).1; have c2 := (R1.cel 2 _ rfl).1; clear R1 B1 z1; refine Held.out ?_)
        refine Held.mk ?_
        go_wp2_with fail
        go_ret
        exact ⟨rfl, E1.out⟩
    · have e2 : (32 < (n : Int)) = False := eq_false h2
      by_cases h3 : 128 < (m : Int)
      · have e3 : (128 < (m : Int)) = True := eq_true h3
        have q : E = 2 := by rw [← EE.out]; exact mayE_not (fun z => (hM.1 z).2.2.1 h3)
        clear EE hM
        subst q
        clear h1 h2 h3
        rcases hg with hg | hg <;> rw [hg]
        all_goals
          clear hg
          go_enter Try.func19, Try.ntmps19
          go_wp2_with (refine wpList_box_rec rfl 47 (.tmp 0) rfl _ rfl W.heap.size rfl ?_; intro W1 R1 B1 z1; have E1 := hidIt B1; have c0 := (R1.cel 0 _ rfl).1; have c1 := (R1.cel 1 _ rfl).1; have c2 := (R1.cel 2 _ rfl).1; clear R1 B1 z1; refine Held.out ?_)
          refine Held.mk ?_
          go_wp2_with fail
          go_ret
          exact ⟨rfl, E1.out⟩
      · have e3 : (128 < (m : Int)) = False := eq_false h3
        rcases hg with hg | hg
        · by_cases h4 : 0 < (m : Int)
          · have e4 : (0 < (m : Int)) = True := eq_true h4
            have e5 : (0 < m) = True := eq_true (by omega)
            have q : E = 2 := by rw [← EE.out]; exact mayE_not (fun z => (hM.1 z).2.2.2 hg h4)
            clear EE hM
            subst q
            clear h1 h2 h3 h4
            rw [hg]
            clear hg
            go_enter Try.func19, Try.ntmps19
            go_wp2_with (refine wpList_box_rec rfl 47 (.tmp 0) rfl _ rfl W.heap.size rfl ?_; intro W1 R1 B1 z1; have E1 := hidIt B1; have c0 := (R1.cel 0 _ rfl).1; have c1 := (R1.cel 1 _ rfl).1; have c2 := (R1.cel 2 _ rfl).1; clear R1 B1 z1; refine Held.out ?_)
            refine Held.mk ?_
            go_wp2_with fail
            go_ret
            exact ⟨rfl, E1.out⟩
          · have e4 : (0 < (m : Int)) = False := eq_false h4
            have e5 : (0 < m) = False := eq_false (by omega)
            have q : E = 0 := by rw [← EE.out]; exact mayE_yes (hM.2 ⟨h1, h2, h3, fun _ => h4⟩)
            clear EE hM
            subst q
            clear h1 h2 h3 h4
            rw [hg]
            clear hg
            go_enter Try.func19, Try.ntmps19
            go_wp2_with (refine wpList_box_rec rfl 47 (.tmp 0) rfl _ rfl W.heap.size rfl ?_; intro W1 R1 B1 z1; have E1 := hidIt B1; have c0 := (R1.cel 0 _ rfl).1; have c1 := (R1.cel 1 _ rfl).1; have c2 := (R1.cel 2 _ rfl).1; clear R1 B1 z1; refine Held.out ?_)
            refine Held.mk ?_
            go_wp2_with fail
            go_ret
            exact ⟨rfl, E1.out⟩
        · have q : E = 0 := by rw [← EE.out]; exact mayE_yes (hM.2 ⟨h1, h2, h3, fun z => by rw [hg] at z; cases z⟩)
          clear EE hM
          subst q
          clear h1 h2 h3
          rw [hg]
          clear hg
          go_enter Try.func19, Try.ntmps19
          go_wp2_with (refine wpList_box_rec rfl 47 (.tmp 0) rfl _ rfl W.heap.size rfl ?_; intro W1 R1 B1 z1; have E1 := hidIt B1; have c0 := (R1.cel 0 _ rfl).1; have c1 := (R1.cel 1 _ rfl).1; have c2 := (R1.cel 2 _ rfl).1; clear R1 B1 z1; refine Held.out ?_)
          refine Held.mk ?_
          go_wp2_with fail
          go_ret
          exact ⟨rfl, E1.out⟩
/-- What CopyBytes answers. -/
theorem copy_txt {W : World} {N M : List Nat} {s : Value} {t : ByteArray} (h : Txt W N s t) (hn : t.size ≤ 1000000) (hM : ∀ b, b ∈ M → b < W.heap.size) : Calls Try.prog 39 #[s] W fun e w' => ∃ a n C, e = .returned (.slice a n C) ∧ Txt w' M (.slice a n C) t ∧ Below W.heap.size W w' := by
  obtain ⟨a, C, f, rfl, hA, ht, _⟩ := h
  have hby := hA.bytes
  refine (copy_any a t.size C f W hA hn).mono ?_
  rintro e w' ⟨v, rfl, hO, hB⟩
  by_cases h0 : t.size = 0
  · have e0 := empty_of t h0
    rcases hO.2 with ⟨rfl, _⟩ | ⟨g, cap, cur, rfl, _⟩
    · refine ⟨_, _, _, rfl, ?_, hB⟩
      rw [e0]
      exact Txt.nil w' M 0
    · refine ⟨_, _, _, rfl, ?_, hB⟩
      exact ⟨_, _, f, rfl, .inl ⟨h0, .inr ⟨_, rfl⟩⟩, ht, fun h => by omega⟩
  · obtain ⟨g, cap, rfl, hg, _, hl⟩ := hO.form (by omega) hby
    refine ⟨_, _, _, rfl, ⟨_, _, f, rfl, .inr ⟨by omega, g, 0, rfl, hl⟩, ht, fun _ q hq hm => ?_⟩, hB⟩
    injection hq with hq
    subst hq
    have := hM _ hm
    simp at this
    omega
/-- What holds at the head of CopyPairs' loop. -/
structure CpI (W : World) (ps : List PV) (k : Nat) (wr : World) (lv : Value) (os : List PV) : Prop where
  own : OwnP wr 0 lv os
  new : ∀ g, lv.ownBlock = some g → W.heap.size ≤ g
  oks : ∀ x ∈ os, PVOk wr lv.ownBlock.toList x
  map : os.map PV.p = (ps.take k).map PV.p
  len : os.length = k
  below : Below W.heap.size W wr
theorem CpI.step {W W4 W5 W6 : World} {ps os : List PV} {k : Nat} {lv v6 : Value} {x y : PV} (h : CpI W ps k W4 lv os) (hB : Below W4.heap.size W4 W5) (hy : PVOk W5 lv.ownBlock.toList y) (hI : Insd W5 lv (os ++ [y]) v6 W6) (hx : ps[k]? = some x) (hp : y.p = x.p) : CpI W ps (k + 1) W6 v6 (os ++ [y]) := by
  have s5 := Nat.le_trans h.below.size hB.size
  have n6 : ∀ b, b ∈ v6.ownBlock.toList → b ∈ lv.ownBlock.toList ∨ W5.heap.size ≤ b := fun b hb => by
    cases e : v6.ownBlock with
    | none => rw [e] at hb; cases hb
    | some g =>
      rw [e] at hb
      simp at hb
      subst hb
      rcases hI.blk _ e with q | q
      · exact .inl (by rw [q]; simp)
      · exact .inr q
  refine ⟨hI.own, fun g hg => ?_, fun z hz => ?_, ?_, by simp [h.len], (h.below.trans (hB.mono h.below.size)).trans (hI.off.below (fun b hb => ?_) s5)⟩
  · rcases hI.blk g hg with q | q
    · exact h.new g q
    · omega
  · have a : PVOk W5 lv.ownBlock.toList z := by
      rcases List.mem_append.1 hz with hz | hz
      · exact (h.oks z hz).below hB
      · rcases List.mem_singleton.1 hz with rfl
        exact hy
    exact (a.mono n6).both a hI.off
  · rw [take_more ps k x hx, List.map_append, h.map, ← hp]
    rfl
  · cases e : lv.ownBlock with
    | none => rw [e] at hb; cases hb
    | some g => rw [e] at hb; simp at hb; subst hb; exact h.new _ e
/-- What CopyPairs answers. -/
def CpsPost (W : World) (ps : List PV) (e : Ending) (w' : World) : Prop := ∃ a C os, e = .returned (.slice a os.length C) ∧ os.length = ps.length ∧ os.map PV.p = ps.map PV.p ∧ Lst w' a os ∧ Below W.heap.size W w'
set_option maxRecDepth 100000 in
set_option maxHeartbeats 2000000 in
theorem copyPairs_any {W : World} {a : Option Addr} {ps : List PV} (n C : Nat) (hn : ps.length = n) (hL : Lst W a ps) (hf : n ≤ 100) (hs : ∀ x ∈ ps, Sm x) : Calls Try.prog 17 #[.slice a n C] W (CpsPost W ps) := by
  have HL := hidIt hL
  have HN := hidIt hn
  have HF := hidIt hf
  have HS := hidIt hs
  have st : Hid (CpI W ps 0 W (.slice none 0 0) []) := hidIt ⟨OwnP.nil _ _, fun g hg => (by cases hg), fun x hx => (by cases hx), rfl, rfl, Below.refl _ _⟩
  clear hL hn hf hs
  go_enter Try.func17, Try.ntmps17
  go_wp2_with fail
  go_loopw [3, 4] (fun lv i wr => ∃ (k : Nat) (os : List PV), k ≤ n ∧ i = .int .i64 (k : Int) ∧ Hid (CpI W ps k wr lv os)) (fun _ i _ => n - (RowKit.intOf i).toNat)
  case atStart => exact ⟨0, _, Nat.zero_le _, rfl, st⟩
  case round =>
    clear st
    obtain ⟨k, os, hk, rfl, hI⟩ := hrel
    by_cases hlt : k < n
    · obtain ⟨x, hx⟩ : ∃ x, ps[k]? = some x := ⟨_, List.getElem?_eq_getElem (by have := HN.out; omega)⟩
      obtain ⟨bl, o1, ha, hr1, l1⟩ := HL.out.at k x hx
      subst ha
      have ok := HL.out.1 x (List.mem_of_getElem? hx)
      have CE : Hid (∀ U, Below W.heap.size W U → U.cell? ⟨bl, o1 + k * 3, none⟩ = some x.k ∧ U.cell? ⟨bl, o1 + k * 3 + 1, none⟩ = some x.v ∧ U.cell? ⟨bl, o1 + k * 3 + 2, none⟩ = some (.bool x.p.g)) := hidIt (fun U hU => ⟨(hU.cell (p := ⟨bl, o1 + k * 3, none⟩) l1).trans (three_cells hr1).1, (hU.cell (p := ⟨bl, o1 + k * 3 + 1, none⟩) l1).trans (three_cells hr1).2.1, (hU.cell (p := ⟨bl, o1 + k * 3 + 2, none⟩) l1).trans (three_cells hr1).2.2⟩)
      have OK := hidIt ok
      have SM := hidIt (HS.out x (List.mem_of_getElem? hx))
      have HX := hidIt hx
      have LT := hidIt hlt
      obtain ⟨i0, i1, i2, i3⟩ := k_ar k n hlt (by have := HF.out; omega)
      clear hx hr1 l1 hlt hk ok
      go_wp2_with fail
      refine wp_region_noPanic ?_
      refine wp_region_held_drew (S := fun w' => w'.cell? ⟨bl, o1 + k * 3, none⟩ = some x.k ∧ w'.cell? ⟨bl, o1 + k * 3 + 1, none⟩ = some x.v ∧ w'.cell? ⟨bl, o1 + k * 3 + 2, none⟩ = some (.bool x.p.g)) (by kernel_rfl) ?_ (fun hHeld => ?_)
      · exact CE.out _ hI.out.below.drew
      refine take_at (i := 0) (v := ?_) (some 11) rfl rfl (by kernel_rfl) (by kernel_rfl) (by kernel_rfl) (fun _ _ _ h => h) (Or.inl ⟨by rfl, ?_⟩) (by assumption) ?_
      rotate_left
      · (intro w hSw; (try dsimp only at hSw); go_simp; try with_reducible rfl)
      simp only [Act.put, List.setIfInBounds_toArray, List.set_cons_zero, List.set_cons_succ]
      refine take_at (i := 1) (v := ?_) (some 12) rfl rfl (by kernel_rfl) (by kernel_rfl) (by kernel_rfl) (fun _ _ _ h => h) (Or.inl ⟨by rfl, ?_⟩) (by assumption) ?_
      rotate_left
      · (intro w hSw; (try dsimp only at hSw); go_simp; try with_reducible rfl)
      simp only [Act.put, List.setIfInBounds_toArray, List.set_cons_zero, List.set_cons_succ]
      refine take_at (i := 2) (v := ?_) (some 13) rfl rfl (by kernel_rfl) (by kernel_rfl) (by kernel_rfl) (fun _ _ _ h => h) (Or.inl ⟨by rfl, ?_⟩) (by assumption) ?_
      rotate_left
      · (intro w hSw; (try dsimp only at hSw); go_simp; try with_reducible rfl)
      simp only [Act.put, List.setIfInBounds_toArray, List.set_cons_zero, List.set_cons_succ]
      refine take_at (i := 3) (v := ?_) (some 14) rfl rfl (by kernel_rfl) (by kernel_rfl) (by kernel_rfl) (fun _ _ _ h => h) (Or.inl ⟨by rfl, ?_⟩) (by assumption) ?_
      rotate_left
      · (intro w hSw; (try dsimp only at hSw); go_simp; try with_reducible rfl)
      simp only [Act.put, List.setIfInBounds_toArray, List.set_cons_zero, List.set_cons_succ]
      refine take_at (i := 4) (v := ?_) (some 15) rfl rfl (by kernel_rfl) (by kernel_rfl) (by kernel_rfl) (fun _ _ _ h => h) (Or.inl ⟨by rfl, ?_⟩) (by assumption) ?_
      rotate_left
      · (intro w hSw; (try dsimp only at hSw); go_simp; try with_reducible rfl)
      simp only [Act.put, List.setIfInBounds_toArray, List.set_cons_zero, List.set_cons_succ]
      refine take_at (i := 5) (v := ?_) (some 16) rfl rfl (by kernel_rfl) (by kernel_rfl) (by kernel_rfl) (fun _ _ _ h => h) (Or.inl ⟨by rfl, ?_⟩) (by assumption) ?_
      rotate_left
      · (intro w hSw; (try dsimp only at hSw); go_simp; try with_reducible rfl)
      simp only [Act.put, List.setIfInBounds_toArray, List.set_cons_zero, List.set_cons_succ]
      refine take_at (i := 7) (v := ?_) (some 18) rfl rfl (by kernel_rfl) (by kernel_rfl) (by kernel_rfl) (fun _ _ _ h => h) (Or.inl ⟨by rfl, ?_⟩) (by assumption) ?_
      rotate_left
      · (intro w hSw; (try dsimp only at hSw); go_simp; try with_reducible rfl)
      simp only [Act.put, List.setIfInBounds_toArray, List.set_cons_zero, List.set_cons_succ]
      refine take_at (i := 8) (v := ?_) (some 19) rfl rfl (by kernel_rfl) (by kernel_rfl) (by kernel_rfl) (fun _ _ _ h => h) (Or.inl ⟨by rfl, ?_⟩) (by assumption) ?_
      rotate_left
      · (intro w hSw; (try dsimp only at hSw); go_simp; try with_reducible rfl)
      simp only [Act.put, List.setIfInBounds_toArray, List.set_cons_zero, List.set_cons_succ]
      refine take_at (i := 9) (v := ?_) (some 20) rfl rfl (by kernel_rfl) (by kernel_rfl) (by kernel_rfl) (fun _ _ _ h => h) (Or.inl ⟨by rfl, ?_⟩) (by assumption) ?_
      rotate_left
      · (intro w hSw; (try dsimp only at hSw); go_simp; try with_reducible rfl)
      simp only [Act.put, List.setIfInBounds_toArray, List.set_cons_zero, List.set_cons_succ]
      refine take_at (i := 10) (v := ?_) (some 21) rfl rfl (by kernel_rfl) (by kernel_rfl) (by kernel_rfl) (fun _ _ _ h => h) (Or.inl ⟨by rfl, ?_⟩) (by assumption) ?_
      rotate_left
      · (intro w hSw; (try dsimp only at hSw); go_simp; try with_reducible rfl)
      simp only [Act.put, List.setIfInBounds_toArray, List.set_cons_zero, List.set_cons_succ]
      refine take_at (i := 11) (v := ?_) (some 22) rfl rfl (by kernel_rfl) (by kernel_rfl) (by kernel_rfl) (fun _ _ _ h => h) (Or.inl ⟨by rfl, ?_⟩) (by assumption) ?_
      rotate_left
      · (intro w hSw; (try dsimp only at hSw); go_simp; try with_reducible rfl)
      simp only [Act.put, List.setIfInBounds_toArray, List.set_cons_zero, List.set_cons_succ]
      refine take_at (i := 13) (v := ?_) (some 24) rfl rfl (by kernel_rfl) (by kernel_rfl) (by kernel_rfl) (fun _ _ _ h => h) (Or.inl ⟨by rfl, ?_⟩) (by assumption) ?_
      rotate_left
      · (intro w hSw; (try dsimp only at hSw); go_simp; try with_reducible rfl)
      simp only [Act.put, List.setIfInBounds_toArray, List.set_cons_zero, List.set_cons_succ]
      refine take_at (i := 14) (v := ?_) (some 25) rfl rfl (by kernel_rfl) (by kernel_rfl) (by kernel_rfl) (fun _ _ _ h => h) (Or.inl ⟨by rfl, ?_⟩) (by assumption) ?_
      rotate_left
      · (intro w hSw; (try dsimp only at hSw); go_simp; try with_reducible rfl)
      simp only [Act.put, List.setIfInBounds_toArray, List.set_cons_zero, List.set_cons_succ]
      refine take_at (i := 15) (v := ?_) (some 26) rfl rfl (by kernel_rfl) (by kernel_rfl) (by kernel_rfl) (fun _ _ _ h => h) (Or.inl ⟨by rfl, ?_⟩) (by assumption) ?_
      rotate_left
      · (intro w hSw; (try dsimp only at hSw); go_simp; try with_reducible rfl)
      simp only [Act.put, List.setIfInBounds_toArray, List.set_cons_zero, List.set_cons_succ]
      refine take_at (i := 16) (v := ?_) (some 27) rfl rfl (by kernel_rfl) (by kernel_rfl) (by kernel_rfl) (fun _ _ _ h => h) (Or.inl ⟨by rfl, ?_⟩) (by assumption) ?_
      rotate_left
      · (intro w hSw; (try dsimp only at hSw); go_simp; try with_reducible rfl)
      simp only [Act.put, List.setIfInBounds_toArray, List.set_cons_zero, List.set_cons_succ]
      refine take_at (i := 17) (v := ?_) (some 28) rfl rfl (by kernel_rfl) (by kernel_rfl) (by kernel_rfl) (fun _ _ _ h => h) (Or.inl ⟨by rfl, ?_⟩) (by assumption) ?_
      rotate_left
      · (intro w hSw; (try dsimp only at hSw); go_simp; try with_reducible rfl)
      simp only [Act.put, List.setIfInBounds_toArray, List.set_cons_zero, List.set_cons_succ]
      have bd : Below W.heap.size W wr.drew := hI.out.below.drew
      have ow : ∀ g, g ∈ u3.ownBlock.toList → g < wr.drew.heap.size := fun g hg => by
        cases e : u3.ownBlock with
        | none => rw [e] at hg; cases hg
        | some q => rw [e] at hg; simp at hg; subst hg; exact (World.ownsRow.lt hI.out.own _ e).2
      refine call_at (i := 6) (some 17) 39 _ _ rfl rfl rfl (by rfl) (by kernel_rfl) #[x.k] rfl Try.func39 (by kernel_rfl) (by kernel_rfl) ?_
      refine (copy_txt (M := u3.ownBlock.toList) (OK.out.1.below bd) (by have := SM.out.1; omega) ow).mono ?_
      rintro e W2 ⟨ka, kn, kC, rfl, X2, b2⟩
      have E2 := hidIt (bd.trans (b2.mono bd.size))
      refine ⟨_, rfl, CE.out W2 E2.out, fun hHeld => ?_⟩
      simp only [Act.put, List.setIfInBounds_toArray, List.set_cons_zero, List.set_cons_succ]
      refine call_at (i := 12) (some 23) 39 _ _ rfl rfl rfl (by rfl) (by kernel_rfl) #[x.v] rfl Try.func39 (by kernel_rfl) (by kernel_rfl) ?_
      refine (copy_txt (M := u3.ownBlock.toList) (OK.out.2.below E2.out) (by have := SM.out.2; omega) (fun g hg => Nat.lt_of_lt_of_le (ow g hg) b2.size)).mono ?_
      rintro e W3 ⟨va, vn, vC, rfl, X3, b3⟩
      have E3 := hidIt (E2.out.trans (b3.mono E2.out.size))
      have A5 : Below W3.heap.size W3 (W3.alloc (.cells (PV.mk (.slice ka kn kC) (.slice va vn vC) x.p).cs.toArray 47)) := (Below.refl _ _).alloc (Nat.le_refl _) _
      have PO : PVOk W3 u3.ownBlock.toList (PV.mk (.slice ka kn kC) (.slice va vn vC) x.p) := ⟨X2.below b3, X3⟩
      have L5 : Lone (W3.alloc (.cells (PV.mk (.slice ka kn kC) (.slice va vn vC) x.p).cs.toArray 47)) W3.heap.size (PV.mk (.slice ka kn kC) (.slice va vn vC) x.p) := ⟨heap_alloc_new W3 _, PO.one⟩
      obtain ⟨W5, hW5⟩ : ∃ W5, W5 = W3.alloc (.cells (PV.mk (.slice ka kn kC) (.slice va vn vC) x.p).cs.toArray 47) := ⟨_, rfl⟩
      rw [← hW5] at A5 L5
      have dB : Below wr.heap.size wr W5 := ((Below.refl wr.heap.size wr).drew.trans b2).trans ((b3.trans (A5.mono b3.size)).mono b2.size)
      have O5 : OwnP W5 0 u3 os := hI.out.own.below dB
      obtain ⟨v6, W6, hr6, I6⟩ := app_pairs 27 W5 u3 os [PV.mk (.slice ka kn kC) (.slice va vn vC) x.p] ⟨W3.heap.size, 0, none⟩ 1 O5 (fun j u hj => by rw [pcs_single] at hj; rw [Addr.add_mid, Nat.zero_add]; exact L5.cell j u hj) (by rw [pcs_single]; exact L5.2) (by simp) (by have := hI.out.len; have := LT.out; have := HF.out; simp; omega)
      simp only [List.length_singleton] at hr6
      have NX : Hid (CpI W ps (k + 1) W6 v6 (os ++ [PV.mk (.slice ka kn kC) (.slice va vn vC) x.p])) := hidIt (hI.out.step dB (PO.below A5) I6 HX.out rfl)
      have E5 : Below W.heap.size W W5 := E3.out.trans (A5.mono E3.out.size)
      refine ⟨_, rfl, CE.out W3 E3.out, fun hHeld => ?_⟩
      simp only [Act.put, List.setIfInBounds_toArray, List.set_cons_zero, List.set_cons_succ]
      refine take_at (i := 18) (v := .agg (PV.mk (.slice ka kn kC) (.slice va vn vC) x.p).cs.toArray) (some 29) rfl rfl (by kernel_rfl) (by kernel_rfl) (by kernel_rfl) (fun _ _ _ h => h) (Or.inl ⟨by rfl, fun w hSw => bld_run 47 _ rfl _ (by kernel_rfl)⟩) (by assumption) ?_
      simp only [Act.put, List.setIfInBounds_toArray, List.set_cons_zero, List.set_cons_succ]
      refine step_at (i := 19) (some 30) rfl rfl (by rfl) (by kernel_rfl) (.slice (some ⟨W3.heap.size, 0, none⟩) 1 1) W5 (by rw [hW5]; exact bsl_run 27 47 1 _ rfl 3 56 _ _ _ under_pairs info_pair (by decide) (by decide) rfl (by kernel_rfl)) (CE.out W5 E5) (fun hHeld => ?_)
      simp only [Act.put, List.setIfInBounds_toArray, List.set_cons_zero, List.set_cons_succ]
      refine step_at (i := 20) (some 31) rfl rfl (by rfl) (by kernel_rfl) v6 W6 (app_run (.tmp 11) (.tmp 30) 27 27 rfl _ _ rfl rfl hr6) (CE.out W6 NX.out.below) (fun hHeld => ?_)
      simp only [Act.put, List.setIfInBounds_toArray, List.set_cons_zero, List.set_cons_succ]
      clear hr6 I6 O5 dB L5 PO A5 hW5 X2 X3 b2 b3 ow bd
      refine take_at (i := 21) (v := ?_) (some 3) rfl rfl (by kernel_rfl) (by kernel_rfl) (by kernel_rfl) (fun _ _ _ h => h) (Or.inl ⟨by rfl, ?_⟩) (by assumption) ?_
      rotate_left
      · (intro w hSw; (try dsimp only at hSw); go_simp; try with_reducible rfl)
      simp only [Act.put, List.setIfInBounds_toArray, List.set_cons_zero, List.set_cons_succ]
      refine wpAnyH_done (by kernel_rfl) ?_ _
      refine NoPanic.normal ?_
      clear hHeld CE
      go_wp2_with fail
      exact ⟨⟨k + 1, _, LT.out, rfl, NX⟩, meas_k n k _ rfl LT.out⟩
    · obtain rfl : k = n := by omega
      have i0 : ((k : Int) < (k : Int)) = False := eq_false (by omega)
      obtain ⟨ua, uc, hu, _⟩ := hI.out.own.slice
      have FIN : Hid (CpsPost W ps (.returned u3) wr) := hidIt ⟨ua, uc, os, by rw [hu], by rw [hI.out.len, HN.out], by rw [hI.out.map, List.take_of_length_le (by have := HN.out; omega)], (OwnP.lst (a := ua) (n := os.length) (cap := uc) (hu ▸ hI.out.own) (fun x hx => (hI.out.oks x hx).mono (fun b hb => by cases hb))), hI.out.below⟩
      clear hlt hk hu
      go_wp2_with fail
      exact bodyPost_ret (v := u3) (by simp [results, Try.results17, go_sem]) rfl FIN.out
end Go.Proofs.Ytandkedipjmdbaa
