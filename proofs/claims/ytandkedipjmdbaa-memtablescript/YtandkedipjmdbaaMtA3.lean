/-
  Walks, not a claim by itself: the script's Between. By the verifier.
-/
import Derived.Test.YtandkedipjmdbaaMtA2
namespace Go.Proofs.Ytandkedipjmdbaa
open Go.RowKit
attribute [-go_sem] Builtin.append_
/-- A list that was told, and may be written over. -/
structure Tld (W : World) (base : Nat) (lv : Value) (os : List PV) : Prop where
  own : OwnP W 0 lv os
  new : ∀ g, lv.ownBlock = some g → base ≤ g
  frs : ∀ x ∈ os, FrP W base x ∧ PVOk W lv.ownBlock.toList x
theorem Tld.below {W W' : World} {base : Nat} {lv : Value} {os : List PV} (h : Tld W base lv os) (hB : Below W.heap.size W W') : Tld W' base lv os :=
  ⟨h.own.below hB, h.new, fun x hx => ⟨frp_below (h.frs x hx).1 hB, (h.frs x hx).2.below hB⟩⟩
theorem Tld.of {W w' : World} {base : Nat} {lv : Value} {os : List PV} (h1 : OwnP w' 0 lv os) (h2 : ∀ g, lv.ownBlock = some g → W.heap.size ≤ g) (h3 : ∀ x ∈ os, FrP w' W.heap.size x ∧ PVOk w' lv.ownBlock.toList x) (hb : base ≤ W.heap.size) : Tld w' base lv os :=
  ⟨h1, fun g hg => Nat.le_trans hb (h2 g hg), fun x hx => ⟨frp_low (h3 x hx).1 hb, (h3 x hx).2⟩⟩
theorem Tld.over {W : World} {base : Nat} {a : Option Addr} {n C : Nat} {os : List PV} (h : Tld W base (.slice a n C) os) : os ≠ [] → ∃ L, a = some ⟨L, 0, none⟩ ∧ base ≤ L ∧ Rec19 W L 0 (pcs os) ∧ ∀ x ∈ os, OvS W base L x.k ∧ OvS W base L x.v := fun hne => by
  rcases h.own.form with ⟨_, h0⟩ | ⟨g, cap, hv, _, _, _, _, hR⟩
  · exact absurd h0 hne
  · injection hv with ha h2 h3
    subst ha
    refine ⟨g, rfl, h.new g rfl, hR, fun x hx => ?_⟩
    have q := h.frs x hx
    exact ⟨OvS.of q.1.1 q.2.1 (by simp [Value.ownBlock]), OvS.of q.1.2 q.2.2 (by simp [Value.ownBlock])⟩
set_option maxRecDepth 100000 in
set_option maxHeartbeats 8000000 in
theorem act_3 {H : Nat} {W : World} {P t r : Nat} {v lv : Value} {qs rs : List PV} (h : SI H W P t r v qs lv rs) (he : rs.map PV.p = qs.map PV.p) (kd nn : Int) (ka va : Option Addr) (n m kC vC : Nat) (fk fv : Nat → Int) (hk : AA H W ka n fk) (hv : AA H W va m fv) (hd : kd = 3) : Calls Try.prog 13 #[.pointer (some ⟨P, 0, none⟩), .agg (actC kd nn ka va n m kC vC).toArray] W fun e w' => e = .returned (.bool true) ∧ StP H W P w' := by
  have S0 := hidIt h
  have HE := hidIt he
  have HK := hidIt hk
  have HV := hidIt hv
  subst hd
  obtain ⟨ra, rC, hlv, _⟩ := h.ref.lst
  subst hlv
  clear h he hk hv
  go_enter Try.func13, Try.ntmps13
  go_wp2_with (refine wpList_box_rec rfl 35 (.tmp 1) rfl (actC 3 nn ka va n m kC vC) rfl W.heap.size rfl ?_; intro W1 R1 B1 z1; have E1 := hidIt (B1.mono S0.out.size); have S1 := hidIt (S0.out.more B1); have K1 := hidIt (HK.out.below E1.out); have V1 := hidIt (HV.out.below E1.out); have a0 := (R1.cel 0 _ rfl).1; have a1 := (R1.cel 1 _ rfl).1; have a2 := (R1.cel 2 _ rfl).1; have a3 := (R1.cel 3 _ rfl).1; have P1 := hidIt R1; have b1 := hidIt B1; clear R1 B1 z1)
  have CE : Hid (∀ U, Below W1.heap.size W1 U → U.cell? ⟨P, 0, none⟩ = some (.pointer (some ⟨t, 0, none⟩)) ∧ U.cell? ⟨P, 1, none⟩ = some (.pointer (some ⟨r, 0, none⟩)) ∧ U.cell? ⟨W.heap.size, 2, none⟩ = some (.slice ka n kC) ∧ U.cell? ⟨W.heap.size, 3, none⟩ = some (.slice va m vC) ∧ U.cell? ⟨r, 0, none⟩ = some (.slice ra rs.length rC)) := hidIt (fun U hU => ⟨((S1.out.pr.below hU).cel 0 _ rfl).1, ((S1.out.pr.below hU).cel 1 _ rfl).1, ((P1.out.below hU).cel 2 _ rfl).1, ((P1.out.below hU).cel 3 _ rfl).1, ((S1.out.ref.rc.below hU).cel 0 _ rfl).1⟩)
  have LR := hidIt (fun U (hU : Below W1.heap.size W1 U) => (show Lst U ra rs from OwnP.lst (S1.out.ref.own.below hU) (fun x hx => ((S1.out.ref.ok x hx).mono (fun b hb => by cases hb)).below hU)))
  have FR := hidIt S1.out.ref.few
  have FQ := hidIt S1.out.tab.few
  clear a0 a1 a2 a3
  refine wp_region_noPanic ?_
  refine wp_region_held_drew (S := fun w' => w'.cell? ⟨P, 0, none⟩ = some (.pointer (some ⟨t, 0, none⟩)) ∧ w'.cell? ⟨P, 1, none⟩ = some (.pointer (some ⟨r, 0, none⟩)) ∧ w'.cell? ⟨W.heap.size, 2, none⟩ = some (.slice ka n kC) ∧ w'.cell? ⟨W.heap.size, 3, none⟩ = some (.slice va m vC) ∧ w'.cell? ⟨r, 0, none⟩ = some (.slice ra rs.length rC)) (by kernel_rfl) ?_ (fun hHeld => ?_)
  · exact CE.out _ (Below.refl _ _).drew
  have bD : Below W1.heap.size W1 W1.drew := (Below.refl _ _).drew
  refine take_at (i := 0) (v := ?_) (some 67) rfl rfl (by kernel_rfl) (by kernel_rfl) (by kernel_rfl) (fun _ _ _ h => h) (Or.inl ⟨by rfl, ?_⟩) (by assumption) ?_
  rotate_left
  · (intro w hSw; (try dsimp only at hSw); go_simp; try with_reducible rfl)
  simp only [Act.put, List.setIfInBounds_toArray, List.set_cons_zero, List.set_cons_succ]
  refine take_at (i := 1) (v := ?_) (some 68) rfl rfl (by kernel_rfl) (by kernel_rfl) (by kernel_rfl) (fun _ _ _ h => h) (Or.inl ⟨by rfl, ?_⟩) (by assumption) ?_
  rotate_left
  · (intro w hSw; (try dsimp only at hSw); go_simp; try with_reducible rfl)
  simp only [Act.put, List.setIfInBounds_toArray, List.set_cons_zero, List.set_cons_succ]
  refine take_at (i := 2) (v := ?_) (some 69) rfl rfl (by kernel_rfl) (by kernel_rfl) (by kernel_rfl) (fun _ _ _ h => h) (Or.inl ⟨by rfl, ?_⟩) (by assumption) ?_
  rotate_left
  · (intro w hSw; (try dsimp only at hSw); go_simp; try with_reducible rfl)
  simp only [Act.put, List.setIfInBounds_toArray, List.set_cons_zero, List.set_cons_succ]
  refine take_at (i := 3) (v := ?_) (some 70) rfl rfl (by kernel_rfl) (by kernel_rfl) (by kernel_rfl) (fun _ _ _ h => h) (Or.inl ⟨by rfl, ?_⟩) (by assumption) ?_
  rotate_left
  · (intro w hSw; (try dsimp only at hSw); go_simp; try with_reducible rfl)
  simp only [Act.put, List.setIfInBounds_toArray, List.set_cons_zero, List.set_cons_succ]
  refine take_at (i := 4) (v := ?_) (some 71) rfl rfl (by kernel_rfl) (by kernel_rfl) (by kernel_rfl) (fun _ _ _ h => h) (Or.inl ⟨by rfl, ?_⟩) (by assumption) ?_
  rotate_left
  · (intro w hSw; (try dsimp only at hSw); go_simp; try with_reducible rfl)
  simp only [Act.put, List.setIfInBounds_toArray, List.set_cons_zero, List.set_cons_succ]
  refine take_at (i := 5) (v := ?_) (some 72) rfl rfl (by kernel_rfl) (by kernel_rfl) (by kernel_rfl) (fun _ _ _ h => h) (Or.inl ⟨by rfl, ?_⟩) (by assumption) ?_
  rotate_left
  · (intro w hSw; (try dsimp only at hSw); go_simp; try with_reducible rfl)
  simp only [Act.put, List.setIfInBounds_toArray, List.set_cons_zero, List.set_cons_succ]
  refine take_at (i := 6) (v := ?_) (some 73) rfl rfl (by kernel_rfl) (by kernel_rfl) (by kernel_rfl) (fun _ _ _ h => h) (Or.inl ⟨by rfl, ?_⟩) (by assumption) ?_
  rotate_left
  · (intro w hSw; (try dsimp only at hSw); go_simp; try with_reducible rfl)
  simp only [Act.put, List.setIfInBounds_toArray, List.set_cons_zero, List.set_cons_succ]
  refine take_at (i := 7) (v := ?_) (some 74) rfl rfl (by kernel_rfl) (by kernel_rfl) (by kernel_rfl) (fun _ _ _ h => h) (Or.inl ⟨by rfl, ?_⟩) (by assumption) ?_
  rotate_left
  · (intro w hSw; (try dsimp only at hSw); go_simp; try with_reducible rfl)
  simp only [Act.put, List.setIfInBounds_toArray, List.set_cons_zero, List.set_cons_succ]
  refine call_at (i := 8) (some 75) 26 _ _ rfl rfl rfl (by rfl) (by kernel_rfl) #[.pointer (some ⟨t, 0, none⟩), .slice ka n kC, .slice va m vC] rfl Try.func26 (by kernel_rfl) (by kernel_rfl) ?_
  refine (btw_any (S1.out.tab.below bD) (Txt.of (C := kC) (K1.out.below (bD.mono S1.out.size)).1) (Txt.of (C := vC) (V1.out.below (bD.mono S1.out.size)).1)).mono ?_
  rintro e W2 ⟨lw, os, rfl, h1, h2, h3, h4, hb⟩
  have b2 := hidIt (bD.trans (hb.mono bD.size))
  obtain ⟨la, lc, hlw, _⟩ := h1.slice
  subst hlw
  have T2 := hidIt (Tld.of (base := W1.heap.size) h1 h2 h3 bD.size)
  have M2 := hidIt h4
  have FO := hidIt (os_few h4 FQ.out)
  refine ⟨_, rfl, CE.out _ b2.out, fun hHeld => ?_⟩
  simp only [Act.put, List.setIfInBounds_toArray, List.set_cons_zero, List.set_cons_succ]
  refine take_at (i := 9) (v := ?_) (some 10) rfl rfl (by kernel_rfl) (by kernel_rfl) (by kernel_rfl) (fun _ _ _ h => h) (Or.inl ⟨by rfl, ?_⟩) (by assumption) ?_
  rotate_left
  · (intro w hSw; (try dsimp only at hSw); go_simp; try with_reducible rfl)
  simp only [Act.put, List.setIfInBounds_toArray, List.set_cons_zero, List.set_cons_succ]
  refine wpAnyH_done (by kernel_rfl) ?_ _
  refine NoPanic.normal ?_
  clear h1 h2 h3 h4 hb hHeld bD
  go_wp2_with fail
  refine wp_region_noPanic ?_
  refine wp_region_held_drew (S := fun w' => w'.cell? ⟨P, 0, none⟩ = some (.pointer (some ⟨t, 0, none⟩)) ∧ w'.cell? ⟨P, 1, none⟩ = some (.pointer (some ⟨r, 0, none⟩)) ∧ w'.cell? ⟨W.heap.size, 2, none⟩ = some (.slice ka n kC) ∧ w'.cell? ⟨W.heap.size, 3, none⟩ = some (.slice va m vC) ∧ w'.cell? ⟨r, 0, none⟩ = some (.slice ra rs.length rC)) (by kernel_rfl) ?_ (fun hHeld => ?_)
  · exact CE.out _ b2.out.drew
  have zD : Below W2.heap.size W2 W2.drew := (Below.refl _ _).drew
  have bE : Below W1.heap.size W1 W2.drew := b2.out.drew
  refine take_at (i := 0) (v := ?_) (some 76) rfl rfl (by kernel_rfl) (by kernel_rfl) (by kernel_rfl) (fun _ _ _ h => h) (Or.inl ⟨by rfl, ?_⟩) (by assumption) ?_
  rotate_left
  · (intro w hSw; (try dsimp only at hSw); go_simp; try with_reducible rfl)
  simp only [Act.put, List.setIfInBounds_toArray, List.set_cons_zero, List.set_cons_succ]
  refine take_at (i := 1) (v := ?_) (some 77) rfl rfl (by kernel_rfl) (by kernel_rfl) (by kernel_rfl) (fun _ _ _ h => h) (Or.inl ⟨by rfl, ?_⟩) (by assumption) ?_
  rotate_left
  · (intro w hSw; (try dsimp only at hSw); go_simp; try with_reducible rfl)
  simp only [Act.put, List.setIfInBounds_toArray, List.set_cons_zero, List.set_cons_succ]
  refine take_at (i := 2) (v := ?_) (some 78) rfl rfl (by kernel_rfl) (by kernel_rfl) (by kernel_rfl) (fun _ _ _ h => h) (Or.inl ⟨by rfl, ?_⟩) (by assumption) ?_
  rotate_left
  · (intro w hSw; (try dsimp only at hSw); go_simp; try with_reducible rfl)
  simp only [Act.put, List.setIfInBounds_toArray, List.set_cons_zero, List.set_cons_succ]
  refine take_at (i := 3) (v := ?_) (some 79) rfl rfl (by kernel_rfl) (by kernel_rfl) (by kernel_rfl) (fun _ _ _ h => h) (Or.inl ⟨by rfl, ?_⟩) (by assumption) ?_
  rotate_left
  · (intro w hSw; (try dsimp only at hSw); go_simp; try with_reducible rfl)
  simp only [Act.put, List.setIfInBounds_toArray, List.set_cons_zero, List.set_cons_succ]
  refine take_at (i := 4) (v := ?_) (some 80) rfl rfl (by kernel_rfl) (by kernel_rfl) (by kernel_rfl) (fun _ _ _ h => h) (Or.inl ⟨by rfl, ?_⟩) (by assumption) ?_
  rotate_left
  · (intro w hSw; (try dsimp only at hSw); go_simp; try with_reducible rfl)
  simp only [Act.put, List.setIfInBounds_toArray, List.set_cons_zero, List.set_cons_succ]
  refine take_at (i := 5) (v := ?_) (some 81) rfl rfl (by kernel_rfl) (by kernel_rfl) (by kernel_rfl) (fun _ _ _ h => h) (Or.inl ⟨by rfl, ?_⟩) (by assumption) ?_
  rotate_left
  · (intro w hSw; (try dsimp only at hSw); go_simp; try with_reducible rfl)
  simp only [Act.put, List.setIfInBounds_toArray, List.set_cons_zero, List.set_cons_succ]
  refine take_at (i := 6) (v := ?_) (some 82) rfl rfl (by kernel_rfl) (by kernel_rfl) (by kernel_rfl) (fun _ _ _ h => h) (Or.inl ⟨by rfl, ?_⟩) (by assumption) ?_
  rotate_left
  · (intro w hSw; (try dsimp only at hSw); go_simp; try with_reducible rfl)
  simp only [Act.put, List.setIfInBounds_toArray, List.set_cons_zero, List.set_cons_succ]
  refine take_at (i := 7) (v := ?_) (some 83) rfl rfl (by kernel_rfl) (by kernel_rfl) (by kernel_rfl) (fun _ _ _ h => h) (Or.inl ⟨by rfl, ?_⟩) (by assumption) ?_
  rotate_left
  · (intro w hSw; (try dsimp only at hSw); go_simp; try with_reducible rfl)
  simp only [Act.put, List.setIfInBounds_toArray, List.set_cons_zero, List.set_cons_succ]
  refine take_at (i := 8) (v := ?_) (some 84) rfl rfl (by kernel_rfl) (by kernel_rfl) (by kernel_rfl) (fun _ _ _ h => h) (Or.inl ⟨by rfl, ?_⟩) (by assumption) ?_
  rotate_left
  · (intro w hSw; (try dsimp only at hSw); go_simp; try with_reducible rfl)
  simp only [Act.put, List.setIfInBounds_toArray, List.set_cons_zero, List.set_cons_succ]
  refine take_at (i := 9) (v := ?_) (some 85) rfl rfl (by kernel_rfl) (by kernel_rfl) (by kernel_rfl) (fun _ _ _ h => h) (Or.inl ⟨by rfl, ?_⟩) (by assumption) ?_
  rotate_left
  · (intro w hSw; (try dsimp only at hSw); go_simp; try with_reducible rfl)
  simp only [Act.put, List.setIfInBounds_toArray, List.set_cons_zero, List.set_cons_succ]
  refine take_at (i := 10) (v := ?_) (some 86) rfl rfl (by kernel_rfl) (by kernel_rfl) (by kernel_rfl) (fun _ _ _ h => h) (Or.inl ⟨by rfl, ?_⟩) (by assumption) ?_
  rotate_left
  · (intro w hSw; (try dsimp only at hSw); go_simp; try with_reducible rfl)
  simp only [Act.put, List.setIfInBounds_toArray, List.set_cons_zero, List.set_cons_succ]
  refine take_at (i := 11) (v := ?_) (some 87) rfl rfl (by kernel_rfl) (by kernel_rfl) (by kernel_rfl) (fun _ _ _ h => h) (Or.inl ⟨by rfl, ?_⟩) (by assumption) ?_
  rotate_left
  · (intro w hSw; (try dsimp only at hSw); go_simp; try with_reducible rfl)
  simp only [Act.put, List.setIfInBounds_toArray, List.set_cons_zero, List.set_cons_succ]
  refine call_at (i := 12) (some 88) 36 _ _ rfl rfl rfl (by rfl) (by kernel_rfl) #[.slice ra rs.length rC, .slice ka n kC, .slice va m vC] rfl Try.func36 (by kernel_rfl) (by kernel_rfl) ?_
  refine (rbtw_any rs.length rC rfl (LR.out _ bE) FR.out (Txt.of (C := kC) (K1.out.below (bE.mono S1.out.size)).1) (Txt.of (C := vC) (V1.out.below (bE.mono S1.out.size)).1)).mono ?_
  rintro e W3 ⟨fa, fC, rfl, hF, hb⟩
  have z3 : Below W2.heap.size W2 W3 := zD.trans (hb.mono zD.size)
  have b3 := hidIt (b2.out.trans (z3.mono b2.out.size))
  have T3 := hidIt (T2.out.below z3)
  have EQ : os.map PV.p = (rs.filter (inB (txtN n fk) (txtN m fv))).map PV.p := by rw [M2.out, inB_map, HE.out, btw_eq _ _ _ S1.out.tab.srt]
  refine ⟨_, rfl, CE.out _ b3.out, fun hHeld => ?_⟩
  simp only [Act.put, List.setIfInBounds_toArray, List.set_cons_zero, List.set_cons_succ]
  refine call_at (i := 13) (some 89) 14 _ _ rfl rfl rfl (by rfl) (by kernel_rfl) #[.slice la os.length lc, .slice fa (rs.filter (inB (txtN n fk) (txtN m fv))).length fC] rfl Try.func14 (by kernel_rfl) (by kernel_rfl) ?_
  refine (samePairs_any os.length _ lc fC rfl rfl (OwnP.lst T3.out.own (fun x hx => ((T3.out.frs x hx).2.mono (fun b hb => by cases hb)))) hF (by have := FO.out; omega)).mono ?_
  rintro e W4 ⟨h1, hb4⟩
  have h2 : e = .returned (.bool true) := by rw [h1, decide_eq_true EQ]
  subst h2
  have b4 := hidIt (b3.out.trans (hb4.mono b3.out.size))
  have T4 := hidIt (T3.out.below hb4)
  refine ⟨_, rfl, CE.out _ b4.out, fun hHeld => ?_⟩
  simp only [Act.put, List.setIfInBounds_toArray, List.set_cons_zero, List.set_cons_succ]
  refine take_at (i := 14) (v := ?_) (some 11) rfl rfl (by kernel_rfl) (by kernel_rfl) (by kernel_rfl) (fun _ _ _ h => h) (Or.inl ⟨by rfl, ?_⟩) (by assumption) ?_
  rotate_left
  · (intro w hSw; (try dsimp only at hSw); go_simp; try with_reducible rfl)
  simp only [Act.put, List.setIfInBounds_toArray, List.set_cons_zero, List.set_cons_succ]
  refine wpAnyH_done (by kernel_rfl) ?_ _
  refine NoPanic.normal ?_
  clear h1 hb4 hb hF z3 zD bE hHeld EQ
  go_wp2_with (go_at_call 12; refine (overPairs_any (base := W1.heap.size) (os := os) os.length lc rfl (by have := FO.out; omega) b4.out.size T4.out.over).mono ?_; rintro e W5 ⟨rfl, hb⟩; have b5 := hidIt (b4.out.trans hb); clear hb)
  exact bodyPost_ret (v := .bool true) (by simp [results, Try.results13, go_sem]) rfl ⟨rfl, t, r, v, qs, _, rs, S1.out.more b5.out, HE.out, E1.out.trans (b5.out.mono S1.out.size)⟩
end Go.Proofs.Ytandkedipjmdbaa
