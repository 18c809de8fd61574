/-
  Walks, not a claim by itself: the reference's Add. By the verifier.
-/
import Derived.Test.YtcjapldhfolpnaaDoorLvNf
namespace Go.Proofs.YtcjapldhfolpnaaDoor
open Go.RowKit
attribute [-go_sem] Builtin.append_
theorem may_fourD {m : List (List Rn)} (h : mayB m = true) (i : Nat) : (fourD m i).all sndR = true ∧ (0 < i → chnR (fourD m i) = true) := by
  unfold mayB at h
  simp only [Bool.and_eq_true] at h
  obtain ⟨⟨_, h1⟩, h2⟩ := h
  unfold fourD
  cases e : m[i]? with
  | none => exact ⟨rfl, fun _ => rfl⟩
  | some l =>
    refine ⟨List.all_eq_true.1 h1 l (List.mem_of_getElem? e), fun h0 => List.all_eq_true.1 h2 l ?_⟩
    refine List.mem_of_getElem? (i := i - 1) ?_
    rw [List.getElem?_drop, show 1 + (i - 1) = i by omega]
    exact e
/-- May four levels be, with one table more at the front? -/
theorem may_front {m : List (List Rn)} (h : mayB m = true) (r : Rn) : mayB [r :: fourD m 0, fourD m 1, fourD m 2, fourD m 3] = sndR r := by
  have a := fun i => may_fourD h i
  unfold mayB
  simp [(a 0).1, (a 1).1, (a 2).1, (a 3).1, (a 1).2 (by omega), (a 2).2 (by omega), (a 3).2 (by omega)]
/-- Four levels, when something was put behind a new block. -/
theorem Four.app {W W6 : World} {g b : Nat} {lv : Nat → LR} (h : Four W g lv) (hg : g ≠ b) (hO : Off [b] W W6) (hb : ∀ i, i < 4 → LrkN W [g, b] (lv i)) : Four W6 g lv := ⟨h.rc.off hO (by simpa using hg), fun i hi => ((hb i hi).mono (M := [g]) (fun c hc => .inl (by simp at hc; simp [hc]))).bothL ((hb i hi).mono (M := [b]) (fun c hc => .inl (by simp at hc; simp [hc]))) hO⟩
theorem Four.more {W W5 : World} {g b : Nat} {lv : Nat → LR} (h : Four W g lv) (hb : W.heap.size ≤ b) (hB : Below W.heap.size W W5) : ∀ i, i < 4 → LrkN W5 [g, b] (lv i) := fun i hi => ((h.oks i hi).mono (M := [g, b]) (fun c hc => by
  simp only [List.mem_cons, List.not_mem_nil, or_false] at hc
  rcases hc with rfl | rfl
  · exact .inl (by simp)
  · exact .inr hb)).below hB
/-- What Add answers, the reference's. -/
def NaPost (W : World) (m : List (List Rn)) (r : Rn) (e : Ending) (w' : World) : Prop := Below W.heap.size W w' ∧ (((mayB m && sndR r) = false ∧ e = .returned (.tuple #[.slice none 0 0, .int .i64 2])) ∨ ((mayB m && sndR r) = true ∧ ∃ g lv, e = .returned (.tuple #[.slice (some ⟨g, 0, none⟩) 4 4, .int .i64 0]) ∧ Four w' g lv ∧ ∀ i, i < 4 → (lv i).rs.map RV.r = if i = 0 then r :: fourD m 0 else fourD m i))
theorem four_rns {m : List (List Rn)} {r : Rn} {lv : Nat → LR} (h : ∀ i, i < 4 → (lv i).rs.map RV.r = if i = 0 then r :: fourD m 0 else fourD m i) : rns [lv 0, lv 1, lv 2, lv 3] = [r :: fourD m 0, fourD m 1, fourD m 2, fourD m 3] := by
  have h0 := h 0 (by omega)
  have h1 := h 1 (by omega)
  have h2 := h 2 (by omega)
  have h3 := h 3 (by omega)
  simp at h0 h1 h2 h3
  simp [rns, h0, h1, h2, h3]
theorem own_one {W W5 : World} {y : RV} (hW : W5 = W.alloc (.cells y.cs.toArray 27)) : OwnR W5 0 (.slice (some ⟨W.heap.size, 0, none⟩) 1 1) [y] := by
  subst hW
  exact ⟨by rw [rcs_single]; rfl, .inr ⟨W.heap.size, 1, y.cs.toArray, rfl, Nat.zero_le _, World.alloc_heap_new W _, Nat.le_refl _, by decide, rfl, by simp [rcs_single, RV.cs]⟩⟩
/-- What stands when the new first level was put in its place. -/
theorem na_put {W W4 W5 W6 : World} {m : List (List Rn)} {g b : Nat} {lv : Nat → LR} {y : RV} {v6 : Value} {N : List Nat} (hf : Four W4 g lv) (hy : RVOk W N y) (hE : Below W.heap.size W W4) (hg : W.heap.size ≤ g) (hb : W4.heap.size ≤ b) (hB : Below W4.heap.size W4 W5) (hm : ∀ i, i < 4 → (lv i).rs.map RV.r = fourD m i) (hI : InsR W5 (.slice (some ⟨b, 0, none⟩) 1 1) (y :: (lv 0).rs) v6 W6) : ∃ z : LR, v6 = z.v ∧ Four (W6.setCell ⟨g, 0, none⟩ z.v) g (upd4 lv 0 z) ∧ (∀ i, i < 4 → (upd4 lv 0 z i).rs.map RV.r = if i = 0 then y.r :: fourD m 0 else fourD m i) ∧ Below W.heap.size W (W6.setCell ⟨g, 0, none⟩ z.v) := by
  have sg := hf.rc.2.2
  have hO : Off [b] W5 W6 := hI.off
  have f6 := (hf.below hB).app (b := b) (by omega) hO (hf.more hb hB)
  obtain ⟨a6, c6, hv, _⟩ := hI.own.sl
  have tx : ∀ x ∈ y :: (lv 0).rs, RVOk W6 [g] x := fun x hx => by
    have a : RVOk W5 [g, b] x := by
      rcases List.mem_cons.1 hx with rfl | hx
      · exact ((hy.mono (M := [g, b]) (fun c hc => .inr (by
          simp only [List.mem_cons, List.not_mem_nil, or_false] at hc
          have := hE.size
          rcases hc with rfl | rfl <;> omega))).below hE).below hB
      · exact (hf.more hb hB 0 (by omega)).1 x hx
    exact (a.mono (M := [g]) (fun c hc => .inl (by simp at hc; simp [hc]))).both (a.mono (M := [b]) (fun c hc => .inl (by simp at hc; simp [hc]))) hO
  have hz : LrkN W6 [g] ⟨a6, c6, y :: (lv 0).rs⟩ := own_lrk (hv ▸ hI.own) rfl tx (fun q hq z => by
    have z := List.mem_singleton.1 z
    rcases hI.blk q (by rw [hv]; exact hq) with e | e
    · simp [Value.ownBlock] at e; omega
    · have := hB.size; omega)
  refine ⟨⟨a6, c6, y :: (lv 0).rs⟩, hv, f6.set (by omega) hz, fun i hi => ?_, ?_⟩
  · by_cases e : i = 0
    · subst e
      rw [upd4_at, if_pos rfl, List.map_cons, hm 0 (by omega)]
    · rw [upd4_ne _ _ e, if_neg e, hm i hi]
  · have b5 : Below W.heap.size W W5 := hE.trans (hB.mono hE.size)
    exact (b5.trans (hO.below (by have := hE.size; simp; omega) b5.size)).trans ((But.set (b := g) W6 0 _).below hg (Nat.le_trans b5.size hO.size))
set_option maxRecDepth 100000 in
set_option maxHeartbeats 2000000 in
theorem nadd_any {W : World} {N : List Nat} {A : Option Addr} {ls : List LR} {y : RV} (L C : Nat) (hL : ls.length = L) (h : Lvs W A ls) (hs : ∀ x ∈ ls, x.rs.length ≤ 900) (hy : RVOk W N y) : Calls Tryd.prog 9 #[.slice A L C, .agg y.cs.toArray] W (NaPost W (rns ls) y.r) := by
  have HL := hidIt h
  have HN := hidIt (And.intro hL hs)
  have HY := hidIt hy
  clear h hL hs hy
  by_cases hm : mayB (rns ls) = true
  · have MI : Hid (mayI (rns ls) = 0) := hidIt (by unfold mayI; rw [if_pos hm])
    have L4 : Hid (L ≤ 4) := hidIt (by have := ((mayB_at _).1 hm).1; have := HN.out.1; simp [rns] at *; omega)
    have M1 := hidIt hm
    clear hm
    go_enter Tryd.func9, Tryd.ntmps9
    go_wp2_with (first
      | (refine wpList_box_rec rfl 27 (.tmp 1) rfl y.cs rfl W.heap.size rfl ?_; intro W1 R1 B1 z1; have E1 := hidIt B1; have P1 := hidIt R1; clear R1 B1 z1)
      | (go_at_call 14; refine (ncheck_any L C HN.out.1 (HL.out.below E1.out) (fun x hx => by have := HN.out.2 x hx; omega)).mono ?_; rw [MI.out]; rintro e W2 ⟨rfl, hb⟩; have E2 := hidIt (E1.out.trans (hb.mono E1.out.size)); have P2 := hidIt (P1.out.below hb); clear hb)
      | (go_at_call 33; refine (nfour_any L C HN.out.1 (HL.out.below E2.out) L4.out (fun x hx => by have := HN.out.2 x hx; omega)).mono ?_; rintro e W4 ⟨g, lv, rfl, hg, hf, hm, hb⟩; have F4 := hidIt hf; have G4 := hidIt hm; have SG := hidIt hg; have E4 := hidIt (E2.out.trans (hb.mono E2.out.size)); have P4 := hidIt (P2.out.below hb); have Z2 := hidIt (show W.heap.size < W2.heap.size from P2.out.2.2); clear hf hg hm hb; refine Held.out ?_))
    refine Held.mk ?_
    have FD := hidIt (F4.out.below (Below.refl _ _).drew)
    have PD := hidIt (P4.out.below (Below.refl _ _).drew)
    have ED := hidIt E4.out.drew
    have cl : W4.drew.cell? ⟨g, 0, none⟩ = some (lv 0).v := (FD.out.rc.cel 0 _ rfl).1
    obtain ⟨W5, hW5⟩ : ∃ W5, W5 = W4.drew.alloc (.cells y.cs.toArray 27) := ⟨_, rfl⟩
    have A5 : Below W4.drew.heap.size W4.drew W5 := by rw [hW5]; exact (Below.refl _ _).alloc (Nat.le_refl _) _
    have O5 := own_one hW5
    have F5 := FD.out.below A5
    have P5 := PD.out.below A5
    have N0 : (lv 0).rs.length ≤ 900 := by
      have a := congrArg List.length (G4.out 0 (by omega))
      rw [List.length_map] at a
      rw [a]
      unfold fourD rns
      rw [List.getElem?_map]
      cases q : ls[0]? with
      | none => simp
      | some x => have := HN.out.2 x (List.mem_of_getElem? q); simpa using this
    obtain ⟨v6, W6, hr6, I6⟩ := app_runs_any 36 W5 _ [y] (lv 0).rs (lv 0).a (lv 0).rs.length (lv 0).c rfl O5 (F5.lvs.1 _ (List.mem_cons_self)).1 (by simp; omega)
    obtain ⟨z, hz, F8, M8, E8⟩ := na_put FD.out HY.out ED.out (by have := SG.out; have := Z2.out; omega) (Nat.le_refl _) A5 G4.out I6
    subst hz
    have G6 := ((F5.rc).off I6.off (fun q => by have q : g = W4.drew.heap.size := List.mem_singleton.1 q; have := FD.out.rc.2.2; omega)).cel 0 _ rfl
    have hr8 := store_v 36 (by kernel_rfl) (v := z.v) rfl rfl G6.1 G6.2
    have S5 : W5.rangeAt W.heap.size 0 y.cs := P5.1
    have S6 : W6.rangeAt W.heap.size 0 y.cs := (P5.off I6.off (fun q => by have q : W.heap.size = W4.drew.heap.size := List.mem_singleton.1 q; have := PD.out.2.2; omega)).1
    have S8 : (W6.setCell ⟨g, 0, none⟩ z.v).rangeAt W.heap.size 0 y.cs := ((P5.off I6.off (fun q => by have q : W.heap.size = W4.drew.heap.size := List.mem_singleton.1 q; have := PD.out.2.2; omega)).but (But.set (b := g) W6 0 z.v) (by have := SG.out; have := Z2.out; omega)).1
    have cl5 : W5.cell? ⟨g, 0, none⟩ = some (lv 0).v := (F5.rc.cel 0 _ rfl).1
    have R8 := hidIt (four_rns M8)
    have Q8 := hidIt (And.intro F8 (And.intro M8 E8))
    have SZ8 : Hid (∀ x ∈ [upd4 lv 0 z 0, upd4 lv 0 z 1, upd4 lv 0 z 2, upd4 lv 0 z 3], x.rs.length ≤ 1000) := hidIt (by
      have fl : ∀ i, (fourD (rns ls) i).length ≤ 900 := fun i => by
        unfold fourD rns
        rw [List.getElem?_map]
        cases q : ls[i]? with
        | none => simp
        | some x => have := HN.out.2 x (List.mem_of_getElem? q); simpa using this
      have one : ∀ i, i < 4 → (upd4 lv 0 z i).rs.length ≤ 1000 := fun i hi => by
        have a := congrArg List.length (M8 i hi)
        rw [List.length_map] at a
        rw [a]
        have := fl i
        have := fl 0
        split <;> simp <;> omega
      intro x hx
      simp only [List.mem_cons, List.not_mem_nil, or_false] at hx
      rcases hx with rfl | rfl | rfl | rfl
      · exact one 0 (by omega)
      · exact one 1 (by omega)
      · exact one 2 (by omega)
      · exact one 3 (by omega))
    have H5 := hidIt hW5
    have T6 := hidIt (And.intro hr6 (And.intro hr8 (And.intro S5 (And.intro S6 (And.intro S8 cl5)))))
    clear F8 M8 E8 I6 F5 P5 O5 A5 hW5 hr6 hr8 S5 S6 S8 cl5 N0 G6
    go_wp2_with fail
    refine wp_region_noPanic ?_
    refine wp_region_held_drew (S := fun w' => w'.rangeAt W.heap.size 0 y.cs) (by kernel_rfl) ?_ (fun hHeld => ?_)
    · exact PD.out.1
    refine take_at (i := 0) (v := ?_) (some 12) rfl rfl (by kernel_rfl) (by kernel_rfl) (by kernel_rfl) (fun _ _ _ h => h) (Or.inl ⟨by rfl, ?_⟩) (by assumption) ?_
    rotate_left
    · (intro w hSw; (try dsimp only at hSw); go_simp; try with_reducible rfl)
    simp only [Act.put, List.setIfInBounds_toArray, List.set_cons_zero, List.set_cons_succ]
    refine take_at (i := 3) (v := ?_) (some 15) rfl rfl (by kernel_rfl) (by kernel_rfl) (by kernel_rfl) (fun _ _ _ h => h) (Or.inl ⟨by rfl, ?_⟩) (by assumption) ?_
    rotate_left
    · (intro w hSw; (try dsimp only at hSw); go_simp; try with_reducible rfl)
    simp only [Act.put, List.setIfInBounds_toArray, List.set_cons_zero, List.set_cons_succ]
    refine take_at (i := 4) (v := ?_) (some 16) rfl rfl (by kernel_rfl) (by kernel_rfl) (by kernel_rfl) (fun _ _ _ h => h) (Or.inl ⟨by rfl, ?_⟩) (by assumption) ?_
    rotate_left
    · (intro w hSw; (try dsimp only at hSw); go_simp; try with_reducible rfl)
    simp only [Act.put, List.setIfInBounds_toArray, List.set_cons_zero, List.set_cons_succ]
    refine take_at (i := 1) (v := _) (some 13) rfl rfl (by kernel_rfl) (by kernel_rfl) (by kernel_rfl) (fun _ _ _ h => h) (yieldsIf_load_mid (by rfl) _ _ rfl _ _ rfl _ _ (fun w h => h) Tryd.underlying27 rfl (by kernel_rfl)) (by assumption) ?_
    simp only [Act.put, List.setIfInBounds_toArray, List.set_cons_zero, List.set_cons_succ]
    refine pair_at (i := 2) (j := 5) (some 14) (some 17) rfl rfl rfl rfl (by kernel_rfl) (by rfl) (by rfl) (.slice (some ⟨W4.drew.heap.size, 0, none⟩) 1 1) (lv 0).v W5 W4.drew (by rw [H5.out]; exact bsl_run 36 27 1 _ rfl 5 72 _ _ _ under_runs info_run (by decide) (by decide) rfl (by kernel_rfl)) (by go_simp) ⟨T6.out.2.2.1, hHeld⟩ (fun hHeld => ?_) (fun hHeld => ?_)
    · skip
      simp only [Act.put, List.setIfInBounds_toArray, List.set_cons_zero, List.set_cons_succ]
      have cl5 := T6.out.2.2.2.2.2
      refine step_at (i := 5) (some 17) rfl rfl (by rfl) (by kernel_rfl) (lv 0).v W5 (by go_simp) T6.out.2.2.1 (fun hHeld => ?_)
      clear cl5 cl
      simp only [Act.put, List.setIfInBounds_toArray, List.set_cons_zero, List.set_cons_succ]
      refine step_at (i := 6) (some 18) rfl rfl (by rfl) (by kernel_rfl) z.v W6 (app_runv (.tmp 14) (.tmp 17) 36 36 rfl _ _ rfl rfl T6.out.1) T6.out.2.2.2.1 (fun hHeld => ?_)
      simp only [Act.put, List.setIfInBounds_toArray, List.set_cons_zero, List.set_cons_succ]
      refine take_at (i := 7) (v := ?_) (some 19) rfl rfl (by kernel_rfl) (by kernel_rfl) (by kernel_rfl) (fun _ _ _ h => h) (Or.inl ⟨by rfl, ?_⟩) (by assumption) ?_
      rotate_left
      · (intro w hSw; (try dsimp only at hSw); go_simp; try with_reducible rfl)
      simp only [Act.put, List.setIfInBounds_toArray, List.set_cons_zero, List.set_cons_succ]
      have hr8 := T6.out.2.1
      have S8 := T6.out.2.2.2.2.1
      clear T6
      generalize W6.setCell ⟨g, 0, none⟩ z.v = W8 at *
      refine mute_at (i := 8) none rfl rfl (by rfl) (by kernel_rfl) W8 (put_mute 36 (.tmp 19) (.tmp 18) rfl _ _ rfl rfl hr8) S8 (fun hHeld => ?_)
      simp only [Act.put]
      clear hr8 S8
      refine wpAnyH_done (by kernel_rfl) ?_ _
      refine NoPanic.normal ?_
      cases hsn : sndR y.r with
      | false =>
        have FIN : Hid ((mayB (rns ls) && sndR y.r) = false) := hidIt (by rw [hsn]; simp)
        have MI8 : Hid (mayI (rns [upd4 lv 0 z 0, upd4 lv 0 z 1, upd4 lv 0 z 2, upd4 lv 0 z 3]) = 2) := hidIt (by rw [R8.out]; unfold mayI; rw [may_front M1.out, hsn]; rfl)
        clear hsn
        go_wp2_with (go_at_call 14; refine (ncheck_any 4 4 rfl Q8.out.1.lvs SZ8.out).mono ?_; rw [MI8.out]; rintro e W9 ⟨rfl, hb⟩; have E9 := hidIt (Q8.out.2.2.trans (hb.mono Q8.out.2.2.size)); clear hb)
        exact bodyPost_ret (v := .tuple #[.slice none 0 0, .int .i64 2]) (by simp [results, Tryd.results9, go_sem]) rfl ⟨E9.out, .inl ⟨FIN.out, rfl⟩⟩
      | true =>
        have FIN : Hid ((mayB (rns ls) && sndR y.r) = true) := hidIt (by rw [hsn, M1.out]; rfl)
        have MI8 : Hid (mayI (rns [upd4 lv 0 z 0, upd4 lv 0 z 1, upd4 lv 0 z 2, upd4 lv 0 z 3]) = 0) := hidIt (by rw [R8.out]; unfold mayI; rw [may_front M1.out, hsn]; rfl)
        clear hsn
        go_wp2_with (go_at_call 14; refine (ncheck_any 4 4 rfl Q8.out.1.lvs SZ8.out).mono ?_; rw [MI8.out]; rintro e W9 ⟨rfl, hb⟩; have E9 := hidIt (Q8.out.2.2.trans (hb.mono Q8.out.2.2.size)); have F9 := hidIt (Q8.out.1.below hb); clear hb)
        exact bodyPost_ret (v := .tuple #[.slice (some ⟨g, 0, none⟩) 4 4, .int .i64 0]) (by simp [results, Tryd.results9, go_sem]) rfl ⟨E9.out, .inr ⟨FIN.out, g, _, rfl, F9.out, Q8.out.2.1⟩⟩
    · skip
      simp only [Act.put, List.setIfInBounds_toArray, List.set_cons_zero, List.set_cons_succ]
      refine step_at (i := 2) (some 14) rfl rfl (by rfl) (by kernel_rfl) (.slice (some ⟨W4.drew.heap.size, 0, none⟩) 1 1) W5 (by rw [H5.out]; exact bsl_run 36 27 1 _ rfl 5 72 _ _ _ under_runs info_run (by decide) (by decide) rfl (by kernel_rfl)) T6.out.2.2.1 (fun hHeld => ?_)
      clear cl
      simp only [Act.put, List.setIfInBounds_toArray, List.set_cons_zero, List.set_cons_succ]
      refine step_at (i := 6) (some 18) rfl rfl (by rfl) (by kernel_rfl) z.v W6 (app_runv (.tmp 14) (.tmp 17) 36 36 rfl _ _ rfl rfl T6.out.1) T6.out.2.2.2.1 (fun hHeld => ?_)
      simp only [Act.put, List.setIfInBounds_toArray, List.set_cons_zero, List.set_cons_succ]
      refine take_at (i := 7) (v := ?_) (some 19) rfl rfl (by kernel_rfl) (by kernel_rfl) (by kernel_rfl) (fun _ _ _ h => h) (Or.inl ⟨by rfl, ?_⟩) (by assumption) ?_
      rotate_left
      · (intro w hSw; (try dsimp only at hSw); go_simp; try with_reducible rfl)
      simp only [Act.put, List.setIfInBounds_toArray, List.set_cons_zero, List.set_cons_succ]
      have hr8 := T6.out.2.1
      have S8 := T6.out.2.2.2.2.1
      clear T6
      generalize W6.setCell ⟨g, 0, none⟩ z.v = W8 at *
      refine mute_at (i := 8) none rfl rfl (by rfl) (by kernel_rfl) W8 (put_mute 36 (.tmp 19) (.tmp 18) rfl _ _ rfl rfl hr8) S8 (fun hHeld => ?_)
      simp only [Act.put]
      clear hr8 S8
      refine wpAnyH_done (by kernel_rfl) ?_ _
      refine NoPanic.normal ?_
      cases hsn : sndR y.r with
      | false =>
        have FIN : Hid ((mayB (rns ls) && sndR y.r) = false) := hidIt (by rw [hsn]; simp)
        have MI8 : Hid (mayI (rns [upd4 lv 0 z 0, upd4 lv 0 z 1, upd4 lv 0 z 2, upd4 lv 0 z 3]) = 2) := hidIt (by rw [R8.out]; unfold mayI; rw [may_front M1.out, hsn]; rfl)
        clear hsn
        go_wp2_with (go_at_call 14; refine (ncheck_any 4 4 rfl Q8.out.1.lvs SZ8.out).mono ?_; rw [MI8.out]; rintro e W9 ⟨rfl, hb⟩; have E9 := hidIt (Q8.out.2.2.trans (hb.mono Q8.out.2.2.size)); clear hb)
        exact bodyPost_ret (v := .tuple #[.slice none 0 0, .int .i64 2]) (by simp [results, Tryd.results9, go_sem]) rfl ⟨E9.out, .inl ⟨FIN.out, rfl⟩⟩
      | true =>
        have FIN : Hid ((mayB (rns ls) && sndR y.r) = true) := hidIt (by rw [hsn, M1.out]; rfl)
        have MI8 : Hid (mayI (rns [upd4 lv 0 z 0, upd4 lv 0 z 1, upd4 lv 0 z 2, upd4 lv 0 z 3]) = 0) := hidIt (by rw [R8.out]; unfold mayI; rw [may_front M1.out, hsn]; rfl)
        clear hsn
        go_wp2_with (go_at_call 14; refine (ncheck_any 4 4 rfl Q8.out.1.lvs SZ8.out).mono ?_; rw [MI8.out]; rintro e W9 ⟨rfl, hb⟩; have E9 := hidIt (Q8.out.2.2.trans (hb.mono Q8.out.2.2.size)); have F9 := hidIt (Q8.out.1.below hb); clear hb)
        exact bodyPost_ret (v := .tuple #[.slice (some ⟨g, 0, none⟩) 4 4, .int .i64 0]) (by simp [results, Tryd.results9, go_sem]) rfl ⟨E9.out, .inr ⟨FIN.out, g, _, rfl, F9.out, Q8.out.2.1⟩⟩
  · have hm : mayB (rns ls) = false := by simpa using hm
    have MI : Hid (mayI (rns ls) = 2) := hidIt (by unfold mayI; rw [hm]; rfl)
    have FIN : Hid ((mayB (rns ls) && sndR y.r) = false) := hidIt (by rw [hm]; rfl)
    clear hm
    go_enter Tryd.func9, Tryd.ntmps9
    go_wp2_with (first
      | (refine wpList_box_rec rfl 27 (.tmp 1) rfl y.cs rfl W.heap.size rfl ?_; intro W1 R1 B1 z1; have E1 := hidIt B1; have P1 := hidIt R1; clear R1 B1 z1)
      | (go_at_call 14; refine (ncheck_any L C HN.out.1 (HL.out.below E1.out) (fun x hx => by have := HN.out.2 x hx; omega)).mono ?_; rw [MI.out]; rintro e W2 ⟨rfl, hb⟩; have E2 := hidIt (E1.out.trans (hb.mono E1.out.size)); clear hb))
    exact bodyPost_ret (v := .tuple #[.slice none 0 0, .int .i64 2]) (by simp [results, Tryd.results9, go_sem]) rfl ⟨E2.out, .inl ⟨FIN.out, rfl⟩⟩
end Go.Proofs.YtcjapldhfolpnaaDoor
