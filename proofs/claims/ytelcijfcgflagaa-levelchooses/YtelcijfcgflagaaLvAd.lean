/-
  Walks, not a claim by itself: level's Add. By the verifier.
-/
import Derived.Test.YtelcijfcgflagaaLvCo
import Derived.Test.YtelcijfcgflagaaLvIns4
namespace Go.Proofs.Ytelcijfcgflagaa
open Go.RowKit
attribute [-go_sem] Builtin.append_
/-- A table is put in at the front. -/
theorem insR_front (W : World) (v : Value) (ps : List RV) (x : RV) (vb : Nat) (hO : OwnR W 0 v ps) (hp : ∀ u ∈ rcs ps, u.oneCell' = true) (hv : LoneR W vb x) (hf : ps.length ≤ 63) (hne : v.ownBlock ≠ some vb) : Calls Try.prog 58 #[v, .int .i64 0, .slice (some ⟨vb, 0, none⟩) 1 1] W (InsRPost W v (x :: ps)) := by
  rcases hO.form with ⟨rfl, rfl⟩ | ⟨g, cap, rfl, _, hc, _, _, _⟩
  · exact insR_end W (.slice none 0 0) [] x vb 0 rfl hO hv (by decide)
  · by_cases h0 : ps.length = 0
    · obtain rfl := List.eq_nil_of_length_eq_zero h0
      exact insR_end W _ [] x vb 0 rfl hO hv (by decide)
    · have e : ps.take 0 ++ x :: ps.drop 0 = x :: ps := by simp
      by_cases hr : ps.length < cap
      · have := insR_room W ps x vb ps.length 0 g cap rfl hO hp hv hf (by omega) (fun q => hne (by rw [q]; rfl)) hr
        rw [e] at this
        exact this
      · have := insR_grow W ps x vb ps.length 0 g cap rfl hO hp hv hf (by omega) hc (by omega)
        rw [e] at this
        exact this
def fourD (ls : List (List Rn)) (i : Nat) : List Rn := (ls[i]?).getD []
/-- What Add answers. -/
def AddPost (W : World) (ls : List (List Rn)) (r : Rn) (e : Ending) (w' : World) : Prop := Below W.heap.size W w' ∧ (((mayB ls && sndR r) = false ∧ e = .returned (.tuple #[.slice none 0 0, .int .i64 2])) ∨ ((mayB ls && sndR r) = true ∧ ∃ g B1 lv os, e = .returned (.tuple #[.slice (some ⟨g, 0, none⟩) 4 4, .int .i64 0]) ∧ W.heap.size ≤ g ∧ W.heap.size ≤ B1 ∧ Fo B1 w' g lv os ∧ ∀ i, i < 4 → (os i).map RV.r = if i = 0 then r :: fourD ls 0 else fourD ls i))
set_option maxRecDepth 100000 in
set_option maxHeartbeats 2000000 in
theorem ladd_any {W : World} {N : List Nat} {A : Option Addr} {ls : List LR} {y : RV} (L C : Nat) (hL : ls.length = L) (h : Lvs W A ls) (hs : ∀ x ∈ ls, x.rs.length ≤ 60) (hz : ∀ x ∈ ls, ∀ y ∈ x.rs, y.r.f.size ≤ 1000000 ∧ y.r.l.size ≤ 1000000) (hy : RVOk W N y) (hyz : y.r.f.size ≤ 1000000 ∧ y.r.l.size ≤ 1000000) : Calls Try.prog 40 #[.slice A L C, .agg y.cs.toArray] W (AddPost W (rns ls) y.r) := by
  have HL := hidIt h
  have HN := hidIt (And.intro hL (And.intro hs hz))
  have HY := hidIt (And.intro hy hyz)
  clear h hL hs hz hy hyz
  by_cases hm : mayB (rns ls) = true
  · have MI : Hid (mayI (rns ls) = 0) := hidIt (by unfold mayI; rw [if_pos hm])
    have L4 : Hid (L ≤ 4) := hidIt (by have := ((mayB_at _).1 hm).1; have := HN.out.1; simp [rns] at *; omega)
    have M1 := hidIt hm
    cases hsn : sndR y.r with
    | false =>
      have FIN : Hid ((mayB (rns ls) && sndR y.r) = false) := hidIt (by rw [hsn]; simp)
      have SN := hidIt hsn
      clear hm hsn
      go_enter Try.func40, Try.ntmps40
      go_wp2_with (first
        | (refine wpList_box_rec rfl 45 (.tmp 1) rfl y.cs rfl W.heap.size rfl ?_; intro W1 R1 B1 z1; have E1 := hidIt B1; have P1 := hidIt R1; clear R1 B1 z1)
        | (go_at_call 17; refine (lcheck_any L C HN.out.1 (HL.out.below E1.out) (fun x hx => by have := HN.out.2.1 x hx; omega)).mono ?_; rw [MI.out]; rintro e W2 ⟨rfl, hb⟩; have E2 := hidIt (E1.out.trans (hb.mono E1.out.size)); have P2 := hidIt (P1.out.below hb); clear hb; obtain ⟨k0, k1, k2, k3, k4⟩ := five_cells P2.out.1)
        | (go_at_call 45; refine (sound_any (HY.out.1.below E2.out)).mono ?_; rw [SN.out]; rintro e W3 ⟨rfl, hb⟩; have E3 := hidIt (E2.out.trans (hb.mono E2.out.size)); clear hb))
      exact bodyPost_ret (v := .tuple #[.slice none 0 0, .int .i64 2]) (by simp [results, Try.results40, go_sem]) rfl ⟨E3.out, .inl ⟨FIN.out, rfl⟩⟩
    | true =>
      have FIN : Hid ((mayB (rns ls) && sndR y.r) = true) := hidIt (by rw [hm, hsn]; rfl)
      have SN := hidIt hsn
      clear hm hsn
      go_enter Try.func40, Try.ntmps40
      go_wp2_with (first
        | (refine wpList_box_rec rfl 45 (.tmp 1) rfl y.cs rfl W.heap.size rfl ?_; intro W1 R1 B1 z1; have E1 := hidIt B1; have P1 := hidIt R1; clear R1 B1 z1)
        | (go_at_call 17; refine (lcheck_any L C HN.out.1 (HL.out.below E1.out) (fun x hx => by have := HN.out.2.1 x hx; omega)).mono ?_; rw [MI.out]; rintro e W2 ⟨rfl, hb⟩; have E2 := hidIt (E1.out.trans (hb.mono E1.out.size)); have P2 := hidIt (P1.out.below hb); clear hb; obtain ⟨k0, k1, k2, k3, k4⟩ := five_cells P2.out.1)
        | (go_at_call 45; refine (sound_any (HY.out.1.below E2.out)).mono ?_; rw [SN.out]; rintro e W3 ⟨rfl, hb⟩; have E3 := hidIt (E2.out.trans (hb.mono E2.out.size)); have P3 := hidIt (P2.out.below hb); clear hb k0 k1 k2 k3 k4)
        | (go_at_call 29; refine (lcopied_any L C HN.out.1 (HL.out.below E3.out) L4.out (fun x hx => by have := HN.out.2.1 x hx; omega) HN.out.2.2).mono ?_; rintro e W4 ⟨g, lv, os, rfl, hf, hg, hm, hb⟩; have F4 := hidIt hf; have G4 := hidIt (And.intro hg hm); have E4 := hidIt (E3.out.trans (hb.mono E3.out.size)); have P4 := hidIt (P3.out.below hb); clear hf hg hm hb; refine Held.out ?_))
      refine Held.mk ?_
      have N0 : Hid ((os 0).length ≤ 60) := hidIt (by
        have a := congrArg List.length (G4.out.2 0 (by omega))
        rw [List.length_map] at a
        rw [a]
        unfold rns
        rw [List.getElem?_map]
        cases q : ls[0]? with
        | none => simp
        | some x => have := HN.out.2.1 x (List.mem_of_getElem? q); simpa using this)
      have G0 := hidIt (fo_at F4.out (show (0 : Nat) < 4 by omega))
      have FD := hidIt (F4.out.below (Below.refl _ _).drew)
      have PD := hidIt (P4.out.below (Below.refl _ _).drew)
      have ED := hidIt E4.out.drew
      have YD := hidIt (HY.out.1.below E4.out.drew)
      have SG : Hid (g < W4.drew.heap.size ∧ W.heap.size < g ∧ W.heap.size < W3.heap.size) := hidIt ⟨FD.out.rc.2.2, by rw [G4.out.1.1]; exact P3.out.2.2, P3.out.2.2⟩
      have cl : W4.drew.cell? ⟨g, 0, none⟩ = some (lv 0) := fo_at FD.out (show (0 : Nat) < 4 by omega)
      have NA : Hid (∀ b, b ∈ foN g lv → b < W4.drew.heap.size) := hidIt (fun b hb => by
        rcases foN_of.1 hb with rfl | ⟨j, hj, hb⟩
        · exact SG.out.1
        · exact (FD.out.own j hj).lt hb)
      have SZ3 : Hid (W3.heap.size + 3 ≤ W4.drew.heap.size) := hidIt G4.out.1.2
      go_wp2_with fail
      refine wp_region_noPanic ?_
      refine wp_region_held_drew (S := fun w' => w'.rangeAt W.heap.size 0 y.cs) (by kernel_rfl) ?_ (fun hHeld => ?_)
      · exact PD.out.1
      refine take_at (i := 0) (v := ?_) (some 17) rfl rfl (by kernel_rfl) (by kernel_rfl) (by kernel_rfl) (fun _ _ _ h => h) (Or.inl ⟨by rfl, ?_⟩) (by assumption) ?_
      rotate_left
      · (intro w hSw; (try dsimp only at hSw); go_simp; try with_reducible rfl)
      simp only [Act.put, List.setIfInBounds_toArray, List.set_cons_zero, List.set_cons_succ]
      refine take_at (i := 1) (v := ?_) (some 18) rfl rfl (by kernel_rfl) (by kernel_rfl) (by kernel_rfl) (fun _ _ _ h => h) (Or.inl ⟨by rfl, ?_⟩) (by assumption) ?_
      rotate_left
      · (intro w hSw; (try dsimp only at hSw); go_simp; try with_reducible rfl)
      simp only [Act.put, List.setIfInBounds_toArray, List.set_cons_zero, List.set_cons_succ]
      refine take_at (i := 2) (v := ?_) (some 19) rfl rfl (by kernel_rfl) (by kernel_rfl) (by kernel_rfl) (fun _ _ _ h => h) (Or.inl ⟨by rfl, ?_⟩) (by assumption) ?_
      rotate_left
      · (intro w hSw; (try dsimp only at hSw); go_simp; try with_reducible rfl)
      simp only [Act.put, List.setIfInBounds_toArray, List.set_cons_zero, List.set_cons_succ]
      refine take_at (i := 4) (v := _) (some 21) rfl rfl (by kernel_rfl) (by kernel_rfl) (by kernel_rfl) (fun _ _ _ h => h) (yieldsIf_load_mid (by rfl) _ _ rfl _ _ rfl _ _ (fun w h => h) Try.underlying45 rfl (by kernel_rfl)) (by assumption) ?_
      simp only [Act.put, List.setIfInBounds_toArray, List.set_cons_zero, List.set_cons_succ]
      refine duo2_at (i := 5) (j := 3) (some 22) (some 20) 52 #[.tmp 21] _ rfl rfl rfl rfl rfl (by rfl) (by rfl) (by kernel_rfl) (lv 0) W4.drew (by go_simp) hHeld (fun hHeld => ?_) #[.agg y.cs.toArray] rfl Try.func52 (by kernel_rfl) (by kernel_rfl) ?_
      · simp only [Act.put, List.setIfInBounds_toArray, List.set_cons_zero, List.set_cons_succ]
        refine call_at (i := 5) (some 22) 52 _ _ rfl rfl rfl (by rfl) (by kernel_rfl) #[.agg y.cs.toArray] rfl Try.func52 (by kernel_rfl) (by kernel_rfl) ?_
        refine (copiedTable_any YD.out HY.out.2).mono ?_
        rintro e W5 ⟨z, hz, rfl, Fz, Lz, B5⟩
        have HZ := hidIt hz
        have FZ : Hid (FrC W5 W4.drew.heap.size z.f z.r.f ∧ FrC W5 W4.drew.heap.size z.l z.r.l) := hidIt (by rw [hz]; exact ⟨Fz, Lz⟩)
        have D5 := hidIt B5
        have S5 : W5.rangeAt W.heap.size 0 y.cs := (PD.out.below B5).1
        clear Fz Lz B5 hz cl
        refine ⟨_, rfl, S5, fun hHeld => ?_⟩
        simp only [Act.put, List.setIfInBounds_toArray, List.set_cons_zero, List.set_cons_succ]
        obtain ⟨W6, hW6⟩ : ∃ W6, W6 = W5.alloc (.cells z.cs.toArray 45) := ⟨_, rfl⟩
        have A6 : Below W5.heap.size W5 W6 := by rw [hW6]; exact (Below.refl _ _).alloc (Nat.le_refl _) _
        have E6 := hidIt (D5.out.trans (A6.mono D5.out.size))
        have OZ : Hid (OkT (W3.heap.size + 3) W6 (foN g lv) z) := hidIt (OkT.below ⟨⟨FZ.out.1.low (by have := FD.out.rc.2.2; have := SZ3.out; omega), FZ.out.2.low (by have := SZ3.out; omega)⟩, FZ.out.1.txt NA.out, FZ.out.2.txt NA.out⟩ A6)
        have LZ : Hid (LoneR W6 W5.heap.size z) := hidIt (by rw [hW6]; exact ⟨World.alloc_heap_new W5 _, by rw [hW6] at OZ; exact OZ.out.2.one⟩)
        have S6 : W6.rangeAt W.heap.size 0 y.cs := (PD.out.below E6.out).1
        refine step_at (i := 6) (some 23) rfl rfl (by rfl) (by kernel_rfl) (.slice (some ⟨W5.heap.size, 0, none⟩) 1 1) W6 (by rw [hW6]; exact bsl_run 23 45 1 _ rfl 5 72 _ _ _ under_runs info_run (by decide) (by decide) rfl (by kernel_rfl)) S6 (fun hHeld => ?_)
        simp only [Act.put, List.setIfInBounds_toArray, List.set_cons_zero, List.set_cons_succ]
        refine call_at (i := 7) (some 24) 58 _ _ rfl rfl rfl (by rfl) (by kernel_rfl) #[lv 0, .int .i64 0, .slice (some ⟨W5.heap.size, 0, none⟩) 1 1] rfl Try.func58 (by kernel_rfl) (by kernel_rfl) ?_
        refine (insR_front W6 (lv 0) (os 0) z W5.heap.size ((FD.out.own 0 (by omega)).below E6.out) (rcs_one (fun x hx => ((FD.out.below E6.out).oks 0 (by omega) x hx).2)) LZ.out (by have := N0.out; omega) (fun q => by have := (FD.out.own 0 (by omega)).lt q; have := D5.out.size; omega)).mono ?_
        rintro e W7 ⟨v7, rfl, I7⟩
        have nb : ∀ b, b ∈ (lv 0).ownBlock.toList → W3.heap.size + 3 ≤ b ∧ b ≠ g := fun b hb => FD.out.new 0 (by omega) b (by simpa using hb)
        have P7 := hidIt ((PD.out.below E6.out).off I7.off (fun q => by have := nb _ q; have := SG.out; omega))
        have G7 := hidIt (((FD.out.below E6.out).rc).off I7.off (fun q => (nb _ q).2 rfl))
        refine ⟨_, rfl, P7.out.1, fun hHeld => ?_⟩
        simp only [Act.put, List.setIfInBounds_toArray, List.set_cons_zero, List.set_cons_succ]
        refine take_at (i := 8) (v := ?_) (some 25) rfl rfl (by kernel_rfl) (by kernel_rfl) (by kernel_rfl) (fun _ _ _ h => h) (Or.inl ⟨by rfl, ?_⟩) (by assumption) ?_
        rotate_left
        · (intro w hSw; (try dsimp only at hSw); go_simp; try with_reducible rfl)
        simp only [Act.put, List.setIfInBounds_toArray, List.set_cons_zero, List.set_cons_succ]
        obtain ⟨a7, cap7, hv7, _⟩ := I7.own.sl
        have hr8 := store_v 23 (by kernel_rfl) (v := v7) (by rw [hv7]; rfl) (by rw [hv7]; rfl) (G7.out.cel 0 (lv 0) rfl).1 (G7.out.cel 0 (lv 0) rfl).2
        have BS := But.set (b := g) W7 0 v7
        have O7 := hidIt (I7.off.below (B := W.heap.size) (fun b hb => by have := nb b hb; have := SG.out; omega) (Nat.le_trans ED.out.size E6.out.size))
        have NX : Hid (Fo (W3.heap.size + 3) (W7.setCell ⟨g, 0, none⟩ v7) g (upd4 lv 0 v7) (upd4 os 0 (z :: os 0))) := hidIt ((FD.out.below E6.out).set (by omega) (by have := SZ3.out; have := E6.out.size; omega) I7 (fun x hx => by
          rcases List.mem_cons.1 hx with rfl | hx
          · exact OZ.out
          · exact (FD.out.below E6.out).oks 0 (by omega) x hx))
        have E8 : Hid (Below W.heap.size W (W7.setCell ⟨g, 0, none⟩ v7)) := hidIt (((ED.out.trans (E6.out.mono ED.out.size)).trans O7.out).trans (BS.below (by have := SG.out; omega) (Nat.le_trans (Nat.le_trans ED.out.size E6.out.size) I7.off.size)))
        have S8 : Hid ((W7.setCell ⟨g, 0, none⟩ v7).rangeAt W.heap.size 0 y.cs) := hidIt (P7.out.but BS (by have := SG.out; omega)).1
        clear G7 O7 P7 nb I7
        generalize W7.setCell ⟨g, 0, none⟩ v7 = W8 at *
        refine mute_at (i := 9) none rfl rfl (by rfl) (by kernel_rfl) W8 (put_mute 23 (.tmp 25) (.tmp 24) rfl _ _ rfl rfl hr8) S8.out (fun hHeld => ?_)
        simp only [Act.put]
        refine wpAnyH_done (by kernel_rfl) ?_ _
        refine NoPanic.normal ?_
        go_wp2_with fail
        exact bodyPost_ret (v := .tuple #[.slice (some ⟨g, 0, none⟩) 4 4, .int .i64 0]) (by simp [results, Try.results40, go_sem]) rfl ⟨E8.out, .inr ⟨FIN.out, g, _, _, _, rfl, by have := SG.out; omega, by have := SG.out; omega, NX.out, fun i hi => by
          by_cases e : i = 0
          · subst e
            rw [upd4_at, if_pos rfl, List.map_cons, HZ.out, G4.out.2 0 (by omega)]
            rfl
          · rw [upd4_ne _ _ e, if_neg e, G4.out.2 i hi]
            rfl⟩⟩
      · refine (copiedTable_any YD.out HY.out.2).mono ?_
        rintro e W5 ⟨z, hz, rfl, Fz, Lz, B5⟩
        have HZ := hidIt hz
        have FZ : Hid (FrC W5 W4.drew.heap.size z.f z.r.f ∧ FrC W5 W4.drew.heap.size z.l z.r.l) := hidIt (by rw [hz]; exact ⟨Fz, Lz⟩)
        have D5 := hidIt B5
        have S5 : W5.rangeAt W.heap.size 0 y.cs := (PD.out.below B5).1
        clear Fz Lz B5 hz cl
        refine ⟨_, rfl, S5, fun hHeld => ?_⟩
        simp only [Act.put, List.setIfInBounds_toArray, List.set_cons_zero, List.set_cons_succ]
        obtain ⟨W6, hW6⟩ : ∃ W6, W6 = W5.alloc (.cells z.cs.toArray 45) := ⟨_, rfl⟩
        have A6 : Below W5.heap.size W5 W6 := by rw [hW6]; exact (Below.refl _ _).alloc (Nat.le_refl _) _
        have E6 := hidIt (D5.out.trans (A6.mono D5.out.size))
        have OZ : Hid (OkT (W3.heap.size + 3) W6 (foN g lv) z) := hidIt (OkT.below ⟨⟨FZ.out.1.low (by have := FD.out.rc.2.2; have := SZ3.out; omega), FZ.out.2.low (by have := SZ3.out; omega)⟩, FZ.out.1.txt NA.out, FZ.out.2.txt NA.out⟩ A6)
        have LZ : Hid (LoneR W6 W5.heap.size z) := hidIt (by rw [hW6]; exact ⟨World.alloc_heap_new W5 _, by rw [hW6] at OZ; exact OZ.out.2.one⟩)
        have S6 : W6.rangeAt W.heap.size 0 y.cs := (PD.out.below E6.out).1
        have cl5 : W5.cell? ⟨g, 0, none⟩ = some (lv 0) := fo_at (FD.out.below D5.out) (show (0 : Nat) < 4 by omega)
        have cl6 : W6.cell? ⟨g, 0, none⟩ = some (lv 0) := fo_at (FD.out.below E6.out) (show (0 : Nat) < 4 by omega)
        refine pair_at (i := 3) (j := 6) (some 20) (some 23) rfl rfl rfl rfl (by kernel_rfl) (by rfl) (by rfl) (lv 0) (.slice (some ⟨W5.heap.size, 0, none⟩) 1 1) W5 W6 (by clear hW6; go_simp) (by rw [hW6]; exact bsl_run 23 45 1 _ rfl 5 72 _ _ _ under_runs info_run (by decide) (by decide) rfl (by kernel_rfl)) ⟨hHeld, S6⟩ (fun hHeld => ?_) (fun hHeld => ?_)
        · simp only [Act.put, List.setIfInBounds_toArray, List.set_cons_zero, List.set_cons_succ]
          clear cl5 cl6
          refine step_at (i := 6) (some 23) rfl rfl (by rfl) (by kernel_rfl) (.slice (some ⟨W5.heap.size, 0, none⟩) 1 1) W6 (by rw [hW6]; exact bsl_run 23 45 1 _ rfl 5 72 _ _ _ under_runs info_run (by decide) (by decide) rfl (by kernel_rfl)) S6 (fun hHeld => ?_)
          simp only [Act.put, List.setIfInBounds_toArray, List.set_cons_zero, List.set_cons_succ]
          refine call_at (i := 7) (some 24) 58 _ _ rfl rfl rfl (by rfl) (by kernel_rfl) #[lv 0, .int .i64 0, .slice (some ⟨W5.heap.size, 0, none⟩) 1 1] rfl Try.func58 (by kernel_rfl) (by kernel_rfl) ?_
          refine (insR_front W6 (lv 0) (os 0) z W5.heap.size ((FD.out.own 0 (by omega)).below E6.out) (rcs_one (fun x hx => ((FD.out.below E6.out).oks 0 (by omega) x hx).2)) LZ.out (by have := N0.out; omega) (fun q => by have := (FD.out.own 0 (by omega)).lt q; have := D5.out.size; omega)).mono ?_
          rintro e W7 ⟨v7, rfl, I7⟩
          have nb : ∀ b, b ∈ (lv 0).ownBlock.toList → W3.heap.size + 3 ≤ b ∧ b ≠ g := fun b hb => FD.out.new 0 (by omega) b (by simpa using hb)
          have P7 := hidIt ((PD.out.below E6.out).off I7.off (fun q => by have := nb _ q; have := SG.out; omega))
          have G7 := hidIt (((FD.out.below E6.out).rc).off I7.off (fun q => (nb _ q).2 rfl))
          refine ⟨_, rfl, P7.out.1, fun hHeld => ?_⟩
          simp only [Act.put, List.setIfInBounds_toArray, List.set_cons_zero, List.set_cons_succ]
          refine take_at (i := 8) (v := ?_) (some 25) rfl rfl (by kernel_rfl) (by kernel_rfl) (by kernel_rfl) (fun _ _ _ h => h) (Or.inl ⟨by rfl, ?_⟩) (by assumption) ?_
          rotate_left
          · (intro w hSw; (try dsimp only at hSw); go_simp; try with_reducible rfl)
          simp only [Act.put, List.setIfInBounds_toArray, List.set_cons_zero, List.set_cons_succ]
          obtain ⟨a7, cap7, hv7, _⟩ := I7.own.sl
          have hr8 := store_v 23 (by kernel_rfl) (v := v7) (by rw [hv7]; rfl) (by rw [hv7]; rfl) (G7.out.cel 0 (lv 0) rfl).1 (G7.out.cel 0 (lv 0) rfl).2
          have BS := But.set (b := g) W7 0 v7
          have O7 := hidIt (I7.off.below (B := W.heap.size) (fun b hb => by have := nb b hb; have := SG.out; omega) (Nat.le_trans ED.out.size E6.out.size))
          have NX : Hid (Fo (W3.heap.size + 3) (W7.setCell ⟨g, 0, none⟩ v7) g (upd4 lv 0 v7) (upd4 os 0 (z :: os 0))) := hidIt ((FD.out.below E6.out).set (by omega) (by have := SZ3.out; have := E6.out.size; omega) I7 (fun x hx => by
            rcases List.mem_cons.1 hx with rfl | hx
            · exact OZ.out
            · exact (FD.out.below E6.out).oks 0 (by omega) x hx))
          have E8 : Hid (Below W.heap.size W (W7.setCell ⟨g, 0, none⟩ v7)) := hidIt (((ED.out.trans (E6.out.mono ED.out.size)).trans O7.out).trans (BS.below (by have := SG.out; omega) (Nat.le_trans (Nat.le_trans ED.out.size E6.out.size) I7.off.size)))
          have S8 : Hid ((W7.setCell ⟨g, 0, none⟩ v7).rangeAt W.heap.size 0 y.cs) := hidIt (P7.out.but BS (by have := SG.out; omega)).1
          clear G7 O7 P7 nb I7
          generalize W7.setCell ⟨g, 0, none⟩ v7 = W8 at *
          refine mute_at (i := 9) none rfl rfl (by rfl) (by kernel_rfl) W8 (put_mute 23 (.tmp 25) (.tmp 24) rfl _ _ rfl rfl hr8) S8.out (fun hHeld => ?_)
          simp only [Act.put]
          refine wpAnyH_done (by kernel_rfl) ?_ _
          refine NoPanic.normal ?_
          go_wp2_with fail
          exact bodyPost_ret (v := .tuple #[.slice (some ⟨g, 0, none⟩) 4 4, .int .i64 0]) (by simp [results, Try.results40, go_sem]) rfl ⟨E8.out, .inr ⟨FIN.out, g, _, _, _, rfl, by have := SG.out; omega, by have := SG.out; omega, NX.out, fun i hi => by
            by_cases e : i = 0
            · subst e
              rw [upd4_at, if_pos rfl, List.map_cons, HZ.out, G4.out.2 0 (by omega)]
              rfl
            · rw [upd4_ne _ _ e, if_neg e, G4.out.2 i hi]
              rfl⟩⟩
        · simp only [Act.put, List.setIfInBounds_toArray, List.set_cons_zero, List.set_cons_succ]
          clear cl5
          clear hW6
          refine step_at (i := 3) (some 20) rfl rfl (by rfl) (by kernel_rfl) (lv 0) W6 (by go_simp) hHeld (fun hHeld => ?_)
          simp only [Act.put, List.setIfInBounds_toArray, List.set_cons_zero, List.set_cons_succ]
          refine call_at (i := 7) (some 24) 58 _ _ rfl rfl rfl (by rfl) (by kernel_rfl) #[lv 0, .int .i64 0, .slice (some ⟨W5.heap.size, 0, none⟩) 1 1] rfl Try.func58 (by kernel_rfl) (by kernel_rfl) ?_
          refine (insR_front W6 (lv 0) (os 0) z W5.heap.size ((FD.out.own 0 (by omega)).below E6.out) (rcs_one (fun x hx => ((FD.out.below E6.out).oks 0 (by omega) x hx).2)) LZ.out (by have := N0.out; omega) (fun q => by have := (FD.out.own 0 (by omega)).lt q; have := D5.out.size; omega)).mono ?_
          rintro e W7 ⟨v7, rfl, I7⟩
          have nb : ∀ b, b ∈ (lv 0).ownBlock.toList → W3.heap.size + 3 ≤ b ∧ b ≠ g := fun b hb => FD.out.new 0 (by omega) b (by simpa using hb)
          have P7 := hidIt ((PD.out.below E6.out).off I7.off (fun q => by have := nb _ q; have := SG.out; omega))
          have G7 := hidIt (((FD.out.below E6.out).rc).off I7.off (fun q => (nb _ q).2 rfl))
          refine ⟨_, rfl, P7.out.1, fun hHeld => ?_⟩
          simp only [Act.put, List.setIfInBounds_toArray, List.set_cons_zero, List.set_cons_succ]
          refine take_at (i := 8) (v := ?_) (some 25) rfl rfl (by kernel_rfl) (by kernel_rfl) (by kernel_rfl) (fun _ _ _ h => h) (Or.inl ⟨by rfl, ?_⟩) (by assumption) ?_
          rotate_left
          · (intro w hSw; (try dsimp only at hSw); go_simp; try with_reducible rfl)
          simp only [Act.put, List.setIfInBounds_toArray, List.set_cons_zero, List.set_cons_succ]
          obtain ⟨a7, cap7, hv7, _⟩ := I7.own.sl
          have hr8 := store_v 23 (by kernel_rfl) (v := v7) (by rw [hv7]; rfl) (by rw [hv7]; rfl) (G7.out.cel 0 (lv 0) rfl).1 (G7.out.cel 0 (lv 0) rfl).2
          have BS := But.set (b := g) W7 0 v7
          have O7 := hidIt (I7.off.below (B := W.heap.size) (fun b hb => by have := nb b hb; have := SG.out; omega) (Nat.le_trans ED.out.size E6.out.size))
          have NX : Hid (Fo (W3.heap.size + 3) (W7.setCell ⟨g, 0, none⟩ v7) g (upd4 lv 0 v7) (upd4 os 0 (z :: os 0))) := hidIt ((FD.out.below E6.out).set (by omega) (by have := SZ3.out; have := E6.out.size; omega) I7 (fun x hx => by
            rcases List.mem_cons.1 hx with rfl | hx
            · exact OZ.out
            · exact (FD.out.below E6.out).oks 0 (by omega) x hx))
          have E8 : Hid (Below W.heap.size W (W7.setCell ⟨g, 0, none⟩ v7)) := hidIt (((ED.out.trans (E6.out.mono ED.out.size)).trans O7.out).trans (BS.below (by have := SG.out; omega) (Nat.le_trans (Nat.le_trans ED.out.size E6.out.size) I7.off.size)))
          have S8 : Hid ((W7.setCell ⟨g, 0, none⟩ v7).rangeAt W.heap.size 0 y.cs) := hidIt (P7.out.but BS (by have := SG.out; omega)).1
          clear G7 O7 P7 nb I7
          generalize W7.setCell ⟨g, 0, none⟩ v7 = W8 at *
          refine mute_at (i := 9) none rfl rfl (by rfl) (by kernel_rfl) W8 (put_mute 23 (.tmp 25) (.tmp 24) rfl _ _ rfl rfl hr8) S8.out (fun hHeld => ?_)
          simp only [Act.put]
          refine wpAnyH_done (by kernel_rfl) ?_ _
          refine NoPanic.normal ?_
          go_wp2_with fail
          exact bodyPost_ret (v := .tuple #[.slice (some ⟨g, 0, none⟩) 4 4, .int .i64 0]) (by simp [results, Try.results40, go_sem]) rfl ⟨E8.out, .inr ⟨FIN.out, g, _, _, _, rfl, by have := SG.out; omega, by have := SG.out; omega, NX.out, fun i hi => by
            by_cases e : i = 0
            · subst e
              rw [upd4_at, if_pos rfl, List.map_cons, HZ.out, G4.out.2 0 (by omega)]
              rfl
            · rw [upd4_ne _ _ e, if_neg e, G4.out.2 i hi]
              rfl⟩⟩
  · have MI : Hid (mayI (rns ls) = 2) := hidIt (by unfold mayI; rw [if_neg hm])
    have FIN : Hid ((mayB (rns ls) && sndR y.r) = false) := hidIt (by rw [Bool.eq_false_iff.2 hm]; rfl)
    clear hm
    go_enter Try.func40, Try.ntmps40
    go_wp2_with (first
      | (refine wpList_box_rec rfl 45 (.tmp 1) rfl y.cs rfl W.heap.size rfl ?_; intro W1 R1 B1 z1; have E1 := hidIt B1; have P1 := hidIt R1; clear R1 B1 z1)
      | (go_at_call 17; refine (lcheck_any L C HN.out.1 (HL.out.below E1.out) (fun x hx => by have := HN.out.2.1 x hx; omega)).mono ?_; rw [MI.out]; rintro e W2 ⟨rfl, hb⟩; have E2 := hidIt (E1.out.trans (hb.mono E1.out.size)); clear hb))
    exact bodyPost_ret (v := .tuple #[.slice none 0 0, .int .i64 2]) (by simp [results, Try.results40, go_sem]) rfl ⟨E2.out, .inl ⟨FIN.out, rfl⟩⟩
end Go.Proofs.Ytelcijfcgflagaa
