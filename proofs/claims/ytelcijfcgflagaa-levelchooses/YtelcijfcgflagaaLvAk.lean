/-
  Walks, not a claim by itself: the law's awake. By the verifier.
-/
import Derived.Test.YtelcijfcgflagaaLvAw
namespace Go.Proofs.Ytelcijfcgflagaa
open Go.RowKit
attribute [-go_sem] Builtin.append_
theorem small_rns {ls : List LR} {m : List (List Rn)} (h : rns ls = m) (h1 : ∀ l ∈ m, l.length ≤ 60) (h2 : ∀ l ∈ m, ∀ r ∈ l, r.f.size ≤ 1000000 ∧ r.l.size ≤ 1000000) : (∀ x ∈ ls, x.rs.length ≤ 60) ∧ ∀ x ∈ ls, ∀ y ∈ x.rs, y.r.f.size ≤ 1000000 ∧ y.r.l.size ≤ 1000000 := by
  refine ⟨fun x hx => ?_, fun x hx y hy => ?_⟩
  · have := h1 (x.rs.map RV.r) (by rw [← h]; exact List.mem_map.2 ⟨x, hx, rfl⟩)
    rwa [List.length_map] at this
  · exact h2 (x.rs.map RV.r) (by rw [← h]; exact List.mem_map.2 ⟨x, hx, rfl⟩) y.r (List.mem_map.2 ⟨y, hy, rfl⟩)
/-- Add of levels that may be, with a table that may. -/
def AdPost (W : World) (m : List (List Rn)) (e : Ending) (w' : World) : Prop := ∃ g ls, e = .returned (.tuple #[.slice (some ⟨g, 0, none⟩) 4 4, .int .i64 0]) ∧ (ls : List LR).length = 4 ∧ Lvs w' (some ⟨g, 0, none⟩) ls ∧ rns ls = m ∧ Below W.heap.size W w'
theorem ladd_yes {W : World} {N : List Nat} {A : Option Addr} {ls : List LR} {y : RV} {r : Rn} {m : List (List Rn)} (L C : Nat) (hL : ls.length = L) (h : Lvs W A ls) (hs : ∀ x ∈ ls, x.rs.length ≤ 60) (hz : ∀ x ∈ ls, ∀ y ∈ x.rs, y.r.f.size ≤ 1000000 ∧ y.r.l.size ≤ 1000000) (hy : RVOk W N y) (hr : y.r = r) (hyz : r.f.size ≤ 1000000 ∧ r.l.size ≤ 1000000) (hm : rns ls = m) (hok : (mayB m && sndR r) = true) : Calls Try.prog 40 #[.slice A L C, .agg y.cs.toArray] W (AdPost W [r :: fourD m 0, fourD m 1, fourD m 2, fourD m 3]) := by
  subst hr hm
  refine (ladd_any L C hL h hs hz hy hyz).mono ?_
  rintro e w' ⟨hB, (⟨h0, _⟩ | ⟨_, g, B1, lv, os, rfl, _, _, hf, ho⟩)⟩
  · rw [hok] at h0; cases h0
  · obtain ⟨ls', hl, hv, _, hq⟩ := hf.lvs
    exact ⟨g, ls', rfl, hl, hv, by rw [hq, ho 0 (by omega), ho 1 (by omega), ho 2 (by omega), ho 3 (by omega)]; rfl, hB⟩
set_option maxRecDepth 100000 in
set_option maxHeartbeats 2000000 in
theorem lawake_any (W : World) : Calls Try.prog 16 #[] W fun e w' => e = .returned (.bool true) ∧ Below W.heap.size W w' := by
  have t1 : Hid True := trivial
  have t2 : Hid True := trivial
  have t3 : Hid True := trivial
  have t4 : Hid True := trivial
  go_enter Try.func16, Try.ntmps16
  go_wp2_with (first
    | (go_at_call 41; have _q := t1; clear t1 _q; refine (lt1_any W).mono ?_; rintro e W1 ⟨x, hx, rfl, ho, hb⟩; have X1 := hidIt (And.intro hx ho); have B1 := hidIt hb; clear hx ho hb)
    | (go_at_call 40; have _q := t2; clear t2 _q; refine (ladd_yes (ls := []) (m := []) 0 0 rfl ⟨fun x hx => (by cases hx), fun q => absurd rfl q⟩ (fun x hx => (by cases hx)) (fun x hx => (by cases hx)) X1.out.2 X1.out.1 (by decide) rfl aw_1).mono ?_; rintro e W2 ⟨g, ls, rfl, hl, hv, hr, hb⟩; have L2 := hidIt (And.intro hl (And.intro hv hr)); have S2 := hidIt (small_rns hr (by decide) (by decide)); have B2 := hidIt (B1.out.trans (hb.mono B1.out.size)); clear hl hv hr hb)
    | (go_at_call 42; have _q := t3; clear t3 _q; refine (lt2_any W2).mono ?_; rintro e W3 ⟨y, hy, rfl, ho, hb⟩; have Y3 := hidIt (And.intro hy ho); have L3 := hidIt (L2.out.2.1.below hb); have B3 := hidIt (B2.out.trans (hb.mono B2.out.size)); clear hy ho hb)
    | (go_at_call 40; refine (ladd_yes (ls := ls) 4 4 L2.out.1 L3.out S2.out.1 S2.out.2 Y3.out.2 Y3.out.1 (by decide) L2.out.2.2 aw_2).mono ?_; rintro e W4 ⟨g4, ls4, rfl, hl, hv, hr, hb⟩; have L4 := hidIt (And.intro hl (And.intro hv hr)); have S4 := hidIt (small_rns hr (by decide) (by decide)); have B4 := hidIt (B3.out.trans (hb.mono B3.out.size)); clear hl hv hr hb)
    | (go_at_call 42; refine (lt2_any W4).mono ?_; rintro e W5 ⟨y2, hy, rfl, ho, hb⟩; have Y5 := hidIt (And.intro hy ho); have L5 := hidIt (L4.out.2.1.below hb); have B5 := hidIt (B4.out.trans (hb.mono B4.out.size)); clear hy ho hb)
    | (go_at_call 41; refine (lt1_any W5).mono ?_; rintro e W6 ⟨x2, hx, rfl, ho, hb⟩; have X6 := hidIt (And.intro hx ho); have Y6 := hidIt (Y5.out.2.below hb); have L6 := hidIt (L5.out.below hb); have B6 := hidIt (B5.out.trans (hb.mono B5.out.size)); clear hx ho hb; obtain ⟨W7, hW7, hl7, hb7⟩ := bs_runs W6 [y2, x2] (fun z hz => by simp only [List.mem_cons, List.not_mem_nil, or_false] at hz; rcases hz with rfl | rfl; exact Y6.out; exact X6.out.2); have HW7 := hidIt hW7; have K7 := hidIt hl7; have L7 := hidIt (L6.out.below hb7); have B7 := hidIt (B6.out.trans (hb7.mono B6.out.size)); obtain ⟨W8, hW8, hl8, hb8⟩ := bs_levels W7 [⟨some ⟨W6.heap.size, 0, none⟩, 2, [y2, x2]⟩, ⟨none, 0, []⟩, ⟨none, 0, []⟩, ⟨none, 0, []⟩] (fun z hz => by simp only [List.mem_cons, List.not_mem_nil, or_false] at hz; rcases hz with rfl | rfl | rfl | rfl; exact ⟨K7.out, Nat.le_refl _⟩; exact ⟨⟨fun x hx => (by cases hx), fun q => absurd rfl q⟩, Nat.le_refl _⟩; exact ⟨⟨fun x hx => (by cases hx), fun q => absurd rfl q⟩, Nat.le_refl _⟩; exact ⟨⟨fun x hx => (by cases hx), fun q => absurd rfl q⟩, Nat.le_refl _⟩); have HW8 := hidIt hW8; have K8 := hidIt hl8; have R8 := hidIt (K7.out.below hb8); have L8 := hidIt (L7.out.below hb8); have B8 := hidIt (B7.out.trans (hb8.mono B7.out.size)); clear hW7 hl7 hb7 hW8 hl8 hb8; have t5 : Hid True := trivial)
    | (have _q := t5; refine wpList_run_w (by rfl) (.slice (some ⟨W6.heap.size, 0, none⟩) 2 2) W7 (by rw [HW7.out]; exact bsl_run 23 45 2 _ rfl 5 72 _ _ _ under_runs info_run (by decide) (by decide) rfl (by kernel_rfl)) ?_; clear t5 _q)
    | (refine wpList_run_w (by rfl) (.slice (some ⟨W7.heap.size, 0, none⟩) 4 4) W8 (by rw [HW8.out]; exact bsl_run 22 23 4 _ rfl 1 24 _ _ _ under_levels info_level (by decide) (by decide) rfl (by kernel_rfl)) ?_)
    | (go_at_call 13; refine (sameLevels_eq 4 4 4 4 L4.out.1 rfl L8.out K8.out (by decide) (fun x hx => by have := S4.out.1 x hx; omega) (by rw [L4.out.2.2]; simp only [rns, List.map_cons, List.map_nil, Y5.out.1, X6.out.1]; rfl)).mono ?_; rintro e W9 ⟨rfl, hb⟩; have L9 := hidIt (L8.out.below hb); have K9 := hidIt (K8.out.below hb); have R9 := hidIt (R8.out.below hb); have B9 := hidIt (B8.out.trans (hb.mono B8.out.size)); clear hb; refine Held.out ?_))
  obtain ⟨rb, hrb⟩ : ∃ rb, rb = W6.heap.size := ⟨_, rfl⟩
  obtain ⟨wb, hwb⟩ : ∃ wb, wb = W7.heap.size := ⟨_, rfl⟩
  rw [← hrb] at R9 K9
  rw [← hwb] at K9
  simp only [← hrb, ← hwb]
  have C9 : Hid (W9.drew.cell? ⟨wb, 0, none⟩ = some (.slice (some ⟨rb, 0, none⟩) 2 2) ∧ wb < W9.drew.heap.size) := hidIt (by
    obtain ⟨b, o, ha, hc, hb⟩ := (K9.out.below (Below.refl W9.heap.size W9).drew).at 0 _ rfl
    injection ha with ha
    injection ha with h1 h2
    subst h1 h2
    exact ⟨hc, hb⟩)
  have RD := hidIt (R9.out.below (Below.refl W9.heap.size W9).drew)
  have LD := hidIt (L9.out.below (Below.refl W9.heap.size W9).drew)
  have BD := hidIt B9.out.drew
  have NX : Hid ([y2, x2].map RV.r = [T2, T1]) := hidIt (by simp [Y5.out.1, X6.out.1])
  have cw := C9.out.1
  clear HW7 HW8 K7 K8 R8 L7 L8 hrb hwb L2 L3 L5 L6 S2 X1 Y3
  refine Held.mk ?_
  go_wp2_with fail
  refine wp_region_noPanic ?_
  refine wp_region_held_drew (S := fun w' => w'.cell? ⟨wb, 0, none⟩ = some (.slice (some ⟨rb, 0, none⟩) 2 2)) (by kernel_rfl) ?_ (fun hHeld => ?_)
  · exact cw
  refine take_at (i := 0) (v := ?_) (some 33) rfl rfl (by kernel_rfl) (by kernel_rfl) (by kernel_rfl) (fun _ _ _ h => h) (Or.inl ⟨by rfl, ?_⟩) (by assumption) ?_
  rotate_left
  · (intro w hSw; (try dsimp only at hSw); go_simp; try with_reducible rfl)
  simp only [Act.put, List.setIfInBounds_toArray, List.set_cons_zero, List.set_cons_succ]
  refine take_at (i := 4) (v := ?_) (some 37) rfl rfl (by kernel_rfl) (by kernel_rfl) (by kernel_rfl) (fun _ _ _ h => h) (Or.inl ⟨by rfl, ?_⟩) (by assumption) ?_
  rotate_left
  · (intro w hSw; (try dsimp only at hSw); go_simp; try with_reducible rfl)
  simp only [Act.put, List.setIfInBounds_toArray, List.set_cons_zero, List.set_cons_succ]
  refine take_at (i := 5) (v := ?_) (some 38) rfl rfl (by kernel_rfl) (by kernel_rfl) (by kernel_rfl) (fun _ _ _ h => h) (Or.inl ⟨by rfl, ?_⟩) (by assumption) ?_
  rotate_left
  · (intro w hSw; (try dsimp only at hSw); go_simp; try with_reducible rfl)
  simp only [Act.put, List.setIfInBounds_toArray, List.set_cons_zero, List.set_cons_succ]
  refine take_at (i := 6) (v := ?_) (some 39) rfl rfl (by kernel_rfl) (by kernel_rfl) (by kernel_rfl) (fun _ _ _ h => h) (Or.inl ⟨by rfl, ?_⟩) (by assumption) ?_
  rotate_left
  · (intro w hSw; (try dsimp only at hSw); go_simp; try with_reducible rfl)
  simp only [Act.put, List.setIfInBounds_toArray, List.set_cons_zero, List.set_cons_succ]
  obtain ⟨U1, hU1⟩ : ∃ U, U = W9.drew.alloc (.cells #[.int .u8 99] 5) := ⟨_, rfl⟩
  have n1 := lit_new W9.drew 99
  rw [← hU1] at n1
  have C1 : U1.cell? ⟨wb, 0, none⟩ = some (.slice (some ⟨rb, 0, none⟩) 2 2) := (n1.2.cell (p := ⟨wb, 0, none⟩) C9.out.2).trans cw
  refine step_at (i := 1) (some 34) rfl rfl (by rfl) (by kernel_rfl) (.slice (some ⟨W9.drew.heap.size, 0, none⟩) 1 1) U1 (by rw [hU1]; exact lit_run 99 rfl) C1 (fun hHeld => ?_)
  simp only [Act.put, List.setIfInBounds_toArray, List.set_cons_zero, List.set_cons_succ]
  obtain ⟨U2, hU2⟩ : ∃ U, U = U1.freeze ⟨W9.drew.heap.size, 1, none⟩ 1 := ⟨_, rfl⟩
  have n2 := lconv_new n1.1
  rw [← hU2] at n2
  have E2 := hidIt (n1.2.trans (n2.2.below (Nat.le_refl _) n1.2.size))
  have X2 := hidIt (n2.1.txt (by decide))
  have C2 : U2.cell? ⟨wb, 0, none⟩ = some (.slice (some ⟨rb, 0, none⟩) 2 2) := (E2.out.cell (p := ⟨wb, 0, none⟩) C9.out.2).trans cw
  refine step_at (i := 2) (some 35) rfl rfl (by rfl) (by kernel_rfl) (.slice (some ⟨W9.drew.heap.size, 0, none⟩) 1 1) U2 (by rw [hU2]; exact lconv_run (.tmp 34) rfl W9.drew.heap.size 99 rfl n1.1) C2 (fun hHeld => ?_)
  simp only [Act.put, List.setIfInBounds_toArray, List.set_cons_zero, List.set_cons_succ]
  clear n1 n2 hU1 hU2 C1
  have L2 := hidIt (LD.out.below E2.out)
  refine call_at (i := 3) (some 36) 43 _ _ rfl rfl rfl (by rfl) (by kernel_rfl) #[.slice (some ⟨g4, 0, none⟩) 4 4, .slice (some ⟨W9.drew.heap.size, 0, none⟩) 1 1, .slice none 0 0] rfl Try.func43 (by kernel_rfl) (by kernel_rfl) ?_
  refine (lspans_any 4 4 L4.out.1 L2.out (fun x hx => by have := S4.out.1 x hx; omega) S4.out.2 X2.out (Txt.nil _ [] 0)).mono ?_
  rintro e U3 ⟨a3, c3, os3, rfl, o3, _, k3, m3, b3⟩
  rw [L4.out.2.2] at m3
  have m3' := m3.trans aw_3
  have n3 : os3.length = 2 := by have := congrArg List.length m3'; rw [List.length_map] at this; exact this
  have E3 := hidIt (E2.out.trans (b3.mono E2.out.size))
  have O3 := hidIt (o3.ls (fun x hx => (k3 x hx).2.any))
  have M3 := hidIt m3'
  have N3 := hidIt n3
  have C3 : U3.cell? ⟨wb, 0, none⟩ = some (.slice (some ⟨rb, 0, none⟩) 2 2) := (E3.out.cell (p := ⟨wb, 0, none⟩) C9.out.2).trans cw
  clear o3 k3 m3 m3' n3 b3 C2
  refine ⟨_, rfl, C3, fun hHeld => ?_⟩
  simp only [Act.put, List.setIfInBounds_toArray, List.set_cons_zero, List.set_cons_succ]
  refine call_at (i := 7) (some 40) 15 _ _ rfl rfl rfl (by rfl) (by kernel_rfl) #[.slice a3 os3.length c3, .slice (some ⟨rb, 0, none⟩) 2 2] rfl Try.func15 (by kernel_rfl) (by kernel_rfl) ?_
  refine (sameRuns_eq os3.length 2 c3 2 rfl rfl O3.out (RD.out.below E3.out) (by have := N3.out; omega) (by rw [M3.out]; exact NX.out.symm)).mono ?_
  rintro e Z ⟨rfl, b4⟩
  have EZ := hidIt (E3.out.trans (b4.mono E3.out.size))
  have CZ : Z.cell? ⟨wb, 0, none⟩ = some (.slice (some ⟨rb, 0, none⟩) 2 2) := (EZ.out.cell (p := ⟨wb, 0, none⟩) C9.out.2).trans cw
  have LZ := hidIt (LD.out.below EZ.out)
  have RZ := hidIt (RD.out.below EZ.out)
  have CC : Hid (Z.cell? ⟨wb, 0, none⟩ = some (.slice (some ⟨rb, 0, none⟩) 2 2) ∧ wb < Z.heap.size) := hidIt ⟨CZ, Nat.lt_of_lt_of_le C9.out.2 EZ.out.size⟩
  have BZ := hidIt (BD.out.trans (EZ.out.mono BD.out.size))
  clear b4 C3 X2 E2 L2
  refine ⟨_, rfl, CZ, fun hHeld => ?_⟩
  simp only [Act.put, List.setIfInBounds_toArray, List.set_cons_zero, List.set_cons_succ]
  have hsl : ∀ w, (Instr.slice 23 (.slice (some ⟨rb, 0, none⟩) 2 2) none (some (.int .i64 1)) none).run Try.prog w = .ok (.slice (some ⟨rb, 0, none⟩) 1 2) w := fun w => run_slice_high 23 45 under_runs 5 run_size rb 0 2 2 1 (by omega) w
  refine take_at (i := 8) (v := ?_) (some 41) rfl rfl (by kernel_rfl) (by kernel_rfl) (by kernel_rfl) (fun _ _ _ h => h) (Or.inl ⟨by rfl, ?_⟩) (by assumption) ?_
  rotate_left
  · (intro w hSw; (try dsimp only at hSw); go_simp; try with_reducible rfl)
  simp only [Act.put, List.setIfInBounds_toArray, List.set_cons_zero, List.set_cons_succ]
  refine take_at (i := 9) (v := ?_) (some 42) rfl rfl (by kernel_rfl) (by kernel_rfl) (by kernel_rfl) (fun _ _ _ h => h) (Or.inl ⟨by rfl, ?_⟩) (by assumption) ?_
  rotate_left
  · (intro w hSw; (try dsimp only at hSw); go_simp; try with_reducible rfl)
  simp only [Act.put, List.setIfInBounds_toArray, List.set_cons_zero, List.set_cons_succ]
  refine take_at (i := 15) (v := ?_) (some 48) rfl rfl (by kernel_rfl) (by kernel_rfl) (by kernel_rfl) (fun _ _ _ h => h) (Or.inl ⟨by rfl, ?_⟩) (by assumption) ?_
  rotate_left
  · (intro w hSw; (try dsimp only at hSw); go_simp; try with_reducible rfl)
  simp only [Act.put, List.setIfInBounds_toArray, List.set_cons_zero, List.set_cons_succ]
  refine take_at (i := 16) (v := ?_) (some 49) rfl rfl (by kernel_rfl) (by kernel_rfl) (by kernel_rfl) (fun _ _ _ h => h) (Or.inl ⟨by rfl, ?_⟩) (by assumption) ?_
  rotate_left
  · (intro w hSw; (try dsimp only at hSw); go_simp; try with_reducible rfl)
  simp only [Act.put, List.setIfInBounds_toArray, List.set_cons_zero, List.set_cons_succ]
  refine take_at (i := 17) (v := ?_) (some 50) rfl rfl (by kernel_rfl) (by kernel_rfl) (by kernel_rfl) (fun _ _ _ h => h) (Or.inl ⟨by rfl, ?_⟩) (by assumption) ?_
  rotate_left
  · (intro w hSw; (try dsimp only at hSw); go_simp; try with_reducible rfl)
  simp only [Act.put, List.setIfInBounds_toArray, List.set_cons_zero, List.set_cons_succ]
  refine take_at (i := 18) (v := ?_) (some 51) rfl rfl (by kernel_rfl) (by kernel_rfl) (by kernel_rfl) (fun _ _ _ h => h) (Or.inl ⟨by rfl, ?_⟩) (by assumption) ?_
  rotate_left
  · (intro w hSw; (try dsimp only at hSw); go_simp; try with_reducible rfl)
  simp only [Act.put, List.setIfInBounds_toArray, List.set_cons_zero, List.set_cons_succ]
  clear hsl
  have EU := hidIt (Below.refl Z.heap.size Z)
  obtain ⟨A1, hA1⟩ : ∃ U, U = Z.alloc (.cells #[.int .u8 100] 5) := ⟨_, rfl⟩
  have nA1 := lit_new Z 100
  rw [← hA1] at nA1
  have EA1 := hidIt (EU.out.trans (nA1.2.mono EU.out.size))
  have CA1 : A1.cell? ⟨wb, 0, none⟩ = some (.slice (some ⟨rb, 0, none⟩) 2 2) := (EA1.out.cell (p := ⟨wb, 0, none⟩) CC.out.2).trans CC.out.1
  obtain ⟨B1, hB1⟩ : ∃ U, U = Z.alloc (.cells #[.int .u8 101] 5) := ⟨_, rfl⟩
  have nB1 := lit_new Z 101
  rw [← hB1] at nB1
  have EB1 := hidIt (EU.out.trans (nB1.2.mono EU.out.size))
  have CB1 : B1.cell? ⟨wb, 0, none⟩ = some (.slice (some ⟨rb, 0, none⟩) 2 2) := (EB1.out.cell (p := ⟨wb, 0, none⟩) CC.out.2).trans CC.out.1
  refine pair_at (i := 10) (j := 12) (some 43) (some 45) rfl rfl rfl rfl (by kernel_rfl) (by rfl) (by rfl) (.slice (some ⟨Z.heap.size, 0, none⟩) 1 1) (.slice (some ⟨Z.heap.size, 0, none⟩) 1 1) A1 B1 (by rw [hA1]; exact lit_run 100 rfl) (by rw [hB1]; exact lit_run 101 rfl) ⟨CA1, CB1⟩ (fun hHeld => ?_) (fun hHeld => ?_)
  · simp only [Act.put, List.setIfInBounds_toArray, List.set_cons_zero, List.set_cons_succ]
    clear hB1 nB1 EB1 CB1
    have la := nA1.1
    have Pla : Hid (Z.heap.size ≤ Z.heap.size) := hidIt EU.out.size
    replace EU := EA1
    clear nA1 EA1 hA1 CA1
    obtain ⟨A2, hA2⟩ : ∃ U, U = A1.freeze ⟨Z.heap.size, 1, none⟩ 1 := ⟨_, rfl⟩
    have nA2 := lconv_new la
    rw [← hA2] at nA2
    have EA2 := hidIt (EU.out.trans (nA2.2.below (by have := Pla.out; omega) EU.out.size))
    have CA2 : A2.cell? ⟨wb, 0, none⟩ = some (.slice (some ⟨rb, 0, none⟩) 2 2) := (EA2.out.cell (p := ⟨wb, 0, none⟩) CC.out.2).trans CC.out.1
    obtain ⟨B2, hB2⟩ : ∃ U, U = A1.alloc (.cells #[.int .u8 101] 5) := ⟨_, rfl⟩
    have nB2 := lit_new A1 101
    rw [← hB2] at nB2
    have EB2 := hidIt (EU.out.trans (nB2.2.mono EU.out.size))
    have CB2 : B2.cell? ⟨wb, 0, none⟩ = some (.slice (some ⟨rb, 0, none⟩) 2 2) := (EB2.out.cell (p := ⟨wb, 0, none⟩) CC.out.2).trans CC.out.1
    refine pair_at (i := 11) (j := 12) (some 44) (some 45) rfl rfl rfl rfl (by kernel_rfl) (by rfl) (by rfl) (.slice (some ⟨Z.heap.size, 0, none⟩) 1 1) (.slice (some ⟨A1.heap.size, 0, none⟩) 1 1) A2 B2 (by rw [hA2]; exact lconv_run (.tmp 43) rfl _ 100 rfl la) (by rw [hB2]; exact lit_run 101 rfl) ⟨CA2, CB2⟩ (fun hHeld => ?_) (fun hHeld => ?_)
    · simp only [Act.put, List.setIfInBounds_toArray, List.set_cons_zero, List.set_cons_succ]
      clear hB2 nB2 EB2 CB2
      replace la := nA2.1
      replace EU := EA2
      clear nA2 EA2 hA2 CA2
      obtain ⟨B3, hB3⟩ : ∃ U, U = A2.alloc (.cells #[.int .u8 101] 5) := ⟨_, rfl⟩
      have nB3 := lit_new A2 101
      rw [← hB3] at nB3
      have EB3 := hidIt (EU.out.trans (nB3.2.mono EU.out.size))
      have CB3 : B3.cell? ⟨wb, 0, none⟩ = some (.slice (some ⟨rb, 0, none⟩) 2 2) := (EB3.out.cell (p := ⟨wb, 0, none⟩) CC.out.2).trans CC.out.1
      refine step_at (i := 12) (some 45) rfl rfl (by rfl) (by kernel_rfl) (.slice (some ⟨A2.heap.size, 0, none⟩) 1 1) B3 (by rw [hB3]; exact lit_run 101 rfl) CB3 (fun hHeld => ?_)
      simp only [Act.put, List.setIfInBounds_toArray, List.set_cons_zero, List.set_cons_succ]
      have lt0B3 : Z.heap.size < A2.heap.size := la.lt
      replace la := la.keep (nB3.2.block _ la.lt)
      have lb := nB3.1
      have Plb : Hid (Z.heap.size ≤ A2.heap.size) := hidIt EU.out.size
      have Dab : Hid (Z.heap.size < A2.heap.size) := hidIt lt0B3
      replace EU := EB3
      clear nB3 EB3 hB3 CB3
      obtain ⟨B4, hB4⟩ : ∃ U, U = B3.freeze ⟨A2.heap.size, 1, none⟩ 1 := ⟨_, rfl⟩
      have nB4 := lconv_new lb
      rw [← hB4] at nB4
      have EB4 := hidIt (EU.out.trans (nB4.2.below (by have := Plb.out; omega) EU.out.size))
      have CB4 : B4.cell? ⟨wb, 0, none⟩ = some (.slice (some ⟨rb, 0, none⟩) 2 2) := (EB4.out.cell (p := ⟨wb, 0, none⟩) CC.out.2).trans CC.out.1
      refine step_at (i := 13) (some 46) rfl rfl (by rfl) (by kernel_rfl) (.slice (some ⟨A2.heap.size, 0, none⟩) 1 1) B4 (by rw [hB4]; exact lconv_run (.tmp 45) rfl _ 101 rfl lb) CB4 (fun hHeld => ?_)
      simp only [Act.put, List.setIfInBounds_toArray, List.set_cons_zero, List.set_cons_succ]
      replace la := la.keep (nB4.2.block _ la.lt (by have := Dab.out; omega))
      replace lb := nB4.1
      replace EU := EB4
      clear nB4 EB4 hB4 CB4
      have XA := hidIt (la.txt (by decide))
      have XB := hidIt (lb.txt (by decide))
      have LU := hidIt (LZ.out.below EU.out)
      have RU := hidIt (RZ.out.below EU.out)
      have CU : B4.cell? ⟨wb, 0, none⟩ = some (.slice (some ⟨rb, 0, none⟩) 2 2) := (EU.out.cell (p := ⟨wb, 0, none⟩) CC.out.2).trans CC.out.1
      clear la lb
      refine call_at (i := 14) (some 47) 43 _ _ rfl rfl rfl (by rfl) (by kernel_rfl) #[.slice (some ⟨g4, 0, none⟩) 4 4, .slice (some ⟨Z.heap.size, 0, none⟩) 1 1, .slice (some ⟨A2.heap.size, 0, none⟩) 1 1] rfl Try.func43 (by kernel_rfl) (by kernel_rfl) ?_
      refine (lspans_any 4 4 L4.out.1 LU.out (fun x hx => by have := S4.out.1 x hx; omega) S4.out.2 XA.out XB.out).mono ?_
      rintro e V3 ⟨a3', c3', os4, rfl, o3, _, k3, m3, b3⟩
      rw [L4.out.2.2] at m3
      have m3' := m3.trans aw_4
      have n3 : os4.length = 1 := by have := congrArg List.length m3'; rw [List.length_map] at this; exact this
      have E3' := hidIt (EU.out.trans (b3.mono EU.out.size))
      have O4 := hidIt (o3.ls (fun x hx => (k3 x hx).2.any))
      have R4 : Hid (LsR V3 (some ⟨rb, 0, none⟩) [y2]) := hidIt (by
        have h := RZ.out.below E3'.out
        refine ⟨fun x hx => h.1 x (by simp at hx; simp [hx]), fun _ => ?_⟩
        obtain ⟨b, o, ha, hr, hb⟩ := h.2 (by simp)
        refine ⟨b, o, ha, fun j v hj => hr j v ?_, hb⟩
        have := (List.getElem?_eq_some_iff.1 hj).1
        rw [show rcs [y2, x2] = rcs [y2] ++ rcs [x2] from rcs_app [y2] [x2], List.getElem?_append_left this]
        exact hj)
      have C3' : V3.cell? ⟨wb, 0, none⟩ = some (.slice (some ⟨rb, 0, none⟩) 2 2) := (E3'.out.cell (p := ⟨wb, 0, none⟩) CC.out.2).trans CC.out.1
      have M4 := hidIt m3'
      have N4 := hidIt n3
      clear o3 k3 m3 m3' n3 b3 CU
      refine ⟨_, rfl, C3', fun hHeld => ?_⟩
      simp only [Act.put, List.setIfInBounds_toArray, List.set_cons_zero, List.set_cons_succ]
      refine call_at (i := 19) (some 52) 15 _ _ rfl rfl rfl (by rfl) (by kernel_rfl) #[.slice a3' os4.length c3', .slice (some ⟨rb, 0, none⟩) 1 2] rfl Try.func15 (by kernel_rfl) (by kernel_rfl) ?_
      refine (sameRuns_eq os4.length 1 c3' 2 rfl rfl O4.out R4.out (by have := N4.out; omega) (by rw [M4.out]; have := NX.out; simp only [List.map_cons, List.map_nil] at this ⊢; injection this with this _; rw [this])).mono ?_
      rintro e V4 ⟨rfl, b4⟩
      have EV := hidIt (E3'.out.trans (b4.mono E3'.out.size))
      have C4' : V4.cell? ⟨wb, 0, none⟩ = some (.slice (some ⟨rb, 0, none⟩) 2 2) := (EV.out.cell (p := ⟨wb, 0, none⟩) CC.out.2).trans CC.out.1
      have FIN := hidIt (BZ.out.trans (EV.out.mono BZ.out.size))
      clear b4 C3'
      refine ⟨_, rfl, C4', fun hHeld => ?_⟩
      simp only [Act.put, List.setIfInBounds_toArray, List.set_cons_zero, List.set_cons_succ]
      refine take_at (i := 20) (v := ?_) (some 53) rfl rfl (by kernel_rfl) (by kernel_rfl) (by kernel_rfl) (fun _ _ _ h => h) (Or.inl ⟨by rfl, ?_⟩) (by assumption) ?_
      rotate_left
      · (intro w hSw; (try dsimp only at hSw); go_simp; try with_reducible rfl)
      simp only [Act.put, List.setIfInBounds_toArray, List.set_cons_zero, List.set_cons_succ]
      refine take_at (i := 21) (v := ?_) (some 0) rfl rfl (by kernel_rfl) (by kernel_rfl) (by kernel_rfl) (fun _ _ _ h => h) (Or.inl ⟨by rfl, ?_⟩) (by assumption) ?_
      rotate_left
      · (intro w hSw; (try dsimp only at hSw); go_simp; try with_reducible rfl)
      simp only [Act.put, List.setIfInBounds_toArray, List.set_cons_zero]
      refine wpAnyH_done (by kernel_rfl) ?_ _
      refine NoPanic.normal ?_
      go_wp2_with fail
      exact bodyPost_ret (v := .bool true) (by simp [results, Try.results16, go_sem]) rfl ⟨rfl, FIN.out⟩
    · simp only [Act.put, List.setIfInBounds_toArray, List.set_cons_zero, List.set_cons_succ]
      clear hA2 nA2 EA2 CA2
      have lt0B2 : Z.heap.size < A1.heap.size := la.lt
      replace la := la.keep (nB2.2.block _ la.lt)
      have lb := nB2.1
      have Plb : Hid (Z.heap.size ≤ A1.heap.size) := hidIt EU.out.size
      have Dab : Hid (Z.heap.size < A1.heap.size) := hidIt lt0B2
      replace EU := EB2
      clear nB2 EB2 hB2 CB2
      obtain ⟨A5, hA5⟩ : ∃ U, U = B2.freeze ⟨Z.heap.size, 1, none⟩ 1 := ⟨_, rfl⟩
      have nA5 := lconv_new la
      rw [← hA5] at nA5
      have EA5 := hidIt (EU.out.trans (nA5.2.below (by have := Pla.out; omega) EU.out.size))
      have CA5 : A5.cell? ⟨wb, 0, none⟩ = some (.slice (some ⟨rb, 0, none⟩) 2 2) := (EA5.out.cell (p := ⟨wb, 0, none⟩) CC.out.2).trans CC.out.1
      obtain ⟨B5, hB5⟩ : ∃ U, U = B2.freeze ⟨A1.heap.size, 1, none⟩ 1 := ⟨_, rfl⟩
      have nB5 := lconv_new lb
      rw [← hB5] at nB5
      have EB5 := hidIt (EU.out.trans (nB5.2.below (by have := Plb.out; omega) EU.out.size))
      have CB5 : B5.cell? ⟨wb, 0, none⟩ = some (.slice (some ⟨rb, 0, none⟩) 2 2) := (EB5.out.cell (p := ⟨wb, 0, none⟩) CC.out.2).trans CC.out.1
      refine pair_at (i := 11) (j := 13) (some 44) (some 46) rfl rfl rfl rfl (by kernel_rfl) (by rfl) (by rfl) (.slice (some ⟨Z.heap.size, 0, none⟩) 1 1) (.slice (some ⟨A1.heap.size, 0, none⟩) 1 1) A5 B5 (by rw [hA5]; exact lconv_run (.tmp 43) rfl _ 100 rfl la) (by rw [hB5]; exact lconv_run (.tmp 45) rfl _ 101 rfl lb) ⟨CA5, CB5⟩ (fun hHeld => ?_) (fun hHeld => ?_)
      · simp only [Act.put, List.setIfInBounds_toArray, List.set_cons_zero, List.set_cons_succ]
        clear hB5 nB5 EB5 CB5
        replace lb := lb.keep (nA5.2.block _ lb.lt (by have := Dab.out; omega))
        replace la := nA5.1
        replace EU := EA5
        clear nA5 EA5 hA5 CA5
        obtain ⟨B6, hB6⟩ : ∃ U, U = A5.freeze ⟨A1.heap.size, 1, none⟩ 1 := ⟨_, rfl⟩
        have nB6 := lconv_new lb
        rw [← hB6] at nB6
        have EB6 := hidIt (EU.out.trans (nB6.2.below (by have := Plb.out; omega) EU.out.size))
        have CB6 : B6.cell? ⟨wb, 0, none⟩ = some (.slice (some ⟨rb, 0, none⟩) 2 2) := (EB6.out.cell (p := ⟨wb, 0, none⟩) CC.out.2).trans CC.out.1
        refine step_at (i := 13) (some 46) rfl rfl (by rfl) (by kernel_rfl) (.slice (some ⟨A1.heap.size, 0, none⟩) 1 1) B6 (by rw [hB6]; exact lconv_run (.tmp 45) rfl _ 101 rfl lb) CB6 (fun hHeld => ?_)
        simp only [Act.put, List.setIfInBounds_toArray, List.set_cons_zero, List.set_cons_succ]
        replace la := la.keep (nB6.2.block _ la.lt (by have := Dab.out; omega))
        replace lb := nB6.1
        replace EU := EB6
        clear nB6 EB6 hB6 CB6
        have XA := hidIt (la.txt (by decide))
        have XB := hidIt (lb.txt (by decide))
        have LU := hidIt (LZ.out.below EU.out)
        have RU := hidIt (RZ.out.below EU.out)
        have CU : B6.cell? ⟨wb, 0, none⟩ = some (.slice (some ⟨rb, 0, none⟩) 2 2) := (EU.out.cell (p := ⟨wb, 0, none⟩) CC.out.2).trans CC.out.1
        clear la lb
        refine call_at (i := 14) (some 47) 43 _ _ rfl rfl rfl (by rfl) (by kernel_rfl) #[.slice (some ⟨g4, 0, none⟩) 4 4, .slice (some ⟨Z.heap.size, 0, none⟩) 1 1, .slice (some ⟨A1.heap.size, 0, none⟩) 1 1] rfl Try.func43 (by kernel_rfl) (by kernel_rfl) ?_
        refine (lspans_any 4 4 L4.out.1 LU.out (fun x hx => by have := S4.out.1 x hx; omega) S4.out.2 XA.out XB.out).mono ?_
        rintro e V3 ⟨a3', c3', os4, rfl, o3, _, k3, m3, b3⟩
        rw [L4.out.2.2] at m3
        have m3' := m3.trans aw_4
        have n3 : os4.length = 1 := by have := congrArg List.length m3'; rw [List.length_map] at this; exact this
        have E3' := hidIt (EU.out.trans (b3.mono EU.out.size))
        have O4 := hidIt (o3.ls (fun x hx => (k3 x hx).2.any))
        have R4 : Hid (LsR V3 (some ⟨rb, 0, none⟩) [y2]) := hidIt (by
          have h := RZ.out.below E3'.out
          refine ⟨fun x hx => h.1 x (by simp at hx; simp [hx]), fun _ => ?_⟩
          obtain ⟨b, o, ha, hr, hb⟩ := h.2 (by simp)
          refine ⟨b, o, ha, fun j v hj => hr j v ?_, hb⟩
          have := (List.getElem?_eq_some_iff.1 hj).1
          rw [show rcs [y2, x2] = rcs [y2] ++ rcs [x2] from rcs_app [y2] [x2], List.getElem?_append_left this]
          exact hj)
        have C3' : V3.cell? ⟨wb, 0, none⟩ = some (.slice (some ⟨rb, 0, none⟩) 2 2) := (E3'.out.cell (p := ⟨wb, 0, none⟩) CC.out.2).trans CC.out.1
        have M4 := hidIt m3'
        have N4 := hidIt n3
        clear o3 k3 m3 m3' n3 b3 CU
        refine ⟨_, rfl, C3', fun hHeld => ?_⟩
        simp only [Act.put, List.setIfInBounds_toArray, List.set_cons_zero, List.set_cons_succ]
        refine call_at (i := 19) (some 52) 15 _ _ rfl rfl rfl (by rfl) (by kernel_rfl) #[.slice a3' os4.length c3', .slice (some ⟨rb, 0, none⟩) 1 2] rfl Try.func15 (by kernel_rfl) (by kernel_rfl) ?_
        refine (sameRuns_eq os4.length 1 c3' 2 rfl rfl O4.out R4.out (by have := N4.out; omega) (by rw [M4.out]; have := NX.out; simp only [List.map_cons, List.map_nil] at this ⊢; injection this with this _; rw [this])).mono ?_
        rintro e V4 ⟨rfl, b4⟩
        have EV := hidIt (E3'.out.trans (b4.mono E3'.out.size))
        have C4' : V4.cell? ⟨wb, 0, none⟩ = some (.slice (some ⟨rb, 0, none⟩) 2 2) := (EV.out.cell (p := ⟨wb, 0, none⟩) CC.out.2).trans CC.out.1
        have FIN := hidIt (BZ.out.trans (EV.out.mono BZ.out.size))
        clear b4 C3'
        refine ⟨_, rfl, C4', fun hHeld => ?_⟩
        simp only [Act.put, List.setIfInBounds_toArray, List.set_cons_zero, List.set_cons_succ]
        refine take_at (i := 20) (v := ?_) (some 53) rfl rfl (by kernel_rfl) (by kernel_rfl) (by kernel_rfl) (fun _ _ _ h => h) (Or.inl ⟨by rfl, ?_⟩) (by assumption) ?_
        rotate_left
        · (intro w hSw; (try dsimp only at hSw); go_simp; try with_reducible rfl)
        simp only [Act.put, List.setIfInBounds_toArray, List.set_cons_zero, List.set_cons_succ]
        refine take_at (i := 21) (v := ?_) (some 0) rfl rfl (by kernel_rfl) (by kernel_rfl) (by kernel_rfl) (fun _ _ _ h => h) (Or.inl ⟨by rfl, ?_⟩) (by assumption) ?_
        rotate_left
        · (intro w hSw; (try dsimp only at hSw); go_simp; try with_reducible rfl)
        simp only [Act.put, List.setIfInBounds_toArray, List.set_cons_zero]
        refine wpAnyH_done (by kernel_rfl) ?_ _
        refine NoPanic.normal ?_
        go_wp2_with fail
        exact bodyPost_ret (v := .bool true) (by simp [results, Try.results16, go_sem]) rfl ⟨rfl, FIN.out⟩
      · simp only [Act.put, List.setIfInBounds_toArray, List.set_cons_zero, List.set_cons_succ]
        clear hA5 nA5 EA5 CA5
        replace la := la.keep (nB5.2.block _ la.lt (by have := Dab.out; omega))
        replace lb := nB5.1
        replace EU := EB5
        clear nB5 EB5 hB5 CB5
        obtain ⟨A7, hA7⟩ : ∃ U, U = B5.freeze ⟨Z.heap.size, 1, none⟩ 1 := ⟨_, rfl⟩
        have nA7 := lconv_new la
        rw [← hA7] at nA7
        have EA7 := hidIt (EU.out.trans (nA7.2.below (by have := Pla.out; omega) EU.out.size))
        have CA7 : A7.cell? ⟨wb, 0, none⟩ = some (.slice (some ⟨rb, 0, none⟩) 2 2) := (EA7.out.cell (p := ⟨wb, 0, none⟩) CC.out.2).trans CC.out.1
        refine step_at (i := 11) (some 44) rfl rfl (by rfl) (by kernel_rfl) (.slice (some ⟨Z.heap.size, 0, none⟩) 1 1) A7 (by rw [hA7]; exact lconv_run (.tmp 43) rfl _ 100 rfl la) CA7 (fun hHeld => ?_)
        simp only [Act.put, List.setIfInBounds_toArray, List.set_cons_zero, List.set_cons_succ]
        replace lb := lb.keep (nA7.2.block _ lb.lt (by have := Dab.out; omega))
        replace la := nA7.1
        replace EU := EA7
        clear nA7 EA7 hA7 CA7
        have XA := hidIt (la.txt (by decide))
        have XB := hidIt (lb.txt (by decide))
        have LU := hidIt (LZ.out.below EU.out)
        have RU := hidIt (RZ.out.below EU.out)
        have CU : A7.cell? ⟨wb, 0, none⟩ = some (.slice (some ⟨rb, 0, none⟩) 2 2) := (EU.out.cell (p := ⟨wb, 0, none⟩) CC.out.2).trans CC.out.1
        clear la lb
        refine call_at (i := 14) (some 47) 43 _ _ rfl rfl rfl (by rfl) (by kernel_rfl) #[.slice (some ⟨g4, 0, none⟩) 4 4, .slice (some ⟨Z.heap.size, 0, none⟩) 1 1, .slice (some ⟨A1.heap.size, 0, none⟩) 1 1] rfl Try.func43 (by kernel_rfl) (by kernel_rfl) ?_
        refine (lspans_any 4 4 L4.out.1 LU.out (fun x hx => by have := S4.out.1 x hx; omega) S4.out.2 XA.out XB.out).mono ?_
        rintro e V3 ⟨a3', c3', os4, rfl, o3, _, k3, m3, b3⟩
        rw [L4.out.2.2] at m3
        have m3' := m3.trans aw_4
        have n3 : os4.length = 1 := by have := congrArg List.length m3'; rw [List.length_map] at this; exact this
        have E3' := hidIt (EU.out.trans (b3.mono EU.out.size))
        have O4 := hidIt (o3.ls (fun x hx => (k3 x hx).2.any))
        have R4 : Hid (LsR V3 (some ⟨rb, 0, none⟩) [y2]) := hidIt (by
          have h := RZ.out.below E3'.out
          refine ⟨fun x hx => h.1 x (by simp at hx; simp [hx]), fun _ => ?_⟩
          obtain ⟨b, o, ha, hr, hb⟩ := h.2 (by simp)
          refine ⟨b, o, ha, fun j v hj => hr j v ?_, hb⟩
          have := (List.getElem?_eq_some_iff.1 hj).1
          rw [show rcs [y2, x2] = rcs [y2] ++ rcs [x2] from rcs_app [y2] [x2], List.getElem?_append_left this]
          exact hj)
        have C3' : V3.cell? ⟨wb, 0, none⟩ = some (.slice (some ⟨rb, 0, none⟩) 2 2) := (E3'.out.cell (p := ⟨wb, 0, none⟩) CC.out.2).trans CC.out.1
        have M4 := hidIt m3'
        have N4 := hidIt n3
        clear o3 k3 m3 m3' n3 b3 CU
        refine ⟨_, rfl, C3', fun hHeld => ?_⟩
        simp only [Act.put, List.setIfInBounds_toArray, List.set_cons_zero, List.set_cons_succ]
        refine call_at (i := 19) (some 52) 15 _ _ rfl rfl rfl (by rfl) (by kernel_rfl) #[.slice a3' os4.length c3', .slice (some ⟨rb, 0, none⟩) 1 2] rfl Try.func15 (by kernel_rfl) (by kernel_rfl) ?_
        refine (sameRuns_eq os4.length 1 c3' 2 rfl rfl O4.out R4.out (by have := N4.out; omega) (by rw [M4.out]; have := NX.out; simp only [List.map_cons, List.map_nil] at this ⊢; injection this with this _; rw [this])).mono ?_
        rintro e V4 ⟨rfl, b4⟩
        have EV := hidIt (E3'.out.trans (b4.mono E3'.out.size))
        have C4' : V4.cell? ⟨wb, 0, none⟩ = some (.slice (some ⟨rb, 0, none⟩) 2 2) := (EV.out.cell (p := ⟨wb, 0, none⟩) CC.out.2).trans CC.out.1
        have FIN := hidIt (BZ.out.trans (EV.out.mono BZ.out.size))
        clear b4 C3'
        refine ⟨_, rfl, C4', fun hHeld => ?_⟩
        simp only [Act.put, List.setIfInBounds_toArray, List.set_cons_zero, List.set_cons_succ]
        refine take_at (i := 20) (v := ?_) (some 53) rfl rfl (by kernel_rfl) (by kernel_rfl) (by kernel_rfl) (fun _ _ _ h => h) (Or.inl ⟨by rfl, ?_⟩) (by assumption) ?_
        rotate_left
        · (intro w hSw; (try dsimp only at hSw); go_simp; try with_reducible rfl)
        simp only [Act.put, List.setIfInBounds_toArray, List.set_cons_zero, List.set_cons_succ]
        refine take_at (i := 21) (v := ?_) (some 0) rfl rfl (by kernel_rfl) (by kernel_rfl) (by kernel_rfl) (fun _ _ _ h => h) (Or.inl ⟨by rfl, ?_⟩) (by assumption) ?_
        rotate_left
        · (intro w hSw; (try dsimp only at hSw); go_simp; try with_reducible rfl)
        simp only [Act.put, List.setIfInBounds_toArray, List.set_cons_zero]
        refine wpAnyH_done (by kernel_rfl) ?_ _
        refine NoPanic.normal ?_
        go_wp2_with fail
        exact bodyPost_ret (v := .bool true) (by simp [results, Try.results16, go_sem]) rfl ⟨rfl, FIN.out⟩
  · simp only [Act.put, List.setIfInBounds_toArray, List.set_cons_zero, List.set_cons_succ]
    clear hA1 nA1 EA1 CA1
    have lb := nB1.1
    have Plb : Hid (Z.heap.size ≤ Z.heap.size) := hidIt EU.out.size
    replace EU := EB1
    clear nB1 EB1 hB1 CB1
    obtain ⟨A8, hA8⟩ : ∃ U, U = B1.alloc (.cells #[.int .u8 100] 5) := ⟨_, rfl⟩
    have nA8 := lit_new B1 100
    rw [← hA8] at nA8
    have EA8 := hidIt (EU.out.trans (nA8.2.mono EU.out.size))
    have CA8 : A8.cell? ⟨wb, 0, none⟩ = some (.slice (some ⟨rb, 0, none⟩) 2 2) := (EA8.out.cell (p := ⟨wb, 0, none⟩) CC.out.2).trans CC.out.1
    obtain ⟨B8, hB8⟩ : ∃ U, U = B1.freeze ⟨Z.heap.size, 1, none⟩ 1 := ⟨_, rfl⟩
    have nB8 := lconv_new lb
    rw [← hB8] at nB8
    have EB8 := hidIt (EU.out.trans (nB8.2.below (by have := Plb.out; omega) EU.out.size))
    have CB8 : B8.cell? ⟨wb, 0, none⟩ = some (.slice (some ⟨rb, 0, none⟩) 2 2) := (EB8.out.cell (p := ⟨wb, 0, none⟩) CC.out.2).trans CC.out.1
    refine pair_at (i := 10) (j := 13) (some 43) (some 46) rfl rfl rfl rfl (by kernel_rfl) (by rfl) (by rfl) (.slice (some ⟨B1.heap.size, 0, none⟩) 1 1) (.slice (some ⟨Z.heap.size, 0, none⟩) 1 1) A8 B8 (by rw [hA8]; exact lit_run 100 rfl) (by rw [hB8]; exact lconv_run (.tmp 45) rfl _ 101 rfl lb) ⟨CA8, CB8⟩ (fun hHeld => ?_) (fun hHeld => ?_)
    · simp only [Act.put, List.setIfInBounds_toArray, List.set_cons_zero, List.set_cons_succ]
      clear hB8 nB8 EB8 CB8
      have lt0A8 : Z.heap.size < B1.heap.size := lb.lt
      replace lb := lb.keep (nA8.2.block _ lb.lt)
      have la := nA8.1
      have Pla : Hid (Z.heap.size ≤ B1.heap.size) := hidIt EU.out.size
      have Dab : Hid (Z.heap.size < B1.heap.size) := hidIt lt0A8
      replace EU := EA8
      clear nA8 EA8 hA8 CA8
      obtain ⟨A9, hA9⟩ : ∃ U, U = A8.freeze ⟨B1.heap.size, 1, none⟩ 1 := ⟨_, rfl⟩
      have nA9 := lconv_new la
      rw [← hA9] at nA9
      have EA9 := hidIt (EU.out.trans (nA9.2.below (by have := Pla.out; omega) EU.out.size))
      have CA9 : A9.cell? ⟨wb, 0, none⟩ = some (.slice (some ⟨rb, 0, none⟩) 2 2) := (EA9.out.cell (p := ⟨wb, 0, none⟩) CC.out.2).trans CC.out.1
      obtain ⟨B9, hB9⟩ : ∃ U, U = A8.freeze ⟨Z.heap.size, 1, none⟩ 1 := ⟨_, rfl⟩
      have nB9 := lconv_new lb
      rw [← hB9] at nB9
      have EB9 := hidIt (EU.out.trans (nB9.2.below (by have := Plb.out; omega) EU.out.size))
      have CB9 : B9.cell? ⟨wb, 0, none⟩ = some (.slice (some ⟨rb, 0, none⟩) 2 2) := (EB9.out.cell (p := ⟨wb, 0, none⟩) CC.out.2).trans CC.out.1
      refine pair_at (i := 11) (j := 13) (some 44) (some 46) rfl rfl rfl rfl (by kernel_rfl) (by rfl) (by rfl) (.slice (some ⟨B1.heap.size, 0, none⟩) 1 1) (.slice (some ⟨Z.heap.size, 0, none⟩) 1 1) A9 B9 (by rw [hA9]; exact lconv_run (.tmp 43) rfl _ 100 rfl la) (by rw [hB9]; exact lconv_run (.tmp 45) rfl _ 101 rfl lb) ⟨CA9, CB9⟩ (fun hHeld => ?_) (fun hHeld => ?_)
      · simp only [Act.put, List.setIfInBounds_toArray, List.set_cons_zero, List.set_cons_succ]
        clear hB9 nB9 EB9 CB9
        replace lb := lb.keep (nA9.2.block _ lb.lt (by have := Dab.out; omega))
        replace la := nA9.1
        replace EU := EA9
        clear nA9 EA9 hA9 CA9
        obtain ⟨B10, hB10⟩ : ∃ U, U = A9.freeze ⟨Z.heap.size, 1, none⟩ 1 := ⟨_, rfl⟩
        have nB10 := lconv_new lb
        rw [← hB10] at nB10
        have EB10 := hidIt (EU.out.trans (nB10.2.below (by have := Plb.out; omega) EU.out.size))
        have CB10 : B10.cell? ⟨wb, 0, none⟩ = some (.slice (some ⟨rb, 0, none⟩) 2 2) := (EB10.out.cell (p := ⟨wb, 0, none⟩) CC.out.2).trans CC.out.1
        refine step_at (i := 13) (some 46) rfl rfl (by rfl) (by kernel_rfl) (.slice (some ⟨Z.heap.size, 0, none⟩) 1 1) B10 (by rw [hB10]; exact lconv_run (.tmp 45) rfl _ 101 rfl lb) CB10 (fun hHeld => ?_)
        simp only [Act.put, List.setIfInBounds_toArray, List.set_cons_zero, List.set_cons_succ]
        replace la := la.keep (nB10.2.block _ la.lt (by have := Dab.out; omega))
        replace lb := nB10.1
        replace EU := EB10
        clear nB10 EB10 hB10 CB10
        have XA := hidIt (la.txt (by decide))
        have XB := hidIt (lb.txt (by decide))
        have LU := hidIt (LZ.out.below EU.out)
        have RU := hidIt (RZ.out.below EU.out)
        have CU : B10.cell? ⟨wb, 0, none⟩ = some (.slice (some ⟨rb, 0, none⟩) 2 2) := (EU.out.cell (p := ⟨wb, 0, none⟩) CC.out.2).trans CC.out.1
        clear la lb
        refine call_at (i := 14) (some 47) 43 _ _ rfl rfl rfl (by rfl) (by kernel_rfl) #[.slice (some ⟨g4, 0, none⟩) 4 4, .slice (some ⟨B1.heap.size, 0, none⟩) 1 1, .slice (some ⟨Z.heap.size, 0, none⟩) 1 1] rfl Try.func43 (by kernel_rfl) (by kernel_rfl) ?_
        refine (lspans_any 4 4 L4.out.1 LU.out (fun x hx => by have := S4.out.1 x hx; omega) S4.out.2 XA.out XB.out).mono ?_
        rintro e V3 ⟨a3', c3', os4, rfl, o3, _, k3, m3, b3⟩
        rw [L4.out.2.2] at m3
        have m3' := m3.trans aw_4
        have n3 : os4.length = 1 := by have := congrArg List.length m3'; rw [List.length_map] at this; exact this
        have E3' := hidIt (EU.out.trans (b3.mono EU.out.size))
        have O4 := hidIt (o3.ls (fun x hx => (k3 x hx).2.any))
        have R4 : Hid (LsR V3 (some ⟨rb, 0, none⟩) [y2]) := hidIt (by
          have h := RZ.out.below E3'.out
          refine ⟨fun x hx => h.1 x (by simp at hx; simp [hx]), fun _ => ?_⟩
          obtain ⟨b, o, ha, hr, hb⟩ := h.2 (by simp)
          refine ⟨b, o, ha, fun j v hj => hr j v ?_, hb⟩
          have := (List.getElem?_eq_some_iff.1 hj).1
          rw [show rcs [y2, x2] = rcs [y2] ++ rcs [x2] from rcs_app [y2] [x2], List.getElem?_append_left this]
          exact hj)
        have C3' : V3.cell? ⟨wb, 0, none⟩ = some (.slice (some ⟨rb, 0, none⟩) 2 2) := (E3'.out.cell (p := ⟨wb, 0, none⟩) CC.out.2).trans CC.out.1
        have M4 := hidIt m3'
        have N4 := hidIt n3
        clear o3 k3 m3 m3' n3 b3 CU
        refine ⟨_, rfl, C3', fun hHeld => ?_⟩
        simp only [Act.put, List.setIfInBounds_toArray, List.set_cons_zero, List.set_cons_succ]
        refine call_at (i := 19) (some 52) 15 _ _ rfl rfl rfl (by rfl) (by kernel_rfl) #[.slice a3' os4.length c3', .slice (some ⟨rb, 0, none⟩) 1 2] rfl Try.func15 (by kernel_rfl) (by kernel_rfl) ?_
        refine (sameRuns_eq os4.length 1 c3' 2 rfl rfl O4.out R4.out (by have := N4.out; omega) (by rw [M4.out]; have := NX.out; simp only [List.map_cons, List.map_nil] at this ⊢; injection this with this _; rw [this])).mono ?_
        rintro e V4 ⟨rfl, b4⟩
        have EV := hidIt (E3'.out.trans (b4.mono E3'.out.size))
        have C4' : V4.cell? ⟨wb, 0, none⟩ = some (.slice (some ⟨rb, 0, none⟩) 2 2) := (EV.out.cell (p := ⟨wb, 0, none⟩) CC.out.2).trans CC.out.1
        have FIN := hidIt (BZ.out.trans (EV.out.mono BZ.out.size))
        clear b4 C3'
        refine ⟨_, rfl, C4', fun hHeld => ?_⟩
        simp only [Act.put, List.setIfInBounds_toArray, List.set_cons_zero, List.set_cons_succ]
        refine take_at (i := 20) (v := ?_) (some 53) rfl rfl (by kernel_rfl) (by kernel_rfl) (by kernel_rfl) (fun _ _ _ h => h) (Or.inl ⟨by rfl, ?_⟩) (by assumption) ?_
        rotate_left
        · (intro w hSw; (try dsimp only at hSw); go_simp; try with_reducible rfl)
        simp only [Act.put, List.setIfInBounds_toArray, List.set_cons_zero, List.set_cons_succ]
        refine take_at (i := 21) (v := ?_) (some 0) rfl rfl (by kernel_rfl) (by kernel_rfl) (by kernel_rfl) (fun _ _ _ h => h) (Or.inl ⟨by rfl, ?_⟩) (by assumption) ?_
        rotate_left
        · (intro w hSw; (try dsimp only at hSw); go_simp; try with_reducible rfl)
        simp only [Act.put, List.setIfInBounds_toArray, List.set_cons_zero]
        refine wpAnyH_done (by kernel_rfl) ?_ _
        refine NoPanic.normal ?_
        go_wp2_with fail
        exact bodyPost_ret (v := .bool true) (by simp [results, Try.results16, go_sem]) rfl ⟨rfl, FIN.out⟩
      · simp only [Act.put, List.setIfInBounds_toArray, List.set_cons_zero, List.set_cons_succ]
        clear hA9 nA9 EA9 CA9
        replace la := la.keep (nB9.2.block _ la.lt (by have := Dab.out; omega))
        replace lb := nB9.1
        replace EU := EB9
        clear nB9 EB9 hB9 CB9
        obtain ⟨A11, hA11⟩ : ∃ U, U = B9.freeze ⟨B1.heap.size, 1, none⟩ 1 := ⟨_, rfl⟩
        have nA11 := lconv_new la
        rw [← hA11] at nA11
        have EA11 := hidIt (EU.out.trans (nA11.2.below (by have := Pla.out; omega) EU.out.size))
        have CA11 : A11.cell? ⟨wb, 0, none⟩ = some (.slice (some ⟨rb, 0, none⟩) 2 2) := (EA11.out.cell (p := ⟨wb, 0, none⟩) CC.out.2).trans CC.out.1
        refine step_at (i := 11) (some 44) rfl rfl (by rfl) (by kernel_rfl) (.slice (some ⟨B1.heap.size, 0, none⟩) 1 1) A11 (by rw [hA11]; exact lconv_run (.tmp 43) rfl _ 100 rfl la) CA11 (fun hHeld => ?_)
        simp only [Act.put, List.setIfInBounds_toArray, List.set_cons_zero, List.set_cons_succ]
        replace lb := lb.keep (nA11.2.block _ lb.lt (by have := Dab.out; omega))
        replace la := nA11.1
        replace EU := EA11
        clear nA11 EA11 hA11 CA11
        have XA := hidIt (la.txt (by decide))
        have XB := hidIt (lb.txt (by decide))
        have LU := hidIt (LZ.out.below EU.out)
        have RU := hidIt (RZ.out.below EU.out)
        have CU : A11.cell? ⟨wb, 0, none⟩ = some (.slice (some ⟨rb, 0, none⟩) 2 2) := (EU.out.cell (p := ⟨wb, 0, none⟩) CC.out.2).trans CC.out.1
        clear la lb
        refine call_at (i := 14) (some 47) 43 _ _ rfl rfl rfl (by rfl) (by kernel_rfl) #[.slice (some ⟨g4, 0, none⟩) 4 4, .slice (some ⟨B1.heap.size, 0, none⟩) 1 1, .slice (some ⟨Z.heap.size, 0, none⟩) 1 1] rfl Try.func43 (by kernel_rfl) (by kernel_rfl) ?_
        refine (lspans_any 4 4 L4.out.1 LU.out (fun x hx => by have := S4.out.1 x hx; omega) S4.out.2 XA.out XB.out).mono ?_
        rintro e V3 ⟨a3', c3', os4, rfl, o3, _, k3, m3, b3⟩
        rw [L4.out.2.2] at m3
        have m3' := m3.trans aw_4
        have n3 : os4.length = 1 := by have := congrArg List.length m3'; rw [List.length_map] at this; exact this
        have E3' := hidIt (EU.out.trans (b3.mono EU.out.size))
        have O4 := hidIt (o3.ls (fun x hx => (k3 x hx).2.any))
        have R4 : Hid (LsR V3 (some ⟨rb, 0, none⟩) [y2]) := hidIt (by
          have h := RZ.out.below E3'.out
          refine ⟨fun x hx => h.1 x (by simp at hx; simp [hx]), fun _ => ?_⟩
          obtain ⟨b, o, ha, hr, hb⟩ := h.2 (by simp)
          refine ⟨b, o, ha, fun j v hj => hr j v ?_, hb⟩
          have := (List.getElem?_eq_some_iff.1 hj).1
          rw [show rcs [y2, x2] = rcs [y2] ++ rcs [x2] from rcs_app [y2] [x2], List.getElem?_append_left this]
          exact hj)
        have C3' : V3.cell? ⟨wb, 0, none⟩ = some (.slice (some ⟨rb, 0, none⟩) 2 2) := (E3'.out.cell (p := ⟨wb, 0, none⟩) CC.out.2).trans CC.out.1
        have M4 := hidIt m3'
        have N4 := hidIt n3
        clear o3 k3 m3 m3' n3 b3 CU
        refine ⟨_, rfl, C3', fun hHeld => ?_⟩
        simp only [Act.put, List.setIfInBounds_toArray, List.set_cons_zero, List.set_cons_succ]
        refine call_at (i := 19) (some 52) 15 _ _ rfl rfl rfl (by rfl) (by kernel_rfl) #[.slice a3' os4.length c3', .slice (some ⟨rb, 0, none⟩) 1 2] rfl Try.func15 (by kernel_rfl) (by kernel_rfl) ?_
        refine (sameRuns_eq os4.length 1 c3' 2 rfl rfl O4.out R4.out (by have := N4.out; omega) (by rw [M4.out]; have := NX.out; simp only [List.map_cons, List.map_nil] at this ⊢; injection this with this _; rw [this])).mono ?_
        rintro e V4 ⟨rfl, b4⟩
        have EV := hidIt (E3'.out.trans (b4.mono E3'.out.size))
        have C4' : V4.cell? ⟨wb, 0, none⟩ = some (.slice (some ⟨rb, 0, none⟩) 2 2) := (EV.out.cell (p := ⟨wb, 0, none⟩) CC.out.2).trans CC.out.1
        have FIN := hidIt (BZ.out.trans (EV.out.mono BZ.out.size))
        clear b4 C3'
        refine ⟨_, rfl, C4', fun hHeld => ?_⟩
        simp only [Act.put, List.setIfInBounds_toArray, List.set_cons_zero, List.set_cons_succ]
        refine take_at (i := 20) (v := ?_) (some 53) rfl rfl (by kernel_rfl) (by kernel_rfl) (by kernel_rfl) (fun _ _ _ h => h) (Or.inl ⟨by rfl, ?_⟩) (by assumption) ?_
        rotate_left
        · (intro w hSw; (try dsimp only at hSw); go_simp; try with_reducible rfl)
        simp only [Act.put, List.setIfInBounds_toArray, List.set_cons_zero, List.set_cons_succ]
        refine take_at (i := 21) (v := ?_) (some 0) rfl rfl (by kernel_rfl) (by kernel_rfl) (by kernel_rfl) (fun _ _ _ h => h) (Or.inl ⟨by rfl, ?_⟩) (by assumption) ?_
        rotate_left
        · (intro w hSw; (try dsimp only at hSw); go_simp; try with_reducible rfl)
        simp only [Act.put, List.setIfInBounds_toArray, List.set_cons_zero]
        refine wpAnyH_done (by kernel_rfl) ?_ _
        refine NoPanic.normal ?_
        go_wp2_with fail
        exact bodyPost_ret (v := .bool true) (by simp [results, Try.results16, go_sem]) rfl ⟨rfl, FIN.out⟩
    · simp only [Act.put, List.setIfInBounds_toArray, List.set_cons_zero, List.set_cons_succ]
      clear hA8 nA8 EA8 CA8
      replace lb := nB8.1
      replace EU := EB8
      clear nB8 EB8 hB8 CB8
      obtain ⟨A12, hA12⟩ : ∃ U, U = B8.alloc (.cells #[.int .u8 100] 5) := ⟨_, rfl⟩
      have nA12 := lit_new B8 100
      rw [← hA12] at nA12
      have EA12 := hidIt (EU.out.trans (nA12.2.mono EU.out.size))
      have CA12 : A12.cell? ⟨wb, 0, none⟩ = some (.slice (some ⟨rb, 0, none⟩) 2 2) := (EA12.out.cell (p := ⟨wb, 0, none⟩) CC.out.2).trans CC.out.1
      refine step_at (i := 10) (some 43) rfl rfl (by rfl) (by kernel_rfl) (.slice (some ⟨B8.heap.size, 0, none⟩) 1 1) A12 (by rw [hA12]; exact lit_run 100 rfl) CA12 (fun hHeld => ?_)
      simp only [Act.put, List.setIfInBounds_toArray, List.set_cons_zero, List.set_cons_succ]
      have lt0A12 : Z.heap.size < B8.heap.size := lb.lt
      replace lb := lb.keep (nA12.2.block _ lb.lt)
      have la := nA12.1
      have Pla : Hid (Z.heap.size ≤ B8.heap.size) := hidIt EU.out.size
      have Dab : Hid (Z.heap.size < B8.heap.size) := hidIt lt0A12
      replace EU := EA12
      clear nA12 EA12 hA12 CA12
      obtain ⟨A13, hA13⟩ : ∃ U, U = A12.freeze ⟨B8.heap.size, 1, none⟩ 1 := ⟨_, rfl⟩
      have nA13 := lconv_new la
      rw [← hA13] at nA13
      have EA13 := hidIt (EU.out.trans (nA13.2.below (by have := Pla.out; omega) EU.out.size))
      have CA13 : A13.cell? ⟨wb, 0, none⟩ = some (.slice (some ⟨rb, 0, none⟩) 2 2) := (EA13.out.cell (p := ⟨wb, 0, none⟩) CC.out.2).trans CC.out.1
      refine step_at (i := 11) (some 44) rfl rfl (by rfl) (by kernel_rfl) (.slice (some ⟨B8.heap.size, 0, none⟩) 1 1) A13 (by rw [hA13]; exact lconv_run (.tmp 43) rfl _ 100 rfl la) CA13 (fun hHeld => ?_)
      simp only [Act.put, List.setIfInBounds_toArray, List.set_cons_zero, List.set_cons_succ]
      replace lb := lb.keep (nA13.2.block _ lb.lt (by have := Dab.out; omega))
      replace la := nA13.1
      replace EU := EA13
      clear nA13 EA13 hA13 CA13
      have XA := hidIt (la.txt (by decide))
      have XB := hidIt (lb.txt (by decide))
      have LU := hidIt (LZ.out.below EU.out)
      have RU := hidIt (RZ.out.below EU.out)
      have CU : A13.cell? ⟨wb, 0, none⟩ = some (.slice (some ⟨rb, 0, none⟩) 2 2) := (EU.out.cell (p := ⟨wb, 0, none⟩) CC.out.2).trans CC.out.1
      clear la lb
      refine call_at (i := 14) (some 47) 43 _ _ rfl rfl rfl (by rfl) (by kernel_rfl) #[.slice (some ⟨g4, 0, none⟩) 4 4, .slice (some ⟨B8.heap.size, 0, none⟩) 1 1, .slice (some ⟨Z.heap.size, 0, none⟩) 1 1] rfl Try.func43 (by kernel_rfl) (by kernel_rfl) ?_
      refine (lspans_any 4 4 L4.out.1 LU.out (fun x hx => by have := S4.out.1 x hx; omega) S4.out.2 XA.out XB.out).mono ?_
      rintro e V3 ⟨a3', c3', os4, rfl, o3, _, k3, m3, b3⟩
      rw [L4.out.2.2] at m3
      have m3' := m3.trans aw_4
      have n3 : os4.length = 1 := by have := congrArg List.length m3'; rw [List.length_map] at this; exact this
      have E3' := hidIt (EU.out.trans (b3.mono EU.out.size))
      have O4 := hidIt (o3.ls (fun x hx => (k3 x hx).2.any))
      have R4 : Hid (LsR V3 (some ⟨rb, 0, none⟩) [y2]) := hidIt (by
        have h := RZ.out.below E3'.out
        refine ⟨fun x hx => h.1 x (by simp at hx; simp [hx]), fun _ => ?_⟩
        obtain ⟨b, o, ha, hr, hb⟩ := h.2 (by simp)
        refine ⟨b, o, ha, fun j v hj => hr j v ?_, hb⟩
        have := (List.getElem?_eq_some_iff.1 hj).1
        rw [show rcs [y2, x2] = rcs [y2] ++ rcs [x2] from rcs_app [y2] [x2], List.getElem?_append_left this]
        exact hj)
      have C3' : V3.cell? ⟨wb, 0, none⟩ = some (.slice (some ⟨rb, 0, none⟩) 2 2) := (E3'.out.cell (p := ⟨wb, 0, none⟩) CC.out.2).trans CC.out.1
      have M4 := hidIt m3'
      have N4 := hidIt n3
      clear o3 k3 m3 m3' n3 b3 CU
      refine ⟨_, rfl, C3', fun hHeld => ?_⟩
      simp only [Act.put, List.setIfInBounds_toArray, List.set_cons_zero, List.set_cons_succ]
      refine call_at (i := 19) (some 52) 15 _ _ rfl rfl rfl (by rfl) (by kernel_rfl) #[.slice a3' os4.length c3', .slice (some ⟨rb, 0, none⟩) 1 2] rfl Try.func15 (by kernel_rfl) (by kernel_rfl) ?_
      refine (sameRuns_eq os4.length 1 c3' 2 rfl rfl O4.out R4.out (by have := N4.out; omega) (by rw [M4.out]; have := NX.out; simp only [List.map_cons, List.map_nil] at this ⊢; injection this with this _; rw [this])).mono ?_
      rintro e V4 ⟨rfl, b4⟩
      have EV := hidIt (E3'.out.trans (b4.mono E3'.out.size))
      have C4' : V4.cell? ⟨wb, 0, none⟩ = some (.slice (some ⟨rb, 0, none⟩) 2 2) := (EV.out.cell (p := ⟨wb, 0, none⟩) CC.out.2).trans CC.out.1
      have FIN := hidIt (BZ.out.trans (EV.out.mono BZ.out.size))
      clear b4 C3'
      refine ⟨_, rfl, C4', fun hHeld => ?_⟩
      simp only [Act.put, List.setIfInBounds_toArray, List.set_cons_zero, List.set_cons_succ]
      refine take_at (i := 20) (v := ?_) (some 53) rfl rfl (by kernel_rfl) (by kernel_rfl) (by kernel_rfl) (fun _ _ _ h => h) (Or.inl ⟨by rfl, ?_⟩) (by assumption) ?_
      rotate_left
      · (intro w hSw; (try dsimp only at hSw); go_simp; try with_reducible rfl)
      simp only [Act.put, List.setIfInBounds_toArray, List.set_cons_zero, List.set_cons_succ]
      refine take_at (i := 21) (v := ?_) (some 0) rfl rfl (by kernel_rfl) (by kernel_rfl) (by kernel_rfl) (fun _ _ _ h => h) (Or.inl ⟨by rfl, ?_⟩) (by assumption) ?_
      rotate_left
      · (intro w hSw; (try dsimp only at hSw); go_simp; try with_reducible rfl)
      simp only [Act.put, List.setIfInBounds_toArray, List.set_cons_zero]
      refine wpAnyH_done (by kernel_rfl) ?_ _
      refine NoPanic.normal ?_
      go_wp2_with fail
      exact bodyPost_ret (v := .bool true) (by simp [results, Try.results16, go_sem]) rfl ⟨rfl, FIN.out⟩
end Go.Proofs.Ytelcijfcgflagaa
