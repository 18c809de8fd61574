/-
  Walks, not a claim by itself: Cut. By the verifier.
-/
import Derived.Test.YtgpafmgncolnmaaMgCu0
namespace Go.Proofs.Ytgpafmgncolnmaa
open Go.RowKit Go.Shelf
attribute [local go_sem] Oper.semAt_some
attribute [-go_sem] Builtin.append_
theorem store_lists {W : World} {t o : Nat} {u : Value} {a : Option Addr} {n C : Nat} (h : W.cell? ⟨t, o, none⟩ = some u) (hf : W.frozen? ⟨t, o, none⟩ = false) : (Instr.storeAt 22 (.pointer (some ⟨t, o, none⟩)) (.slice a n C)).run Try.prog W = .ok () (W.setCell ⟨t, o, none⟩ (.slice a n C)) := by
  have st := run_storeCells_cells (P := Try.prog) t o [.slice a n C] 0 W (fun j hj => by simp at hj; subst hj; simp [h]) (fun j hj => by simp at hj; subst hj; simpa using hf) (by simp [Value.oneCell'])
  have hi : (Try.prog.info? 22).map (·.size) = some 1 := by kernel_rfl
  cases hq : Try.prog.info? 22 with
  | none => simp [hq] at hi
  | some i =>
    have hs : i.size = 1 := by simpa [hq] using hi
    simp only [Nat.add_zero] at st
    simp only [Instr.storeAt, Instr.sureAddr, Sem.run_bind, Sem.run_pure, Result.andThen_ok]
    simp [storeVar, sizeOf, typeInfo, hq, hs, Value.cells]
    exact st
theorem Cks.butL {W W' : World} {v : Value} {os : List LV} (h : Off v.ownBlock.toList W W') (ho : OwnLs W 0 v os) (B : Nat) : KeepsFrom B W W' := ⟨h.size, fun k o _ hk hc => (h.block k (Array.getElem?_eq_some_iff.1 hk).1 (fun q => by
  rcases ho.2 with ⟨hv, _⟩ | ⟨g, cap, cur, hv, _, hg, _⟩
  · rw [hv] at q; cases q
  · rw [hv] at q
    simp [Value.ownBlock] at q
    rw [q, hg] at hk
    injection hk with hk
    rw [← hk] at hc
    cases hc)).trans hk⟩
/-- What Cut answers. -/
def CutPost (W : World) (ps : List PV) (m : Int) (e : Ending) (w' : World) : Prop := Below W.heap.size W w' ∧ ((¬ (1 ≤ m ∧ m ≤ 64) ∧ e = .returned (.tuple #[.slice none 0 0, .int .i64 2])) ∨ (1 ≤ m ∧ m ≤ 64 ∧ ∃ A C os, e = .returned (.tuple #[.slice A os.length C, .int .i64 0]) ∧ OwnLs w' 0 (.slice A os.length C) os ∧ (∀ x ∈ os, LOk w' x) ∧ prs os = cutD (ps.map PV.p) m.toNat ∧ Ivs W.heap.size (.slice A os.length C) os w' ∧ ∀ g, (Value.slice A os.length C).ownBlock = some g → W.heap.size ≤ g))
set_option maxRecDepth 100000 in
theorem cut_no {W : World} {a : Option Addr} {ps : List PV} (n C : Nat) (m : Int) (h : ¬ (1 ≤ m ∧ m ≤ 64)) : Calls Try.prog 24 #[.slice a n C, .int .i64 m] W (CutPost W ps m) := by
  have R : Hid (CutPost W ps m (.returned (.tuple #[.slice none 0 0, .int .i64 2])) W) := hidIt ⟨Below.refl _ _, .inl ⟨h, rfl⟩⟩
  by_cases h1 : m < 1
  · have e1 : (m < 1) = True := eq_true h1
    clear h h1
    go_enter Try.func24, Try.ntmps24
    go_wp2_with fail
    exact bodyPost_ret (v := .tuple #[.slice none 0 0, .int .i64 2]) (by simp [results, Try.results24, go_sem]) rfl R.out
  · have e1 : (m < 1) = False := eq_false h1
    have e2 : (64 < m) = True := eq_true (by omega)
    clear h h1
    go_enter Try.func24, Try.ntmps24
    go_wp2_with fail
    exact bodyPost_ret (v := .tuple #[.slice none 0 0, .int .i64 2]) (by simp [results, Try.results24, go_sem]) rfl R.out
set_option maxRecDepth 100000 in
set_option maxHeartbeats 8000000 in
theorem cut_ok {W0 : World} {a : Option Addr} {ps : List PV} (N C m : Nat) (hn : ps.length = N) (hL : Lst W0 a ps) (hf : N ≤ 10000) (hc : N ≤ C) (hs : ∀ x ∈ ps, x.p.k.size ≤ 1000000 ∧ x.p.v.size ≤ 1000000) (hm1 : 1 ≤ m) (hm2 : m ≤ 64) : Calls Try.prog 24 #[.slice a N C, .int .i64 (m : Int)] W0 (CutPost W0 ps (m : Int)) := by
  refine (callsIn_wide (n := 5)).1 ?_
  have e1 : ((m : Int) < 1) = False := eq_false (by omega)
  have e2 : (64 < (m : Int)) = False := eq_false (by omega)
  have e3 : (m < 1) = False := eq_false (by omega)
  have e4 : (64 < m) = False := eq_false (by omega)
  have e5 : (m = 0) = False := eq_false (by omega)
  have HL := hidIt hL
  have HN := hidIt (And.intro hn (And.intro hf (And.intro hc (And.intro hs (And.intro hm1 hm2)))))
  clear hn hL hf hc hs hm1 hm2
  refine callsIn_of_wp_marks Try.func24 rfl trivial ?_ rfl
  simp only [Try.ntmps24, List.size_toArray, List.length_cons, List.length_nil, Nat.reduceAdd, Nat.reduceSub, Array.replicate_succ, Array.replicate_zero, List.push_toArray, List.append_toArray, List.nil_append, List.cons_append]
  gi_wp2
  clear e1 e2 e3 e4 e5
  refine ⟨trivial, ?_⟩
  refine CallsIn.mono (chunk_in _ a N C m HN.out.2.2.2.2.1 _) ?_
  rintro e Ws ⟨rfl, hw⟩
  obtain ⟨Pb, hPb⟩ : ∃ Pb, Pb = W0.heap.size := ⟨_, rfl⟩
  obtain ⟨B1, hB1⟩ : ∃ B1, B1 = Pb + 3 := ⟨_, rfl⟩
  have CST : Hid (PlcC W0 B1 (Pb + 1) (Pb + 2) Pb) := hidIt ⟨by omega, by omega, by omega, by omega⟩
  have I0 : CuI W0 B1 (Pb + 1) (Pb + 2) Pb a C m ps 0 (.slice none 0 0) [] Ws ∧ Ws.heap.size = B1 := by
    have B : Below W0.heap.size W0 Ws := by rw [hw]; exact (((Below.refl _ _).alloc (Nat.le_refl _) _).alloc (by simp) _).alloc (by simp <;> omega) _
    have R1 : Rec19 (W0.alloc (.cells #[.slice none 0 0] 22)) W0.heap.size 0 [.slice none 0 0] := Rec19.new W0 22 [.slice none 0 0]
    refine ⟨⟨B, by rw [hw, hPb, HN.out.1]; simp [go_sem], by rw [hw, hPb]; simp [go_sem], ?_, OwnLs.nil _ _, fun g hg => (by cases hg), fun x hx => (by cases hx), rfl, rfl, by rw [hw, hB1, hPb]; simp, Ivs.nil _ _ _⟩, by rw [hw, hB1, hPb]; simp⟩
    rw [hw, hPb]
    exact R1.below (((Below.refl _ _).alloc (Nat.le_refl _) _).alloc (by simp) _)
  rw [show ((W0.alloc (.cells #[.slice none 0 0] 22)).heap.size) = Pb + 1 by rw [hPb]; simp]
  rw [← hPb]
  clear hw
  obtain ⟨I0, z1⟩ := I0
  clear hPb
  clear hB1
  gi_wp2
  refine range_own1 (m := 5) 17 (by omega) 51 #[.pointer (some ⟨Pb + 1, 0, none⟩), .pointer (some ⟨Pb + 1 + 1, 0, none⟩)] (ckN N m) (x1c a m N) (fun _ _ => by simp [go_sem]) rfl
    (fun k W => ∃ v os, CuI W0 B1 (Pb + 1) (Pb + 2) Pb a C m ps k v os W) (fun _ _ => False)
    (fun s W W' row h hg hr => ?_) (fun s W W' row h hg hr => h) (fun k W W' h hB => ?_) ⟨_, _, I0⟩ (fun l J Jx hJI hJB hY V h0' => ?_) ?_ ?_ (fun _ _ _ _ h _ => h.elim)
  · obtain ⟨v, os, hI⟩ := h
    exact ⟨v, os, hI.cks (Cks.grown hg (fun r e => (hr r e).2)) ((Below.refl _ _).grown hg (by have := hI.sz; have := CST.out.s; omega) (fun r e => by have := (hr r e).1; have := CST.out.s; omega))⟩
  · obtain ⟨v, os, hI⟩ := h
    exact ⟨v, os, hI.up CST.out hB⟩
  · exact chunk1_in l (Pb + 1) (Pb + 1 + 1) a N C m HN.out.2.1 HN.out.2.2.2.2.1 HN.out.2.2.2.2.2 HN.out.2.2.1 (fun h0 => by
      obtain ⟨b, o, ha, _⟩ := HL.out.2 (fun q => by have := HN.out.1; rw [q] at this; simp at this; omega)
      exact ⟨b, o, ha⟩) J Jx (fun k W h => by obtain ⟨v, os, hI⟩ := hJI k W h; have := hI.cs; rw [HN.out.1] at this; exact ⟨this, hI.cn⟩) hJB hY V h0'
  · intro l k X hk hX hl1 hl2 hlr
    obtain ⟨lv, os, hI⟩ := hX
    obtain ⟨b, o, hab, _⟩ := HL.out.2 (fun q => by have h1 := HN.out.1; rw [q] at h1; have := (ck_lt HN.out.2.2.2.2.1).1 hk; simp at h1; omega)
    obtain ⟨n, hnn⟩ : ∃ n, n = ckL N m k := ⟨_, rfl⟩
    have XV : x1c a m N k = .slice (some ⟨b, o + k * m * 3, none⟩) n n := by unfold x1c; rw [hab, hnn]
    rw [XV]
    have PT := hidIt (lst_part (hab ▸ HL.out) (k * m) m)
    have NP : Hid (((ps.drop (k * m)).take m).length = n ∧ n ≤ 10000) := hidIt (by rw [hnn]; unfold ckL; have := HN.out.1; have := HN.out.2.2.2.2.2; simp; omega)
    have SP : Hid (∀ x ∈ (ps.drop (k * m)).take m, x.p.k.size ≤ 1000000 ∧ x.p.v.size ≤ 1000000) := hidIt (fun x hx => HN.out.2.2.2.1 x (List.mem_of_mem_drop (List.mem_of_mem_take hx)))
    have KB : Hid (k < 10001) := hidIt (by have h1 := (ck_lt HN.out.2.2.2.2.1).1 hk; have h2 := HN.out.2.1; have h3 := HN.out.2.2.2.2.1; have h4 : k * 1 ≤ k * m := Nat.mul_le_mul_left k h3; omega)
    have CD := hidIt (cutD_at ps m k (by rw [HN.out.1]; exact hk))
    have II := hidIt hI
    have LR := hidIt hlr
    clear hI I0 hk hlr XV hnn hab
    rw [z1] at hl1 ⊢
    simp only [List.setIfInBounds_toArray, List.set_cons_zero, List.set_cons_succ]
    gi_wp2
    refine ⟨keeps_below (Below.refl _ _), fun X2 hB2 hz2 => ?_⟩
    have CK : Cks X X2 := Cks.but hB2 (by obtain ⟨r, hr⟩ := LR.out; exact ⟨r, hr⟩)
    have hBl : Below W0.heap.size X X2 := hB2.below (by have := CST.out.s; omega) (by have := II.out.sz; have := CST.out.s; omega)
    have ID := hidIt ((II.out.cks CK hBl).up CST.out (Below.refl _ _).drew)
    have q0 := (ID.out.box.cel 0 _ rfl).1
    have PX := hidIt (PT.out.below ID.out.old)
    have NB : Hid (∀ b', b' ∈ lv.ownBlock.toList → B1 ≤ b' ∧ b' < X2.drew.heap.size) := hidIt (fun b' hb' => by
      cases e : lv.ownBlock with
      | none => rw [e] at hb'; cases hb'
      | some g => rw [e] at hb'; simp at hb'; subst hb'; exact ⟨II.out.low _ e, (World.ownsRow.lt ID.out.own _ e).2⟩)
    have HQ : Hid (Pb < B1 ∧ B1 ≤ X2.drew.heap.size) := hidIt ⟨CST.out.p.2, ID.out.sz⟩
    clear CK hBl LR hB2 hz2 hl1 hl2 II z1 PT
    gi_wp2
    refine region_in (S := fun w' => True) (by kernel_rfl) (by kernel_rfl) trivial (fun hHeld => ?_)
    refine take_at (i := 1) (v := ?_) (some 19) rfl rfl (by kernel_rfl) (by kernel_rfl) (by kernel_rfl) (fun _ _ _ h => by cases h.1) (Or.inl ⟨by rfl, ?_⟩) (by assumption) ?_
    rotate_left
    · (intro w hSw; (try dsimp only at hSw); go_simp; try with_reducible rfl)
    simp only [Act.put, List.setIfInBounds_toArray, List.set_cons_zero, List.set_cons_succ]
    refine duo2_at (i := 2) (j := 0) (some 20) (some 18) 42 #[.tmp 19] _ rfl rfl rfl rfl rfl (by rfl) (by rfl) (by kernel_rfl) lv X2.drew (by go_simp) trivial (fun hHeld => ?_) #[.slice (some ⟨b, o + k * m * 3, none⟩) n n] rfl Try.func42 (by kernel_rfl) (by kernel_rfl) ?_
    · simp only [Act.put, List.setIfInBounds_toArray, List.set_cons_zero, List.set_cons_succ]
      refine call_at (i := 2) (some 20) 42 _ _ rfl rfl rfl (by rfl) (by kernel_rfl) #[.slice (some ⟨b, o + k * m * 3, none⟩) n n] rfl Try.func42 (by kernel_rfl) (by kernel_rfl) ?_
      refine (allCopied_any n n NP.out.1 PX.out NP.out.2 SP.out).mono ?_
      rintro e W4 ⟨ya, yC, yps, rfl, hO4, hn4, hf4, hp4, hl4, B4⟩
      have I4 := hidIt (ID.out.up CST.out B4)
      have HO : Hid (OvP W4 X2.drew.heap.size W4.heap.size ⟨ya, yC, yps⟩) := hidIt (told_over (S := Seg X2.drew.heap.size W4.heap.size) hO4 hn4 (fun x hx => (hf4 x hx).1) (fun x hx => (hf4 x hx).2) (fun b h1 h2 => ⟨h1, h2⟩))
      have frs4 := fun x hx => (hf4 x hx).2
      have HLK := hidIt (own_lok (N := lv.ownBlock.toList) hO4 rfl (fun x hx => ⟨(frs4 x hx).1.txt (fun b hb => (NB.out b hb).2), (frs4 x hx).2.txt (fun b hb => (NB.out b hb).2)⟩) (fun g hg q => by have := hn4 g hg; have := (NB.out g q).2; omega))
      have HLP := hidIt (own_lok (N := [Pb]) hO4 rfl (fun x hx => ⟨(frs4 x hx).1.txt (fun b hb => by have := HQ.out; simp at hb; omega), (frs4 x hx).2.txt (fun b hb => by have := HQ.out; simp at hb; omega)⟩) (fun g hg q => by have := hn4 g hg; have := HQ.out; simp at q; omega))
      have HP4 := hidIt hp4
      obtain ⟨W5, hW5, _, b5⟩ := bs_lists W4 [⟨ya, yC, yps⟩] (by intro z hz; rcases List.mem_singleton.1 hz with rfl; exact HLK.out.ok)
      obtain ⟨yn, hyn⟩ : ∃ yn, yn = yps.length := ⟨_, rfl⟩
      have R5 : Rec19 W5 W4.heap.size 0 [.slice ya yps.length yC] := by rw [hW5]; exact Rec19.new W4 _ _
      have q4 := (I4.out.box.cel 0 _ rfl).1
      have I5' := hidIt (I4.out.up CST.out b5)
      have q5 := (I5'.out.box.cel 0 _ rfl).1
      obtain ⟨v6, W6, hr6, I6⟩ := app_lists 22 W5 lv os [⟨ya, yC, yps⟩] ⟨W4.heap.size, 0, none⟩ 1 (I4.out.own.below b5) (fun j u hj => by rw [Addr.add_mid]; exact R5.1 j u hj) (lcs_one _) (by simp) (by have := I4.out.len; have : k < 10001 := KB.out; simp; omega)
      simp only [List.length_singleton] at hr6
      have FIN := hidIt (ID.out.step CST.out B4 b5 HO.out HLK.out HLP.out I6 (by rw [CD.out]; exact congrArg some HP4.out.symm))
      have R6 := hidIt (I5'.out.box.off I6.off (fun q => by have := NB.out Pb (by simpa using q); have := HQ.out; omega))
      obtain ⟨a6, cap6, hv6⟩ := I6.own.sl
      have hr7 := store_lists (a := a6) (n := (os ++ [LV.mk ya yC yps]).length) (C := cap6) (R6.out.cel 0 _ rfl).1 (R6.out.cel 0 _ rfl).2
      rw [← hv6] at hr7
      have KK := hidIt (keeps_but (B := B1) (But.set (b := Pb) W6 0 v6) HQ.out.1)
      have K6 := hidIt (Cks.butL I6.off (I4.out.own.below b5) B1)
      have K5 := hidIt (keeps_below (B := B1) (W := X2) ((Below.refl X2.heap.size X2).drew.trans (B4.trans (b5.mono B4.size))))
      have HW5 : Hid (W5 = W4.alloc (.cells #[.slice ya yn yC] 27)) := hidIt (by rw [hW5, hyn]; rfl)
      rw [← hyn]
      clear hW5 b5 R5 I6 hyn hO4 hn4 hf4 hp4 hl4 B4 frs4 hv6
      generalize W6.setCell ⟨Pb, 0, none⟩ v6 = W7 at *
      refine ⟨_, rfl, trivial, fun hHeld => ?_⟩
      simp only [Act.put, List.setIfInBounds_toArray, List.set_cons_zero, List.set_cons_succ]
      refine step_at (i := 3) (some 21) rfl rfl (by rfl) (by kernel_rfl) (.slice (some ⟨W4.heap.size, 0, none⟩) 1 1) W5 (by rw [HW5.out]; exact bsl_run 22 27 1 _ rfl 1 24 _ _ _ under_lists info_list (by decide) (by decide) rfl (by kernel_rfl)) trivial (fun hHeld => ?_)
      simp only [Act.put, List.setIfInBounds_toArray, List.set_cons_zero, List.set_cons_succ]
      refine step_at (i := 4) (some 22) rfl rfl (by rfl) (by kernel_rfl) v6 W6 (app_run (.tmp 18) (.tmp 21) 22 22 rfl _ _ rfl rfl hr6) trivial (fun hHeld => ?_)
      simp only [Act.put, List.setIfInBounds_toArray, List.set_cons_zero, List.set_cons_succ]
      refine mute_at (i := 5) none rfl rfl (by rfl) (by kernel_rfl) W7 (put_mute 22 (.tmp 6) (.tmp 22) rfl _ _ rfl rfl hr7) trivial (fun hHeld => ?_)
      simp only [Act.put]
      refine wpAnyH_done (by kernel_rfl) ?_ _
      exact ⟨rfl, ((K5.out.trans K6.out).trans KK.out), ⟨_, _, FIN.out⟩⟩
    ·
      refine (allCopied_any n n NP.out.1 PX.out NP.out.2 SP.out).mono ?_
      rintro e W4 ⟨ya, yC, yps, rfl, hO4, hn4, hf4, hp4, hl4, B4⟩
      have I4 := hidIt (ID.out.up CST.out B4)
      have HO : Hid (OvP W4 X2.drew.heap.size W4.heap.size ⟨ya, yC, yps⟩) := hidIt (told_over (S := Seg X2.drew.heap.size W4.heap.size) hO4 hn4 (fun x hx => (hf4 x hx).1) (fun x hx => (hf4 x hx).2) (fun b h1 h2 => ⟨h1, h2⟩))
      have frs4 := fun x hx => (hf4 x hx).2
      have HLK := hidIt (own_lok (N := lv.ownBlock.toList) hO4 rfl (fun x hx => ⟨(frs4 x hx).1.txt (fun b hb => (NB.out b hb).2), (frs4 x hx).2.txt (fun b hb => (NB.out b hb).2)⟩) (fun g hg q => by have := hn4 g hg; have := (NB.out g q).2; omega))
      have HLP := hidIt (own_lok (N := [Pb]) hO4 rfl (fun x hx => ⟨(frs4 x hx).1.txt (fun b hb => by have := HQ.out; simp at hb; omega), (frs4 x hx).2.txt (fun b hb => by have := HQ.out; simp at hb; omega)⟩) (fun g hg q => by have := hn4 g hg; have := HQ.out; simp at q; omega))
      have HP4 := hidIt hp4
      obtain ⟨W5, hW5, _, b5⟩ := bs_lists W4 [⟨ya, yC, yps⟩] (by intro z hz; rcases List.mem_singleton.1 hz with rfl; exact HLK.out.ok)
      obtain ⟨yn, hyn⟩ : ∃ yn, yn = yps.length := ⟨_, rfl⟩
      have R5 : Rec19 W5 W4.heap.size 0 [.slice ya yps.length yC] := by rw [hW5]; exact Rec19.new W4 _ _
      have q4 := (I4.out.box.cel 0 _ rfl).1
      have I5' := hidIt (I4.out.up CST.out b5)
      have q5 := (I5'.out.box.cel 0 _ rfl).1
      obtain ⟨v6, W6, hr6, I6⟩ := app_lists 22 W5 lv os [⟨ya, yC, yps⟩] ⟨W4.heap.size, 0, none⟩ 1 (I4.out.own.below b5) (fun j u hj => by rw [Addr.add_mid]; exact R5.1 j u hj) (lcs_one _) (by simp) (by have := I4.out.len; have : k < 10001 := KB.out; simp; omega)
      simp only [List.length_singleton] at hr6
      have FIN := hidIt (ID.out.step CST.out B4 b5 HO.out HLK.out HLP.out I6 (by rw [CD.out]; exact congrArg some HP4.out.symm))
      have R6 := hidIt (I5'.out.box.off I6.off (fun q => by have := NB.out Pb (by simpa using q); have := HQ.out; omega))
      obtain ⟨a6, cap6, hv6⟩ := I6.own.sl
      have hr7 := store_lists (a := a6) (n := (os ++ [LV.mk ya yC yps]).length) (C := cap6) (R6.out.cel 0 _ rfl).1 (R6.out.cel 0 _ rfl).2
      rw [← hv6] at hr7
      have KK := hidIt (keeps_but (B := B1) (But.set (b := Pb) W6 0 v6) HQ.out.1)
      have K6 := hidIt (Cks.butL I6.off (I4.out.own.below b5) B1)
      have K5 := hidIt (keeps_below (B := B1) (W := X2) ((Below.refl X2.heap.size X2).drew.trans (B4.trans (b5.mono B4.size))))
      have HW5 : Hid (W5 = W4.alloc (.cells #[.slice ya yn yC] 27)) := hidIt (by rw [hW5, hyn]; rfl)
      rw [← hyn]
      clear hW5 b5 R5 I6 hyn hO4 hn4 hf4 hp4 hl4 B4 frs4 hv6
      generalize W6.setCell ⟨Pb, 0, none⟩ v6 = W7 at *
      refine ⟨_, rfl, trivial, fun hHeld => ?_⟩
      simp only [Act.put, List.setIfInBounds_toArray, List.set_cons_zero, List.set_cons_succ]
      refine pair_at (i := 0) (j := 3) (some 18) (some 21) rfl rfl rfl rfl (by kernel_rfl) (by rfl) (by rfl) lv (.slice (some ⟨W4.heap.size, 0, none⟩) 1 1) W4 W5 (by go_simp) (by rw [HW5.out]; exact bsl_run 22 27 1 _ rfl 1 24 _ _ _ under_lists info_list (by decide) (by decide) rfl (by kernel_rfl)) ⟨trivial, trivial⟩ (fun hHeld => ?_) (fun hHeld => ?_)
      · simp only [Act.put, List.setIfInBounds_toArray, List.set_cons_zero, List.set_cons_succ]
        refine step_at (i := 3) (some 21) rfl rfl (by rfl) (by kernel_rfl) (.slice (some ⟨W4.heap.size, 0, none⟩) 1 1) W5 (by rw [HW5.out]; exact bsl_run 22 27 1 _ rfl 1 24 _ _ _ under_lists info_list (by decide) (by decide) rfl (by kernel_rfl)) trivial (fun hHeld => ?_)
        simp only [Act.put, List.setIfInBounds_toArray, List.set_cons_zero, List.set_cons_succ]
        refine step_at (i := 4) (some 22) rfl rfl (by rfl) (by kernel_rfl) v6 W6 (app_run (.tmp 18) (.tmp 21) 22 22 rfl _ _ rfl rfl hr6) trivial (fun hHeld => ?_)
        simp only [Act.put, List.setIfInBounds_toArray, List.set_cons_zero, List.set_cons_succ]
        refine mute_at (i := 5) none rfl rfl (by rfl) (by kernel_rfl) W7 (put_mute 22 (.tmp 6) (.tmp 22) rfl _ _ rfl rfl hr7) trivial (fun hHeld => ?_)
        simp only [Act.put]
        refine wpAnyH_done (by kernel_rfl) ?_ _
        exact ⟨rfl, ((K5.out.trans K6.out).trans KK.out), ⟨_, _, FIN.out⟩⟩
      · simp only [Act.put, List.setIfInBounds_toArray, List.set_cons_zero, List.set_cons_succ]
        refine step_at (i := 0) (some 18) rfl rfl (by rfl) (by kernel_rfl) lv W5 (by go_simp) trivial (fun hHeld => ?_)
        simp only [Act.put, List.setIfInBounds_toArray, List.set_cons_zero, List.set_cons_succ]
        refine step_at (i := 4) (some 22) rfl rfl (by rfl) (by kernel_rfl) v6 W6 (app_run (.tmp 18) (.tmp 21) 22 22 rfl _ _ rfl rfl hr6) trivial (fun hHeld => ?_)
        simp only [Act.put, List.setIfInBounds_toArray, List.set_cons_zero, List.set_cons_succ]
        refine mute_at (i := 5) none rfl rfl (by rfl) (by kernel_rfl) W7 (put_mute 22 (.tmp 6) (.tmp 22) rfl _ _ rfl rfl hr7) trivial (fun hHeld => ?_)
        simp only [Act.put]
        refine wpAnyH_done (by kernel_rfl) ?_ _
        exact ⟨rfl, ((K5.out.trans K6.out).trans KK.out), ⟨_, _, FIN.out⟩⟩
  · intro D X hD hX hd
    obtain ⟨lv, os, hI⟩ := hX
    have d1 := (hI.box.cel 0 _ rfl).1
    have E := hidIt hI
    clear hI I0
    gi_wp2
    refine And.intro (by simp) (Or.inl ⟨_, _, rfl, run_takeDeferred hd, ?_⟩)
    refine ⟨.tuple #[lv, .int .i64 0], by simp [results, Try.results24, go_sem], ?_⟩
    have CK : Cks X (X.putObj D (.deferred none)) := Cks.butN (But.putO X D _) hd rfl
    have cst := CST.out.s
    have hB : Below W0.heap.size X (X.putObj D (.deferred none)) := (But.putO X D _).below (by omega) (by have := E.out.sz; omega)
    have F := E.out.cks CK hB
    obtain ⟨va, vc, hv⟩ := F.own.sl
    have fo := F.own
    have fi := F.iv
    have fl := F.low
    rw [hv] at fo fi fl
    refine ⟨F.old, .inr ⟨by have := HN.out.2.2.2.2; omega, by have := HN.out.2.2.2.2; omega, va, vc, os, by rw [hv], fo, fun x hx => (F.oks x hx).ok, ?_, ?_, fun g hg => by have := fl g hg; omega⟩⟩
    · rw [F.prs, List.take_of_length_le (by rw [cutD_len, HN.out.1]; exact Nat.le_refl _)]
      rfl
    · obtain ⟨lo, hi, g1, g2, g3⟩ := fi
      exact ⟨lo, hi, fun i x hx => ⟨(g1 i x hx).1, by have := (g1 i x hx).2.1; omega, (g1 i x hx).2.2⟩, g2, g3⟩
end Go.Proofs.Ytgpafmgncolnmaa
