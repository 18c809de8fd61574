/-
  Walks, not a claim by itself: memtable's Between and All. By the verifier.
-/
import Derived.Test.YtandkedipjmdbaaMtBt0
namespace Go.Proofs.Ytandkedipjmdbaa
open Go.RowKit Go.Shelf
attribute [local go_sem] Oper.semAt_some
attribute [-go_sem] Builtin.append_
/-- What Between answers. -/
def BtwPost (W : World) (l : List Pr) (f b : ByteArray) (e : Ending) (w' : World) : Prop := ∃ lv os, e = .returned lv ∧ OwnP w' 0 lv os ∧ (∀ g, lv.ownBlock = some g → W.heap.size ≤ g) ∧ (∀ x ∈ os, FrP w' W.heap.size x ∧ PVOk w' lv.ownBlock.toList x) ∧ os.map PV.p = btwL l f b ∧ Below W.heap.size W w'
theorem Cks.butN {W W' : World} {l : Nat} {o : Obj} (h : But l W W') (hl : W.heap[l]? = some o) (ho : o.isCells = false) : Cks W W' := ⟨h.size, fun k o' hk hc => (h.block k (Array.getElem?_eq_some_iff.1 hk).1 (fun e => by
  rw [e, hl] at hk
  injection hk with hk
  rw [← hk, ho] at hc
  cases hc)).trans hk, h.os, h.tape, h.output⟩
theorem tbetween_in (m : Nat) (t : Nat) (a c : Option Addr) (n m1 n2 m2 : Nat) (fr to : Value) (hf : fr = .slice a n m1) (ht : to = .slice c n2 m2) (W : World) :
    CallsIn Fence.wide m Try.prog 45 #[.pointer (some ⟨t, 0, none⟩), fr, to] W fun e w' => e = .returned (.func (.func 56) #[] #[.pointer (some ⟨W.heap.size, 0, none⟩), .pointer (some ⟨W.heap.size + 1, 0, none⟩), .pointer (some ⟨W.heap.size + 2, 0, none⟩)]) ∧ w' = ((W.alloc (.cells #[.pointer (some ⟨t, 0, none⟩)] 24)).alloc (.cells #[fr] 33)).alloc (.cells #[to] 33) := by
  subst hf ht
  refine callsIn_of_wp Try.func45 rfl trivial ?_ rfl
  simp only [Try.ntmps45, List.size_toArray, List.length_cons, List.length_nil, Nat.reduceAdd, Nat.reduceSub, Array.replicate_succ, Array.replicate_zero, List.push_toArray, List.append_toArray, List.nil_append, List.cons_append]
  gi_wp2
  go_ret
  exact ⟨rfl, rfl⟩
/-- The k-th pair that is handed on. -/
def x1 (os : List PV) (k : Nat) : Value := match os[k]? with
  | some x => .agg x.cs.toArray
  | none => undef
theorem x1_at {os : List PV} {k : Nat} {x : PV} (h : os[k]? = some x) : x1 os k = .agg x.cs.toArray := by unfold x1; rw [h]
theorem outP_few (ps : List PV) (f b : ByteArray) (h : ps.length ≤ 64) : (outP ps f b).length ≤ 64 := by
  unfold outP
  have : ((ps.drop (pos (ps.map PV.p) f)).takeWhile fun x => blw x.p.k b).length ≤ (ps.drop (pos (ps.map PV.p) f)).length := (List.takeWhile_sublist _).length_le
  rw [List.length_drop] at this
  omega
theorem outP_mem {ps : List PV} {f b : ByteArray} {x : PV} (h : x ∈ outP ps f b) : x ∈ ps := List.mem_of_mem_drop ((List.takeWhile_sublist _).mem h)
set_option maxRecDepth 100000 in
set_option maxHeartbeats 4000000 in
theorem btw_any {W0 : World} {t : Nat} {v : Value} {ps : List PV} {fr to : Value} {f b : ByteArray} (hT : Tab W0 t v ps) (hf : Txt W0 [] fr f) (ht : Txt W0 [] to b) : Calls Try.prog 26 #[.pointer (some ⟨t, 0, none⟩), fr, to] W0 (BtwPost W0 (ps.map PV.p) f b) := by
  refine (callsIn_wide (n := 5)).1 ?_
  have MD := hidIt (tmade_ok hT)
  have HT := hidIt hT
  have HF := hidIt hf
  have HO := hidIt ht
  have HBN := hidIt (outP_few ps f b hT.few)
  obtain ⟨fa, fC, _, rfl, _⟩ := hf
  obtain ⟨oa, oC, _, rfl, _⟩ := ht
  clear hT
  refine callsIn_of_wp_marks Try.func26 rfl trivial ?_ rfl
  simp only [Try.ntmps26, List.size_toArray, List.length_cons, List.length_nil, Nat.reduceAdd, Nat.reduceSub, Array.replicate_succ, Array.replicate_zero, List.push_toArray, List.append_toArray, List.nil_append, List.cons_append]
  gi_wp2
  refine ⟨trivial, ?_⟩
  refine CallsIn.mono ((callsIn_wide (n := _)).2 MD.out) ?_
  rintro e w1 ⟨rfl, hw⟩
  rw [hw]
  clear hw MD
  gi_wp2
  refine ⟨trivial, ?_⟩
  refine CallsIn.mono (tbetween_in _ t fa oa f.size fC b.size oC _ _ rfl rfl _) ?_
  rintro e Ws ⟨rfl, hw⟩
  have I0 : BtwI W0 t (.slice fa f.size fC) (.slice oa b.size oC) f b ps 0 (.slice none 0 0) [] Ws ∧ Ws.heap.size = W0.heap.size + 4 := by
    have B : Below W0.heap.size W0 Ws := by rw [hw]; exact ((((Below.refl _ _).alloc (Nat.le_refl _) _).alloc (by simp) _).alloc (by simp <;> omega) _).alloc (by simp; omega) _
    have R1 : Rec19 (W0.alloc (.cells #[.slice none 0 0] 27)) W0.heap.size 0 [.slice none 0 0] := Rec19.new W0 27 [.slice none 0 0]
    refine ⟨⟨B, by rw [hw]; simp [go_sem], by rw [hw]; simp [go_sem], by rw [hw]; simp [go_sem], ?_, OwnP.nil _ _, fun g hg => (by cases hg), fun x hx => (by cases hx), fun x hx => (by cases hx), rfl, by simp, by rw [hw]; simp⟩, by rw [hw]; simp⟩
    rw [hw]
    exact R1.below ((((Below.refl _ _).alloc (Nat.le_refl _) _).alloc (by simp) _).alloc (by simp <;> omega) _)
  rw [show ((W0.alloc (.cells #[.slice none 0 0] 27)).heap.size) = W0.heap.size + 1 by simp]
  clear hw
  obtain ⟨I0, z1⟩ := I0
  gi_wp2
  refine range_own1 (m := 5) 16 (by omega) 56 #[.pointer (some ⟨W0.heap.size + 1, 0, none⟩), .pointer (some ⟨W0.heap.size + 1 + 1, 0, none⟩), .pointer (some ⟨W0.heap.size + 1 + 2, 0, none⟩)] (outP ps f b).length (x1 (outP ps f b)) (fun _ _ => by simp [go_sem]) rfl
    (fun k W => ∃ lv os, BtwI W0 t (.slice fa f.size fC) (.slice oa b.size oC) f b ps k lv os W) (fun _ _ => False)
    (fun s W W' row h hg hr => ?_) (fun s W W' row h hg hr => h) (fun k W W' h hB => ?_) ⟨_, _, I0⟩ (fun l J Jx hJI hJB hY V h0' => ?_) ?_ ?_ (fun _ _ _ _ h _ => h.elim)
  · obtain ⟨lv, os, hI⟩ := h
    exact ⟨lv, os, hI.cks (Cks.grown hg (fun r e => (hr r e).2)) ((Below.refl _ _).grown hg (by have := hI.sz; omega) (fun r e => by have := (hr r e).1; omega))⟩
  · obtain ⟨lv, os, hI⟩ := h
    exact ⟨lv, os, hI.up hB⟩
  · exact between1_in 4 (by omega) l (W0.heap.size + 1) (W0.heap.size + 1 + 1) (W0.heap.size + 1 + 2) t v _ _ f b ps J Jx (fun k W h => by obtain ⟨lv, os, hI⟩ := hJI k W h; exact hI.mem HT.out HF.out HO.out) hJB (fun k x W hx h => by
      have := hY k W (List.getElem?_eq_some_iff.1 hx).1 h
      rw [x1_at hx] at this
      exact this) V h0'
  · intro l k X hk hX hl1 hl2 hlr
    obtain ⟨lv, os, hI⟩ := hX
    obtain ⟨x, hx⟩ : ∃ x, (outP ps f b)[k]? = some x := ⟨_, List.getElem?_eq_getElem hk⟩
    rw [x1_at hx]
    have II := hidIt hI
    have OX : Hid (∃ x', (outP ps f b)[k]? = some x' ∧ x'.p = x.p) := hidIt ⟨x, hx, rfl⟩
    have XM := hidIt (outP_mem (List.mem_of_getElem? hx))
    have LR := hidIt hlr
    clear hI I0 hk hx hlr
    rw [z1] at hl1 ⊢
    simp only [List.setIfInBounds_toArray, List.set_cons_zero, List.set_cons_succ]
    gi_wp2_with (first
      | (refine fen_alloc rfl 47 rfl _ X.heap.size rfl pair_zero ?_; intro Y1 R1 B1 y1; have P1 := hidIt R1; have E1 := hidIt (And.intro B1 y1); clear R1 B1 y1)
      | (refine fen_store rfl 47 (.tmp 8) (.tmp 16) rfl X.heap.size 0 _ x.cs rfl rfl P1.out rfl pair_size (((HT.out.below II.out.old).ok x XM.out).one) ?_; intro Y2 R2 B2; have E2 := hidIt (E1.out.1.trans (B2.below (Nat.le_refl _) (by have := E1.out.2; omega))); have P2 := hidIt R2; clear R2 B2))
    refine ⟨keeps_below E2.out, fun X2 hB2 hz2 => ?_⟩
    have CK : Cks Y2 X2 := Cks.but hB2 (by obtain ⟨r, hr⟩ := LR.out; exact ⟨r, (E2.out.block l hl2).trans hr⟩)
    have hBl : Below W0.heap.size Y2 X2 := hB2.below (by omega) (by have := (II.out.up E2.out).sz; omega)
    have ID := hidIt (((II.out.up E2.out).cks CK hBl).up (Below.refl _ _).drew)
    have PD := hidIt ((P2.out.cks CK).below (Below.refl _ _).drew)
    have XP := hidIt ((HT.out.below ID.out.old).ok x XM.out)
    have XS := hidIt (may_small (HT.out.mays x XM.out))
    have q0 := (ID.out.box.cel 0 _ rfl).1
    have NB : Hid (∀ b', b' ∈ lv.ownBlock.toList → W0.heap.size + 4 ≤ b' ∧ b' < X.heap.size) := hidIt (fun b' hb' => by
      cases e : lv.ownBlock with
      | none => rw [e] at hb'; cases hb'
      | some g => rw [e] at hb'; simp at hb'; subst hb'; exact ⟨II.out.low _ e, (World.ownsRow.lt II.out.own _ e).2⟩)
    have XZ : X.heap.size ≤ X2.drew.heap.size := Nat.le_trans E2.out.size CK.size
    have HQ : Hid (W0.heap.size + 4 ≤ X2.drew.heap.size ∧ ∀ g, lv.ownBlock = some g → g < X2.drew.heap.size) := hidIt ⟨ID.out.sz, fun g hg => by have := (NB.out g (by simp [hg])).2; omega⟩
    have HS4 := hidIt II.out.sz
    have hs4 : W0.heap.size + 4 ≤ X.heap.size := HS4.out
    obtain ⟨Hb, hHb⟩ : ∃ Hb, Hb = X.heap.size := ⟨_, rfl⟩
    rw [← hHb] at PD NB XZ hs4 ⊢
    clear hHb CK hBl P2 E2 P1 E1 LR hB2 hz2 hl1 hl2 HS4 II XZ z1
    gi_wp2
    refine region_in (S := fun w' => w'.rangeAt Hb 0 x.cs) (by kernel_rfl) (by kernel_rfl) PD.out.1 (fun hHeld => ?_)
    refine take_at (i := 1) (v := _) (some 18) rfl rfl (by kernel_rfl) (by kernel_rfl) (by kernel_rfl) (fun _ _ _ h => by cases h.1) (yieldsIf_load_mid (by rfl) _ _ rfl _ _ rfl _ _ (fun w h => h) Try.underlying47 rfl pair_size) (by assumption) ?_
    simp only [Act.put, List.setIfInBounds_toArray, List.set_cons_zero, List.set_cons_succ]
    refine duo2_at (i := 2) (j := 0) (some 19) (some 17) 43 #[.tmp 18] _ rfl rfl rfl rfl rfl (by rfl) (by rfl) (by kernel_rfl) lv X2.drew (by go_simp) hHeld (fun hHeld => ?_) #[.agg x.cs.toArray] rfl Try.func43 (by kernel_rfl) (by kernel_rfl) ?_
    · simp only [Act.put, List.setIfInBounds_toArray, List.set_cons_zero, List.set_cons_succ]
      refine call_at (i := 2) (some 19) 43 _ _ rfl rfl rfl (by rfl) (by kernel_rfl) #[.agg x.cs.toArray] rfl Try.func43 (by kernel_rfl) (by kernel_rfl) ?_
      refine (copied_any (XP.out) XS.out.1 XS.out.2).mono ?_
      rintro e W4 ⟨k', v', rfl, Fk, Fv, B4⟩
      obtain ⟨ka, kn, kC, rfl⟩ := Fk.sl
      obtain ⟨va, vn, vC, rfl⟩ := Fv.sl
      have I4 := hidIt (ID.out.up B4)
      have P4 := hidIt (PD.out.below B4)
      have F4 := hidIt (And.intro Fk Fv)
      have q4 := (I4.out.box.cel 0 _ rfl).1
      have A5 : Below W4.heap.size W4 (W4.alloc (.cells (PV.mk (.slice ka kn kC) (.slice va vn vC) x.p).cs.toArray 47)) := (Below.refl _ _).alloc (Nat.le_refl _) _
      have E5 := hidIt (B4.trans (A5.mono B4.size))
      have L5 : Lone (W4.alloc (.cells (PV.mk (.slice ka kn kC) (.slice va vn vC) x.p).cs.toArray 47)) W4.heap.size (PV.mk (.slice ka kn kC) (.slice va vn vC) x.p) := ⟨heap_alloc_new W4 _, by
        intro u hu
        simp only [PV.cs, List.mem_cons, List.not_mem_nil, or_false] at hu
        rcases hu with rfl | rfl | rfl <;> rfl⟩
      obtain ⟨W5, hW5⟩ : ∃ W5, W5 = W4.alloc (.cells (PV.mk (.slice ka kn kC) (.slice va vn vC) x.p).cs.toArray 47) := ⟨_, rfl⟩
      rw [← hW5] at A5 L5 E5
      have I5 := hidIt (I4.out.up A5)
      have P5 := hidIt (P4.out.below A5)
      have F5 := hidIt (And.intro (F4.out.1.below A5) (F4.out.2.below A5))
      have q5 := (I5.out.box.cel 0 _ rfl).1
      have LL := hidIt L5
      clear A5 L5 Fk Fv B4 F4
      refine ⟨_, rfl, P4.out.1, fun hHeld => ?_⟩
      simp only [Act.put, List.setIfInBounds_toArray, List.set_cons_zero, List.set_cons_succ]
      refine step_at (i := 3) (some 20) rfl rfl (by rfl) (by kernel_rfl) (.slice (some ⟨W4.heap.size, 0, none⟩) 1 1) W5 (by rw [hW5]; exact bsl_run 27 47 1 _ rfl 3 56 _ _ _ under_pairs info_pair (by decide) (by decide) rfl (by kernel_rfl)) P5.out.1 (fun hHeld => ?_)
      simp only [Act.put, List.setIfInBounds_toArray, List.set_cons_zero, List.set_cons_succ]
      obtain ⟨v6, W6, hr6, I6⟩ := app_pairs 27 W5 lv os [(PV.mk (.slice ka kn kC) (.slice va vn vC) x.p)] ⟨W4.heap.size, 0, none⟩ 1 I5.out.own (fun j u hj => by rw [pcs_single] at hj; rw [Addr.add_mid, Nat.zero_add]; exact LL.out.cell j u hj) (by rw [pcs_single]; exact LL.out.2) (by simp) (by have := I5.out.few; simp; omega)
      simp only [List.length_singleton] at hr6
      have P6 := hidIt (P5.out.off I6.off (fun q => by have := NB.out Hb (by simpa using q); omega))
      have R6 := hidIt (I5.out.box.off I6.off (fun q => by have := NB.out W0.heap.size (by simpa using q); omega))
      refine step_at (i := 4) (some 21) rfl rfl (by rfl) (by kernel_rfl) v6 W6 (app_run (.tmp 17) (.tmp 20) 27 27 rfl _ _ rfl rfl hr6) P6.out.1 (fun hHeld => ?_)
      simp only [Act.put, List.setIfInBounds_toArray, List.set_cons_zero, List.set_cons_succ]
      obtain ⟨a6, cap6, hv6, _⟩ := I6.own.slice
      have hr7 := store_one (a := a6) (n := (os ++ [(PV.mk (.slice ka kn kC) (.slice va vn vC) x.p)]).length) (C := cap6) (R6.out.cel 0 _ rfl).1 (R6.out.cel 0 _ rfl).2
      rw [← hv6] at hr7
      have FIN := hidIt (I5.out.step I6 F5.out HBN.out ⟨HQ.out.1, HQ.out.2, E5.out.size⟩ OX.out)
      have CP := hidIt (P6.out.but (But.set (b := W0.heap.size) W6 0 v6) (by omega)).1
      have KK := hidIt (keeps_but (B := W0.heap.size + 4) (But.set (b := W0.heap.size) W6 0 v6) (by omega))
      have K6 := hidIt (keeps_off (B := W0.heap.size + 4) I6.off I5.out.own)
      generalize W6.setCell ⟨W0.heap.size, 0, none⟩ v6 = W7 at *
      refine mute_at (i := 5) none rfl rfl (by rfl) (by kernel_rfl) W7 (put_mute 27 (.tmp 7) (.tmp 21) rfl _ _ rfl rfl hr7) CP.out (fun hHeld => ?_)
      simp only [Act.put]
      refine wpAnyH_done (by kernel_rfl) ?_ _
      exact ⟨rfl, (((keeps_below ((Below.refl _ _).drew.trans E5.out)).trans K6.out).trans KK.out), ⟨_, _, FIN.out⟩⟩
    · as_aux_lemma =>
      refine (copied_any (XP.out) XS.out.1 XS.out.2).mono ?_
      rintro e W4 ⟨k', v', rfl, Fk, Fv, B4⟩
      obtain ⟨ka, kn, kC, rfl⟩ := Fk.sl
      obtain ⟨va, vn, vC, rfl⟩ := Fv.sl
      have I4 := hidIt (ID.out.up B4)
      have P4 := hidIt (PD.out.below B4)
      have F4 := hidIt (And.intro Fk Fv)
      have q4 := (I4.out.box.cel 0 _ rfl).1
      have A5 : Below W4.heap.size W4 (W4.alloc (.cells (PV.mk (.slice ka kn kC) (.slice va vn vC) x.p).cs.toArray 47)) := (Below.refl _ _).alloc (Nat.le_refl _) _
      have E5 := hidIt (B4.trans (A5.mono B4.size))
      have L5 : Lone (W4.alloc (.cells (PV.mk (.slice ka kn kC) (.slice va vn vC) x.p).cs.toArray 47)) W4.heap.size (PV.mk (.slice ka kn kC) (.slice va vn vC) x.p) := ⟨heap_alloc_new W4 _, by
        intro u hu
        simp only [PV.cs, List.mem_cons, List.not_mem_nil, or_false] at hu
        rcases hu with rfl | rfl | rfl <;> rfl⟩
      obtain ⟨W5, hW5⟩ : ∃ W5, W5 = W4.alloc (.cells (PV.mk (.slice ka kn kC) (.slice va vn vC) x.p).cs.toArray 47) := ⟨_, rfl⟩
      rw [← hW5] at A5 L5 E5
      have I5 := hidIt (I4.out.up A5)
      have P5 := hidIt (P4.out.below A5)
      have F5 := hidIt (And.intro (F4.out.1.below A5) (F4.out.2.below A5))
      have q5 := (I5.out.box.cel 0 _ rfl).1
      have LL := hidIt L5
      clear A5 L5 Fk Fv B4 F4
      refine ⟨_, rfl, P4.out.1, fun hHeld => ?_⟩
      simp only [Act.put, List.setIfInBounds_toArray, List.set_cons_zero, List.set_cons_succ]
      refine pair_at (i := 0) (j := 3) (some 17) (some 20) rfl rfl rfl rfl (by kernel_rfl) (by rfl) (by rfl) lv (.slice (some ⟨W4.heap.size, 0, none⟩) 1 1) W4 W5 (by go_simp) (by rw [hW5]; exact bsl_run 27 47 1 _ rfl 3 56 _ _ _ under_pairs info_pair (by decide) (by decide) rfl (by kernel_rfl)) ⟨P4.out.1, P5.out.1⟩ (fun hHeld => ?_) (fun hHeld => ?_)
      · simp only [Act.put, List.setIfInBounds_toArray, List.set_cons_zero, List.set_cons_succ]
        refine step_at (i := 3) (some 20) rfl rfl (by rfl) (by kernel_rfl) (.slice (some ⟨W4.heap.size, 0, none⟩) 1 1) W5 (by rw [hW5]; exact bsl_run 27 47 1 _ rfl 3 56 _ _ _ under_pairs info_pair (by decide) (by decide) rfl (by kernel_rfl)) P5.out.1 (fun hHeld => ?_)
        simp only [Act.put, List.setIfInBounds_toArray, List.set_cons_zero, List.set_cons_succ]
        obtain ⟨v6, W6, hr6, I6⟩ := app_pairs 27 W5 lv os [(PV.mk (.slice ka kn kC) (.slice va vn vC) x.p)] ⟨W4.heap.size, 0, none⟩ 1 I5.out.own (fun j u hj => by rw [pcs_single] at hj; rw [Addr.add_mid, Nat.zero_add]; exact LL.out.cell j u hj) (by rw [pcs_single]; exact LL.out.2) (by simp) (by have := I5.out.few; simp; omega)
        simp only [List.length_singleton] at hr6
        have P6 := hidIt (P5.out.off I6.off (fun q => by have := NB.out Hb (by simpa using q); omega))
        have R6 := hidIt (I5.out.box.off I6.off (fun q => by have := NB.out W0.heap.size (by simpa using q); omega))
        refine step_at (i := 4) (some 21) rfl rfl (by rfl) (by kernel_rfl) v6 W6 (app_run (.tmp 17) (.tmp 20) 27 27 rfl _ _ rfl rfl hr6) P6.out.1 (fun hHeld => ?_)
        simp only [Act.put, List.setIfInBounds_toArray, List.set_cons_zero, List.set_cons_succ]
        obtain ⟨a6, cap6, hv6, _⟩ := I6.own.slice
        have hr7 := store_one (a := a6) (n := (os ++ [(PV.mk (.slice ka kn kC) (.slice va vn vC) x.p)]).length) (C := cap6) (R6.out.cel 0 _ rfl).1 (R6.out.cel 0 _ rfl).2
        rw [← hv6] at hr7
        have FIN := hidIt (I5.out.step I6 F5.out HBN.out ⟨HQ.out.1, HQ.out.2, E5.out.size⟩ OX.out)
        have CP := hidIt (P6.out.but (But.set (b := W0.heap.size) W6 0 v6) (by omega)).1
        have KK := hidIt (keeps_but (B := W0.heap.size + 4) (But.set (b := W0.heap.size) W6 0 v6) (by omega))
        have K6 := hidIt (keeps_off (B := W0.heap.size + 4) I6.off I5.out.own)
        generalize W6.setCell ⟨W0.heap.size, 0, none⟩ v6 = W7 at *
        refine mute_at (i := 5) none rfl rfl (by rfl) (by kernel_rfl) W7 (put_mute 27 (.tmp 7) (.tmp 21) rfl _ _ rfl rfl hr7) CP.out (fun hHeld => ?_)
        simp only [Act.put]
        refine wpAnyH_done (by kernel_rfl) ?_ _
        exact ⟨rfl, (((keeps_below ((Below.refl _ _).drew.trans E5.out)).trans K6.out).trans KK.out), ⟨_, _, FIN.out⟩⟩
      · simp only [Act.put, List.setIfInBounds_toArray, List.set_cons_zero, List.set_cons_succ]
        refine step_at (i := 0) (some 17) rfl rfl (by rfl) (by kernel_rfl) lv W5 (by clear hW5; go_simp) hHeld (fun hHeld => ?_)
        simp only [Act.put, List.setIfInBounds_toArray, List.set_cons_zero, List.set_cons_succ]
        obtain ⟨v6, W6, hr6, I6⟩ := app_pairs 27 W5 lv os [(PV.mk (.slice ka kn kC) (.slice va vn vC) x.p)] ⟨W4.heap.size, 0, none⟩ 1 I5.out.own (fun j u hj => by rw [pcs_single] at hj; rw [Addr.add_mid, Nat.zero_add]; exact LL.out.cell j u hj) (by rw [pcs_single]; exact LL.out.2) (by simp) (by have := I5.out.few; simp; omega)
        simp only [List.length_singleton] at hr6
        have P6 := hidIt (P5.out.off I6.off (fun q => by have := NB.out Hb (by simpa using q); omega))
        have R6 := hidIt (I5.out.box.off I6.off (fun q => by have := NB.out W0.heap.size (by simpa using q); omega))
        refine step_at (i := 4) (some 21) rfl rfl (by rfl) (by kernel_rfl) v6 W6 (app_run (.tmp 17) (.tmp 20) 27 27 rfl _ _ rfl rfl hr6) P6.out.1 (fun hHeld => ?_)
        simp only [Act.put, List.setIfInBounds_toArray, List.set_cons_zero, List.set_cons_succ]
        obtain ⟨a6, cap6, hv6, _⟩ := I6.own.slice
        have hr7 := store_one (a := a6) (n := (os ++ [(PV.mk (.slice ka kn kC) (.slice va vn vC) x.p)]).length) (C := cap6) (R6.out.cel 0 _ rfl).1 (R6.out.cel 0 _ rfl).2
        rw [← hv6] at hr7
        have FIN := hidIt (I5.out.step I6 F5.out HBN.out ⟨HQ.out.1, HQ.out.2, E5.out.size⟩ OX.out)
        have CP := hidIt (P6.out.but (But.set (b := W0.heap.size) W6 0 v6) (by omega)).1
        have KK := hidIt (keeps_but (B := W0.heap.size + 4) (But.set (b := W0.heap.size) W6 0 v6) (by omega))
        have K6 := hidIt (keeps_off (B := W0.heap.size + 4) I6.off I5.out.own)
        generalize W6.setCell ⟨W0.heap.size, 0, none⟩ v6 = W7 at *
        refine mute_at (i := 5) none rfl rfl (by rfl) (by kernel_rfl) W7 (put_mute 27 (.tmp 7) (.tmp 21) rfl _ _ rfl rfl hr7) CP.out (fun hHeld => ?_)
        simp only [Act.put]
        refine wpAnyH_done (by kernel_rfl) ?_ _
        exact ⟨rfl, (((keeps_below ((Below.refl _ _).drew.trans E5.out)).trans K6.out).trans KK.out), ⟨_, _, FIN.out⟩⟩
  · intro D X hD hX hd
    obtain ⟨lv, os, hI⟩ := hX
    have d1 := (hI.box.cel 0 _ rfl).1
    have E := hidIt hI
    clear hI I0
    gi_wp2
    refine And.intro (by simp) (Or.inl ⟨_, _, rfl, run_takeDeferred hd, ?_⟩)
    refine ⟨lv, by simp [results, Try.results26, go_sem], ?_⟩
    have CK : Cks X (X.putObj D (.deferred none)) := Cks.butN (But.putO X D _) hd rfl
    have hB : Below W0.heap.size X (X.putObj D (.deferred none)) := (But.putO X D _).below (by omega) (by have := E.out.sz; omega)
    have F := E.out.cks CK hB
    refine ⟨lv, os, rfl, F.own, fun g hg => by have := F.low g hg; omega, fun y hy => ⟨⟨(F.frs y hy).1.low (by omega), (F.frs y hy).2.low (by omega)⟩, F.oks y hy⟩, ?_, F.old⟩
    rw [F.map, List.take_length, outP_map]
end Go.Proofs.Ytandkedipjmdbaa
