/-
  Walks, not a claim by itself: Merge. By the verifier.
-/
import Derived.Test.YtgpafmgncolnmaaMgMe0
namespace Go.Proofs.Ytgpafmgncolnmaa
open Go.RowKit Go.Shelf
attribute [local go_sem] Oper.semAt_some
attribute [-go_sem] Builtin.append_
theorem srt_of_chn : ∀ {l : List Pr}, Chn l → Srt l
  | [], _ => List.Pairwise.nil
  | a :: r, h => by
    have hr : Chn r := fun j p q hp hq => h (j + 1) p q hp hq
    have ih := srt_of_chn hr
    refine List.pairwise_cons.2 ⟨fun q hq => ?_, ih⟩
    cases r with
    | nil => cases hq
    | cons b r' =>
      have ab := h 0 a b rfl rfl
      rcases List.mem_cons.1 hq with rfl | hq
      · exact ab
      · exact c_trans ab ((List.pairwise_cons.1 ih).1 q hq)
theorem chk_zero {ls : List LV} (h : chkC ls = 0) : ls.length ≤ 32 ∧ tot ls ≤ 4096 ∧ ∀ x ∈ ls, SrtV x.ps := by
  unfold chkC at h
  split at h
  · cases h
  · rename_i n
    split at h
    · rename_i q
      exact ⟨by omega, by omega, fun x hx => srtV_of (srt_of_chn (q x hx))⟩
    · cases h
theorem tot_all (ls : List LV) : (allP ls).length = tot ls := by
  unfold allP tot
  rw [List.length_flatMap]
/-- What Merge tells. -/
def mrgR (ls : List LV) (drop : Bool) : List Pr := ((mrgP (allP ls)).filter (keepP drop)).map PV.p
/-- What Merge answers. -/
def MgPost (W : World) (ls : List LV) (drop : Bool) (e : Ending) (w' : World) : Prop := Below W.heap.size W w' ∧ ((chkC ls ≠ 0 ∧ e = .returned (.tuple #[.slice none 0 0, .int .i64 (chkC ls)])) ∨
  (chkC ls = 0 ∧ ∃ lv qs, e = .returned (.tuple #[lv, .int .i64 0]) ∧ OwnP w' 0 lv qs ∧ (∀ g, lv.ownBlock = some g → W.heap.size ≤ g) ∧ (∀ x ∈ qs, (FrC w' W.heap.size x.k x.p.k ∧ FrC w' W.heap.size x.v x.p.v) ∧ PVOk w' lv.ownBlock.toList x) ∧ qs.map PV.p = mrgR ls drop ∧ qs.length ≤ 5000))
set_option maxRecDepth 100000 in
set_option maxHeartbeats 1000000 in
theorem merge_no {W0 : World} {A : Option Addr} {ls : List LV} {drop : Bool} (L C : Nat) (hL : ls.length = L) (h : Lsts W0 A ls) (hf : L ≤ 1000) (hs : ∀ x ∈ ls, x.ps.length ≤ 10000) (hc : chkC ls ≠ 0) : Calls Try.prog 12 #[.slice A L C, .bool drop] W0 (MgPost W0 ls drop) := by
  have A1 : Below W0.heap.size W0 (W0.alloc (.cells #[.bool drop] 4)) := (Below.refl _ _).alloc (Nat.le_refl _) _
  have K := hidIt (check_any L C hL (h.below A1) hf hs)
  have HA := hidIt A1
  have HC := hidIt hc
  have c1 : (chkC ls != 0) = true := by simpa using hc
  clear h hL hf hs hc A1
  obtain ⟨c, hcc⟩ : ∃ c, c = chkC ls := ⟨_, rfl⟩
  have HCC := hidIt hcc
  rw [← hcc] at c1 K
  clear hcc
  go_enter Try.func12, Try.ntmps12
  go_wp2_with (go_at_call 32; refine K.out.mono ?_; rintro e W2 ⟨rfl, hb⟩; have B2 := hidIt (HA.out.trans (hb.mono HA.out.size)); clear hb)
  exact bodyPost_ret (v := .tuple #[.slice none 0 0, .int .i64 c]) (by simp [results, Try.results12, go_sem]) rfl ⟨B2.out, .inl ⟨HC.out, by rw [HCC.out]⟩⟩
set_option maxRecDepth 100000 in
set_option maxHeartbeats 8000000 in
theorem merge_ok {W0 : World} {A : Option Addr} {ls : List LV} {drop : Bool} (L C : Nat) (hL : ls.length = L) (h : Lsts W0 A ls) (hz : ∀ x ∈ allP ls, x.p.k.size ≤ 1000000 ∧ x.p.v.size ≤ 1000000) (hs : ∀ x ∈ ls, x.ps.length ≤ 10000) (hc : chkC ls = 0) : Calls Try.prog 12 #[.slice A L C, .bool drop] W0 (MgPost W0 ls drop) := by
  obtain ⟨z1, z2, z3⟩ := chk_zero hc
  refine (callsIn_wide (n := 5)).1 ?_
  have A1 : Below W0.heap.size W0 (W0.alloc (.cells #[.bool drop] 4)) := (Below.refl _ _).alloc (Nat.le_refl _) _
  have K := hidIt (check_any L C hL (h.below A1) (by omega) hs)
  have HA := hidIt A1
  have HL := hidIt h
  have HC := hidIt hc
  have L32 : L ≤ 32 := by omega
  have HF := hidIt (And.intro hL (And.intro L32 z3))
  obtain ⟨os, hos⟩ : ∃ os, os = mrgP (allP ls) := ⟨_, rfl⟩
  have HBN : Hid (os.length ≤ 4999) := hidIt (by rw [hos]; have := len_mrgP (allP ls); rw [tot_all] at this; omega)
  have OM : Hid (∀ x ∈ os, PVOk W0 [] x ∧ x.p.k.size ≤ 1000000 ∧ x.p.v.size ≤ 1000000) := hidIt (fun x hx => by
    rw [hos] at hx
    have hm := mem_mrgP hx
    obtain ⟨y, hy, hx2⟩ := List.mem_flatMap.1 hm
    exact ⟨(h.1 y hy).1.1 x hx2, hz x hm⟩)
  have OS := hidIt hos
  clear h hL hs hz hc z1 z2 z3 A1 L32 hos
  refine callsIn_of_wp_marks Try.func12 rfl trivial ?_ rfl
  simp only [Try.ntmps12, List.size_toArray, List.length_cons, List.length_nil, Nat.reduceAdd, Nat.reduceSub, Array.replicate_succ, Array.replicate_zero, List.push_toArray, List.append_toArray, List.nil_append, List.cons_append]
  gi_wp2
  refine ⟨trivial, ?_⟩
  refine CallsIn.mono ((callsIn_wide (n := _)).2 K.out) ?_
  rintro e W2 ⟨rfl, b2⟩
  rw [HC.out]
  have B2 := hidIt (HA.out.trans (b2.mono HA.out.size))
  have D2 : Hid (W2.cell? ⟨W0.heap.size, 0, none⟩ = some (.bool drop) ∧ W0.heap.size < W2.heap.size) := hidIt ⟨(b2.cell (p := ⟨W0.heap.size, 0, none⟩) (by simp)).trans (by simp [go_sem]), by have := b2.size; simp at this; omega⟩
  clear b2 K HA
  obtain ⟨Lb, hLb⟩ : ∃ Lb, Lb = W2.heap.size := ⟨_, rfl⟩
  gi_wp2
  refine ⟨trivial, ?_⟩
  refine CallsIn.mono (counting_in _ A L C _) ?_
  rintro e Ws ⟨rfl, hw⟩
  obtain ⟨B1, hB1⟩ : ∃ B1, B1 = Lb + 2 := ⟨_, rfl⟩
  have CST : Hid (Plc W0 B1 W0.heap.size (Lb + 1) Lb) := hidIt (by have := D2.out.2; exact ⟨by omega, by omega, by omega, by omega⟩)
  have I0 : MrI W0 B1 W0.heap.size (Lb + 1) Lb drop A L C os 0 [] (.slice none 0 0) [] Ws ∧ Ws.heap.size = B1 := by
    have B : Below W2.heap.size W2 Ws := by rw [hw]; exact ((Below.refl _ _).alloc (Nat.le_refl _) _).alloc (by simp) _
    have R1 : Rec19 (W2.alloc (.cells #[.slice none 0 0] 27)) W2.heap.size 0 [.slice none 0 0] := Rec19.new W2 27 [.slice none 0 0]
    have d2 := D2.out
    refine ⟨⟨B2.out.trans (B.mono B2.out.size), (B.cell (p := ⟨W0.heap.size, 0, none⟩) d2.2).trans d2.1, by rw [hw, hLb]; simp [go_sem], ?_, OwnP.nil _ _, fun g hg => (by cases hg), fun x hx => (by cases hx), fun x hx => (by cases hx), rfl, by simp, by rw [hw, hB1, hLb]; simp, fun b hb => (by cases hb), fun x hx => (by cases hx)⟩, by rw [hw, hB1, hLb]; simp⟩
    rw [hw, hLb]
    exact R1.below ((Below.refl _ _).alloc (Nat.le_refl _) _)
  rw [show ((W2.alloc (.cells #[.slice none 0 0] 27)).heap.size) = Lb + 1 by rw [hLb]; simp]
  rw [← hLb]
  clear hw
  obtain ⟨I0, z1⟩ := I0
  have HB1 := hidIt (And.intro hB1 (And.intro hLb z1))
  clear hLb hB1 D2 B2
  gi_wp2
  refine range_st (m := 5) 16 (by omega) 44 #[.pointer (some ⟨Lb + 1, 0, none⟩)] os.length (x1 os) (fun _ _ => by simp [go_sem]) rfl
    (fun k bs W => ∃ lv qs, MrI W0 B1 W0.heap.size (Lb + 1) Lb drop A L C os k bs lv qs W) (fun _ _ => False)
    (fun bs s W W' row h hg hr => ?_) (fun s W W' row h hg hr => h) (fun k bs W W' h hO => ?_) (fun k bs nb W W' h hB hn => ?_) ⟨_, _, I0⟩ (fun l J Jx hJI hJO hJN hY V h0' => ?_) ?_ ?_ (fun _ _ _ _ h _ => h.elim)
  · obtain ⟨lv, qs, hI⟩ := h
    exact ⟨lv, qs, hI.cks (Cks.grown hg (fun r e => (hr r e).2)) ((Below.refl _ _).grown hg (by have := hI.sz; have := CST.out.d; omega) (fun r e => by have := (hr r e).1; have := CST.out.d; omega))⟩
  · obtain ⟨lv, qs, hI⟩ := h
    exact ⟨lv, qs, hI.offB CST.out hO⟩
  · obtain ⟨lv, qs, hI⟩ := h
    exact ⟨lv, qs, hI.addB CST.out hB hn⟩
  · have := counting1_in l (Lb + 1) W0 A ls L C HF.out.1 HL.out HF.out.2.1 HF.out.2.2 J Jx (fun k bs W h => by obtain ⟨lv, qs, hI⟩ := hJI k bs W h; exact ⟨hI.old, hI.ca⟩) hJO hJN (fun k bs G x W hx hG hJ hg => by
      rw [← OS.out] at hx
      have := hY k bs G W (List.getElem?_eq_some_iff.1 hx).1 hG hJ hg
      rw [x1_at hx] at this
      exact this) V h0'
    rw [← OS.out] at this
    exact this
  · intro bs G l k X hG hk hX gX hl1 hl2 hlr hlb
    obtain ⟨lv, qs, hI⟩ := hX
    obtain ⟨x, hx⟩ : ∃ x, os[k]? = some x := ⟨_, List.getElem?_eq_getElem hk⟩
    rw [x1_at hx]
    have II := hidIt hI
    have HX := hidIt hx
    have XM := hidIt (OM.out x (List.mem_of_getElem? hx))
    have LR := hidIt hlr
    have HG := hidIt hG
    have GX := hidIt gX
    have LBS := hidIt hlb
    clear hI I0 hk hx hlr hG gX hlb
    rw [z1] at hl1 ⊢
    simp only [List.setIfInBounds_toArray, List.set_cons_zero, List.set_cons_succ]
    gi_wp2_with (first
      | (refine fen_alloc rfl 32 rfl _ X.heap.size rfl pair_zero ?_; intro Y1 R1 B1' y1; have P1 := hidIt R1; have E1 := hidIt (And.intro B1' y1); clear R1 B1' y1)
      | (refine fen_store rfl 32 (.tmp 8) (.tmp 16) rfl X.heap.size 0 _ x.cs rfl rfl P1.out rfl pair_size XM.out.1.one ?_; intro Y2 R2 B2; have E2 := hidIt (E1.out.1.trans (B2.below (Nat.le_refl _) (by have := E1.out.2; omega))); have P2 := hidIt R2; clear R2 B2))
    refine ⟨keeps_below E2.out, fun X2 hB2 hz2 => ?_⟩
    have CK : Cks Y2 X2 := Cks.but hB2 (by obtain ⟨r, hr⟩ := LR.out; exact ⟨r, (E2.out.block l hl2).trans hr⟩)
    have hBl : Below W0.heap.size Y2 X2 := hB2.below (by have := CST.out.d; omega) (by have := E2.out.size; have := II.out.sz; have := CST.out.d; omega)
    have IC := hidIt ((II.out.up CST.out E2.out).cks CK hBl)
    have PC := hidIt (P2.out.cks CK)
    have GC := hidIt (HG.out X X2 GX.out (fun b hb => (hB2.block b (Nat.lt_of_lt_of_le (II.out.bsl b hb).2.1 E2.out.size) (fun e => LBS.out (e ▸ hb))).trans (E2.out.block b (II.out.bsl b hb).2.1)) (Nat.le_trans E2.out.size hB2.size))
    have NB : Hid (∀ b', b' ∈ lv.ownBlock.toList → B1 ≤ b' ∧ b' < X.heap.size) := hidIt (fun b' hb' => by
      cases e : lv.ownBlock with
      | none => rw [e] at hb'; cases hb'
      | some g => rw [e] at hb'; simp at hb'; subst hb'; exact ⟨II.out.low _ e, (World.ownsRow.lt II.out.own _ e).2⟩)
    have NBS : Hid (∀ b ∈ bs, b ∉ Lb :: lv.ownBlock.toList) := hidIt (fun b hb q => by
      have := II.out.bsl b hb
      have := CST.out.l
      rcases List.mem_cons.1 q with q | q
      · omega
      · cases e : lv.ownBlock with
        | none => rw [e] at q; cases q
        | some g => rw [e] at q; simp at q; subst q; exact (II.out.bsl b hb).2.2 e)
    have BX : Hid (∀ b ∈ bs, b < X.heap.size) := hidIt (fun b hb => (II.out.bsl b hb).2.1)
    have hs4 : Lb < B1 ∧ B1 ≤ X.heap.size := ⟨CST.out.l.2, II.out.sz⟩
    have XZ : X.heap.size ≤ X2.heap.size := Nat.le_trans E2.out.size CK.size
    have d0 := IC.out.cd
    have e2 : X2.cell? ⟨X.heap.size, 2, none⟩ = some (.bool x.p.g) := (PC.out.cel 2 _ rfl).1
    obtain ⟨Hb, hHb⟩ : ∃ Hb, Hb = X.heap.size := ⟨_, rfl⟩
    rw [← hHb] at PC NB XZ hs4 e2 BX ⊢
    clear hHb CK hBl P2 E2 P1 E1 LR hB2 hz2 hl1 hl2 II GX LBS z1
    cases drop with
    | true =>
      cases hg : x.p.g with
      | true =>
        have SK : Hid (MrI W0 B1 W0.heap.size (Lb + 1) Lb true A L C os (k + 1) bs lv qs X2) := hidIt (IC.out.skip HX.out (by unfold keepP; rw [hg]; rfl))
        rw [hg] at e2
        clear hg
        gi_wp2
        exact ⟨keeps_below (Below.refl _ _), ⟨_, _, SK.out⟩, GC.out⟩
      | false =>
        have OX : Hid (∃ x', os[k]? = some x' ∧ x'.p = x.p ∧ keepP true x' = true) := hidIt ⟨x, HX.out, rfl, by unfold keepP; rw [hg]; rfl⟩
        rw [hg] at e2
        clear hg
        gi_wp2
        have ID := hidIt (IC.out.up CST.out (Below.refl _ _).drew)
        have PD := hidIt (PC.out.below (Below.refl _ _).drew)
        have GD := hidIt (HG.out X2 X2.drew GC.out (fun _ _ => rfl) (Nat.le_refl _))
        have XZ : Hb ≤ X2.drew.heap.size := XZ
        have DB : Hid (∀ b ∈ bs, b < X2.drew.heap.size) := hidIt (fun b hb => Nat.lt_of_lt_of_le (BX.out b hb) XZ)
        have XP := hidIt (XM.out.1.below ID.out.old)
        have XS := hidIt XM.out.2
        have q0 := (ID.out.box.cel 0 _ rfl).1
        have HQ : Hid (B1 ≤ X2.drew.heap.size ∧ (∀ g, lv.ownBlock = some g → g < X2.drew.heap.size) ∧ ∀ b ∈ bs, b < X2.drew.heap.size) := hidIt ⟨ID.out.sz, fun g hg => Nat.lt_of_lt_of_le (NB.out g (by simp [hg])).2 XZ, DB.out⟩
        clear d0 e2 IC PC GC XZ
        refine region_in (S := fun w' => w'.rangeAt Hb 0 x.cs) (by kernel_rfl) (by kernel_rfl) PD.out.1 (fun hHeld => ?_)
        refine take_at (i := 1) (v := _) (some 23) rfl rfl (by kernel_rfl) (by kernel_rfl) (by kernel_rfl) (fun _ _ _ h => by cases h.1) (yieldsIf_load_mid (by rfl) _ _ rfl _ _ rfl _ _ (fun w h => h) Try.underlying32 rfl pair_size) (by assumption) ?_
        simp only [Act.put, List.setIfInBounds_toArray, List.set_cons_zero, List.set_cons_succ]
        refine duo2_at (i := 2) (j := 0) (some 24) (some 22) 34 #[.tmp 23] _ rfl rfl rfl rfl rfl (by rfl) (by rfl) (by kernel_rfl) lv X2.drew (by go_simp) hHeld (fun hHeld => ?_) #[.agg x.cs.toArray] rfl Try.func34 (by kernel_rfl) (by kernel_rfl) ?_
        · simp only [Act.put, List.setIfInBounds_toArray, List.set_cons_zero, List.set_cons_succ]
          refine call_at (i := 2) (some 24) 34 _ _ rfl rfl rfl (by rfl) (by kernel_rfl) #[.agg x.cs.toArray] rfl Try.func34 (by kernel_rfl) (by kernel_rfl) ?_
          refine (ucopied_any (XP.out) XS.out.1 XS.out.2).mono ?_
          rintro e W4 ⟨k', v', rfl, Fk, Fv, B4⟩
          obtain ⟨ka, kn, kC, rfl⟩ := Fk.sl
          obtain ⟨va, vn, vC, rfl⟩ := Fv.sl
          have I4 := hidIt (ID.out.up CST.out B4)
          have P4 := hidIt (PD.out.below B4)
          have F4 := hidIt (And.intro Fk Fv)
          have q4 := (I4.out.box.cel 0 _ rfl).1
          have A5 : Below W4.heap.size W4 (W4.alloc (.cells (PV.mk (.slice ka kn kC) (.slice va vn vC) x.p).cs.toArray 32)) := (Below.refl _ _).alloc (Nat.le_refl _) _
          have E5 := hidIt (B4.trans (A5.mono B4.size))
          have L5 : Lone (W4.alloc (.cells (PV.mk (.slice ka kn kC) (.slice va vn vC) x.p).cs.toArray 32)) W4.heap.size (PV.mk (.slice ka kn kC) (.slice va vn vC) x.p) := ⟨heap_alloc_new W4 _, by
            intro u hu
            simp only [PV.cs, List.mem_cons, List.not_mem_nil, or_false] at hu
            rcases hu with rfl | rfl | rfl <;> rfl⟩
          obtain ⟨W5, hW5⟩ : ∃ W5, W5 = W4.alloc (.cells (PV.mk (.slice ka kn kC) (.slice va vn vC) x.p).cs.toArray 32) := ⟨_, rfl⟩
          rw [← hW5] at A5 L5 E5
          have I5 := hidIt (I4.out.up CST.out A5)
          have P5 := hidIt (P4.out.below A5)
          have F5 := hidIt (And.intro (F4.out.1.below A5) (F4.out.2.below A5))
          have q5 := (I5.out.box.cel 0 _ rfl).1
          have LL := hidIt L5
          clear A5 L5 Fk Fv B4 F4
          refine ⟨_, rfl, P4.out.1, fun hHeld => ?_⟩
          simp only [Act.put, List.setIfInBounds_toArray, List.set_cons_zero, List.set_cons_succ]
          refine step_at (i := 3) (some 25) rfl rfl (by rfl) (by kernel_rfl) (.slice (some ⟨W4.heap.size, 0, none⟩) 1 1) W5 (by rw [hW5]; exact bsl_run 27 32 1 _ rfl 3 56 _ _ _ under_pairs info_pair (by decide) (by decide) rfl (by kernel_rfl)) P5.out.1 (fun hHeld => ?_)
          simp only [Act.put, List.setIfInBounds_toArray, List.set_cons_zero, List.set_cons_succ]
          obtain ⟨v6, W6, hr6, I6⟩ := app_pairs 27 W5 lv qs [(PV.mk (.slice ka kn kC) (.slice va vn vC) x.p)] ⟨W4.heap.size, 0, none⟩ 1 I5.out.own (fun j u hj => by rw [pcs_single] at hj; rw [Addr.add_mid, Nat.zero_add]; exact LL.out.cell j u hj) (by rw [pcs_single]; exact LL.out.2) (by simp) (by have := I5.out.few; simp; omega)
          simp only [List.length_singleton] at hr6
          have P6 := hidIt (P5.out.off I6.off (fun q => by have := NB.out Hb (by simpa using q); omega))
          have R6 := hidIt (I5.out.box.off I6.off (fun q => by have := NB.out Lb (by simpa using q); omega))
          refine step_at (i := 4) (some 26) rfl rfl (by rfl) (by kernel_rfl) v6 W6 (app_run (.tmp 22) (.tmp 25) 27 27 rfl _ _ rfl rfl hr6) P6.out.1 (fun hHeld => ?_)
          simp only [Act.put, List.setIfInBounds_toArray, List.set_cons_zero, List.set_cons_succ]
          obtain ⟨a6, cap6, hv6, _⟩ := I6.own.slice
          have hr7 := store_one (a := a6) (n := (qs ++ [(PV.mk (.slice ka kn kC) (.slice va vn vC) x.p)]).length) (C := cap6) (R6.out.cel 0 _ rfl).1 (R6.out.cel 0 _ rfl).2
          rw [← hv6] at hr7
          have FIN := hidIt (I5.out.step CST.out I6 F5.out ⟨HQ.out.1, HQ.out.2.1, HQ.out.2.2, E5.out.size⟩ HBN.out OX.out)
          have O7 := hidIt (mr_off (Lb := Lb) I6)
          have G7 := hidIt (HG.out _ (W6.setCell ⟨Lb, 0, none⟩ v6) (HG.out _ W5 GD.out (fun b hb => E5.out.block b (DB.out b hb)) E5.out.size) (fun b hb => O7.out.block b (I5.out.bsl b hb).2.1 (NBS.out b hb)) O7.out.size)
          have CP := hidIt (P6.out.but (But.set (b := Lb) W6 0 v6) (by omega)).1
          have KK := hidIt (keeps_but (B := B1) (But.set (b := Lb) W6 0 v6) (by omega))
          have K6 := hidIt (mkeeps_off (B := B1) I6.off I5.out.own)
          generalize W6.setCell ⟨Lb, 0, none⟩ v6 = W7 at *
          refine mute_at (i := 5) none rfl rfl (by rfl) (by kernel_rfl) W7 (put_mute 27 (.tmp 7) (.tmp 26) rfl _ _ rfl rfl hr7) CP.out (fun hHeld => ?_)
          simp only [Act.put]
          refine wpAnyH_done (by kernel_rfl) ?_ _
          exact ⟨rfl, (((keeps_below ((Below.refl _ _).drew.trans E5.out)).trans K6.out).trans KK.out), ⟨⟨_, _, FIN.out⟩, G7.out⟩⟩
        · as_aux_lemma =>
          refine (ucopied_any (XP.out) XS.out.1 XS.out.2).mono ?_
          rintro e W4 ⟨k', v', rfl, Fk, Fv, B4⟩
          obtain ⟨ka, kn, kC, rfl⟩ := Fk.sl
          obtain ⟨va, vn, vC, rfl⟩ := Fv.sl
          have I4 := hidIt (ID.out.up CST.out B4)
          have P4 := hidIt (PD.out.below B4)
          have F4 := hidIt (And.intro Fk Fv)
          have q4 := (I4.out.box.cel 0 _ rfl).1
          have A5 : Below W4.heap.size W4 (W4.alloc (.cells (PV.mk (.slice ka kn kC) (.slice va vn vC) x.p).cs.toArray 32)) := (Below.refl _ _).alloc (Nat.le_refl _) _
          have E5 := hidIt (B4.trans (A5.mono B4.size))
          have L5 : Lone (W4.alloc (.cells (PV.mk (.slice ka kn kC) (.slice va vn vC) x.p).cs.toArray 32)) W4.heap.size (PV.mk (.slice ka kn kC) (.slice va vn vC) x.p) := ⟨heap_alloc_new W4 _, by
            intro u hu
            simp only [PV.cs, List.mem_cons, List.not_mem_nil, or_false] at hu
            rcases hu with rfl | rfl | rfl <;> rfl⟩
          obtain ⟨W5, hW5⟩ : ∃ W5, W5 = W4.alloc (.cells (PV.mk (.slice ka kn kC) (.slice va vn vC) x.p).cs.toArray 32) := ⟨_, rfl⟩
          rw [← hW5] at A5 L5 E5
          have I5 := hidIt (I4.out.up CST.out A5)
          have P5 := hidIt (P4.out.below A5)
          have F5 := hidIt (And.intro (F4.out.1.below A5) (F4.out.2.below A5))
          have q5 := (I5.out.box.cel 0 _ rfl).1
          have LL := hidIt L5
          clear A5 L5 Fk Fv B4 F4
          refine ⟨_, rfl, P4.out.1, fun hHeld => ?_⟩
          simp only [Act.put, List.setIfInBounds_toArray, List.set_cons_zero, List.set_cons_succ]
          refine pair_at (i := 0) (j := 3) (some 22) (some 25) rfl rfl rfl rfl (by kernel_rfl) (by rfl) (by rfl) lv (.slice (some ⟨W4.heap.size, 0, none⟩) 1 1) W4 W5 (by go_simp) (by rw [hW5]; exact bsl_run 27 32 1 _ rfl 3 56 _ _ _ under_pairs info_pair (by decide) (by decide) rfl (by kernel_rfl)) ⟨P4.out.1, P5.out.1⟩ (fun hHeld => ?_) (fun hHeld => ?_)
          · simp only [Act.put, List.setIfInBounds_toArray, List.set_cons_zero, List.set_cons_succ]
            refine step_at (i := 3) (some 25) rfl rfl (by rfl) (by kernel_rfl) (.slice (some ⟨W4.heap.size, 0, none⟩) 1 1) W5 (by rw [hW5]; exact bsl_run 27 32 1 _ rfl 3 56 _ _ _ under_pairs info_pair (by decide) (by decide) rfl (by kernel_rfl)) P5.out.1 (fun hHeld => ?_)
            simp only [Act.put, List.setIfInBounds_toArray, List.set_cons_zero, List.set_cons_succ]
            obtain ⟨v6, W6, hr6, I6⟩ := app_pairs 27 W5 lv qs [(PV.mk (.slice ka kn kC) (.slice va vn vC) x.p)] ⟨W4.heap.size, 0, none⟩ 1 I5.out.own (fun j u hj => by rw [pcs_single] at hj; rw [Addr.add_mid, Nat.zero_add]; exact LL.out.cell j u hj) (by rw [pcs_single]; exact LL.out.2) (by simp) (by have := I5.out.few; simp; omega)
            simp only [List.length_singleton] at hr6
            have P6 := hidIt (P5.out.off I6.off (fun q => by have := NB.out Hb (by simpa using q); omega))
            have R6 := hidIt (I5.out.box.off I6.off (fun q => by have := NB.out Lb (by simpa using q); omega))
            refine step_at (i := 4) (some 26) rfl rfl (by rfl) (by kernel_rfl) v6 W6 (app_run (.tmp 22) (.tmp 25) 27 27 rfl _ _ rfl rfl hr6) P6.out.1 (fun hHeld => ?_)
            simp only [Act.put, List.setIfInBounds_toArray, List.set_cons_zero, List.set_cons_succ]
            obtain ⟨a6, cap6, hv6, _⟩ := I6.own.slice
            have hr7 := store_one (a := a6) (n := (qs ++ [(PV.mk (.slice ka kn kC) (.slice va vn vC) x.p)]).length) (C := cap6) (R6.out.cel 0 _ rfl).1 (R6.out.cel 0 _ rfl).2
            rw [← hv6] at hr7
            have FIN := hidIt (I5.out.step CST.out I6 F5.out ⟨HQ.out.1, HQ.out.2.1, HQ.out.2.2, E5.out.size⟩ HBN.out OX.out)
            have O7 := hidIt (mr_off (Lb := Lb) I6)
            have G7 := hidIt (HG.out _ (W6.setCell ⟨Lb, 0, none⟩ v6) (HG.out _ W5 GD.out (fun b hb => E5.out.block b (DB.out b hb)) E5.out.size) (fun b hb => O7.out.block b (I5.out.bsl b hb).2.1 (NBS.out b hb)) O7.out.size)
            have CP := hidIt (P6.out.but (But.set (b := Lb) W6 0 v6) (by omega)).1
            have KK := hidIt (keeps_but (B := B1) (But.set (b := Lb) W6 0 v6) (by omega))
            have K6 := hidIt (mkeeps_off (B := B1) I6.off I5.out.own)
            generalize W6.setCell ⟨Lb, 0, none⟩ v6 = W7 at *
            refine mute_at (i := 5) none rfl rfl (by rfl) (by kernel_rfl) W7 (put_mute 27 (.tmp 7) (.tmp 26) rfl _ _ rfl rfl hr7) CP.out (fun hHeld => ?_)
            simp only [Act.put]
            refine wpAnyH_done (by kernel_rfl) ?_ _
            exact ⟨rfl, (((keeps_below ((Below.refl _ _).drew.trans E5.out)).trans K6.out).trans KK.out), ⟨⟨_, _, FIN.out⟩, G7.out⟩⟩
          · simp only [Act.put, List.setIfInBounds_toArray, List.set_cons_zero, List.set_cons_succ]
            refine step_at (i := 0) (some 22) rfl rfl (by rfl) (by kernel_rfl) lv W5 (by clear hW5; go_simp) hHeld (fun hHeld => ?_)
            simp only [Act.put, List.setIfInBounds_toArray, List.set_cons_zero, List.set_cons_succ]
            obtain ⟨v6, W6, hr6, I6⟩ := app_pairs 27 W5 lv qs [(PV.mk (.slice ka kn kC) (.slice va vn vC) x.p)] ⟨W4.heap.size, 0, none⟩ 1 I5.out.own (fun j u hj => by rw [pcs_single] at hj; rw [Addr.add_mid, Nat.zero_add]; exact LL.out.cell j u hj) (by rw [pcs_single]; exact LL.out.2) (by simp) (by have := I5.out.few; simp; omega)
            simp only [List.length_singleton] at hr6
            have P6 := hidIt (P5.out.off I6.off (fun q => by have := NB.out Hb (by simpa using q); omega))
            have R6 := hidIt (I5.out.box.off I6.off (fun q => by have := NB.out Lb (by simpa using q); omega))
            refine step_at (i := 4) (some 26) rfl rfl (by rfl) (by kernel_rfl) v6 W6 (app_run (.tmp 22) (.tmp 25) 27 27 rfl _ _ rfl rfl hr6) P6.out.1 (fun hHeld => ?_)
            simp only [Act.put, List.setIfInBounds_toArray, List.set_cons_zero, List.set_cons_succ]
            obtain ⟨a6, cap6, hv6, _⟩ := I6.own.slice
            have hr7 := store_one (a := a6) (n := (qs ++ [(PV.mk (.slice ka kn kC) (.slice va vn vC) x.p)]).length) (C := cap6) (R6.out.cel 0 _ rfl).1 (R6.out.cel 0 _ rfl).2
            rw [← hv6] at hr7
            have FIN := hidIt (I5.out.step CST.out I6 F5.out ⟨HQ.out.1, HQ.out.2.1, HQ.out.2.2, E5.out.size⟩ HBN.out OX.out)
            have O7 := hidIt (mr_off (Lb := Lb) I6)
            have G7 := hidIt (HG.out _ (W6.setCell ⟨Lb, 0, none⟩ v6) (HG.out _ W5 GD.out (fun b hb => E5.out.block b (DB.out b hb)) E5.out.size) (fun b hb => O7.out.block b (I5.out.bsl b hb).2.1 (NBS.out b hb)) O7.out.size)
            have CP := hidIt (P6.out.but (But.set (b := Lb) W6 0 v6) (by omega)).1
            have KK := hidIt (keeps_but (B := B1) (But.set (b := Lb) W6 0 v6) (by omega))
            have K6 := hidIt (mkeeps_off (B := B1) I6.off I5.out.own)
            generalize W6.setCell ⟨Lb, 0, none⟩ v6 = W7 at *
            refine mute_at (i := 5) none rfl rfl (by rfl) (by kernel_rfl) W7 (put_mute 27 (.tmp 7) (.tmp 26) rfl _ _ rfl rfl hr7) CP.out (fun hHeld => ?_)
            simp only [Act.put]
            refine wpAnyH_done (by kernel_rfl) ?_ _
            exact ⟨rfl, (((keeps_below ((Below.refl _ _).drew.trans E5.out)).trans K6.out).trans KK.out), ⟨⟨_, _, FIN.out⟩, G7.out⟩⟩
    | false =>
      have OX : Hid (∃ x', os[k]? = some x' ∧ x'.p = x.p ∧ keepP false x' = true) := hidIt ⟨x, HX.out, rfl, rfl⟩
      gi_wp2
      have ID := hidIt (IC.out.up CST.out (Below.refl _ _).drew)
      have PD := hidIt (PC.out.below (Below.refl _ _).drew)
      have GD := hidIt (HG.out X2 X2.drew GC.out (fun _ _ => rfl) (Nat.le_refl _))
      have XZ : Hb ≤ X2.drew.heap.size := XZ
      have DB : Hid (∀ b ∈ bs, b < X2.drew.heap.size) := hidIt (fun b hb => Nat.lt_of_lt_of_le (BX.out b hb) XZ)
      have XP := hidIt (XM.out.1.below ID.out.old)
      have XS := hidIt XM.out.2
      have q0 := (ID.out.box.cel 0 _ rfl).1
      have HQ : Hid (B1 ≤ X2.drew.heap.size ∧ (∀ g, lv.ownBlock = some g → g < X2.drew.heap.size) ∧ ∀ b ∈ bs, b < X2.drew.heap.size) := hidIt ⟨ID.out.sz, fun g hg => Nat.lt_of_lt_of_le (NB.out g (by simp [hg])).2 XZ, DB.out⟩
      clear d0 e2 IC PC GC XZ
      refine region_in (S := fun w' => w'.rangeAt Hb 0 x.cs) (by kernel_rfl) (by kernel_rfl) PD.out.1 (fun hHeld => ?_)
      refine take_at (i := 1) (v := _) (some 23) rfl rfl (by kernel_rfl) (by kernel_rfl) (by kernel_rfl) (fun _ _ _ h => by cases h.1) (yieldsIf_load_mid (by rfl) _ _ rfl _ _ rfl _ _ (fun w h => h) Try.underlying32 rfl pair_size) (by assumption) ?_
      simp only [Act.put, List.setIfInBounds_toArray, List.set_cons_zero, List.set_cons_succ]
      refine duo2_at (i := 2) (j := 0) (some 24) (some 22) 34 #[.tmp 23] _ rfl rfl rfl rfl rfl (by rfl) (by rfl) (by kernel_rfl) lv X2.drew (by go_simp) hHeld (fun hHeld => ?_) #[.agg x.cs.toArray] rfl Try.func34 (by kernel_rfl) (by kernel_rfl) ?_
      · simp only [Act.put, List.setIfInBounds_toArray, List.set_cons_zero, List.set_cons_succ]
        refine call_at (i := 2) (some 24) 34 _ _ rfl rfl rfl (by rfl) (by kernel_rfl) #[.agg x.cs.toArray] rfl Try.func34 (by kernel_rfl) (by kernel_rfl) ?_
        refine (ucopied_any (XP.out) XS.out.1 XS.out.2).mono ?_
        rintro e W4 ⟨k', v', rfl, Fk, Fv, B4⟩
        obtain ⟨ka, kn, kC, rfl⟩ := Fk.sl
        obtain ⟨va, vn, vC, rfl⟩ := Fv.sl
        have I4 := hidIt (ID.out.up CST.out B4)
        have P4 := hidIt (PD.out.below B4)
        have F4 := hidIt (And.intro Fk Fv)
        have q4 := (I4.out.box.cel 0 _ rfl).1
        have A5 : Below W4.heap.size W4 (W4.alloc (.cells (PV.mk (.slice ka kn kC) (.slice va vn vC) x.p).cs.toArray 32)) := (Below.refl _ _).alloc (Nat.le_refl _) _
        have E5 := hidIt (B4.trans (A5.mono B4.size))
        have L5 : Lone (W4.alloc (.cells (PV.mk (.slice ka kn kC) (.slice va vn vC) x.p).cs.toArray 32)) W4.heap.size (PV.mk (.slice ka kn kC) (.slice va vn vC) x.p) := ⟨heap_alloc_new W4 _, by
          intro u hu
          simp only [PV.cs, List.mem_cons, List.not_mem_nil, or_false] at hu
          rcases hu with rfl | rfl | rfl <;> rfl⟩
        obtain ⟨W5, hW5⟩ : ∃ W5, W5 = W4.alloc (.cells (PV.mk (.slice ka kn kC) (.slice va vn vC) x.p).cs.toArray 32) := ⟨_, rfl⟩
        rw [← hW5] at A5 L5 E5
        have I5 := hidIt (I4.out.up CST.out A5)
        have P5 := hidIt (P4.out.below A5)
        have F5 := hidIt (And.intro (F4.out.1.below A5) (F4.out.2.below A5))
        have q5 := (I5.out.box.cel 0 _ rfl).1
        have LL := hidIt L5
        clear A5 L5 Fk Fv B4 F4
        refine ⟨_, rfl, P4.out.1, fun hHeld => ?_⟩
        simp only [Act.put, List.setIfInBounds_toArray, List.set_cons_zero, List.set_cons_succ]
        refine step_at (i := 3) (some 25) rfl rfl (by rfl) (by kernel_rfl) (.slice (some ⟨W4.heap.size, 0, none⟩) 1 1) W5 (by rw [hW5]; exact bsl_run 27 32 1 _ rfl 3 56 _ _ _ under_pairs info_pair (by decide) (by decide) rfl (by kernel_rfl)) P5.out.1 (fun hHeld => ?_)
        simp only [Act.put, List.setIfInBounds_toArray, List.set_cons_zero, List.set_cons_succ]
        obtain ⟨v6, W6, hr6, I6⟩ := app_pairs 27 W5 lv qs [(PV.mk (.slice ka kn kC) (.slice va vn vC) x.p)] ⟨W4.heap.size, 0, none⟩ 1 I5.out.own (fun j u hj => by rw [pcs_single] at hj; rw [Addr.add_mid, Nat.zero_add]; exact LL.out.cell j u hj) (by rw [pcs_single]; exact LL.out.2) (by simp) (by have := I5.out.few; simp; omega)
        simp only [List.length_singleton] at hr6
        have P6 := hidIt (P5.out.off I6.off (fun q => by have := NB.out Hb (by simpa using q); omega))
        have R6 := hidIt (I5.out.box.off I6.off (fun q => by have := NB.out Lb (by simpa using q); omega))
        refine step_at (i := 4) (some 26) rfl rfl (by rfl) (by kernel_rfl) v6 W6 (app_run (.tmp 22) (.tmp 25) 27 27 rfl _ _ rfl rfl hr6) P6.out.1 (fun hHeld => ?_)
        simp only [Act.put, List.setIfInBounds_toArray, List.set_cons_zero, List.set_cons_succ]
        obtain ⟨a6, cap6, hv6, _⟩ := I6.own.slice
        have hr7 := store_one (a := a6) (n := (qs ++ [(PV.mk (.slice ka kn kC) (.slice va vn vC) x.p)]).length) (C := cap6) (R6.out.cel 0 _ rfl).1 (R6.out.cel 0 _ rfl).2
        rw [← hv6] at hr7
        have FIN := hidIt (I5.out.step CST.out I6 F5.out ⟨HQ.out.1, HQ.out.2.1, HQ.out.2.2, E5.out.size⟩ HBN.out OX.out)
        have O7 := hidIt (mr_off (Lb := Lb) I6)
        have G7 := hidIt (HG.out _ (W6.setCell ⟨Lb, 0, none⟩ v6) (HG.out _ W5 GD.out (fun b hb => E5.out.block b (DB.out b hb)) E5.out.size) (fun b hb => O7.out.block b (I5.out.bsl b hb).2.1 (NBS.out b hb)) O7.out.size)
        have CP := hidIt (P6.out.but (But.set (b := Lb) W6 0 v6) (by omega)).1
        have KK := hidIt (keeps_but (B := B1) (But.set (b := Lb) W6 0 v6) (by omega))
        have K6 := hidIt (mkeeps_off (B := B1) I6.off I5.out.own)
        generalize W6.setCell ⟨Lb, 0, none⟩ v6 = W7 at *
        refine mute_at (i := 5) none rfl rfl (by rfl) (by kernel_rfl) W7 (put_mute 27 (.tmp 7) (.tmp 26) rfl _ _ rfl rfl hr7) CP.out (fun hHeld => ?_)
        simp only [Act.put]
        refine wpAnyH_done (by kernel_rfl) ?_ _
        exact ⟨rfl, (((keeps_below ((Below.refl _ _).drew.trans E5.out)).trans K6.out).trans KK.out), ⟨⟨_, _, FIN.out⟩, G7.out⟩⟩
      · as_aux_lemma =>
        refine (ucopied_any (XP.out) XS.out.1 XS.out.2).mono ?_
        rintro e W4 ⟨k', v', rfl, Fk, Fv, B4⟩
        obtain ⟨ka, kn, kC, rfl⟩ := Fk.sl
        obtain ⟨va, vn, vC, rfl⟩ := Fv.sl
        have I4 := hidIt (ID.out.up CST.out B4)
        have P4 := hidIt (PD.out.below B4)
        have F4 := hidIt (And.intro Fk Fv)
        have q4 := (I4.out.box.cel 0 _ rfl).1
        have A5 : Below W4.heap.size W4 (W4.alloc (.cells (PV.mk (.slice ka kn kC) (.slice va vn vC) x.p).cs.toArray 32)) := (Below.refl _ _).alloc (Nat.le_refl _) _
        have E5 := hidIt (B4.trans (A5.mono B4.size))
        have L5 : Lone (W4.alloc (.cells (PV.mk (.slice ka kn kC) (.slice va vn vC) x.p).cs.toArray 32)) W4.heap.size (PV.mk (.slice ka kn kC) (.slice va vn vC) x.p) := ⟨heap_alloc_new W4 _, by
          intro u hu
          simp only [PV.cs, List.mem_cons, List.not_mem_nil, or_false] at hu
          rcases hu with rfl | rfl | rfl <;> rfl⟩
        obtain ⟨W5, hW5⟩ : ∃ W5, W5 = W4.alloc (.cells (PV.mk (.slice ka kn kC) (.slice va vn vC) x.p).cs.toArray 32) := ⟨_, rfl⟩
        rw [← hW5] at A5 L5 E5
        have I5 := hidIt (I4.out.up CST.out A5)
        have P5 := hidIt (P4.out.below A5)
        have F5 := hidIt (And.intro (F4.out.1.below A5) (F4.out.2.below A5))
        have q5 := (I5.out.box.cel 0 _ rfl).1
        have LL := hidIt L5
        clear A5 L5 Fk Fv B4 F4
        refine ⟨_, rfl, P4.out.1, fun hHeld => ?_⟩
        simp only [Act.put, List.setIfInBounds_toArray, List.set_cons_zero, List.set_cons_succ]
        refine pair_at (i := 0) (j := 3) (some 22) (some 25) rfl rfl rfl rfl (by kernel_rfl) (by rfl) (by rfl) lv (.slice (some ⟨W4.heap.size, 0, none⟩) 1 1) W4 W5 (by go_simp) (by rw [hW5]; exact bsl_run 27 32 1 _ rfl 3 56 _ _ _ under_pairs info_pair (by decide) (by decide) rfl (by kernel_rfl)) ⟨P4.out.1, P5.out.1⟩ (fun hHeld => ?_) (fun hHeld => ?_)
        · simp only [Act.put, List.setIfInBounds_toArray, List.set_cons_zero, List.set_cons_succ]
          refine step_at (i := 3) (some 25) rfl rfl (by rfl) (by kernel_rfl) (.slice (some ⟨W4.heap.size, 0, none⟩) 1 1) W5 (by rw [hW5]; exact bsl_run 27 32 1 _ rfl 3 56 _ _ _ under_pairs info_pair (by decide) (by decide) rfl (by kernel_rfl)) P5.out.1 (fun hHeld => ?_)
          simp only [Act.put, List.setIfInBounds_toArray, List.set_cons_zero, List.set_cons_succ]
          obtain ⟨v6, W6, hr6, I6⟩ := app_pairs 27 W5 lv qs [(PV.mk (.slice ka kn kC) (.slice va vn vC) x.p)] ⟨W4.heap.size, 0, none⟩ 1 I5.out.own (fun j u hj => by rw [pcs_single] at hj; rw [Addr.add_mid, Nat.zero_add]; exact LL.out.cell j u hj) (by rw [pcs_single]; exact LL.out.2) (by simp) (by have := I5.out.few; simp; omega)
          simp only [List.length_singleton] at hr6
          have P6 := hidIt (P5.out.off I6.off (fun q => by have := NB.out Hb (by simpa using q); omega))
          have R6 := hidIt (I5.out.box.off I6.off (fun q => by have := NB.out Lb (by simpa using q); omega))
          refine step_at (i := 4) (some 26) rfl rfl (by rfl) (by kernel_rfl) v6 W6 (app_run (.tmp 22) (.tmp 25) 27 27 rfl _ _ rfl rfl hr6) P6.out.1 (fun hHeld => ?_)
          simp only [Act.put, List.setIfInBounds_toArray, List.set_cons_zero, List.set_cons_succ]
          obtain ⟨a6, cap6, hv6, _⟩ := I6.own.slice
          have hr7 := store_one (a := a6) (n := (qs ++ [(PV.mk (.slice ka kn kC) (.slice va vn vC) x.p)]).length) (C := cap6) (R6.out.cel 0 _ rfl).1 (R6.out.cel 0 _ rfl).2
          rw [← hv6] at hr7
          have FIN := hidIt (I5.out.step CST.out I6 F5.out ⟨HQ.out.1, HQ.out.2.1, HQ.out.2.2, E5.out.size⟩ HBN.out OX.out)
          have O7 := hidIt (mr_off (Lb := Lb) I6)
          have G7 := hidIt (HG.out _ (W6.setCell ⟨Lb, 0, none⟩ v6) (HG.out _ W5 GD.out (fun b hb => E5.out.block b (DB.out b hb)) E5.out.size) (fun b hb => O7.out.block b (I5.out.bsl b hb).2.1 (NBS.out b hb)) O7.out.size)
          have CP := hidIt (P6.out.but (But.set (b := Lb) W6 0 v6) (by omega)).1
          have KK := hidIt (keeps_but (B := B1) (But.set (b := Lb) W6 0 v6) (by omega))
          have K6 := hidIt (mkeeps_off (B := B1) I6.off I5.out.own)
          generalize W6.setCell ⟨Lb, 0, none⟩ v6 = W7 at *
          refine mute_at (i := 5) none rfl rfl (by rfl) (by kernel_rfl) W7 (put_mute 27 (.tmp 7) (.tmp 26) rfl _ _ rfl rfl hr7) CP.out (fun hHeld => ?_)
          simp only [Act.put]
          refine wpAnyH_done (by kernel_rfl) ?_ _
          exact ⟨rfl, (((keeps_below ((Below.refl _ _).drew.trans E5.out)).trans K6.out).trans KK.out), ⟨⟨_, _, FIN.out⟩, G7.out⟩⟩
        · simp only [Act.put, List.setIfInBounds_toArray, List.set_cons_zero, List.set_cons_succ]
          refine step_at (i := 0) (some 22) rfl rfl (by rfl) (by kernel_rfl) lv W5 (by clear hW5; go_simp) hHeld (fun hHeld => ?_)
          simp only [Act.put, List.setIfInBounds_toArray, List.set_cons_zero, List.set_cons_succ]
          obtain ⟨v6, W6, hr6, I6⟩ := app_pairs 27 W5 lv qs [(PV.mk (.slice ka kn kC) (.slice va vn vC) x.p)] ⟨W4.heap.size, 0, none⟩ 1 I5.out.own (fun j u hj => by rw [pcs_single] at hj; rw [Addr.add_mid, Nat.zero_add]; exact LL.out.cell j u hj) (by rw [pcs_single]; exact LL.out.2) (by simp) (by have := I5.out.few; simp; omega)
          simp only [List.length_singleton] at hr6
          have P6 := hidIt (P5.out.off I6.off (fun q => by have := NB.out Hb (by simpa using q); omega))
          have R6 := hidIt (I5.out.box.off I6.off (fun q => by have := NB.out Lb (by simpa using q); omega))
          refine step_at (i := 4) (some 26) rfl rfl (by rfl) (by kernel_rfl) v6 W6 (app_run (.tmp 22) (.tmp 25) 27 27 rfl _ _ rfl rfl hr6) P6.out.1 (fun hHeld => ?_)
          simp only [Act.put, List.setIfInBounds_toArray, List.set_cons_zero, List.set_cons_succ]
          obtain ⟨a6, cap6, hv6, _⟩ := I6.own.slice
          have hr7 := store_one (a := a6) (n := (qs ++ [(PV.mk (.slice ka kn kC) (.slice va vn vC) x.p)]).length) (C := cap6) (R6.out.cel 0 _ rfl).1 (R6.out.cel 0 _ rfl).2
          rw [← hv6] at hr7
          have FIN := hidIt (I5.out.step CST.out I6 F5.out ⟨HQ.out.1, HQ.out.2.1, HQ.out.2.2, E5.out.size⟩ HBN.out OX.out)
          have O7 := hidIt (mr_off (Lb := Lb) I6)
          have G7 := hidIt (HG.out _ (W6.setCell ⟨Lb, 0, none⟩ v6) (HG.out _ W5 GD.out (fun b hb => E5.out.block b (DB.out b hb)) E5.out.size) (fun b hb => O7.out.block b (I5.out.bsl b hb).2.1 (NBS.out b hb)) O7.out.size)
          have CP := hidIt (P6.out.but (But.set (b := Lb) W6 0 v6) (by omega)).1
          have KK := hidIt (keeps_but (B := B1) (But.set (b := Lb) W6 0 v6) (by omega))
          have K6 := hidIt (mkeeps_off (B := B1) I6.off I5.out.own)
          generalize W6.setCell ⟨Lb, 0, none⟩ v6 = W7 at *
          refine mute_at (i := 5) none rfl rfl (by rfl) (by kernel_rfl) W7 (put_mute 27 (.tmp 7) (.tmp 26) rfl _ _ rfl rfl hr7) CP.out (fun hHeld => ?_)
          simp only [Act.put]
          refine wpAnyH_done (by kernel_rfl) ?_ _
          exact ⟨rfl, (((keeps_below ((Below.refl _ _).drew.trans E5.out)).trans K6.out).trans KK.out), ⟨⟨_, _, FIN.out⟩, G7.out⟩⟩
  · intro bs D X hD hX hd
    obtain ⟨lv, qs, hI⟩ := hX
    have d1 := (hI.box.cel 0 _ rfl).1
    have E := hidIt hI
    clear hI I0
    gi_wp2
    refine And.intro (by simp) (Or.inl ⟨_, _, rfl, run_takeDeferred hd, ?_⟩)
    refine ⟨.tuple #[lv, .int .i64 0], by simp [results, Try.results12, go_sem], ?_⟩
    have CK : Cks X (X.putObj D (.deferred none)) := Cks.butN (But.putO X D _) hd rfl
    have cst := CST.out.d
    have hB : Below W0.heap.size X (X.putObj D (.deferred none)) := (But.putO X D _).below (by omega) (by have := E.out.sz; omega)
    have F := E.out.cks CK hB
    refine ⟨F.old, .inr ⟨HC.out, lv, qs, rfl, F.own, fun g hg => by have := F.low g hg; omega, fun y hy => ⟨⟨(F.frs y hy).1.low (by omega), (F.frs y hy).2.low (by omega)⟩, F.oks y hy⟩, ?_, F.few⟩⟩
    rw [F.map, List.take_length, OS.out]
    rfl
end Go.Proofs.Ytgpafmgncolnmaa
