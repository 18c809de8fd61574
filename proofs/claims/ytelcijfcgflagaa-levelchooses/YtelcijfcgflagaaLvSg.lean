/-
  Walks, not a claim by itself: level's spanning. By the verifier.
-/
import Derived.Test.YtelcijfcgflagaaLvSs
namespace Go.Proofs.Ytelcijfcgflagaa
open Go.RowKit Go.Shelf
attribute [local go_sem] Oper.semAt_some
attribute [-go_sem] Builtin.append_
/-- An append in a fence, its run known. -/
theorem fen_append {F : Fence} {n : Nat} {ops : Array Oper} {rest : List Oper} {o : Oper} {a : Act} {w w' : World} {Q : Exit → Act → World → Prop} (hg : o.guard = none) (d x : Operand) (dT sT : TypeId) (hop : o.op = Op.call { callee := Callee.builtin Builtin.append, args := #[d, x], argTypes := #[dT, sT] })
    (v u : Value) (hd : a.eval d = v) (hx : a.eval x = u) {v' : Value} (hr : (Builtin.append_ #[dT, sT] o.type #[v, u]).run Try.prog w = .ok v' w') (hK : wpListIn F n Try.prog ops Q rest (a.put o.dst v') w') : wpListIn F n Try.prog ops Q (o :: rest) a w :=
  fen_run hg (by rw [hop]; intro c hc; cases hc) (by simp [Oper.about, hop, resolve, Target.leads, Sem.run_pure]) v' (app_runv d x dT sT hop v u hd hx hr) hK
/-- The lowest key of a table that is from on. -/
def lowB (f : ByteArray) (r : Rn) : ByteArray := if cmpB r.f f < 0 then f else r.f
/-- Does a table span a key that is from on, and below to? -/
def inB (f t : ByteArray) (r : Rn) : Bool := spnB r (lowB f r) && (decide (t.size = 0) || decide (cmpB (lowB f r) t < 0))
/-- The tables that span such a key. -/
def sgL (fl : List (Nat × RV)) (f t : ByteArray) : List RV := (fl.map fun q => q.2).filter fun x => inB f t x.r
theorem sgL_snoc {fl : List (Nat × RV)} {k i : Nat} {y : RV} (h : fl[k]? = some (i, y)) (f t : ByteArray) : sgL (fl.take (k + 1)) f t = if inB f t y.r then sgL (fl.take k) f t ++ [y] else sgL (fl.take k) f t := by
  obtain ⟨hk, e⟩ := List.getElem?_eq_some_iff.1 h
  unfold sgL
  rw [List.take_succ_eq_append_getElem hk, e, List.map_append, List.filter_append]
  cases q : inB f t y.r with
  | true => simp [q]
  | false => simp [q]
/-- What spanning's loop keeps. -/
structure SgI (W0 : World) (A : Option Addr) (L C : Nat) (ls : List LR) (fv tv : Value) (ft tt : ByteArray) (k : Nat) (W : World) : Prop where
  li : ∃ lv os, Rec19 W (W0.heap.size + 2) 0 [lv] ∧ OwnR W 0 lv os ∧ (∀ b, lv.ownBlock = some b → W0.heap.size + 4 ≤ b) ∧ os = sgL ((flt 0 ls).take k) ft tt
  fb : Rec19 W W0.heap.size 0 [fv]
  tb' : Rec19 W (W0.heap.size + 1) 0 [tv]
  old : Below W0.heap.size W0 W
  sz : W0.heap.size + 4 ≤ W.heap.size
  tb : TbM (W0.heap.size + 3) A L C ls W
theorem SgI.up {W0 W W' : World} {A : Option Addr} {L C k : Nat} {ls : List LR} {fv tv : Value} {ft tt : ByteArray} (h : SgI W0 A L C ls fv tv ft tt k W) (hB : Below W.heap.size W W') : SgI W0 A L C ls fv tv ft tt k W' :=
  ⟨by obtain ⟨lv, os, h1, h2, h3⟩ := h.li; exact ⟨lv, os, h1.below hB, h2.below hB, h3⟩, h.fb.below hB, h.tb'.below hB, h.old.trans (hB.mono h.old.size), Nat.le_trans h.sz hB.size, h.tb.below hB⟩
theorem SgI.cks {W0 W W' : World} {A : Option Addr} {L C k : Nat} {ls : List LR} {fv tv : Value} {ft tt : ByteArray} (h : SgI W0 A L C ls fv tv ft tt k W) (hk : Cks W W') (hB : Below W0.heap.size W W') : SgI W0 A L C ls fv tv ft tt k W' :=
  ⟨by obtain ⟨lv, os, h1, h2, h3⟩ := h.li; exact ⟨lv, os, h1.cks hk, h2.cks hk, h3⟩, h.fb.cks hk, h.tb'.cks hk, h.old.trans hB, Nat.le_trans h.sz hk.size, h.tb.cks hk⟩
theorem SgI.skip {W0 W : World} {A : Option Addr} {L C k i : Nat} {ls : List LR} {fv tv : Value} {ft tt : ByteArray} {y : RV} (h : SgI W0 A L C ls fv tv ft tt k W) (hx : (flt 0 ls)[k]? = some (i, y)) (hn : inB ft tt y.r = false) : SgI W0 A L C ls fv tv ft tt (k + 1) W :=
  ⟨by obtain ⟨lv, os, h1, h2, h3, h4⟩ := h.li; exact ⟨lv, os, h1, h2, h3, by rw [sgL_snoc hx, hn, h4]; rfl⟩, h.fb, h.tb', h.old, h.sz, h.tb⟩
theorem SgI.app {W0 W W5 W6 : World} {A : Option Addr} {L C k i : Nat} {ls : List LR} {fv tv lv v6 : Value} {ft tt : ByteArray} {y : RV} {os : List RV} (h : SgI W0 A L C ls fv tv ft tt k W) (h1 : Rec19 W (W0.heap.size + 2) 0 [lv]) (h3 : ∀ b, lv.ownBlock = some b → W0.heap.size + 4 ≤ b) (h4 : os = sgL ((flt 0 ls).take k) ft tt) (hB : Below W.heap.size W W5) (hx : (flt 0 ls)[k]? = some (i, y)) (hn : inB ft tt y.r = true) (hI : InsR W5 lv (os ++ [y]) v6 W6) (hl : Lvs W0 A ls) : SgI W0 A L C ls fv tv ft tt (k + 1) (W6.setCell ⟨W0.heap.size + 2, 0, none⟩ v6) := by
  have i5 := h.up hB
  have BS := But.set (b := W0.heap.size + 2) W6 0 v6
  have nb : ∀ b, b ∈ lv.ownBlock.toList → W0.heap.size + 4 ≤ b := fun b hb => h3 b (by simpa using hb)
  have o1 : Below W0.heap.size W0 (W6.setCell ⟨W0.heap.size + 2, 0, none⟩ v6) := (i5.old.trans (hI.off.below (fun b hb => by have := nb b hb; omega) i5.old.size)).trans (BS.below (by omega) (Nat.le_trans i5.old.size hI.off.size))
  refine ⟨⟨v6, os ++ [y], ((h1.below hB).off hI.off (fun q => by have := nb _ q; omega)).putR 0 v6 (by simp), ?_, fun b hb => ?_, by rw [sgL_snoc hx, hn, h4]; rfl⟩, (i5.fb.off hI.off (fun q => by have := nb _ q; omega)).but BS (by omega), (i5.tb'.off hI.off (fun q => by have := nb _ q; omega)).but BS (by omega), o1, Nat.le_trans i5.sz (Nat.le_trans hI.off.size BS.size), ⟨?_, hl.below o1⟩⟩
  · refine hI.own.off (Off.but (bs := [W0.heap.size + 2]) BS (by simp)) (fun b hb q => ?_)
    rcases List.mem_singleton.1 q with rfl
    rcases hI.blk _ hb with z | z
    · have := h3 _ z; omega
    · have := i5.sz; omega
  · rcases hI.blk b hb with z | z
    · exact h3 b z
    · exact Nat.le_trans i5.sz z
  · have c1 := (hI.off.cell (p := ⟨W0.heap.size + 3, 0, none⟩) (by have := i5.sz; show W0.heap.size + 3 < _; omega) (fun q => by have := nb _ q; simp at this)).trans i5.tb.bx
    exact (BS.cell (p := ⟨W0.heap.size + 3, 0, none⟩) (by have := i5.sz; have := hI.off.size; show W0.heap.size + 3 < _; omega) (by show W0.heap.size + 3 ≠ _; omega)).trans c1
/-- What spanning answers. -/
def SgPost (W : World) (l : List RV) (e : Ending) (w' : World) : Prop := ∃ a c, e = .returned (.slice a l.length c) ∧ LsR w' a l ∧ Below W.heap.size W w'
set_option maxRecDepth 100000 in
set_option maxHeartbeats 4000000 in
theorem spanning_any {W0 : World} {A : Option Addr} {ls : List LR} {N M : List Nat} {fv tv : Value} {ft tt : ByteArray} (L C : Nat) (hL : ls.length = L) (h : Lvs W0 A ls) (h4 : L ≤ 4) (hs : ∀ x ∈ ls, x.rs.length ≤ 1000) (hf : Txt W0 N fv ft) (ht : Txt W0 M tv tt) : Calls Try.prog 60 #[.slice A L C, fv, tv] W0 (SgPost W0 (sgL (flt 0 ls) ft tt)) := by
  have HL := hidIt h
  have HN := hidIt (And.intro hL (And.intro h4 hs))
  have HF := hidIt hf
  have HT := hidIt ht
  obtain ⟨fa, fC, ff, hfv, _⟩ := hf
  obtain ⟨fn, hfn⟩ : ∃ fn, fn = ft.size := ⟨_, rfl⟩
  rw [← hfn] at hfv
  subst hfv
  clear hfn
  obtain ⟨ta, tC, tf, htv, _⟩ := ht
  obtain ⟨tn, htn⟩ : ∃ tn, tn = tt.size := ⟨_, rfl⟩
  rw [← htn] at htv
  have TN := hidIt htn
  subst htv
  clear htn
  have ST : Hid (∀ W, Below W0.heap.size W0 W → W.heap.size = W0.heap.size + 4 → Rec19 W W0.heap.size 0 [.slice fa fn fC] → Rec19 W (W0.heap.size + 1) 0 [.slice ta tn tC] → Rec19 W (W0.heap.size + 2) 0 [.slice none 0 0] → W.cell? ⟨W0.heap.size + 3, 0, none⟩ = some (.slice A L C) → SgI W0 A L C ls (.slice fa fn fC) (.slice ta tn tC) ft tt 0 W) := hidIt (fun W hB hz h1 h2 h3 h5 => ⟨⟨_, [], h3, OwnR.nil _ _, fun b hb => (by cases hb), rfl⟩, h1, h2, hB, Nat.le_of_eq hz.symm, ⟨h5, h.below hB⟩⟩)
  clear h hL hs h4
  refine (callsIn_wide (n := 5)).1 ?_
  refine callsIn_of_wp_marks Try.func60 rfl trivial ?_ rfl
  simp only [Try.ntmps60, List.size_toArray, List.length_cons, List.length_nil, Nat.reduceAdd, Nat.reduceSub, Array.replicate_succ, Array.replicate_zero, List.push_toArray, List.append_toArray, List.nil_append, List.cons_append]
  gi_wp2
  refine ⟨trivial, ?_⟩
  refine CallsIn.mono (tables_in _ _ trivial rfl A L C _) ?_
  rintro e Ws ⟨rfl, hw⟩
  have I0 : SgI W0 A L C ls (.slice fa fn fC) (.slice ta tn tC) ft tt 0 Ws ∧ Ws.heap.size = W0.heap.size + 4 := by
    have z : Ws.heap.size = W0.heap.size + 4 := by rw [hw]; simp
    have b1 : Below W0.heap.size W0 (W0.alloc (.cells #[.slice fa fn fC] 43)) := (Below.refl _ _).alloc (Nat.le_refl _) _
    have b2 := b1.alloc (Nat.le_trans (Nat.le_refl _) b1.size) (.cells #[.slice ta tn tC] 43)
    have b3 := b2.alloc b2.size (.cells #[.slice none 0 0] 23)
    have b4 := b3.alloc b3.size (.cells #[.slice A L C] 22)
    rw [← hw] at b4
    have s1 : (W0.alloc (.cells #[.slice fa fn fC] 43)).heap.size = W0.heap.size + 1 := by simp
    refine ⟨ST.out Ws b4 z ?_ ?_ ?_ ?_, z⟩
    · have r : Rec19 _ W0.heap.size 0 [.slice fa fn fC] := Rec19.new W0 43 [.slice fa fn fC]
      rw [hw]
      exact ((r.below ((Below.refl _ _).alloc (Nat.le_refl _) _)).below ((Below.refl _ _).alloc (Nat.le_refl _) _)).below ((Below.refl _ _).alloc (Nat.le_refl _) _)
    · have r := Rec19.new (W0.alloc (.cells #[.slice fa fn fC] 43)) 43 [.slice ta tn tC]
      rw [s1] at r
      rw [hw]
      exact (r.below ((Below.refl _ _).alloc (Nat.le_refl _) _)).below ((Below.refl _ _).alloc (Nat.le_refl _) _)
    · have r := Rec19.new ((W0.alloc (.cells #[.slice fa fn fC] 43)).alloc (.cells #[.slice ta tn tC] 43)) 23 [.slice none 0 0]
      rw [show ((W0.alloc (.cells #[.slice fa fn fC] 43)).alloc (.cells #[.slice ta tn tC] 43)).heap.size = W0.heap.size + 2 by simp] at r
      rw [hw]
      exact r.below ((Below.refl _ _).alloc (Nat.le_refl _) _)
    · rw [hw]
      simp [go_sem]
  clear hw
  rw [show ((((W0.alloc (.cells #[.slice fa fn fC] 43)).alloc (.cells #[.slice ta tn tC] 43)).alloc (.cells #[.slice none 0 0] 23)).heap.size) = W0.heap.size + 3 by simp]
  obtain ⟨I0, z1⟩ := I0
  clear ST
  gi_wp2
  refine range_tbl (m := 5) 13 14 (by omega) (W0.heap.size + 3) A L C ls HN.out.1 (by have := HN.out.2.1; omega) (fun x hx => by have := HN.out.2.2 x hx; omega) rfl (SgI W0 A L C ls (.slice fa fn fC) (.slice ta tn tC) ft tt) (fun _ _ => False) (fun s W W' row h hg hr => ?_) (fun s W W' row h hg hr => h) (fun k W W' h hB => h.up hB) (fun k W h => h.tb) I0 ?_ ?_ (fun _ _ _ _ h _ => h.elim)
  · exact h.cks (Cks.grown hg (fun r e => (hr r e).2)) ((Below.refl _ _).grown hg (by have := h.sz; omega) (fun r e => by have := (hr r e).1; omega))
  · intro l k i y X hx hI hl1 hl2 hlr
    have OK := hidIt (flt_ok hI.tb.lv hx)
    have FEW : Hid ((sgL ((flt 0 ls).take k) ft tt).length ≤ 10000) := hidIt (by
      unfold sgL
      refine Nat.le_trans (List.length_filter_le _ _) ?_
      rw [List.length_map, List.length_take]
      have := flt_few HN.out.2.2 (b := 0)
      have := HN.out.1
      have := HN.out.2.1
      omega)
    have HX := hidIt hx
    have II := hidIt hI
    have LR := hidIt hlr
    clear hI I0 hx hlr
    rw [z1] at hl1 ⊢
    simp only [List.setIfInBounds_toArray, List.set_cons_zero, List.set_cons_succ]
    gi_wp2_with (first
      | (refine fen_alloc rfl 45 rfl _ X.heap.size rfl run_zero ?_; intro Y1 R1 B1 y1; have P1 := hidIt R1; have E1 := hidIt (And.intro B1 y1); clear R1 B1 y1)
      | (refine fen_store rfl 45 (.tmp 9) (.tmp 14) rfl X.heap.size 0 _ y.cs rfl rfl P1.out rfl run_size OK.out.1.one ?_; intro Y2 R2 B2; have E2 := hidIt (E1.out.1.trans (B2.below (Nat.le_refl _) (by have := E1.out.2; omega))); have P2 := hidIt R2; clear R2 B2))
    refine ⟨keeps_below E2.out, fun X2 hB2 hz2 => ?_⟩
    have CK : Cks Y2 X2 := Cks.but hB2 (by obtain ⟨r, hr⟩ := LR.out; exact ⟨r, (E2.out.block l hl2).trans hr⟩)
    have hBl : Below W0.heap.size Y2 X2 := hB2.below (by omega) (by have := (II.out.up E2.out).sz; omega)
    obtain ⟨lv, os, l1, l2, l3, l4⟩ := II.out.li
    have NB : Hid (∀ b, b ∈ lv.ownBlock.toList → W0.heap.size + 4 ≤ b ∧ b < X.heap.size) := hidIt (fun b hb => ⟨l3 b (by simpa using hb), l2.lt (by simpa using hb)⟩)
    have LI := hidIt (And.intro ((l1.below E2.out).cks CK) (And.intro ((l2.below E2.out).cks CK) (And.intro l3 l4)))
    have FW : Hid (os.length ≤ 10000) := hidIt (by rw [l4]; exact FEW.out)
    have ID := hidIt ((II.out.up E2.out).cks CK hBl)
    have PD := hidIt (P2.out.cks CK)
    have YD := hidIt ((OK.out.1.below E2.out).cks CK)
    have FX := hidIt (HF.out.below (ID.out.old))
    have TX := hidIt (HT.out.below (ID.out.old))
    have c0 : X2.cell? ⟨W0.heap.size, 0, none⟩ = some (.slice fa fn fC) := (ID.out.fb.cel 0 _ rfl).1
    have cy : X2.cell? ⟨X.heap.size, 3, none⟩ = some y.f := (PD.out.cel 3 _ rfl).1
    have XZ : Hid (W0.heap.size + 4 ≤ X.heap.size) := hidIt II.out.sz
    obtain ⟨Hb, hHb⟩ : ∃ Hb, Hb = X.heap.size := ⟨_, rfl⟩
    rw [← hHb] at PD NB XZ cy ⊢
    clear CK hBl P2 E2 P1 E1 LR hB2 hl1 hl2 II hHb l1 l2 l3 l4 FEW z1 hz2
    have CM := hidIt (ycmp_any YD.out.1 FX.out)
    by_cases hc : cmpB y.r.f ft < 0
    · have cl : (cmpB y.r.f ft < 0) = True := eq_true hc
      have LWE : Hid (lowB ft y.r = ft) := hidIt (by unfold lowB; rw [if_pos hc])
      have LW := FX
      clear hc
      have PY := PD.out.1
      gi_wp2
      refine ⟨trivial, ?_⟩
      refine CallsIn.mono ((callsIn_wide (n := _)).2 CM.out) ?_
      rintro e w5 ⟨rfl, hw⟩
      rw [hw]
      clear hw CM w5
      gi_wp2_with (refine fen_load rfl 45 (.tmp 9) rfl Hb 0 y.cs rfl _ PY Try.underlying45 rfl run_size ?_)
      refine ⟨trivial, ?_⟩
      refine CallsIn.mono ((callsIn_wide (n := _)).2 (spans_any YD.out LW.out)) ?_
      rintro e W5 ⟨rfl, b5⟩
      have D5 := hidIt b5
      clear b5 c0 cy PY cl
      have I5 := hidIt (ID.out.up D5.out)
      have c1 : W5.cell? ⟨W0.heap.size + 1, 0, none⟩ = some (.slice ta tn tC) := (I5.out.tb'.cel 0 _ rfl).1
      have KB := hidIt (keeps_below (B := W0.heap.size + 4) D5.out)
      cases hsp : spnB y.r (ft) with
      | false =>
        have NX : Hid (SgI W0 A L C ls (.slice fa fn fC) (.slice ta tn tC) ft tt (k + 1) W5) := hidIt (I5.out.skip HX.out (by unfold inB; rw [LWE.out, hsp]; rfl))
        clear hsp
        gi_wp2
        all_goals (first | (rename_i q _; injection q with q; cases q) | (refine ⟨trivial, ?_⟩; gi_wp2; exact ⟨KB.out, NX.out⟩))
      | true =>
        have SP := hidIt hsp
        clear hsp
        by_cases h0 : tn = 0
        · have e0 : ((tn : Int) == 0) = true := by simp [h0]
          have e0' : (tn = 0) = True := eq_true h0
          have IN : Hid (inB ft tt y.r = true) := hidIt (by unfold inB; rw [LWE.out, SP.out, decide_eq_true (by rw [← TN.out]; exact h0)]; rfl)
          clear h0
          gi_wp2
          refine ⟨trivial, ?_⟩
          have cl : W5.cell? ⟨W0.heap.size + 2, 0, none⟩ = some lv := ((LI.out.1.below D5.out).cel 0 _ rfl).1
          have PY := (PD.out.below D5.out).1
          obtain ⟨W6, hW6⟩ : ∃ W6, W6 = W5.alloc (.cells y.cs.toArray 45) := ⟨_, rfl⟩
          have A6 : Below W5.heap.size W5 W6 := by rw [hW6]; exact (Below.refl _ _).alloc (Nat.le_refl _) _
          have E6 := hidIt (D5.out.trans (A6.mono D5.out.size))
          have R6 : Rec19 W6 W5.heap.size 0 (rcs [y]) := by rw [hW6, rcs_single]; exact Rec19.new W5 _ y.cs
          obtain ⟨v7, W7, hr7, I7⟩ := app_runs 23 W6 lv os [y] ⟨W5.heap.size, 0, none⟩ 1 (LI.out.2.1.below E6.out) (fun j u hj => by rw [Addr.add_mid]; exact R6.1 j u hj) (by rw [rcs_single]; exact YD.out.one) (by simp) (by have := FW.out; simp; omega)
          simp only [List.length_singleton] at hr7
          have NX := hidIt (ID.out.app LI.out.1 LI.out.2.2.1 LI.out.2.2.2 E6.out HX.out IN.out I7 HL.out)
          have BS := But.set (b := W0.heap.size + 2) W7 0 v7
          have KK := hidIt (((keeps_below (B := W0.heap.size + 4) E6.out).trans (rkeeps_off (B := W0.heap.size + 4) I7.off (LI.out.2.1.below E6.out))).trans (keeps_but (B := W0.heap.size + 4) BS (by omega)))
          have B7 := hidIt (((LI.out.1.below E6.out).off I7.off (fun q => by have := NB.out _ q; omega)))
          obtain ⟨a7, cap7, hv7, _⟩ := I7.own.sl
          have hr8 := store_v 23 (by kernel_rfl) (v := v7) (by rw [hv7]; rfl) (by rw [hv7]; rfl) (B7.out.cel 0 lv rfl).1 (B7.out.cel 0 lv rfl).2
          have HW6 := hidIt hW6
          generalize W7.setCell ⟨W0.heap.size + 2, 0, none⟩ v7 = W8 at *
          clear hW6 A6 R6 I7 BS hv7
          gi_wp2_with (first
            | (refine fen_load rfl 45 (.tmp 9) rfl Hb 0 y.cs rfl _ PY Try.underlying45 rfl run_size ?_; clear PY)
            | (refine fen_run rfl (by intro c hc; cases hc) (by simp [Oper.about]) (.slice (some ⟨W5.heap.size, 0, none⟩) 1 1) (w' := W6) (by rw [HW6.out]; exact bsl_run 23 45 1 _ rfl 5 72 _ _ _ under_runs info_run (by decide) (by decide) rfl (by kernel_rfl)) ?_)
            | (refine fen_append rfl (.tmp 36) (.tmp 38) 23 23 rfl _ _ rfl rfl hr7 ?_; clear hr7)
            | (refine fen_mute rfl (by intro c hc; cases hc) (by simp [Oper.about]) (w' := W8) (put_mute 23 (.tmp 7) (.tmp 39) rfl _ _ rfl rfl hr8) ?_; clear hr8))
          exact ⟨KK.out, NX.out⟩
        · have e0 : ((tn : Int) == 0) = false := by simp [h0]
          have e0' : (tn = 0) = False := eq_false h0
          have C2 := hidIt (ycmp_any (LW.out.below D5.out) (TX.out.below D5.out))
          by_cases h1 : cmpB (ft) tt < 0
          · have e1 : (cmpB (ft) tt < 0) = True := eq_true h1
            have IN : Hid (inB ft tt y.r = true) := hidIt (by unfold inB; rw [LWE.out, SP.out, decide_eq_true h1]; simp)
            clear h0 h1
            gi_wp2
            refine ⟨trivial, ?_⟩
            refine CallsIn.mono ((callsIn_wide (n := _)).2 C2.out) ?_
            rintro e w6 ⟨rfl, hw⟩
            rw [hw]
            clear hw C2 w6
            have cl : W5.cell? ⟨W0.heap.size + 2, 0, none⟩ = some lv := ((LI.out.1.below D5.out).cel 0 _ rfl).1
            have PY := (PD.out.below D5.out).1
            obtain ⟨W6, hW6⟩ : ∃ W6, W6 = W5.alloc (.cells y.cs.toArray 45) := ⟨_, rfl⟩
            have A6 : Below W5.heap.size W5 W6 := by rw [hW6]; exact (Below.refl _ _).alloc (Nat.le_refl _) _
            have E6 := hidIt (D5.out.trans (A6.mono D5.out.size))
            have R6 : Rec19 W6 W5.heap.size 0 (rcs [y]) := by rw [hW6, rcs_single]; exact Rec19.new W5 _ y.cs
            obtain ⟨v7, W7, hr7, I7⟩ := app_runs 23 W6 lv os [y] ⟨W5.heap.size, 0, none⟩ 1 (LI.out.2.1.below E6.out) (fun j u hj => by rw [Addr.add_mid]; exact R6.1 j u hj) (by rw [rcs_single]; exact YD.out.one) (by simp) (by have := FW.out; simp; omega)
            simp only [List.length_singleton] at hr7
            have NX := hidIt (ID.out.app LI.out.1 LI.out.2.2.1 LI.out.2.2.2 E6.out HX.out IN.out I7 HL.out)
            have BS := But.set (b := W0.heap.size + 2) W7 0 v7
            have KK := hidIt (((keeps_below (B := W0.heap.size + 4) E6.out).trans (rkeeps_off (B := W0.heap.size + 4) I7.off (LI.out.2.1.below E6.out))).trans (keeps_but (B := W0.heap.size + 4) BS (by omega)))
            have B7 := hidIt (((LI.out.1.below E6.out).off I7.off (fun q => by have := NB.out _ q; omega)))
            obtain ⟨a7, cap7, hv7, _⟩ := I7.own.sl
            have hr8 := store_v 23 (by kernel_rfl) (v := v7) (by rw [hv7]; rfl) (by rw [hv7]; rfl) (B7.out.cel 0 lv rfl).1 (B7.out.cel 0 lv rfl).2
            have HW6 := hidIt hW6
            generalize W7.setCell ⟨W0.heap.size + 2, 0, none⟩ v7 = W8 at *
            clear hW6 A6 R6 I7 BS hv7
            gi_wp2_with (first
              | (refine fen_load rfl 45 (.tmp 9) rfl Hb 0 y.cs rfl _ PY Try.underlying45 rfl run_size ?_; clear PY)
              | (refine fen_run rfl (by intro c hc; cases hc) (by simp [Oper.about]) (.slice (some ⟨W5.heap.size, 0, none⟩) 1 1) (w' := W6) (by rw [HW6.out]; exact bsl_run 23 45 1 _ rfl 5 72 _ _ _ under_runs info_run (by decide) (by decide) rfl (by kernel_rfl)) ?_)
              | (refine fen_append rfl (.tmp 36) (.tmp 38) 23 23 rfl _ _ rfl rfl hr7 ?_; clear hr7)
              | (refine fen_mute rfl (by intro c hc; cases hc) (by simp [Oper.about]) (w' := W8) (put_mute 23 (.tmp 7) (.tmp 39) rfl _ _ rfl rfl hr8) ?_; clear hr8))
            exact ⟨KK.out, NX.out⟩
          · have e1 : (cmpB (ft) tt < 0) = False := eq_false h1
            have NX : Hid (SgI W0 A L C ls (.slice fa fn fC) (.slice ta tn tC) ft tt (k + 1) W5) := hidIt (I5.out.skip HX.out (by unfold inB; rw [LWE.out, SP.out, decide_eq_false h1, decide_eq_false (by rw [← TN.out]; exact h0)]; rfl))
            clear h0 h1
            gi_wp2
            refine ⟨trivial, ?_⟩
            refine CallsIn.mono ((callsIn_wide (n := _)).2 C2.out) ?_
            rintro e w6 ⟨rfl, hw⟩
            rw [hw]
            clear hw C2 w6
            gi_wp2
            exact ⟨KB.out, NX.out⟩
    · have cl : (cmpB y.r.f ft < 0) = False := eq_false hc
      have LWE : Hid (lowB ft y.r = y.r.f) := hidIt (by unfold lowB; rw [if_neg hc])
      have LW := hidIt YD.out.1
      clear hc
      have PY := PD.out.1
      gi_wp2
      refine ⟨trivial, ?_⟩
      refine CallsIn.mono ((callsIn_wide (n := _)).2 CM.out) ?_
      rintro e w5 ⟨rfl, hw⟩
      rw [hw]
      clear hw CM w5
      gi_wp2_with (refine fen_load rfl 45 (.tmp 9) rfl Hb 0 y.cs rfl _ PY Try.underlying45 rfl run_size ?_)
      refine ⟨trivial, ?_⟩
      refine CallsIn.mono ((callsIn_wide (n := _)).2 (spans_any YD.out LW.out)) ?_
      rintro e W5 ⟨rfl, b5⟩
      have D5 := hidIt b5
      clear b5 c0 cy PY cl
      have I5 := hidIt (ID.out.up D5.out)
      have c1 : W5.cell? ⟨W0.heap.size + 1, 0, none⟩ = some (.slice ta tn tC) := (I5.out.tb'.cel 0 _ rfl).1
      have KB := hidIt (keeps_below (B := W0.heap.size + 4) D5.out)
      cases hsp : spnB y.r (y.r.f) with
      | false =>
        have NX : Hid (SgI W0 A L C ls (.slice fa fn fC) (.slice ta tn tC) ft tt (k + 1) W5) := hidIt (I5.out.skip HX.out (by unfold inB; rw [LWE.out, hsp]; rfl))
        clear hsp
        gi_wp2
        all_goals (first | (rename_i q _; injection q with q; cases q) | (refine ⟨trivial, ?_⟩; gi_wp2; exact ⟨KB.out, NX.out⟩))
      | true =>
        have SP := hidIt hsp
        clear hsp
        by_cases h0 : tn = 0
        · have e0 : ((tn : Int) == 0) = true := by simp [h0]
          have e0' : (tn = 0) = True := eq_true h0
          have IN : Hid (inB ft tt y.r = true) := hidIt (by unfold inB; rw [LWE.out, SP.out, decide_eq_true (by rw [← TN.out]; exact h0)]; rfl)
          clear h0
          gi_wp2
          refine ⟨trivial, ?_⟩
          have cl : W5.cell? ⟨W0.heap.size + 2, 0, none⟩ = some lv := ((LI.out.1.below D5.out).cel 0 _ rfl).1
          have PY := (PD.out.below D5.out).1
          obtain ⟨W6, hW6⟩ : ∃ W6, W6 = W5.alloc (.cells y.cs.toArray 45) := ⟨_, rfl⟩
          have A6 : Below W5.heap.size W5 W6 := by rw [hW6]; exact (Below.refl _ _).alloc (Nat.le_refl _) _
          have E6 := hidIt (D5.out.trans (A6.mono D5.out.size))
          have R6 : Rec19 W6 W5.heap.size 0 (rcs [y]) := by rw [hW6, rcs_single]; exact Rec19.new W5 _ y.cs
          obtain ⟨v7, W7, hr7, I7⟩ := app_runs 23 W6 lv os [y] ⟨W5.heap.size, 0, none⟩ 1 (LI.out.2.1.below E6.out) (fun j u hj => by rw [Addr.add_mid]; exact R6.1 j u hj) (by rw [rcs_single]; exact YD.out.one) (by simp) (by have := FW.out; simp; omega)
          simp only [List.length_singleton] at hr7
          have NX := hidIt (ID.out.app LI.out.1 LI.out.2.2.1 LI.out.2.2.2 E6.out HX.out IN.out I7 HL.out)
          have BS := But.set (b := W0.heap.size + 2) W7 0 v7
          have KK := hidIt (((keeps_below (B := W0.heap.size + 4) E6.out).trans (rkeeps_off (B := W0.heap.size + 4) I7.off (LI.out.2.1.below E6.out))).trans (keeps_but (B := W0.heap.size + 4) BS (by omega)))
          have B7 := hidIt (((LI.out.1.below E6.out).off I7.off (fun q => by have := NB.out _ q; omega)))
          obtain ⟨a7, cap7, hv7, _⟩ := I7.own.sl
          have hr8 := store_v 23 (by kernel_rfl) (v := v7) (by rw [hv7]; rfl) (by rw [hv7]; rfl) (B7.out.cel 0 lv rfl).1 (B7.out.cel 0 lv rfl).2
          have HW6 := hidIt hW6
          generalize W7.setCell ⟨W0.heap.size + 2, 0, none⟩ v7 = W8 at *
          clear hW6 A6 R6 I7 BS hv7
          gi_wp2_with (first
            | (refine fen_load rfl 45 (.tmp 9) rfl Hb 0 y.cs rfl _ PY Try.underlying45 rfl run_size ?_; clear PY)
            | (refine fen_run rfl (by intro c hc; cases hc) (by simp [Oper.about]) (.slice (some ⟨W5.heap.size, 0, none⟩) 1 1) (w' := W6) (by rw [HW6.out]; exact bsl_run 23 45 1 _ rfl 5 72 _ _ _ under_runs info_run (by decide) (by decide) rfl (by kernel_rfl)) ?_)
            | (refine fen_append rfl (.tmp 36) (.tmp 38) 23 23 rfl _ _ rfl rfl hr7 ?_; clear hr7)
            | (refine fen_mute rfl (by intro c hc; cases hc) (by simp [Oper.about]) (w' := W8) (put_mute 23 (.tmp 7) (.tmp 39) rfl _ _ rfl rfl hr8) ?_; clear hr8))
          exact ⟨KK.out, NX.out⟩
        · have e0 : ((tn : Int) == 0) = false := by simp [h0]
          have e0' : (tn = 0) = False := eq_false h0
          have C2 := hidIt (ycmp_any (LW.out.below D5.out) (TX.out.below D5.out))
          by_cases h1 : cmpB (y.r.f) tt < 0
          · have e1 : (cmpB (y.r.f) tt < 0) = True := eq_true h1
            have IN : Hid (inB ft tt y.r = true) := hidIt (by unfold inB; rw [LWE.out, SP.out, decide_eq_true h1]; simp)
            clear h0 h1
            gi_wp2
            refine ⟨trivial, ?_⟩
            refine CallsIn.mono ((callsIn_wide (n := _)).2 C2.out) ?_
            rintro e w6 ⟨rfl, hw⟩
            rw [hw]
            clear hw C2 w6
            have cl : W5.cell? ⟨W0.heap.size + 2, 0, none⟩ = some lv := ((LI.out.1.below D5.out).cel 0 _ rfl).1
            have PY := (PD.out.below D5.out).1
            obtain ⟨W6, hW6⟩ : ∃ W6, W6 = W5.alloc (.cells y.cs.toArray 45) := ⟨_, rfl⟩
            have A6 : Below W5.heap.size W5 W6 := by rw [hW6]; exact (Below.refl _ _).alloc (Nat.le_refl _) _
            have E6 := hidIt (D5.out.trans (A6.mono D5.out.size))
            have R6 : Rec19 W6 W5.heap.size 0 (rcs [y]) := by rw [hW6, rcs_single]; exact Rec19.new W5 _ y.cs
            obtain ⟨v7, W7, hr7, I7⟩ := app_runs 23 W6 lv os [y] ⟨W5.heap.size, 0, none⟩ 1 (LI.out.2.1.below E6.out) (fun j u hj => by rw [Addr.add_mid]; exact R6.1 j u hj) (by rw [rcs_single]; exact YD.out.one) (by simp) (by have := FW.out; simp; omega)
            simp only [List.length_singleton] at hr7
            have NX := hidIt (ID.out.app LI.out.1 LI.out.2.2.1 LI.out.2.2.2 E6.out HX.out IN.out I7 HL.out)
            have BS := But.set (b := W0.heap.size + 2) W7 0 v7
            have KK := hidIt (((keeps_below (B := W0.heap.size + 4) E6.out).trans (rkeeps_off (B := W0.heap.size + 4) I7.off (LI.out.2.1.below E6.out))).trans (keeps_but (B := W0.heap.size + 4) BS (by omega)))
            have B7 := hidIt (((LI.out.1.below E6.out).off I7.off (fun q => by have := NB.out _ q; omega)))
            obtain ⟨a7, cap7, hv7, _⟩ := I7.own.sl
            have hr8 := store_v 23 (by kernel_rfl) (v := v7) (by rw [hv7]; rfl) (by rw [hv7]; rfl) (B7.out.cel 0 lv rfl).1 (B7.out.cel 0 lv rfl).2
            have HW6 := hidIt hW6
            generalize W7.setCell ⟨W0.heap.size + 2, 0, none⟩ v7 = W8 at *
            clear hW6 A6 R6 I7 BS hv7
            gi_wp2_with (first
              | (refine fen_load rfl 45 (.tmp 9) rfl Hb 0 y.cs rfl _ PY Try.underlying45 rfl run_size ?_; clear PY)
              | (refine fen_run rfl (by intro c hc; cases hc) (by simp [Oper.about]) (.slice (some ⟨W5.heap.size, 0, none⟩) 1 1) (w' := W6) (by rw [HW6.out]; exact bsl_run 23 45 1 _ rfl 5 72 _ _ _ under_runs info_run (by decide) (by decide) rfl (by kernel_rfl)) ?_)
              | (refine fen_append rfl (.tmp 36) (.tmp 38) 23 23 rfl _ _ rfl rfl hr7 ?_; clear hr7)
              | (refine fen_mute rfl (by intro c hc; cases hc) (by simp [Oper.about]) (w' := W8) (put_mute 23 (.tmp 7) (.tmp 39) rfl _ _ rfl rfl hr8) ?_; clear hr8))
            exact ⟨KK.out, NX.out⟩
          · have e1 : (cmpB (y.r.f) tt < 0) = False := eq_false h1
            have NX : Hid (SgI W0 A L C ls (.slice fa fn fC) (.slice ta tn tC) ft tt (k + 1) W5) := hidIt (I5.out.skip HX.out (by unfold inB; rw [LWE.out, SP.out, decide_eq_false h1, decide_eq_false (by rw [← TN.out]; exact h0)]; rfl))
            clear h0 h1
            gi_wp2
            refine ⟨trivial, ?_⟩
            refine CallsIn.mono ((callsIn_wide (n := _)).2 C2.out) ?_
            rintro e w6 ⟨rfl, hw⟩
            rw [hw]
            clear hw C2 w6
            gi_wp2
            exact ⟨KB.out, NX.out⟩
  · intro D X hD hX hd
    obtain ⟨lv, os, l1, l2, l3, l4⟩ := hX.li
    have cb : X.cell? ⟨W0.heap.size + 2, 0, none⟩ = some lv := (l1.cel 0 _ rfl).1
    have E := hidIt hX
    have LI := hidIt (And.intro l2 l4)
    have HD := hidIt hD
    clear hX I0 l1 l2 l3 l4 hD
    gi_wp2
    refine And.intro (by simp) (Or.inl ⟨_, _, rfl, run_takeDeferred hd, ?_⟩)
    have CK : Cks X (X.putObj D (.deferred none)) := Cks.butN (But.putO X D _) hd rfl
    have hB : Below W0.heap.size X (X.putObj D (.deferred none)) := (But.putO X D _).below (by have := HD.out; omega) (by have := E.out.sz; omega)
    obtain ⟨a, c, hv, _⟩ := LI.out.1.sl
    have o2 := LI.out.1.cks CK
    have oe := LI.out.2
    rw [List.take_length] at oe
    rw [hv] at o2
    refine ⟨lv, by simp [results, Try.results60, go_sem], a, c, by rw [hv, oe], ?_, E.out.old.trans hB⟩
    rw [← oe]
    refine o2.ls (fun x hx => ?_)
    rw [oe] at hx
    unfold sgL at hx
    obtain ⟨q, hq, rfl⟩ := List.mem_map.1 (List.mem_filter.1 hx).1
    obtain ⟨k, hk⟩ := List.mem_iff_getElem?.1 hq
    exact (flt_ok (HL.out.below (E.out.old.trans hB)) (i := q.1) (y := q.2) hk).1
end Go.Proofs.Ytelcijfcgflagaa
