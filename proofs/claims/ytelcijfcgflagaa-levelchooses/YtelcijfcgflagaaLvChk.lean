/-
  Walks, not a claim by itself: whether levels may be. By the verifier.
-/
import Derived.Test.YtelcijfcgflagaaLvSnd
namespace Go.Proofs.Ytelcijfcgflagaa
open Go.RowKit Go.Shelf
attribute [local go_sem] Oper.semAt_some
theorem Rec19.putR {W : World} {n : Nat} {cs : List Value} (h : Rec19 W n 0 cs) (o : Nat) (v : Value) (ho : o < cs.length) : Rec19 (W.setCell ⟨n, o, none⟩ v) n 0 (cs.set o v) := by
  have h0 := h.2.1 o ho
  rw [Nat.zero_add] at h0
  refine ⟨fun j u hj => ?_, fun j hj => ?_, by simp [World.setCell]; exact h.2.2⟩
  · rw [Nat.zero_add]
    by_cases e : j = o
    · subst e
      rw [List.getElem?_set_self ho] at hj
      rw [World.cell?_setCell_same' _ _ _ h0.1, hj]
    · rw [List.getElem?_set_ne (fun q => e q.symm)] at hj
      rw [World.cell?_setCell_other _ (a := ⟨n, o, none⟩) (b := ⟨n, j, none⟩) _ (fun q => e (by injection q with _ q; exact q.symm))]
      have := h.1 j u hj
      rwa [Nat.zero_add] at this
  · rw [List.length_set] at hj
    have := h.2.1 j hj
    rw [Nat.zero_add] at this ⊢
    refine ⟨?_, by simp [this.2]⟩
    by_cases e : j = o
    · subst e
      rw [World.cell?_setCell_same' _ _ _ h0.1]; rfl
    · rw [World.cell?_setCell_other _ (a := ⟨n, o, none⟩) (b := ⟨n, j, none⟩) _ (fun q => e (by injection q with _ q; exact q.symm))]
      exact this.1
theorem store_v (ty : TypeId) (hi : (Try.prog.info? ty).map (·.size) = some 1) {W : World} {t o : Nat} {u v : Value} (hv : v.cells = #[v]) (h1 : v.oneCell' = true) (h : W.cell? ⟨t, o, none⟩ = some u) (hf : W.frozen? ⟨t, o, none⟩ = false) : (Instr.storeAt ty (.pointer (some ⟨t, o, none⟩)) v).run Try.prog W = .ok () (W.setCell ⟨t, o, none⟩ v) := by
  have st := run_storeCells_cells (P := Try.prog) t o [v] 0 W (fun j hj => by simp at hj; subst hj; simp [h]) (fun j hj => by simp at hj; subst hj; simpa using hf) (by simp [h1])
  cases hq : Try.prog.info? ty with
  | none => simp [hq] at hi
  | some i =>
    have hs : i.size = 1 := by simpa [hq] using hi
    simp only [Nat.add_zero] at st
    simp only [Instr.storeAt, Instr.sureAddr, Sem.run_bind, Sem.run_pure, Result.andThen_ok]
    simp [storeVar, sizeOf, typeInfo, hq, hs, hv]
    exact st
/-- The table ahead of the k-th one. -/
def prv (fl : List (Nat × RV)) : Nat → Nat × RV
  | 0 => (0, ⟨.slice none 0 0, .slice none 0 0, ⟨0, 0, 0, .empty, .empty⟩⟩)
  | k + 1 => fl[k]?.getD (0, ⟨.slice none 0 0, .slice none 0 0, ⟨0, 0, 0, .empty, .empty⟩⟩)
theorem prv_succ (fl : List (Nat × RV)) (k : Nat) : prv fl (k + 1) = fl[k]?.getD (0, ⟨.slice none 0 0, .slice none 0 0, ⟨0, 0, 0, .empty, .empty⟩⟩) := rfl
/-- What holds at the head of Check's loop. -/
structure CkI (W0 : World) (A : Option Addr) (L C : Nat) (ls : List LR) (k : Nat) (W : World) : Prop where
  old : Below W0.heap.size W0 W
  sz : W0.heap.size + 4 ≤ W.heap.size
  eb : ∃ v, Rec19 W W0.heap.size 0 [v]
  ab : Rec19 W (W0.heap.size + 1) 0 (prv (flt 0 ls) k).2.cs
  lb : Rec19 W (W0.heap.size + 2) 0 [.int .i64 ((prv (flt 0 ls) k).1 : Int)]
  tb : TbM (W0.heap.size + 3) A L C ls W
  ok : ∀ j, j < k → okJ (flt 0 ls) j
theorem CkI.up {W0 W W' : World} {A : Option Addr} {L C k : Nat} {ls : List LR} (h : CkI W0 A L C ls k W) (hB : Below W.heap.size W W') : CkI W0 A L C ls k W' :=
  ⟨h.old.trans (hB.mono h.old.size), Nat.le_trans h.sz hB.size, (by obtain ⟨v, hv⟩ := h.eb; exact ⟨v, hv.below hB⟩), h.ab.below hB, h.lb.below hB, h.tb.below hB, h.ok⟩
theorem TbM.cks {B L C : Nat} {A : Option Addr} {ls : List LR} {W W' : World} (h : TbM B A L C ls W) (k : Cks W W') : TbM B A L C ls W' := ⟨k.cell h.bx, h.lv.cks k⟩
theorem CkI.cks {W0 W W' : World} {A : Option Addr} {L C k : Nat} {ls : List LR} (h : CkI W0 A L C ls k W) (hk : Cks W W') (hB : Below W0.heap.size W W') : CkI W0 A L C ls k W' :=
  ⟨h.old.trans hB, Nat.le_trans h.sz hk.size, (by obtain ⟨v, hv⟩ := h.eb; exact ⟨v, hv.cks hk⟩), h.ab.cks hk, h.lb.cks hk, h.tb.cks hk, h.ok⟩
theorem CkI.step {W0 W W' : World} {A : Option Addr} {L C k i : Nat} {y : RV} {ls : List LR} (h : CkI W0 A L C ls k W) (hx : (flt 0 ls)[k]? = some (i, y)) (hg : okJ (flt 0 ls) k) (hO : Off [W0.heap.size + 1, W0.heap.size + 2] W W') (h1 : Rec19 W' (W0.heap.size + 1) 0 y.cs) (h2 : Rec19 W' (W0.heap.size + 2) 0 [.int .i64 (i : Int)]) (hl : Lvs W0 A ls) : CkI W0 A L C ls (k + 1) W' := by
  have hp : prv (flt 0 ls) (k + 1) = (i, y) := by rw [prv_succ, hx]; rfl
  refine ⟨h.old.trans (hO.below (fun b hb => by simp at hb; omega) h.old.size), Nat.le_trans h.sz hO.size, ?_, by rw [hp]; exact h1, by rw [hp]; exact h2, ⟨?_, hl.below (h.old.trans (hO.below (fun b hb => by simp at hb; omega) h.old.size))⟩, fun j hj => ?_⟩
  · obtain ⟨v, hv⟩ := h.eb
    exact ⟨v, hv.off hO (by simp)⟩
  · exact (hO.cell (p := ⟨W0.heap.size + 3, 0, none⟩) (by have := h.sz; show W0.heap.size + 3 < _; omega) (by simp)).trans h.tb.bx
  · by_cases e : j = k
    · subst e; exact hg
    · exact h.ok j (by omega)
/-- It was told that they may not be. -/
structure CkX (W0 : World) (ls : List LR) (c : Code) (W : World) : Prop where
  ret : c = .ret
  old : Below W0.heap.size W0 W
  sz : W0.heap.size + 4 ≤ W.heap.size
  eb : Rec19 W W0.heap.size 0 [.int .i64 2]
  no : mayB (rns ls) = false
theorem not_ok {ls : List LR} {j : Nat} (h : ¬ okJ (flt 0 ls) j) : mayB (rns ls) = false := Bool.eq_false_iff.2 fun q => h (okJ_of q j)
theorem prv_ok {W : World} {A : Option Addr} {ls : List LR} (h : Lvs W A ls) (k : Nat) : RVOk W [] (prv (flt 0 ls) k).2 := by
  have z : RVOk W [] ⟨.slice none 0 0, .slice none 0 0, ⟨0, 0, 0, .empty, .empty⟩⟩ := ⟨Txt.nil W [] 0, Txt.nil W [] 0⟩
  cases k with
  | zero => exact z
  | succ k =>
    rw [prv_succ]
    cases e : (flt 0 ls)[k]? with
    | none => exact z
    | some q =>
      obtain ⟨i, y⟩ := q
      obtain ⟨i', k', x, hi, hk, _, _⟩ := flt_has 0 ls k i y e
      exact (h.1 x (List.mem_of_getElem? hi)).1.1 y (List.mem_of_getElem? hk)
theorem flt_ok {W : World} {A : Option Addr} {ls : List LR} (h : Lvs W A ls) {k i : Nat} {y : RV} (e : (flt 0 ls)[k]? = some (i, y)) : RVOk W [] y ∧ i < ls.length := by
  obtain ⟨i', k', x, hi, hk, _, hm⟩ := flt_has 0 ls k i y e
  exact ⟨(h.1 x (List.mem_of_getElem? hi)).1.1 y (List.mem_of_getElem? hk), by have := (List.getElem?_eq_some_iff.1 hi).1; omega⟩
/-- Whether the k-th table stands badly behind the one ahead of it. -/
def badB (fl : List (Nat × RV)) (k i : Nat) : Bool := decide ((i : Int) > 0) && ((i : Int) == ((prv fl k).1 : Int))
theorem okJ_iff {fl : List (Nat × RV)} {k i : Nat} {y : RV} (e : fl[k]? = some (i, y)) : okJ fl k ↔ sndR y.r = true ∧ (badB fl k i = true → cmpB (prv fl k).2.r.l y.r.f < 0) := by
  unfold okJ badB
  constructor
  · intro h
    obtain ⟨h1, h2⟩ := h i y e
    refine ⟨h1, fun q => ?_⟩
    simp only [Bool.and_eq_true, decide_eq_true_eq, beq_iff_eq] at q
    cases k with
    | zero => simp [prv] at q; omega
    | succ k =>
      have lt := (List.getElem?_eq_some_iff.1 e).1
      have e2 : fl[k]? = some fl[k] := List.getElem?_eq_getElem (by omega)
      have hp : prv fl (k + 1) = fl[k] := by rw [prv_succ, e2]; rfl
      rw [hp] at q ⊢
      refine h2 (by omega) (by omega) fl[k].2 ?_
      rw [Nat.add_sub_cancel, e2, show i = fl[k].1 by omega]
  · rintro ⟨h1, h2⟩ i' y' e'
    rw [e] at e'
    injection e' with e'
    injection e' with ea eb
    subst ea eb
    refine ⟨h1, fun h0 hk z hz => ?_⟩
    obtain ⟨k, rfl⟩ : ∃ j, k = j + 1 := ⟨k - 1, by omega⟩
    rw [Nat.add_sub_cancel] at hz
    have hp : prv fl (k + 1) = (i, z) := by rw [prv_succ, hz]; rfl
    rw [hp] at h2
    exact h2 (by simp; omega)
set_option maxRecDepth 100000 in
set_option maxHeartbeats 4000000 in
theorem lcheck_any {W0 : World} {A : Option Addr} {ls : List LR} (L C : Nat) (hL : ls.length = L) (h : Lvs W0 A ls) (hs : ∀ x ∈ ls, x.rs.length ≤ 100000) : Calls Try.prog 17 #[.slice A L C] W0 fun e w' => e = .returned (.int .i64 (mayI (rns ls))) ∧ Below W0.heap.size W0 w' := by
  have HL := hidIt h
  have HN := hidIt (And.intro hL hs)
  by_cases h4 : (4 : Int) < (L : Int)
  · have N : Hid (mayI (rns ls) = 2) := hidIt (by
      unfold mayI mayB
      rw [decide_eq_false (by simp [rns]; omega)]
      simp)
    clear h hL hs
    go_enter Try.func17, Try.ntmps17
    go_wp2
    refine bodyPost_ret (v := .int .i64 2) (by simp [results, Try.results17, go_sem]) rfl ⟨by rw [N.out], ?_⟩
    exact (Below.refl W0.heap.size W0).alloc (Nat.le_refl _) _
  · have ST : Hid (∀ W, Below W0.heap.size W0 W → W.heap.size = W0.heap.size + 4 → (∃ v, Rec19 W W0.heap.size 0 [v]) → Rec19 W (W0.heap.size + 1) 0 (prv (flt 0 ls) 0).2.cs → Rec19 W (W0.heap.size + 2) 0 [.int .i64 0] → W.cell? ⟨W0.heap.size + 3, 0, none⟩ = some (.slice A L C) → CkI W0 A L C ls 0 W) := hidIt (fun W hB hz h1 h2 h3 h5 => ⟨hB, Nat.le_of_eq hz.symm, h1, h2, h3, ⟨h5, h.below hB⟩, fun j hj => by omega⟩)
    have F4 := hidIt (show L ≤ 4 by omega)
    have h4' : ((4 : Int) < (L : Int)) = False := eq_false h4
    clear h hL hs h4
    refine (callsIn_wide (n := 5)).1 ?_
    refine callsIn_of_wp_marks Try.func17 rfl trivial ?_ rfl
    simp only [Try.ntmps17, List.size_toArray, List.length_cons, List.length_nil, Nat.reduceAdd, Nat.reduceSub, Array.replicate_succ, Array.replicate_zero, List.push_toArray, List.append_toArray, List.nil_append, List.cons_append]
    gi_wp2
    refine ⟨trivial, ?_⟩
    refine CallsIn.mono (tables_in _ _ trivial rfl A L C _) ?_
    rintro e Ws ⟨rfl, hw⟩
    have I0 : CkI W0 A L C ls 0 Ws ∧ Ws.heap.size = W0.heap.size + 4 := by
      have z : Ws.heap.size = W0.heap.size + 4 := by rw [hw]; simp
      have b1 : Below W0.heap.size W0 (W0.alloc (.cells #[.int .i64 0] 29)) := (Below.refl _ _).alloc (Nat.le_refl _) _
      have b2 := b1.alloc (Nat.le_trans (Nat.le_refl _) b1.size) (.cells #[.int .i64 0, .int .i64 0, .int .i64 0, .slice none 0 0, .slice none 0 0] 45)
      have b3 := b2.alloc b2.size (.cells #[.int .i64 0] 3)
      have b4 := b3.alloc b3.size (.cells #[.slice A L C] 22)
      rw [← hw] at b4
      have s1 : (W0.alloc (.cells #[.int .i64 0] 29)).heap.size = W0.heap.size + 1 := by simp
      refine ⟨ST.out Ws b4 z ⟨.int .i64 0, ?_⟩ ?_ ?_ ?_, z⟩
      · have r : Rec19 _ W0.heap.size 0 [.int .i64 0] := Rec19.new W0 29 [.int .i64 0]
        rw [hw]
        exact ((r.below ((Below.refl _ _).alloc (Nat.le_refl _) _)).below ((Below.refl _ _).alloc (Nat.le_refl _) _)).below ((Below.refl _ _).alloc (Nat.le_refl _) _)
      · have r := Rec19.new (W0.alloc (.cells #[.int .i64 0] 29)) 45 [.int .i64 0, .int .i64 0, .int .i64 0, .slice none 0 0, .slice none 0 0]
        rw [s1] at r
        rw [hw]
        exact (r.below ((Below.refl _ _).alloc (Nat.le_refl _) _)).below ((Below.refl _ _).alloc (Nat.le_refl _) _)
      · have r := Rec19.new ((W0.alloc (.cells #[.int .i64 0] 29)).alloc (.cells #[.int .i64 0, .int .i64 0, .int .i64 0, .slice none 0 0, .slice none 0 0] 45)) 3 [.int .i64 0]
        rw [show ((W0.alloc (.cells #[.int .i64 0] 29)).alloc (.cells #[.int .i64 0, .int .i64 0, .int .i64 0, .slice none 0 0, .slice none 0 0] 45)).heap.size = W0.heap.size + 2 by simp] at r
        rw [hw]
        exact r.below ((Below.refl _ _).alloc (Nat.le_refl _) _)
      · rw [hw]
        simp [go_sem]
    clear hw
    rw [show ((((W0.alloc (.cells #[.int .i64 0] 29)).alloc (.cells #[.int .i64 0, .int .i64 0, .int .i64 0, .slice none 0 0, .slice none 0 0] 45)).alloc (.cells #[.int .i64 0] 3)).heap.size) = W0.heap.size + 3 by simp]
    obtain ⟨I0, z1⟩ := I0
    gi_wp2
    refine range_tbl (m := 5) 12 13 (by omega) (W0.heap.size + 3) A L C ls HN.out.1 (by have := F4.out; omega) HN.out.2 rfl (CkI W0 A L C ls) (CkX W0 ls) (fun s W W' row h hg hr => ?_) (fun s W W' row h hg hr => ?_) (fun k W W' h hB => h.up hB) (fun k W h => h.tb) I0 ?_ ?_ ?_
    · exact h.cks (Cks.grown hg (fun r e => (hr r e).2)) ((Below.refl _ _).grown hg (by have := h.sz; omega) (fun r e => by have := (hr r e).1; omega))
    · exact ⟨h.ret, h.old.trans ((Below.refl _ _).grown hg (by have := h.sz; omega) (fun r e => by have := (hr r e).1; omega)), by have := h.sz; have := hg.size; omega, h.eb.cks (Cks.grown hg (fun r e => (hr r e).2)), h.no⟩
    · intro l k i y X hx hI hl1 hl2 hlr
      have OK := hidIt (flt_ok hI.tb.lv hx)
      have HX := hidIt hx
      have II := hidIt hI
      have LR := hidIt hlr
      clear hI I0 hx hlr ST
      rw [z1] at hl1 ⊢
      simp only [List.setIfInBounds_toArray, List.set_cons_zero, List.set_cons_succ]
      gi_wp2_with (first
        | (refine fen_alloc rfl 45 rfl _ X.heap.size rfl run_zero ?_; intro Y1 R1 B1 y1; have P1 := hidIt R1; have E1 := hidIt (And.intro B1 y1); clear R1 B1 y1)
        | (refine fen_store rfl 45 (.tmp 6) (.tmp 13) rfl X.heap.size 0 _ y.cs rfl rfl P1.out rfl run_size OK.out.1.one ?_; intro Y2 R2 B2; have E2 := hidIt (E1.out.1.trans (B2.below (Nat.le_refl _) (by have := E1.out.2; omega))); have P2 := hidIt R2; clear R2 B2))
      refine ⟨keeps_below E2.out, fun X2 hB2 hz2 => ?_⟩
      have CK : Cks Y2 X2 := Cks.but hB2 (by obtain ⟨r, hr⟩ := LR.out; exact ⟨r, (E2.out.block l hl2).trans hr⟩)
      have hBl : Below W0.heap.size Y2 X2 := hB2.below (by omega) (by have := (II.out.up E2.out).sz; omega)
      have ID := hidIt ((II.out.up E2.out).cks CK hBl)
      have PD := hidIt (P2.out.cks CK)
      have YO := hidIt ((OK.out.1.below E2.out).cks CK)
      obtain ⟨k0, k1, k2, k3, k4⟩ := five_cells PD.out.1
      have XZ : Hid (W0.heap.size + 4 ≤ X.heap.size) := hidIt II.out.sz
      obtain ⟨Hb, hHb⟩ : ∃ Hb, Hb = X.heap.size := ⟨_, rfl⟩
      rw [← hHb] at k0 k1 k2 k3 k4 PD XZ ⊢
      clear CK hBl P2 E2 P1 E1 LR hB2 hl1 hl2 II hHb
      have SD := hidIt (sound_any YO.out)
      obtain ⟨ok, hok⟩ : ∃ ok, ok = sndR y.r := ⟨_, rfl⟩
      rw [← hok] at SD
      have OKB := hidIt hok
      clear hok
      gi_wp2
      refine ⟨trivial, ?_⟩
      refine CallsIn.mono ((callsIn_wide (n := _)).2 SD.out) ?_
      rintro e W4 ⟨rfl, B4⟩
      have I4 := hidIt (ID.out.up B4)
      have K4 := hidIt (keeps_below (B := W0.heap.size + 4) B4)
      have Y4 := hidIt (YO.out.below B4)
      obtain ⟨ev, hev⟩ := I4.out.eb
      have ec := (hev.cel 0 _ rfl).1
      have ef := (hev.cel 0 _ rfl).2
      have HE := hidIt hev
      have P4 := hidIt (PD.out.below B4)
      obtain ⟨q0, q1, q2, q3, q4⟩ := five_cells P4.out.1
      have lc := (I4.out.lb.cel 0 _ rfl).1
      have ac := (I4.out.ab.cel 4 _ rfl).1
      have PO := hidIt (prv_ok I4.out.tb.lv k)
      clear hev k0 k1 k2 k3 k4 SD B4 PD YO ID
      have BAD : Hid (∀ W', But W0.heap.size W4 W' → Rec19 W' W0.heap.size 0 [.int .i64 2] → mayB (rns ls) = false → KeepsFrom (W0.heap.size + 4) X2 W' ∧ CkX W0 ls .ret W') := hidIt (fun W' hb hr hn => ⟨K4.out.trans (keeps_but hb (by omega)), rfl, I4.out.old.trans (hb.below (Nat.le_refl _) I4.out.old.size), Nat.le_trans I4.out.sz hb.size, hr, hn⟩)
      cases ok with
      | false =>
        have NO := hidIt (not_ok (j := k) (fun q => by have := ((okJ_iff HX.out).1 q).1; rw [← OKB.out] at this; cases this))
        gi_wp2
        exact BAD.out _ (But.set _ _ _) (HE.out.putR 0 _ (by simp)) NO.out
      | true =>
        obtain ⟨pl, hpl⟩ : ∃ pl, pl = (prv (flt 0 ls) k).1 := ⟨_, rfl⟩
        rw [← hpl] at lc
        have bb : badB (flt 0 ls) k i = (decide ((i : Int) > 0) && ((i : Int) == (pl : Int))) := by unfold badB; rw [hpl]
        have HPL := hidIt hpl
        clear hpl
        by_cases h0 : (0 : Int) < (i : Int)
        · have g0 : ((0 : Int) < (i : Int)) = True := eq_true h0
          have g0' : (0 < i) = True := eq_true (by omega)
          by_cases h1 : (i : Int) = (pl : Int)
          · have g1 : ((i : Int) == (pl : Int)) = true := by simp [h1]
            have g1' : (i == pl) = true := by simp; omega
            have g1'' : (i = pl) = True := eq_true (by omega)
            have BT : Hid (badB (flt 0 ls) k i = true) := hidIt (by rw [bb, g1]; simp; omega)
            have CM := hidIt (ycmp_any PO.out.2 Y4.out.1)
            clear h0 h1 bb
            by_cases hc : (0 : Int) ≤ cmpB (prv (flt 0 ls) k).2.r.l y.r.f
            · have NO := hidIt (not_ok (j := k) (fun q => by have := ((okJ_iff HX.out).1 q).2 BT.out; omega))
              have g2 : ((0 : Int) ≤ cmpB (prv (flt 0 ls) k).2.r.l y.r.f) = True := eq_true hc
              clear hc
              gi_wp2
              refine ⟨trivial, ?_⟩
              refine CallsIn.mono ((callsIn_wide (n := _)).2 CM.out) ?_
              rintro e w5 ⟨rfl, hw⟩
              rw [hw]
              clear hw CM
              gi_wp2
              exact BAD.out _ (But.set _ _ _) (HE.out.putR 0 _ (by simp)) NO.out
            · have GOOD := hidIt ((okJ_iff HX.out).2 ⟨OKB.out.symm, fun _ => by omega⟩)
              have g2 : ((0 : Int) ≤ cmpB (prv (flt 0 ls) k).2.r.l y.r.f) = False := eq_false hc
              clear hc
              gi_wp2
              refine ⟨trivial, ?_⟩
              refine CallsIn.mono ((callsIn_wide (n := _)).2 CM.out) ?_
              rintro e w5 ⟨rfl, hw⟩
              rw [hw]
              clear hw CM BT PO
              gi_wp2
              have ID := hidIt (I4.out.up (Below.refl _ _).drew)
              have PD := hidIt (P4.out.below (Below.refl _ _).drew)
              have KD := hidIt (K4.out.trans (keeps_below (B := W0.heap.size + 4) (Below.refl W4.heap.size W4).drew))
              have YD := hidIt (Y4.out.below (Below.refl _ _).drew)
              clear q0 q1 q2 q3 q4 lc ac ec ef
              refine region_in (S := fun w' => w'.rangeAt Hb 0 y.cs) (by kernel_rfl) (by kernel_rfl) PD.out.1 (fun hHeld => ?_)
              generalize W4.drew = W5 at *
              refine take_at (i := 0) (v := .int .i64 (i : Int)) (some 32) rfl rfl (by kernel_rfl) (by kernel_rfl) (by kernel_rfl) (fun _ _ _ h => h) (Or.inl ⟨by rfl, ?_⟩) (by assumption) ?_
              · (intro w hSw; (try dsimp only at hSw); go_simp; try with_reducible rfl)
              simp only [Act.put, List.setIfInBounds_toArray, List.set_cons_zero, List.set_cons_succ]
              refine take_at (i := 1) (v := _) (some 33) rfl rfl (by kernel_rfl) (by kernel_rfl) (by kernel_rfl) (fun _ _ _ h => h) (yieldsIf_load_mid (by rfl) _ _ rfl _ _ rfl _ _ (fun w h => h) Try.underlying45 rfl run_size) (by assumption) ?_
              simp only [Act.put, List.setIfInBounds_toArray, List.set_cons_zero, List.set_cons_succ]
              have hr6 := store_v 3 (by kernel_rfl) (v := .int .i64 (i : Int)) rfl rfl (ID.out.lb.cel 0 _ rfl).1 (ID.out.lb.cel 0 _ rfl).2
              have B6 := But.set (b := W0.heap.size + 2) W5 0 (.int .i64 (i : Int))
              have R6 := hidIt (ID.out.lb.putR 0 (.int .i64 (i : Int)) (by simp))
              have O6 := hidIt (Off.but (bs := [W0.heap.size + 1, W0.heap.size + 2]) B6 (by simp))
              generalize W5.setCell ⟨W0.heap.size + 2, 0, none⟩ (.int .i64 (i : Int)) = W6 at *
              have P6 := hidIt (PD.out.but B6 (by have := XZ.out; omega))
              have A6 := hidIt (ID.out.ab.but B6 (by omega))
              refine mute_at (i := 2) none rfl rfl (by rfl) (by kernel_rfl) W6 (put_mute 3 (.tmp 4) (.tmp 32) rfl _ _ rfl rfl hr6) P6.out.1 (fun hHeld => ?_)
              simp only [Act.put]
              obtain ⟨W7, hr7, R7, B7⟩ := A6.out.run_store 45 y.cs rfl run_size YD.out.one
              have O7 := hidIt (O6.out.trans (Off.but (bs := [W0.heap.size + 1, W0.heap.size + 2]) B7 (by simp)))
              have P7 := hidIt (P6.out.but B7 (by have := XZ.out; omega))
              have L7 := hidIt (R6.out.but B7 (by omega))
              refine mute_at (i := 3) none rfl rfl (by rfl) (by kernel_rfl) W7 (put_mute 45 (.tmp 3) (.tmp 33) rfl _ _ rfl rfl hr7) P7.out.1 (fun hHeld => ?_)
              simp only [Act.put]
              refine wpAnyH_done (by kernel_rfl) ?_ _
              exact ⟨rfl, KD.out.trans ((keeps_but B6 (by omega)).trans (keeps_but B7 (by omega))), CkI.step ID.out HX.out (GOOD.out) O7.out R7 L7.out HL.out⟩
          · have g1 : ((i : Int) == (pl : Int)) = false := by simp [h1]
            have g1' : (i == pl) = false := by simp; omega
            have g1'' : (i = pl) = False := eq_false (by omega)
            have GOOD := hidIt ((okJ_iff HX.out).2 ⟨OKB.out.symm, fun q => by rw [bb, g1] at q; simp at q⟩)
            clear h0 h1 bb PO
            gi_wp2
            refine ⟨trivial, ?_⟩
            gi_wp2
            have ID := hidIt (I4.out.up (Below.refl _ _).drew)
            have PD := hidIt (P4.out.below (Below.refl _ _).drew)
            have KD := hidIt (K4.out.trans (keeps_below (B := W0.heap.size + 4) (Below.refl W4.heap.size W4).drew))
            have YD := hidIt (Y4.out.below (Below.refl _ _).drew)
            clear q0 q1 q2 q3 q4 lc ac ec ef
            refine region_in (S := fun w' => w'.rangeAt Hb 0 y.cs) (by kernel_rfl) (by kernel_rfl) PD.out.1 (fun hHeld => ?_)
            generalize W4.drew = W5 at *
            refine take_at (i := 0) (v := .int .i64 (i : Int)) (some 32) rfl rfl (by kernel_rfl) (by kernel_rfl) (by kernel_rfl) (fun _ _ _ h => h) (Or.inl ⟨by rfl, ?_⟩) (by assumption) ?_
            · (intro w hSw; (try dsimp only at hSw); go_simp; try with_reducible rfl)
            simp only [Act.put, List.setIfInBounds_toArray, List.set_cons_zero, List.set_cons_succ]
            refine take_at (i := 1) (v := _) (some 33) rfl rfl (by kernel_rfl) (by kernel_rfl) (by kernel_rfl) (fun _ _ _ h => h) (yieldsIf_load_mid (by rfl) _ _ rfl _ _ rfl _ _ (fun w h => h) Try.underlying45 rfl run_size) (by assumption) ?_
            simp only [Act.put, List.setIfInBounds_toArray, List.set_cons_zero, List.set_cons_succ]
            have hr6 := store_v 3 (by kernel_rfl) (v := .int .i64 (i : Int)) rfl rfl (ID.out.lb.cel 0 _ rfl).1 (ID.out.lb.cel 0 _ rfl).2
            have B6 := But.set (b := W0.heap.size + 2) W5 0 (.int .i64 (i : Int))
            have R6 := hidIt (ID.out.lb.putR 0 (.int .i64 (i : Int)) (by simp))
            have O6 := hidIt (Off.but (bs := [W0.heap.size + 1, W0.heap.size + 2]) B6 (by simp))
            generalize W5.setCell ⟨W0.heap.size + 2, 0, none⟩ (.int .i64 (i : Int)) = W6 at *
            have P6 := hidIt (PD.out.but B6 (by have := XZ.out; omega))
            have A6 := hidIt (ID.out.ab.but B6 (by omega))
            refine mute_at (i := 2) none rfl rfl (by rfl) (by kernel_rfl) W6 (put_mute 3 (.tmp 4) (.tmp 32) rfl _ _ rfl rfl hr6) P6.out.1 (fun hHeld => ?_)
            simp only [Act.put]
            obtain ⟨W7, hr7, R7, B7⟩ := A6.out.run_store 45 y.cs rfl run_size YD.out.one
            have O7 := hidIt (O6.out.trans (Off.but (bs := [W0.heap.size + 1, W0.heap.size + 2]) B7 (by simp)))
            have P7 := hidIt (P6.out.but B7 (by have := XZ.out; omega))
            have L7 := hidIt (R6.out.but B7 (by omega))
            refine mute_at (i := 3) none rfl rfl (by rfl) (by kernel_rfl) W7 (put_mute 45 (.tmp 3) (.tmp 33) rfl _ _ rfl rfl hr7) P7.out.1 (fun hHeld => ?_)
            simp only [Act.put]
            refine wpAnyH_done (by kernel_rfl) ?_ _
            exact ⟨rfl, KD.out.trans ((keeps_but B6 (by omega)).trans (keeps_but B7 (by omega))), CkI.step ID.out HX.out (GOOD.out) O7.out R7 L7.out HL.out⟩
        · obtain rfl : i = 0 := by omega
          have GOOD := hidIt ((okJ_iff HX.out).2 ⟨OKB.out.symm, fun q => by rw [bb] at q; simp at q⟩)
          clear h0 bb PO
          gi_wp2
          refine ⟨trivial, ?_⟩
          gi_wp2
          have ID := hidIt (I4.out.up (Below.refl _ _).drew)
          have PD := hidIt (P4.out.below (Below.refl _ _).drew)
          have KD := hidIt (K4.out.trans (keeps_below (B := W0.heap.size + 4) (Below.refl W4.heap.size W4).drew))
          have YD := hidIt (Y4.out.below (Below.refl _ _).drew)
          clear q0 q1 q2 q3 q4 lc ac ec ef
          refine region_in (S := fun w' => w'.rangeAt Hb 0 y.cs) (by kernel_rfl) (by kernel_rfl) PD.out.1 (fun hHeld => ?_)
          generalize W4.drew = W5 at *
          refine take_at (i := 0) (v := .int .i64 ((0 : Nat) : Int)) (some 32) rfl rfl (by kernel_rfl) (by kernel_rfl) (by kernel_rfl) (fun _ _ _ h => h) (Or.inl ⟨by rfl, ?_⟩) (by assumption) ?_
          · (intro w hSw; (try dsimp only at hSw); go_simp; try with_reducible rfl)
          simp only [Act.put, List.setIfInBounds_toArray, List.set_cons_zero, List.set_cons_succ]
          refine take_at (i := 1) (v := _) (some 33) rfl rfl (by kernel_rfl) (by kernel_rfl) (by kernel_rfl) (fun _ _ _ h => h) (yieldsIf_load_mid (by rfl) _ _ rfl _ _ rfl _ _ (fun w h => h) Try.underlying45 rfl run_size) (by assumption) ?_
          simp only [Act.put, List.setIfInBounds_toArray, List.set_cons_zero, List.set_cons_succ]
          have hr6 := store_v 3 (by kernel_rfl) (v := .int .i64 ((0 : Nat) : Int)) rfl rfl (ID.out.lb.cel 0 _ rfl).1 (ID.out.lb.cel 0 _ rfl).2
          have B6 := But.set (b := W0.heap.size + 2) W5 0 (.int .i64 ((0 : Nat) : Int))
          have R6 := hidIt (ID.out.lb.putR 0 (.int .i64 ((0 : Nat) : Int)) (by simp))
          have O6 := hidIt (Off.but (bs := [W0.heap.size + 1, W0.heap.size + 2]) B6 (by simp))
          generalize W5.setCell ⟨W0.heap.size + 2, 0, none⟩ (.int .i64 ((0 : Nat) : Int)) = W6 at *
          have P6 := hidIt (PD.out.but B6 (by have := XZ.out; omega))
          have A6 := hidIt (ID.out.ab.but B6 (by omega))
          refine mute_at (i := 2) none rfl rfl (by rfl) (by kernel_rfl) W6 (put_mute 3 (.tmp 4) (.tmp 32) rfl _ _ rfl rfl hr6) P6.out.1 (fun hHeld => ?_)
          simp only [Act.put]
          obtain ⟨W7, hr7, R7, B7⟩ := A6.out.run_store 45 y.cs rfl run_size YD.out.one
          have O7 := hidIt (O6.out.trans (Off.but (bs := [W0.heap.size + 1, W0.heap.size + 2]) B7 (by simp)))
          have P7 := hidIt (P6.out.but B7 (by have := XZ.out; omega))
          have L7 := hidIt (R6.out.but B7 (by omega))
          refine mute_at (i := 3) none rfl rfl (by rfl) (by kernel_rfl) W7 (put_mute 45 (.tmp 3) (.tmp 33) rfl _ _ rfl rfl hr7) P7.out.1 (fun hHeld => ?_)
          simp only [Act.put]
          refine wpAnyH_done (by kernel_rfl) ?_ _
          exact ⟨rfl, KD.out.trans ((keeps_but B6 (by omega)).trans (keeps_but B7 (by omega))), CkI.step ID.out HX.out (GOOD.out) O7.out R7 L7.out HL.out⟩
    · intro D X hD hX hd
      obtain ⟨ev, hev⟩ := hX.eb
      have ec := (hev.cel 0 _ rfl).1
      have ef := (hev.cel 0 _ rfl).2
      have E := hidIt hX
      have HD := hidIt hD
      have FI : Hid (mayI (rns ls) = 0) := hidIt (by unfold mayI; rw [may_of (by have := HN.out.1; have := F4.out; omega) hX.ok]; rfl)
      have hb := But.set (b := W0.heap.size) X 0 (.int .i64 0)
      have R9 := hidIt (hev.putR 0 (.int .i64 0) (by simp))
      clear hX I0 hev hD
      gi_wp2
      generalize X.setCell ⟨W0.heap.size, 0, none⟩ (.int .i64 0) = X9 at *
      have hd9 : X9.heap[D]? = some (.deferred (some [])) := (hb.block D (Array.getElem?_eq_some_iff.1 hd).1 (by have := HD.out; omega)).trans hd
      refine And.intro (by simp) (Or.inl ⟨_, _, rfl, run_takeDeferred hd9, ?_⟩)
      have CK : Cks X9 (X9.putObj D (.deferred none)) := Cks.butN (But.putO X9 D _) hd9 rfl
      have c9 := CK.cell (R9.out.cel 0 _ rfl).1
      have hB : Below W0.heap.size X9 (X9.putObj D (.deferred none)) := (But.putO X9 D _).below (by have := HD.out; omega) (by have := E.out.sz; have := hb.size; omega)
      refine ⟨.int .i64 0, by simp [results, Try.results17, go_sem, c9], by rw [FI.out], ?_⟩
      exact (E.out.old.trans (hb.below (Nat.le_refl _) E.out.old.size)).trans hB
    · intro D c X hD hX hd
      obtain ⟨rfl, ho, hz, he, hn⟩ := hX
      have FI : Hid (mayI (rns ls) = 2) := hidIt (by unfold mayI; rw [hn]; rfl)
      clear I0
      gi_wp2
      refine And.intro (by simp) (Or.inl ⟨_, _, rfl, run_takeDeferred hd, ?_⟩)
      have CK : Cks X (X.putObj D (.deferred none)) := Cks.butN (But.putO X D _) hd rfl
      have c9 := CK.cell (he.cel 0 _ rfl).1
      have hB : Below W0.heap.size X (X.putObj D (.deferred none)) := (But.putO X D _).below (by omega) (by omega)
      refine ⟨.int .i64 2, by simp [results, Try.results17, go_sem, c9], by rw [FI.out], ?_⟩
      exact ho.trans hB
end Go.Proofs.Ytelcijfcgflagaa
