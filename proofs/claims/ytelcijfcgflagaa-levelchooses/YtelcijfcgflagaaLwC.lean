/-
  Walks, not a claim by itself: a level's tables, as Go has them; what is chosen, plain. By the verifier.
-/
import Derived.Test.YtelcijfcgflagaaLwB
namespace Go.Proofs.Ytelcijfcgflagaa
open Go.RowKit
attribute [-go_sem] Builtin.append_
theorem Txt.cells {W : World} {N : List Nat} {s : Value} {t : ByteArray} (h : Txt W N s t) : s.cells.toList = [s] := by
  obtain ⟨_, _, _, rfl, _⟩ := h
  rfl
/-- What take's append does. -/
theorem take_step {W wr V : World} {b k : Nat} {lv : Int} {to fr fv tv f' t' : Value} {d : Bool} {ps : List RV} {x : RV} (h : TkI W b lv to d ps k wr fr fv tv) (hx : ps[k]? = some x) (hb : b < W.heap.size ∧ ps.length ≤ 50000) (hB : Rec19 V b 0 (chC lv fr to f' t' d)) (hQ : Rec19 V wr.heap.size 0 x.cs) (hO : Off [b] W V) (hP : Off [b] wr V) (h1 : ∀ v ∈ x.cs, v.oneCell' = true) (hn : f' = (mF ps (k + 1)).f ∧ t' = (mL ps (k + 1)).l) :
    ∃ W7 v8 W8, (W7 = V.alloc (.cells x.cs.toArray 45) ∧ (Builtin.append_ #[23, 23] 23 #[fr, .slice (some ⟨V.heap.size, 0, none⟩) 1 1]).run Try.prog W7 = .ok v8 W8 ∧ (Instr.storeAt 23 (.pointer (some ⟨b, 1, none⟩)) v8).run Try.prog W8 = .ok () (W8.setCell ⟨b, 1, none⟩ v8) ∧ W7.cell? ⟨b, 1, none⟩ = some fr ∧ W7.rangeAt wr.heap.size 0 x.cs ∧ W8.rangeAt wr.heap.size 0 x.cs) ∧ TkI W b lv to d ps (k + 1) (W8.setCell ⟨b, 1, none⟩ v8) v8 f' t' ∧ (W8.setCell ⟨b, 1, none⟩ v8).rangeAt wr.heap.size 0 x.cs := by
  obtain ⟨hn1, hn2⟩ := hn
  obtain ⟨W7, hW7⟩ : ∃ W7, W7 = V.alloc (.cells x.cs.toArray 45) := ⟨_, rfl⟩
  have A7 : Below V.heap.size V W7 := by rw [hW7]; exact (Below.refl _ _).alloc (Nat.le_refl _) _
  have R7 : Rec19 W7 V.heap.size 0 (rcs [x]) := by rw [hW7, rcs_single]; exact Rec19.new V _ x.cs
  have kl : k < ps.length := (List.getElem?_eq_some_iff.1 hx).1
  have fn : ∀ g, fr.ownBlock = some g → g ≠ b ∧ g ≠ wr.heap.size := fun g hg => ⟨fun e => by have := h.new g hg; omega, fun e => by have := h.own.lt hg; omega⟩
  have O7 : OwnR W7 0 fr (ps.take k) := (h.own.off hP (fun g hg q => (fn g hg).1 (List.mem_singleton.1 q))).below A7
  obtain ⟨v8, W8, hr8, I8⟩ := app_runs 23 W7 fr (ps.take k) [x] ⟨V.heap.size, 0, none⟩ 1 O7 (fun j u hj => by rw [Addr.add_mid]; exact R7.1 j u hj) (by rw [rcs_single]; exact h1) (by simp) (by simp; omega)
  simp only [List.length_singleton] at hr8
  have B7 := hB.below A7
  have Q7 := hQ.below A7
  have B8 := B7.off I8.off (fun q => (fn b (by simpa using q)).1 rfl)
  have Q8 := Q7.off I8.off (fun q => (fn _ (by simpa using q)).2 rfl)
  obtain ⟨va, vc, hv, _⟩ := I8.own.sl
  have c1 := B8.cel 1 _ rfl
  have hr := store_v 23 (by kernel_rfl) (v := v8) (by rw [hv]; rfl) (by rw [hv]; rfl) c1.1 c1.2
  have vn : ∀ g, v8.ownBlock = some g → g ≠ b ∧ W.heap.size ≤ g := fun g hg => by
    rcases I8.blk g hg with q | q
    · exact ⟨(fn g q).1, h.new g q⟩
    · have s1 := hO.size
      have s2 := A7.size
      exact ⟨by omega, by omega⟩
  have st : Off [b] W8 (W8.setCell ⟨b, 1, none⟩ v8) := Off.set _ _ _ (by simp)
  have Q10 := (Q8.off st (fun q => by have := List.mem_singleton.1 q; have := h.off.size; omega))
  have ow := I8.own
  rw [show ps.take k ++ [x] = ps.take (k + 1) by
    obtain ⟨hl, rfl⟩ := List.getElem?_eq_some_iff.1 hx
    rw [List.take_succ_eq_append_getElem hl]] at ow
  refine ⟨W7, v8, W8, ⟨hW7, hr8, hr, (B7.cel 1 _ rfl).1, Q7.1, Q8.1⟩, ⟨B8.put 1 v8, ow.off st (fun g hg q => (vn g hg).1 (List.mem_singleton.1 q)), fun g hg => (vn g hg).2, ?_, fun z => by omega, fun _ => ⟨hn1, hn2⟩⟩, Q10.1⟩
  exact ((hO.trans (Off.of A7)).far I8.off (fun g hg => .inr (h.new g (by simpa using hg)))).trans st
/-- What take answers. -/
def TkP (W : World) (b : Nat) (lv : Int) (to : Value) (d : Bool) (ps : List RV) (e : Ending) (w' : World) : Prop := e = .returned (.tuple #[]) ∧ ∃ fa fc fv tv, TkI W b lv to d ps ps.length w' (.slice fa ps.length fc) fv tv
theorem mF_one (ps : List RV) : mF ps 1 = ps.getD 0 rv0 := by
  show (if cmpB (ps.getD 0 rv0).r.f (ps.getD 0 rv0).r.f < 0 then _ else _) = _
  rw [if_neg (by rw [c_self]; omega)]
  rfl
theorem mL_one (ps : List RV) : mL ps 1 = ps.getD 0 rv0 := by
  show (if 0 < cmpB (ps.getD 0 rv0).r.l (ps.getD 0 rv0).r.l then _ else _) = _
  rw [if_neg (by rw [c_self]; omega)]
  rfl
theorem getD_at {ps : List RV} {k : Nat} {x : RV} (h : ps[k]? = some x) : ps.getD k rv0 = x := by rw [List.getD_eq_getElem?_getD, h]; rfl
theorem mF_yes {ps : List RV} {k : Nat} {x : RV} (h : ps[k]? = some x) (c : cmpB x.r.f (mF ps k).r.f < 0) : mF ps (k + 1) = x := by
  show (if cmpB (ps.getD k rv0).r.f (mF ps k).r.f < 0 then ps.getD k rv0 else mF ps k) = _
  rw [getD_at h, if_pos c]
theorem mF_no {ps : List RV} {k : Nat} {x : RV} (h : ps[k]? = some x) (c : ¬ cmpB x.r.f (mF ps k).r.f < 0) : mF ps (k + 1) = mF ps k := by
  show (if cmpB (ps.getD k rv0).r.f (mF ps k).r.f < 0 then ps.getD k rv0 else mF ps k) = _
  rw [getD_at h, if_neg c]
theorem mL_yes {ps : List RV} {k : Nat} {x : RV} (h : ps[k]? = some x) (c : 0 < cmpB x.r.l (mL ps k).r.l) : mL ps (k + 1) = x := by
  show (if 0 < cmpB (ps.getD k rv0).r.l (mL ps k).r.l then ps.getD k rv0 else mL ps k) = _
  rw [getD_at h, if_pos c]
theorem mL_no {ps : List RV} {k : Nat} {x : RV} (h : ps[k]? = some x) (c : ¬ 0 < cmpB x.r.l (mL ps k).r.l) : mL ps (k + 1) = mL ps k := by
  show (if 0 < cmpB (ps.getD k rv0).r.l (mL ps k).r.l then ps.getD k rv0 else mL ps k) = _
  rw [getD_at h, if_neg c]
set_option maxRecDepth 100000 in
set_option maxHeartbeats 4000000 in
theorem ltake_any {W : World} {b : Nat} {a : Option Addr} {ps : List RV} {lv : Int} {to : Value} {d : Bool} (n C : Nat) (hn : ps.length = n) (hL : ∀ U, Off [b] W U → LsR U a ps) (hf : n ≤ 50000) (hR : Rec19 W b 0 (chC lv (.slice none 0 0) to (.slice none 0 0) (.slice none 0 0) d)) : Calls Try.prog 46 #[.pointer (some ⟨b, 0, none⟩), .slice a n C] W (TkP W b lv to d ps) := by
  have HL := hidIt hL
  have HN := hidIt (And.intro hn hf)
  have SB : Hid (b < W.heap.size ∧ ps.length ≤ 50000) := hidIt ⟨hR.2.2, by omega⟩
  have st := hidIt (TkI.start (ps := ps) hR)
  clear hn hL hf hR
  go_enter Try.func46, Try.ntmps46
  go_wp2_with fail
  go_loopw [8] (fun iv wr => ∃ (k : Nat) (fr fv tv : Value), k ≤ n ∧ iv = .int .i64 (k : Int) ∧ Hid (TkI W b lv to d ps k wr fr fv tv)) (fun iv _ => n - (RowKit.intOf iv).toNat)
  case atStart => exact ⟨0, _, _, _, Nat.zero_le _, rfl, st⟩
  case round =>
    clear st
    obtain ⟨k, fr, fv, tv, hk, rfl, HI⟩ := hrel
    rename World => wr
    obtain ⟨fa, fc, hv, _⟩ := HI.out.own.sl
    rw [List.length_take, Nat.min_eq_left (by have := HN.out.1; omega)] at hv
    subst hv
    by_cases hlt : k < n
    · obtain ⟨x, hx⟩ : ∃ x, ps[k]? = some x := ⟨_, List.getElem?_eq_getElem (by have := HN.out.1; omega)⟩
      obtain ⟨lb, lo, ha, hr, hb⟩ := (HL.out _ HI.out.off).at k x hx
      have LT := hidIt hlt
      have HX := hidIt hx
      have OX := hidIt ((HL.out _ HI.out.off).1 x (List.mem_of_getElem? hx))
      have XC := hidIt (And.intro (And.intro OX.out.1.cells OX.out.1.one) (And.intro OX.out.2.cells OX.out.2.one))
      have FX : Hid (∀ U, Off [b] W U → Txt U [] x.f x.r.f ∧ Txt U [] x.l x.r.l) := hidIt (fun U hU => (HL.out U hU).1 x (List.mem_of_getElem? hx))
      obtain ⟨i0, i1, i2, i3, i4⟩ := tb_ar k n hlt (by have := HN.out.2; omega)
      have GO := hidIt i4
      have RX := hidIt hr
      have B0 := hidIt HI.out.rc
      have NB : Hid (wr.heap.size ≠ b) := hidIt (by have := SB.out.1; have := HI.out.off.size; omega)
      subst ha
      clear hx hlt hk hb i4 hr
      go_wp2_with (first
        | (refine wpList_load_mid rfl 45 (.tmp 10) rfl lb (lo + k * 5) rfl x.cs _ RX.out Try.underlying45 rfl run_size ?_; clear RX)
        | (refine wpList_alloc_rec rfl 45 rfl _ wr.heap.size rfl run_zero ?_; intro W2 R2 B2 z2; have E2 := hidIt (And.intro B2 z2); have P2 := hidIt R2; clear R2 B2 z2)
        | (refine wpList_store_rec rfl 45 (.tmp 5) (.tmp 11) rfl wr.heap.size 0 _ x.cs rfl rfl P2.out rfl run_size OX.out.one ?_; intro W3 R3 B3; have E3 := hidIt (E2.out.1.trans (B3.below (Nat.le_refl _) (by have := E2.out.2; omega))); have P3 := hidIt R3; clear R3 B3; refine Held.out ?_))
      have PB := hidIt (B0.out.below E3.out)
      have PQ := P3
      have O2 : Hid (Off [b] wr W3) := hidIt (Off.of E3.out)
      clear E2 P2 P3
      refine Held.mk ?_
      have q1 := (PB.out.cel 1 _ rfl).1
      by_cases hk0 : k = 0
      · have c0 : ((k : Int) == 0) = true := by rw [hk0]; rfl
        obtain ⟨rfl, rfl⟩ := HI.out.zero hk0
        have K0 := hidIt hk0
        clear hk0
        go_wp2_with fail
        clear q1 c0
        have ED := hidIt O2.out.drew
        have DB := hidIt (PB.out.below (Below.refl _ _).drew)
        have DQ := hidIt (PQ.out.below (Below.refl _ _).drew)
        clear PB PQ O2
        have s3 := (DQ.out.cel 3 _ rfl).1
        have s4 := (DQ.out.cel 4 _ rfl).1
        have b3 := DB.out.cel 3 _ rfl
        have hr1 := store_v 43 (by kernel_rfl) (v := x.f) (Array.toList_inj.1 (by rw [XC.out.1.1])) XC.out.1.2 b3.1 b3.2
        have PB1 := DB.out.put 3 x.f
        have PQ1 := DQ.out.but (But.set (b := b) W3.drew 3 x.f) NB.out
        have b4 := PB1.cel 4 _ rfl
        have hr2 := store_v 43 (by kernel_rfl) (v := x.l) (Array.toList_inj.1 (by rw [XC.out.2.1])) XC.out.2.2 b4.1 b4.2
        have PB2 := PB1.put 4 x.l
        have PQ2 := PQ1.but (But.set (b := b) _ 4 x.l) NB.out
        have O4 : Hid (Off [b] wr ((W3.drew.setCell ⟨b, 3, none⟩ x.f).setCell ⟨b, 4, none⟩ x.l)) := hidIt ((ED.out.trans (Off.set _ _ _ (by simp))).trans (Off.set _ _ _ (by simp)))
        have sa := And.intro (PQ1.cel 3 _ rfl).1 (PQ1.cel 4 _ rfl).1
        have sb := And.intro (PQ2.cel 3 _ rfl).1 (PQ2.cel 4 _ rfl).1
        have R4 : Hid (Rec19 ((W3.drew.setCell ⟨b, 3, none⟩ x.f).setCell ⟨b, 4, none⟩ x.l) b 0 (chC lv (.slice fa k fc) to x.f x.l d)) := hidIt PB2
        have Q4 := hidIt PQ2
        generalize hZ1 : W3.drew.setCell ⟨b, 3, none⟩ x.f = Z1 at *
        generalize hZ2 : Z1.setCell ⟨b, 4, none⟩ x.l = Z2 at *
        clear PB1 PQ1 PB2 PQ2 b3 b4 DB DQ ED hZ1 hZ2
        refine wp_region_noPanic ?_
        refine wp_region_held_drew (S := fun w' => w'.cell? ⟨wr.heap.size, 3, none⟩ = some x.f ∧ w'.cell? ⟨wr.heap.size, 4, none⟩ = some x.l) (by kernel_rfl) ?_ (fun hHeld => ?_)
        · exact ⟨s3, s4⟩
        clear s3 s4
        refine take_at (i := 0) (v := ?_) (some 18) rfl rfl (by kernel_rfl) (by kernel_rfl) (by kernel_rfl) (fun _ _ _ h => h) (Or.inl ⟨by rfl, ?_⟩) (by assumption) ?_
        rotate_left
        · (intro w hSw; (try dsimp only at hSw); go_simp; try with_reducible rfl)
        simp only [Act.put, List.setIfInBounds_toArray, List.set_cons_zero, List.set_cons_succ]
        refine take_at (i := 1) (v := ?_) (some 19) rfl rfl (by kernel_rfl) (by kernel_rfl) (by kernel_rfl) (fun _ _ _ h => h) (Or.inl ⟨by rfl, ?_⟩) (by assumption) ?_
        rotate_left
        · (intro w hSw; (try dsimp only at hSw); go_simp; try with_reducible rfl)
        simp only [Act.put, List.setIfInBounds_toArray, List.set_cons_zero, List.set_cons_succ]
        refine take_at (i := 2) (v := ?_) (some 20) rfl rfl (by kernel_rfl) (by kernel_rfl) (by kernel_rfl) (fun _ _ _ h => h) (Or.inl ⟨by rfl, ?_⟩) (by assumption) ?_
        rotate_left
        · (intro w hSw; (try dsimp only at hSw); go_simp; try with_reducible rfl)
        simp only [Act.put, List.setIfInBounds_toArray, List.set_cons_zero, List.set_cons_succ]
        refine take_at (i := 3) (v := ?_) (some 21) rfl rfl (by kernel_rfl) (by kernel_rfl) (by kernel_rfl) (fun _ _ _ h => h) (Or.inl ⟨by rfl, ?_⟩) (by assumption) ?_
        rotate_left
        · (intro w hSw; (try dsimp only at hSw); go_simp; try with_reducible rfl)
        simp only [Act.put, List.setIfInBounds_toArray, List.set_cons_zero, List.set_cons_succ]
        refine take_at (i := 4) (v := ?_) (some 22) rfl rfl (by kernel_rfl) (by kernel_rfl) (by kernel_rfl) (fun _ _ _ h => h) (Or.inl ⟨by rfl, ?_⟩) (by assumption) ?_
        rotate_left
        · (intro w hSw; (try dsimp only at hSw); go_simp; try with_reducible rfl)
        simp only [Act.put, List.setIfInBounds_toArray, List.set_cons_zero, List.set_cons_succ]
        refine take_at (i := 5) (v := ?_) (some 23) rfl rfl (by kernel_rfl) (by kernel_rfl) (by kernel_rfl) (fun _ _ _ h => h) (Or.inl ⟨by rfl, ?_⟩) (by assumption) ?_
        rotate_left
        · (intro w hSw; (try dsimp only at hSw); go_simp; try with_reducible rfl)
        simp only [Act.put, List.setIfInBounds_toArray, List.set_cons_zero, List.set_cons_succ]
        refine take_at (i := 6) (v := ?_) (some 24) rfl rfl (by kernel_rfl) (by kernel_rfl) (by kernel_rfl) (fun _ _ _ h => h) (Or.inl ⟨by rfl, ?_⟩) (by assumption) ?_
        rotate_left
        · (intro w hSw; (try dsimp only at hSw); go_simp; try with_reducible rfl)
        simp only [Act.put, List.setIfInBounds_toArray, List.set_cons_zero, List.set_cons_succ]
        refine take_at (i := 7) (v := ?_) (some 25) rfl rfl (by kernel_rfl) (by kernel_rfl) (by kernel_rfl) (fun _ _ _ h => h) (Or.inl ⟨by rfl, ?_⟩) (by assumption) ?_
        rotate_left
        · (intro w hSw; (try dsimp only at hSw); go_simp; try with_reducible rfl)
        simp only [Act.put, List.setIfInBounds_toArray, List.set_cons_zero, List.set_cons_succ]
        refine mute_at (i := 8) none rfl rfl (by rfl) (by kernel_rfl) Z1 (put_mute 43 (.tmp 25) (.tmp 21) rfl _ _ rfl rfl hr1) sa (fun hHeld => ?_)
        simp only [Act.put]
        clear hr1 sa
        refine take_at (i := 9) (v := ?_) (some 26) rfl rfl (by kernel_rfl) (by kernel_rfl) (by kernel_rfl) (fun _ _ _ h => h) (Or.inl ⟨by rfl, ?_⟩) (by assumption) ?_
        rotate_left
        · (intro w hSw; (try dsimp only at hSw); go_simp; try with_reducible rfl)
        simp only [Act.put, List.setIfInBounds_toArray, List.set_cons_zero, List.set_cons_succ]
        refine take_at (i := 10) (v := ?_) (some 27) rfl rfl (by kernel_rfl) (by kernel_rfl) (by kernel_rfl) (fun _ _ _ h => h) (Or.inl ⟨by rfl, ?_⟩) (by assumption) ?_
        rotate_left
        · (intro w hSw; (try dsimp only at hSw); go_simp; try with_reducible rfl)
        simp only [Act.put, List.setIfInBounds_toArray, List.set_cons_zero, List.set_cons_succ]
        refine mute_at (i := 11) none rfl rfl (by rfl) (by kernel_rfl) Z2 (put_mute 43 (.tmp 27) (.tmp 23) rfl _ _ rfl rfl hr2) sb (fun hHeld => ?_)
        simp only [Act.put]
        clear hr2 sb
        refine wpAnyH_done (by kernel_rfl) ?_ _
        refine NoPanic.normal ?_
        clear hHeld
        have PB := R4
        have PQ := Q4
        have O2 := O4
        clear R4 Q4 O4
        have FM := FX
        have C1 : Hid (¬ cmpB x.r.f x.r.f < 0) := hidIt (by rw [c_self]; omega)
        have C2 : Hid (¬ 0 < cmpB x.r.l x.r.l) := hidIt (by rw [c_self]; omega)
        have NXT : Hid (x.f = (mF ps (k + 1)).f ∧ x.l = (mL ps (k + 1)).l) := hidIt (by
          have e := K0.out
          have g := HX.out
          subst e
          rw [mF_one, mL_one, getD_at g]
          exact ⟨rfl, rfl⟩)
        have O0 := hidIt (And.intro (HI.out.off.trans O2.out) O2.out)
        have ED := hidIt (And.intro O0.out.1.drew O0.out.2.drew)
        have DB := hidIt (PB.out.below (Below.refl _ _).drew)
        have DQ := hidIt (PQ.out.below (Below.refl _ _).drew)
        go_wp2_with fail
        refine wp_region_noPanic ?_
        refine wp_region_held_drew (S := fun w' => w'.cell? ⟨wr.heap.size, 3, none⟩ = some x.f ∧ w'.cell? ⟨b, 3, none⟩ = some x.f) (by kernel_rfl) ?_ (fun hHeld => ?_)
        · exact ⟨(DQ.out.cel 3 _ rfl).1, (DB.out.cel 3 _ rfl).1⟩
        refine take_at (i := 0) (v := ?_) (some 28) rfl rfl (by kernel_rfl) (by kernel_rfl) (by kernel_rfl) (fun _ _ _ h => h) (Or.inl ⟨by rfl, ?_⟩) (by assumption) ?_
        rotate_left
        · (intro w hSw; (try dsimp only at hSw); go_simp; try with_reducible rfl)
        simp only [Act.put, List.setIfInBounds_toArray, List.set_cons_zero, List.set_cons_succ]
        refine take_at (i := 1) (v := ?_) (some 29) rfl rfl (by kernel_rfl) (by kernel_rfl) (by kernel_rfl) (fun _ _ _ h => h) (Or.inl ⟨by rfl, ?_⟩) (by assumption) ?_
        rotate_left
        · (intro w hSw; (try dsimp only at hSw); go_simp; try with_reducible rfl)
        simp only [Act.put, List.setIfInBounds_toArray, List.set_cons_zero, List.set_cons_succ]
        refine take_at (i := 2) (v := ?_) (some 30) rfl rfl (by kernel_rfl) (by kernel_rfl) (by kernel_rfl) (fun _ _ _ h => h) (Or.inl ⟨by rfl, ?_⟩) (by assumption) ?_
        rotate_left
        · (intro w hSw; (try dsimp only at hSw); go_simp; try with_reducible rfl)
        simp only [Act.put, List.setIfInBounds_toArray, List.set_cons_zero, List.set_cons_succ]
        refine take_at (i := 3) (v := ?_) (some 31) rfl rfl (by kernel_rfl) (by kernel_rfl) (by kernel_rfl) (fun _ _ _ h => h) (Or.inl ⟨by rfl, ?_⟩) (by assumption) ?_
        rotate_left
        · (intro w hSw; (try dsimp only at hSw); go_simp; try with_reducible rfl)
        simp only [Act.put, List.setIfInBounds_toArray, List.set_cons_zero, List.set_cons_succ]
        refine take_at (i := 4) (v := ?_) (some 32) rfl rfl (by kernel_rfl) (by kernel_rfl) (by kernel_rfl) (fun _ _ _ h => h) (Or.inl ⟨by rfl, ?_⟩) (by assumption) ?_
        rotate_left
        · (intro w hSw; (try dsimp only at hSw); go_simp; try with_reducible rfl)
        simp only [Act.put, List.setIfInBounds_toArray, List.set_cons_zero, List.set_cons_succ]
        refine take_at (i := 5) (v := ?_) (some 33) rfl rfl (by kernel_rfl) (by kernel_rfl) (by kernel_rfl) (fun _ _ _ h => h) (Or.inl ⟨by rfl, ?_⟩) (by assumption) ?_
        rotate_left
        · (intro w hSw; (try dsimp only at hSw); go_simp; try with_reducible rfl)
        simp only [Act.put, List.setIfInBounds_toArray, List.set_cons_zero, List.set_cons_succ]
        refine call_at (i := 6) (some 34) 35 _ _ rfl rfl rfl (by rfl) (by kernel_rfl) #[x.f, x.f] rfl Try.func35 (by kernel_rfl) (by kernel_rfl) ?_
        refine (ycmp_any (FX.out _ ED.out.1).1 (FM.out _ ED.out.1).1).mono ?_
        rintro e w2 ⟨rfl, hw⟩
        subst hw
        refine ⟨_, rfl, ⟨(DQ.out.cel 3 _ rfl).1, (DB.out.cel 3 _ rfl).1⟩, fun hHeld => ?_⟩
        simp only [Act.put, List.setIfInBounds_toArray, List.set_cons_zero, List.set_cons_succ]
        have c1 : (cmpB x.r.f x.r.f < 0) = False := eq_false (by have := C1.out; omega)
        refine take_at (i := 7) (v := ?_) (some 35) rfl rfl (by kernel_rfl) (by kernel_rfl) (by kernel_rfl) (fun _ _ _ h => h) (Or.inl ⟨by rfl, ?_⟩) (by assumption) ?_
        rotate_left
        · (intro w hSw; (try dsimp only at hSw); go_simp; try with_reducible rfl)
        simp only [Act.put, List.setIfInBounds_toArray, List.set_cons_zero, List.set_cons_succ]
        refine wpAnyH_done (by kernel_rfl) ?_ _
        refine NoPanic.normal ?_
        clear hHeld
        go_wp2_with fail
        have PB5 := DB; have PQ5 := DQ; have E5 := ED
        clear c1 DB DQ ED O0
        have ED := hidIt (And.intro E5.out.1.drew E5.out.2.drew)
        have DB := hidIt (PB5.out.below (Below.refl _ _).drew)
        have DQ := hidIt (PQ5.out.below (Below.refl _ _).drew)
        refine wp_region_noPanic ?_
        refine wp_region_held_drew (S := fun w' => w'.cell? ⟨wr.heap.size, 4, none⟩ = some x.l ∧ w'.cell? ⟨b, 4, none⟩ = some x.l) (by kernel_rfl) ?_ (fun hHeld => ?_)
        · exact ⟨(DQ.out.cel 4 _ rfl).1, (DB.out.cel 4 _ rfl).1⟩
        refine take_at (i := 0) (v := ?_) (some 41) rfl rfl (by kernel_rfl) (by kernel_rfl) (by kernel_rfl) (fun _ _ _ h => h) (Or.inl ⟨by rfl, ?_⟩) (by assumption) ?_
        rotate_left
        · (intro w hSw; (try dsimp only at hSw); go_simp; try with_reducible rfl)
        simp only [Act.put, List.setIfInBounds_toArray, List.set_cons_zero, List.set_cons_succ]
        refine take_at (i := 1) (v := ?_) (some 42) rfl rfl (by kernel_rfl) (by kernel_rfl) (by kernel_rfl) (fun _ _ _ h => h) (Or.inl ⟨by rfl, ?_⟩) (by assumption) ?_
        rotate_left
        · (intro w hSw; (try dsimp only at hSw); go_simp; try with_reducible rfl)
        simp only [Act.put, List.setIfInBounds_toArray, List.set_cons_zero, List.set_cons_succ]
        refine take_at (i := 2) (v := ?_) (some 43) rfl rfl (by kernel_rfl) (by kernel_rfl) (by kernel_rfl) (fun _ _ _ h => h) (Or.inl ⟨by rfl, ?_⟩) (by assumption) ?_
        rotate_left
        · (intro w hSw; (try dsimp only at hSw); go_simp; try with_reducible rfl)
        simp only [Act.put, List.setIfInBounds_toArray, List.set_cons_zero, List.set_cons_succ]
        refine take_at (i := 3) (v := ?_) (some 44) rfl rfl (by kernel_rfl) (by kernel_rfl) (by kernel_rfl) (fun _ _ _ h => h) (Or.inl ⟨by rfl, ?_⟩) (by assumption) ?_
        rotate_left
        · (intro w hSw; (try dsimp only at hSw); go_simp; try with_reducible rfl)
        simp only [Act.put, List.setIfInBounds_toArray, List.set_cons_zero, List.set_cons_succ]
        refine take_at (i := 4) (v := ?_) (some 45) rfl rfl (by kernel_rfl) (by kernel_rfl) (by kernel_rfl) (fun _ _ _ h => h) (Or.inl ⟨by rfl, ?_⟩) (by assumption) ?_
        rotate_left
        · (intro w hSw; (try dsimp only at hSw); go_simp; try with_reducible rfl)
        simp only [Act.put, List.setIfInBounds_toArray, List.set_cons_zero, List.set_cons_succ]
        refine take_at (i := 5) (v := ?_) (some 46) rfl rfl (by kernel_rfl) (by kernel_rfl) (by kernel_rfl) (fun _ _ _ h => h) (Or.inl ⟨by rfl, ?_⟩) (by assumption) ?_
        rotate_left
        · (intro w hSw; (try dsimp only at hSw); go_simp; try with_reducible rfl)
        simp only [Act.put, List.setIfInBounds_toArray, List.set_cons_zero, List.set_cons_succ]
        refine call_at (i := 6) (some 47) 35 _ _ rfl rfl rfl (by rfl) (by kernel_rfl) #[x.l, x.l] rfl Try.func35 (by kernel_rfl) (by kernel_rfl) ?_
        refine (ycmp_any (FX.out _ ED.out.1).2 (FM.out _ ED.out.1).2).mono ?_
        rintro e w2 ⟨rfl, hw⟩
        subst hw
        refine ⟨_, rfl, ⟨(DQ.out.cel 4 _ rfl).1, (DB.out.cel 4 _ rfl).1⟩, fun hHeld => ?_⟩
        simp only [Act.put, List.setIfInBounds_toArray, List.set_cons_zero, List.set_cons_succ]
        have c2 : (0 < cmpB x.r.l x.r.l) = False := eq_false (by have := C2.out; omega)
        refine take_at (i := 7) (v := ?_) (some 48) rfl rfl (by kernel_rfl) (by kernel_rfl) (by kernel_rfl) (fun _ _ _ h => h) (Or.inl ⟨by rfl, ?_⟩) (by assumption) ?_
        rotate_left
        · (intro w hSw; (try dsimp only at hSw); go_simp; try with_reducible rfl)
        simp only [Act.put, List.setIfInBounds_toArray, List.set_cons_zero, List.set_cons_succ]
        refine wpAnyH_done (by kernel_rfl) ?_ _
        refine NoPanic.normal ?_
        clear hHeld
        go_wp2_with fail
        have PB6 := DB; have PQ6 := DQ; have E6 := ED
        clear c2 DB DQ ED PB5 PQ5 E5
        have ED := hidIt (And.intro E6.out.1.drew E6.out.2.drew)
        have DB := hidIt (PB6.out.below (Below.refl _ _).drew)
        have DQ := hidIt (PQ6.out.below (Below.refl _ _).drew)
        clear PB6 PQ6 E6
        obtain ⟨W7, v8, W8, TS, NX, S10⟩ := take_step HI.out HX.out SB.out DB.out DQ.out ED.out.1 ED.out.2 OX.out.one (f' := x.f) (t' := x.l) NXT.out
        have TT := hidIt TS
        have NN := hidIt NX
        have SS := hidIt S10
        clear TS NX S10
        have cl := (DB.out.cel 1 _ rfl).1
        refine wp_region_noPanic ?_
        refine wp_region_held_drew (S := fun w' => w'.rangeAt wr.heap.size 0 x.cs) (by kernel_rfl) ?_ (fun hHeld => ?_)
        · exact DQ.out.1
        refine take_at (i := 0) (v := ?_) (some 54) rfl rfl (by kernel_rfl) (by kernel_rfl) (by kernel_rfl) (fun _ _ _ h => h) (Or.inl ⟨by rfl, ?_⟩) (by assumption) ?_
        rotate_left
        · (intro w hSw; (try dsimp only at hSw); go_simp; try with_reducible rfl)
        simp only [Act.put, List.setIfInBounds_toArray, List.set_cons_zero, List.set_cons_succ]
        refine take_at (i := 1) (v := ?_) (some 55) rfl rfl (by kernel_rfl) (by kernel_rfl) (by kernel_rfl) (fun _ _ _ h => h) (Or.inl ⟨by rfl, ?_⟩) (by assumption) ?_
        rotate_left
        · (intro w hSw; (try dsimp only at hSw); go_simp; try with_reducible rfl)
        simp only [Act.put, List.setIfInBounds_toArray, List.set_cons_zero, List.set_cons_succ]
        refine take_at (i := 2) (v := ?_) (some 56) rfl rfl (by kernel_rfl) (by kernel_rfl) (by kernel_rfl) (fun _ _ _ h => h) (Or.inl ⟨by rfl, ?_⟩) (by assumption) ?_
        rotate_left
        · (intro w hSw; (try dsimp only at hSw); go_simp; try with_reducible rfl)
        simp only [Act.put, List.setIfInBounds_toArray, List.set_cons_zero, List.set_cons_succ]
        refine take_at (i := 3) (v := ?_) (some 57) rfl rfl (by kernel_rfl) (by kernel_rfl) (by kernel_rfl) (fun _ _ _ h => h) (Or.inl ⟨by rfl, ?_⟩) (by assumption) ?_
        rotate_left
        · (intro w hSw; (try dsimp only at hSw); go_simp; try with_reducible rfl)
        simp only [Act.put, List.setIfInBounds_toArray, List.set_cons_zero, List.set_cons_succ]
        refine take_at (i := 5) (v := _) (some 59) rfl rfl (by kernel_rfl) (by kernel_rfl) (by kernel_rfl) (fun _ _ _ h => h) (yieldsIf_load_mid (by rfl) _ _ rfl _ _ rfl _ _ (fun w h => h) Try.underlying45 rfl (by kernel_rfl)) (by assumption) ?_
        simp only [Act.put, List.setIfInBounds_toArray, List.set_cons_zero, List.set_cons_succ]
        refine pair_at (i := 4) (j := 6) (some 58) (some 60) rfl rfl rfl rfl (by kernel_rfl) (by rfl) (by rfl) (.slice fa k fc) (.slice (some ⟨Z2.drew.drew.drew.heap.size, 0, none⟩) 1 1) Z2.drew.drew.drew W7 (by go_simp) (by rw [TT.out.1]; exact bsl_run 23 45 1 _ rfl 5 72 _ _ _ under_runs info_run (by decide) (by decide) rfl (by kernel_rfl)) ⟨hHeld, TT.out.2.2.2.2.1⟩ (fun hHeld => ?_) (fun hHeld => ?_)
        · skip
          simp only [Act.put, List.setIfInBounds_toArray, List.set_cons_zero, List.set_cons_succ]
          refine step_at (i := 6) (some 60) rfl rfl (by rfl) (by kernel_rfl) (.slice (some ⟨Z2.drew.drew.drew.heap.size, 0, none⟩) 1 1) W7 (by rw [TT.out.1]; exact bsl_run 23 45 1 _ rfl 5 72 _ _ _ under_runs info_run (by decide) (by decide) rfl (by kernel_rfl)) TT.out.2.2.2.2.1 (fun hHeld => ?_)
          clear cl
          simp only [Act.put, List.setIfInBounds_toArray, List.set_cons_zero, List.set_cons_succ]
          refine step_at (i := 7) (some 61) rfl rfl (by rfl) (by kernel_rfl) v8 W8 (app_runv (.tmp 58) (.tmp 60) 23 23 rfl _ _ rfl rfl TT.out.2.1) TT.out.2.2.2.2.2 (fun hHeld => ?_)
          simp only [Act.put, List.setIfInBounds_toArray, List.set_cons_zero, List.set_cons_succ]
          refine take_at (i := 8) (v := ?_) (some 62) rfl rfl (by kernel_rfl) (by kernel_rfl) (by kernel_rfl) (fun _ _ _ h => h) (Or.inl ⟨by rfl, ?_⟩) (by assumption) ?_
          rotate_left
          · (intro w hSw; (try dsimp only at hSw); go_simp; try with_reducible rfl)
          simp only [Act.put, List.setIfInBounds_toArray, List.set_cons_zero, List.set_cons_succ]
          refine take_at (i := 9) (v := ?_) (some 63) rfl rfl (by kernel_rfl) (by kernel_rfl) (by kernel_rfl) (fun _ _ _ h => h) (Or.inl ⟨by rfl, ?_⟩) (by assumption) ?_
          rotate_left
          · (intro w hSw; (try dsimp only at hSw); go_simp; try with_reducible rfl)
          simp only [Act.put, List.setIfInBounds_toArray, List.set_cons_zero, List.set_cons_succ]
          have hr8 := TT.out.2.2.1
          have S8 := SS.out
          clear TT SS
          generalize W8.setCell ⟨b, 1, none⟩ v8 = W10 at *
          refine mute_at (i := 10) none rfl rfl (by rfl) (by kernel_rfl) W10 (put_mute 23 (.tmp 63) (.tmp 61) rfl _ _ rfl rfl hr8) S8 (fun hHeld => ?_)
          simp only [Act.put]
          clear hr8 S8
          refine wpAnyH_done (by kernel_rfl) ?_ _
          refine NoPanic.normal ?_
          clear hHeld
          go_wp2_with fail
          exact ⟨⟨k + 1, v8, x.f, x.l, LT.out, rfl, NN⟩, GO.out⟩
        · skip
          simp only [Act.put, List.setIfInBounds_toArray, List.set_cons_zero, List.set_cons_succ]
          have cl5 := TT.out.2.2.2.1
          refine step_at (i := 4) (some 58) rfl rfl (by rfl) (by kernel_rfl) (.slice fa k fc) W7 (by go_simp) TT.out.2.2.2.2.1 (fun hHeld => ?_)
          clear cl5
          clear cl
          simp only [Act.put, List.setIfInBounds_toArray, List.set_cons_zero, List.set_cons_succ]
          refine step_at (i := 7) (some 61) rfl rfl (by rfl) (by kernel_rfl) v8 W8 (app_runv (.tmp 58) (.tmp 60) 23 23 rfl _ _ rfl rfl TT.out.2.1) TT.out.2.2.2.2.2 (fun hHeld => ?_)
          simp only [Act.put, List.setIfInBounds_toArray, List.set_cons_zero, List.set_cons_succ]
          refine take_at (i := 8) (v := ?_) (some 62) rfl rfl (by kernel_rfl) (by kernel_rfl) (by kernel_rfl) (fun _ _ _ h => h) (Or.inl ⟨by rfl, ?_⟩) (by assumption) ?_
          rotate_left
          · (intro w hSw; (try dsimp only at hSw); go_simp; try with_reducible rfl)
          simp only [Act.put, List.setIfInBounds_toArray, List.set_cons_zero, List.set_cons_succ]
          refine take_at (i := 9) (v := ?_) (some 63) rfl rfl (by kernel_rfl) (by kernel_rfl) (by kernel_rfl) (fun _ _ _ h => h) (Or.inl ⟨by rfl, ?_⟩) (by assumption) ?_
          rotate_left
          · (intro w hSw; (try dsimp only at hSw); go_simp; try with_reducible rfl)
          simp only [Act.put, List.setIfInBounds_toArray, List.set_cons_zero, List.set_cons_succ]
          have hr8 := TT.out.2.2.1
          have S8 := SS.out
          clear TT SS
          generalize W8.setCell ⟨b, 1, none⟩ v8 = W10 at *
          refine mute_at (i := 10) none rfl rfl (by rfl) (by kernel_rfl) W10 (put_mute 23 (.tmp 63) (.tmp 61) rfl _ _ rfl rfl hr8) S8 (fun hHeld => ?_)
          simp only [Act.put]
          clear hr8 S8
          refine wpAnyH_done (by kernel_rfl) ?_ _
          refine NoPanic.normal ?_
          clear hHeld
          go_wp2_with fail
          exact ⟨⟨k + 1, v8, x.f, x.l, LT.out, rfl, NN⟩, GO.out⟩
      · have c0 : ((k : Int) == 0) = false := by simpa using hk0
        have FM : Hid (∀ U, Off [b] W U → Txt U [] fv (mF ps k).r.f ∧ Txt U [] tv (mL ps k).r.l) := hidIt (fun U hU => by
          have q := HI.out.more (by omega)
          have g := HX.out
          have kl : k < ps.length := (List.getElem?_eq_some_iff.1 g).1
          rw [q.1, q.2]
          exact ⟨((HL.out U hU).1 _ (mF_mem ps (by omega) k (by omega))).1, ((HL.out U hU).1 _ (mL_mem ps (by omega) k (by omega))).2⟩)
        have MO := hidIt (HI.out.more (by omega))
        clear hk0
        go_wp2_with fail
        clear q1 c0
        by_cases C1 : cmpB x.r.f (mF ps k).r.f < 0
        · have C1 := hidIt C1
          by_cases C2 : 0 < cmpB x.r.l (mL ps k).r.l
          · have C2 := hidIt C2
            have NXT : Hid (x.f = (mF ps (k + 1)).f ∧ x.l = (mL ps (k + 1)).l) := hidIt ⟨by rw [mF_yes HX.out (by have := C1.out; omega)], by rw [mL_yes HX.out (by have := C2.out; omega)]⟩
            have O0 := hidIt (And.intro (HI.out.off.trans O2.out) O2.out)
            have ED := hidIt (And.intro O0.out.1.drew O0.out.2.drew)
            have DB := hidIt (PB.out.below (Below.refl _ _).drew)
            have DQ := hidIt (PQ.out.below (Below.refl _ _).drew)
            go_wp2_with fail
            refine wp_region_noPanic ?_
            refine wp_region_held_drew (S := fun w' => w'.cell? ⟨wr.heap.size, 3, none⟩ = some x.f ∧ w'.cell? ⟨b, 3, none⟩ = some fv) (by kernel_rfl) ?_ (fun hHeld => ?_)
            · exact ⟨(DQ.out.cel 3 _ rfl).1, (DB.out.cel 3 _ rfl).1⟩
            refine take_at (i := 0) (v := ?_) (some 28) rfl rfl (by kernel_rfl) (by kernel_rfl) (by kernel_rfl) (fun _ _ _ h => h) (Or.inl ⟨by rfl, ?_⟩) (by assumption) ?_
            rotate_left
            · (intro w hSw; (try dsimp only at hSw); go_simp; try with_reducible rfl)
            simp only [Act.put, List.setIfInBounds_toArray, List.set_cons_zero, List.set_cons_succ]
            refine take_at (i := 1) (v := ?_) (some 29) rfl rfl (by kernel_rfl) (by kernel_rfl) (by kernel_rfl) (fun _ _ _ h => h) (Or.inl ⟨by rfl, ?_⟩) (by assumption) ?_
            rotate_left
            · (intro w hSw; (try dsimp only at hSw); go_simp; try with_reducible rfl)
            simp only [Act.put, List.setIfInBounds_toArray, List.set_cons_zero, List.set_cons_succ]
            refine take_at (i := 2) (v := ?_) (some 30) rfl rfl (by kernel_rfl) (by kernel_rfl) (by kernel_rfl) (fun _ _ _ h => h) (Or.inl ⟨by rfl, ?_⟩) (by assumption) ?_
            rotate_left
            · (intro w hSw; (try dsimp only at hSw); go_simp; try with_reducible rfl)
            simp only [Act.put, List.setIfInBounds_toArray, List.set_cons_zero, List.set_cons_succ]
            refine take_at (i := 3) (v := ?_) (some 31) rfl rfl (by kernel_rfl) (by kernel_rfl) (by kernel_rfl) (fun _ _ _ h => h) (Or.inl ⟨by rfl, ?_⟩) (by assumption) ?_
            rotate_left
            · (intro w hSw; (try dsimp only at hSw); go_simp; try with_reducible rfl)
            simp only [Act.put, List.setIfInBounds_toArray, List.set_cons_zero, List.set_cons_succ]
            refine take_at (i := 4) (v := ?_) (some 32) rfl rfl (by kernel_rfl) (by kernel_rfl) (by kernel_rfl) (fun _ _ _ h => h) (Or.inl ⟨by rfl, ?_⟩) (by assumption) ?_
            rotate_left
            · (intro w hSw; (try dsimp only at hSw); go_simp; try with_reducible rfl)
            simp only [Act.put, List.setIfInBounds_toArray, List.set_cons_zero, List.set_cons_succ]
            refine take_at (i := 5) (v := ?_) (some 33) rfl rfl (by kernel_rfl) (by kernel_rfl) (by kernel_rfl) (fun _ _ _ h => h) (Or.inl ⟨by rfl, ?_⟩) (by assumption) ?_
            rotate_left
            · (intro w hSw; (try dsimp only at hSw); go_simp; try with_reducible rfl)
            simp only [Act.put, List.setIfInBounds_toArray, List.set_cons_zero, List.set_cons_succ]
            refine call_at (i := 6) (some 34) 35 _ _ rfl rfl rfl (by rfl) (by kernel_rfl) #[x.f, fv] rfl Try.func35 (by kernel_rfl) (by kernel_rfl) ?_
            refine (ycmp_any (FX.out _ ED.out.1).1 (FM.out _ ED.out.1).1).mono ?_
            rintro e w2 ⟨rfl, hw⟩
            subst hw
            refine ⟨_, rfl, ⟨(DQ.out.cel 3 _ rfl).1, (DB.out.cel 3 _ rfl).1⟩, fun hHeld => ?_⟩
            simp only [Act.put, List.setIfInBounds_toArray, List.set_cons_zero, List.set_cons_succ]
            have c1 : (cmpB x.r.f (mF ps k).r.f < 0) = True := eq_true (by have := C1.out; omega)
            refine take_at (i := 7) (v := ?_) (some 35) rfl rfl (by kernel_rfl) (by kernel_rfl) (by kernel_rfl) (fun _ _ _ h => h) (Or.inl ⟨by rfl, ?_⟩) (by assumption) ?_
            rotate_left
            · (intro w hSw; (try dsimp only at hSw); go_simp; try with_reducible rfl)
            simp only [Act.put, List.setIfInBounds_toArray, List.set_cons_zero, List.set_cons_succ]
            refine wpAnyH_done (by kernel_rfl) ?_ _
            refine NoPanic.normal ?_
            clear hHeld
            have s3 := (DQ.out.cel 3 _ rfl).1
            go_wp2_with (refine wpList_put_rec rfl 43 (.tmp 40) (.tmp 38) rfl b 3 _ [x.f] (chC lv (.slice fa k fc) to x.f tv d) x.f rfl rfl XC.out.1.1 DB.out (by show 3 + 1 ≤ 6; omega) rfl (by kernel_rfl) (by intro u hu; rcases List.mem_singleton.1 hu with rfl; exact XC.out.1.2) ?_; intro W5 R5 B5 z5; have PB5 := hidIt R5; have PQ5 := hidIt (DQ.out.but B5 NB.out); have E5 := hidIt (And.intro (ED.out.1.trans (Off.but B5 (by simp))) (ED.out.2.trans (Off.but B5 (by simp)))); clear R5 B5 z5 s3)
            clear c1 DB DQ ED O0
            have ED := hidIt (And.intro E5.out.1.drew E5.out.2.drew)
            have DB := hidIt (PB5.out.below (Below.refl _ _).drew)
            have DQ := hidIt (PQ5.out.below (Below.refl _ _).drew)
            refine wp_region_noPanic ?_
            refine wp_region_held_drew (S := fun w' => w'.cell? ⟨wr.heap.size, 4, none⟩ = some x.l ∧ w'.cell? ⟨b, 4, none⟩ = some tv) (by kernel_rfl) ?_ (fun hHeld => ?_)
            · exact ⟨(DQ.out.cel 4 _ rfl).1, (DB.out.cel 4 _ rfl).1⟩
            refine take_at (i := 0) (v := ?_) (some 41) rfl rfl (by kernel_rfl) (by kernel_rfl) (by kernel_rfl) (fun _ _ _ h => h) (Or.inl ⟨by rfl, ?_⟩) (by assumption) ?_
            rotate_left
            · (intro w hSw; (try dsimp only at hSw); go_simp; try with_reducible rfl)
            simp only [Act.put, List.setIfInBounds_toArray, List.set_cons_zero, List.set_cons_succ]
            refine take_at (i := 1) (v := ?_) (some 42) rfl rfl (by kernel_rfl) (by kernel_rfl) (by kernel_rfl) (fun _ _ _ h => h) (Or.inl ⟨by rfl, ?_⟩) (by assumption) ?_
            rotate_left
            · (intro w hSw; (try dsimp only at hSw); go_simp; try with_reducible rfl)
            simp only [Act.put, List.setIfInBounds_toArray, List.set_cons_zero, List.set_cons_succ]
            refine take_at (i := 2) (v := ?_) (some 43) rfl rfl (by kernel_rfl) (by kernel_rfl) (by kernel_rfl) (fun _ _ _ h => h) (Or.inl ⟨by rfl, ?_⟩) (by assumption) ?_
            rotate_left
            · (intro w hSw; (try dsimp only at hSw); go_simp; try with_reducible rfl)
            simp only [Act.put, List.setIfInBounds_toArray, List.set_cons_zero, List.set_cons_succ]
            refine take_at (i := 3) (v := ?_) (some 44) rfl rfl (by kernel_rfl) (by kernel_rfl) (by kernel_rfl) (fun _ _ _ h => h) (Or.inl ⟨by rfl, ?_⟩) (by assumption) ?_
            rotate_left
            · (intro w hSw; (try dsimp only at hSw); go_simp; try with_reducible rfl)
            simp only [Act.put, List.setIfInBounds_toArray, List.set_cons_zero, List.set_cons_succ]
            refine take_at (i := 4) (v := ?_) (some 45) rfl rfl (by kernel_rfl) (by kernel_rfl) (by kernel_rfl) (fun _ _ _ h => h) (Or.inl ⟨by rfl, ?_⟩) (by assumption) ?_
            rotate_left
            · (intro w hSw; (try dsimp only at hSw); go_simp; try with_reducible rfl)
            simp only [Act.put, List.setIfInBounds_toArray, List.set_cons_zero, List.set_cons_succ]
            refine take_at (i := 5) (v := ?_) (some 46) rfl rfl (by kernel_rfl) (by kernel_rfl) (by kernel_rfl) (fun _ _ _ h => h) (Or.inl ⟨by rfl, ?_⟩) (by assumption) ?_
            rotate_left
            · (intro w hSw; (try dsimp only at hSw); go_simp; try with_reducible rfl)
            simp only [Act.put, List.setIfInBounds_toArray, List.set_cons_zero, List.set_cons_succ]
            refine call_at (i := 6) (some 47) 35 _ _ rfl rfl rfl (by rfl) (by kernel_rfl) #[x.l, tv] rfl Try.func35 (by kernel_rfl) (by kernel_rfl) ?_
            refine (ycmp_any (FX.out _ ED.out.1).2 (FM.out _ ED.out.1).2).mono ?_
            rintro e w2 ⟨rfl, hw⟩
            subst hw
            refine ⟨_, rfl, ⟨(DQ.out.cel 4 _ rfl).1, (DB.out.cel 4 _ rfl).1⟩, fun hHeld => ?_⟩
            simp only [Act.put, List.setIfInBounds_toArray, List.set_cons_zero, List.set_cons_succ]
            have c2 : (0 < cmpB x.r.l (mL ps k).r.l) = True := eq_true (by have := C2.out; omega)
            refine take_at (i := 7) (v := ?_) (some 48) rfl rfl (by kernel_rfl) (by kernel_rfl) (by kernel_rfl) (fun _ _ _ h => h) (Or.inl ⟨by rfl, ?_⟩) (by assumption) ?_
            rotate_left
            · (intro w hSw; (try dsimp only at hSw); go_simp; try with_reducible rfl)
            simp only [Act.put, List.setIfInBounds_toArray, List.set_cons_zero, List.set_cons_succ]
            refine wpAnyH_done (by kernel_rfl) ?_ _
            refine NoPanic.normal ?_
            clear hHeld
            have s3 := (DQ.out.cel 4 _ rfl).1
            go_wp2_with (refine wpList_put_rec rfl 43 (.tmp 53) (.tmp 51) rfl b 4 _ [x.l] (chC lv (.slice fa k fc) to x.f x.l d) x.l rfl rfl XC.out.2.1 DB.out (by show 4 + 1 ≤ 6; omega) rfl (by kernel_rfl) (by intro u hu; rcases List.mem_singleton.1 hu with rfl; exact XC.out.2.2) ?_; intro W6 R6 B6 z6; have PB6 := hidIt R6; have PQ6 := hidIt (DQ.out.but B6 NB.out); have E6 := hidIt (And.intro (ED.out.1.trans (Off.but B6 (by simp))) (ED.out.2.trans (Off.but B6 (by simp)))); clear R6 B6 z6 s3)
            clear c2 DB DQ ED PB5 PQ5 E5
            have ED := hidIt (And.intro E6.out.1.drew E6.out.2.drew)
            have DB := hidIt (PB6.out.below (Below.refl _ _).drew)
            have DQ := hidIt (PQ6.out.below (Below.refl _ _).drew)
            clear PB6 PQ6 E6
            obtain ⟨W7, v8, W8, TS, NX, S10⟩ := take_step HI.out HX.out SB.out DB.out DQ.out ED.out.1 ED.out.2 OX.out.one (f' := x.f) (t' := x.l) NXT.out
            have TT := hidIt TS
            have NN := hidIt NX
            have SS := hidIt S10
            clear TS NX S10
            have cl := (DB.out.cel 1 _ rfl).1
            refine wp_region_noPanic ?_
            refine wp_region_held_drew (S := fun w' => w'.rangeAt wr.heap.size 0 x.cs) (by kernel_rfl) ?_ (fun hHeld => ?_)
            · exact DQ.out.1
            refine take_at (i := 0) (v := ?_) (some 54) rfl rfl (by kernel_rfl) (by kernel_rfl) (by kernel_rfl) (fun _ _ _ h => h) (Or.inl ⟨by rfl, ?_⟩) (by assumption) ?_
            rotate_left
            · (intro w hSw; (try dsimp only at hSw); go_simp; try with_reducible rfl)
            simp only [Act.put, List.setIfInBounds_toArray, List.set_cons_zero, List.set_cons_succ]
            refine take_at (i := 1) (v := ?_) (some 55) rfl rfl (by kernel_rfl) (by kernel_rfl) (by kernel_rfl) (fun _ _ _ h => h) (Or.inl ⟨by rfl, ?_⟩) (by assumption) ?_
            rotate_left
            · (intro w hSw; (try dsimp only at hSw); go_simp; try with_reducible rfl)
            simp only [Act.put, List.setIfInBounds_toArray, List.set_cons_zero, List.set_cons_succ]
            refine take_at (i := 2) (v := ?_) (some 56) rfl rfl (by kernel_rfl) (by kernel_rfl) (by kernel_rfl) (fun _ _ _ h => h) (Or.inl ⟨by rfl, ?_⟩) (by assumption) ?_
            rotate_left
            · (intro w hSw; (try dsimp only at hSw); go_simp; try with_reducible rfl)
            simp only [Act.put, List.setIfInBounds_toArray, List.set_cons_zero, List.set_cons_succ]
            refine take_at (i := 3) (v := ?_) (some 57) rfl rfl (by kernel_rfl) (by kernel_rfl) (by kernel_rfl) (fun _ _ _ h => h) (Or.inl ⟨by rfl, ?_⟩) (by assumption) ?_
            rotate_left
            · (intro w hSw; (try dsimp only at hSw); go_simp; try with_reducible rfl)
            simp only [Act.put, List.setIfInBounds_toArray, List.set_cons_zero, List.set_cons_succ]
            refine take_at (i := 5) (v := _) (some 59) rfl rfl (by kernel_rfl) (by kernel_rfl) (by kernel_rfl) (fun _ _ _ h => h) (yieldsIf_load_mid (by rfl) _ _ rfl _ _ rfl _ _ (fun w h => h) Try.underlying45 rfl (by kernel_rfl)) (by assumption) ?_
            simp only [Act.put, List.setIfInBounds_toArray, List.set_cons_zero, List.set_cons_succ]
            refine pair_at (i := 4) (j := 6) (some 58) (some 60) rfl rfl rfl rfl (by kernel_rfl) (by rfl) (by rfl) (.slice fa k fc) (.slice (some ⟨W6.drew.heap.size, 0, none⟩) 1 1) W6.drew W7 (by go_simp) (by rw [TT.out.1]; exact bsl_run 23 45 1 _ rfl 5 72 _ _ _ under_runs info_run (by decide) (by decide) rfl (by kernel_rfl)) ⟨hHeld, TT.out.2.2.2.2.1⟩ (fun hHeld => ?_) (fun hHeld => ?_)
            · skip
              simp only [Act.put, List.setIfInBounds_toArray, List.set_cons_zero, List.set_cons_succ]
              refine step_at (i := 6) (some 60) rfl rfl (by rfl) (by kernel_rfl) (.slice (some ⟨W6.drew.heap.size, 0, none⟩) 1 1) W7 (by rw [TT.out.1]; exact bsl_run 23 45 1 _ rfl 5 72 _ _ _ under_runs info_run (by decide) (by decide) rfl (by kernel_rfl)) TT.out.2.2.2.2.1 (fun hHeld => ?_)
              clear cl
              simp only [Act.put, List.setIfInBounds_toArray, List.set_cons_zero, List.set_cons_succ]
              refine step_at (i := 7) (some 61) rfl rfl (by rfl) (by kernel_rfl) v8 W8 (app_runv (.tmp 58) (.tmp 60) 23 23 rfl _ _ rfl rfl TT.out.2.1) TT.out.2.2.2.2.2 (fun hHeld => ?_)
              simp only [Act.put, List.setIfInBounds_toArray, List.set_cons_zero, List.set_cons_succ]
              refine take_at (i := 8) (v := ?_) (some 62) rfl rfl (by kernel_rfl) (by kernel_rfl) (by kernel_rfl) (fun _ _ _ h => h) (Or.inl ⟨by rfl, ?_⟩) (by assumption) ?_
              rotate_left
              · (intro w hSw; (try dsimp only at hSw); go_simp; try with_reducible rfl)
              simp only [Act.put, List.setIfInBounds_toArray, List.set_cons_zero, List.set_cons_succ]
              refine take_at (i := 9) (v := ?_) (some 63) rfl rfl (by kernel_rfl) (by kernel_rfl) (by kernel_rfl) (fun _ _ _ h => h) (Or.inl ⟨by rfl, ?_⟩) (by assumption) ?_
              rotate_left
              · (intro w hSw; (try dsimp only at hSw); go_simp; try with_reducible rfl)
              simp only [Act.put, List.setIfInBounds_toArray, List.set_cons_zero, List.set_cons_succ]
              have hr8 := TT.out.2.2.1
              have S8 := SS.out
              clear TT SS
              generalize W8.setCell ⟨b, 1, none⟩ v8 = W10 at *
              refine mute_at (i := 10) none rfl rfl (by rfl) (by kernel_rfl) W10 (put_mute 23 (.tmp 63) (.tmp 61) rfl _ _ rfl rfl hr8) S8 (fun hHeld => ?_)
              simp only [Act.put]
              clear hr8 S8
              refine wpAnyH_done (by kernel_rfl) ?_ _
              refine NoPanic.normal ?_
              clear hHeld
              go_wp2_with fail
              exact ⟨⟨k + 1, v8, x.f, x.l, LT.out, rfl, NN⟩, GO.out⟩
            · skip
              simp only [Act.put, List.setIfInBounds_toArray, List.set_cons_zero, List.set_cons_succ]
              have cl5 := TT.out.2.2.2.1
              refine step_at (i := 4) (some 58) rfl rfl (by rfl) (by kernel_rfl) (.slice fa k fc) W7 (by go_simp) TT.out.2.2.2.2.1 (fun hHeld => ?_)
              clear cl5
              clear cl
              simp only [Act.put, List.setIfInBounds_toArray, List.set_cons_zero, List.set_cons_succ]
              refine step_at (i := 7) (some 61) rfl rfl (by rfl) (by kernel_rfl) v8 W8 (app_runv (.tmp 58) (.tmp 60) 23 23 rfl _ _ rfl rfl TT.out.2.1) TT.out.2.2.2.2.2 (fun hHeld => ?_)
              simp only [Act.put, List.setIfInBounds_toArray, List.set_cons_zero, List.set_cons_succ]
              refine take_at (i := 8) (v := ?_) (some 62) rfl rfl (by kernel_rfl) (by kernel_rfl) (by kernel_rfl) (fun _ _ _ h => h) (Or.inl ⟨by rfl, ?_⟩) (by assumption) ?_
              rotate_left
              · (intro w hSw; (try dsimp only at hSw); go_simp; try with_reducible rfl)
              simp only [Act.put, List.setIfInBounds_toArray, List.set_cons_zero, List.set_cons_succ]
              refine take_at (i := 9) (v := ?_) (some 63) rfl rfl (by kernel_rfl) (by kernel_rfl) (by kernel_rfl) (fun _ _ _ h => h) (Or.inl ⟨by rfl, ?_⟩) (by assumption) ?_
              rotate_left
              · (intro w hSw; (try dsimp only at hSw); go_simp; try with_reducible rfl)
              simp only [Act.put, List.setIfInBounds_toArray, List.set_cons_zero, List.set_cons_succ]
              have hr8 := TT.out.2.2.1
              have S8 := SS.out
              clear TT SS
              generalize W8.setCell ⟨b, 1, none⟩ v8 = W10 at *
              refine mute_at (i := 10) none rfl rfl (by rfl) (by kernel_rfl) W10 (put_mute 23 (.tmp 63) (.tmp 61) rfl _ _ rfl rfl hr8) S8 (fun hHeld => ?_)
              simp only [Act.put]
              clear hr8 S8
              refine wpAnyH_done (by kernel_rfl) ?_ _
              refine NoPanic.normal ?_
              clear hHeld
              go_wp2_with fail
              exact ⟨⟨k + 1, v8, x.f, x.l, LT.out, rfl, NN⟩, GO.out⟩
          · have C2 := hidIt C2
            have NXT : Hid (x.f = (mF ps (k + 1)).f ∧ tv = (mL ps (k + 1)).l) := hidIt ⟨by rw [mF_yes HX.out (by have := C1.out; omega)], by rw [mL_no HX.out (by have := C2.out; omega)]; exact MO.out.2⟩
            have O0 := hidIt (And.intro (HI.out.off.trans O2.out) O2.out)
            have ED := hidIt (And.intro O0.out.1.drew O0.out.2.drew)
            have DB := hidIt (PB.out.below (Below.refl _ _).drew)
            have DQ := hidIt (PQ.out.below (Below.refl _ _).drew)
            go_wp2_with fail
            refine wp_region_noPanic ?_
            refine wp_region_held_drew (S := fun w' => w'.cell? ⟨wr.heap.size, 3, none⟩ = some x.f ∧ w'.cell? ⟨b, 3, none⟩ = some fv) (by kernel_rfl) ?_ (fun hHeld => ?_)
            · exact ⟨(DQ.out.cel 3 _ rfl).1, (DB.out.cel 3 _ rfl).1⟩
            refine take_at (i := 0) (v := ?_) (some 28) rfl rfl (by kernel_rfl) (by kernel_rfl) (by kernel_rfl) (fun _ _ _ h => h) (Or.inl ⟨by rfl, ?_⟩) (by assumption) ?_
            rotate_left
            · (intro w hSw; (try dsimp only at hSw); go_simp; try with_reducible rfl)
            simp only [Act.put, List.setIfInBounds_toArray, List.set_cons_zero, List.set_cons_succ]
            refine take_at (i := 1) (v := ?_) (some 29) rfl rfl (by kernel_rfl) (by kernel_rfl) (by kernel_rfl) (fun _ _ _ h => h) (Or.inl ⟨by rfl, ?_⟩) (by assumption) ?_
            rotate_left
            · (intro w hSw; (try dsimp only at hSw); go_simp; try with_reducible rfl)
            simp only [Act.put, List.setIfInBounds_toArray, List.set_cons_zero, List.set_cons_succ]
            refine take_at (i := 2) (v := ?_) (some 30) rfl rfl (by kernel_rfl) (by kernel_rfl) (by kernel_rfl) (fun _ _ _ h => h) (Or.inl ⟨by rfl, ?_⟩) (by assumption) ?_
            rotate_left
            · (intro w hSw; (try dsimp only at hSw); go_simp; try with_reducible rfl)
            simp only [Act.put, List.setIfInBounds_toArray, List.set_cons_zero, List.set_cons_succ]
            refine take_at (i := 3) (v := ?_) (some 31) rfl rfl (by kernel_rfl) (by kernel_rfl) (by kernel_rfl) (fun _ _ _ h => h) (Or.inl ⟨by rfl, ?_⟩) (by assumption) ?_
            rotate_left
            · (intro w hSw; (try dsimp only at hSw); go_simp; try with_reducible rfl)
            simp only [Act.put, List.setIfInBounds_toArray, List.set_cons_zero, List.set_cons_succ]
            refine take_at (i := 4) (v := ?_) (some 32) rfl rfl (by kernel_rfl) (by kernel_rfl) (by kernel_rfl) (fun _ _ _ h => h) (Or.inl ⟨by rfl, ?_⟩) (by assumption) ?_
            rotate_left
            · (intro w hSw; (try dsimp only at hSw); go_simp; try with_reducible rfl)
            simp only [Act.put, List.setIfInBounds_toArray, List.set_cons_zero, List.set_cons_succ]
            refine take_at (i := 5) (v := ?_) (some 33) rfl rfl (by kernel_rfl) (by kernel_rfl) (by kernel_rfl) (fun _ _ _ h => h) (Or.inl ⟨by rfl, ?_⟩) (by assumption) ?_
            rotate_left
            · (intro w hSw; (try dsimp only at hSw); go_simp; try with_reducible rfl)
            simp only [Act.put, List.setIfInBounds_toArray, List.set_cons_zero, List.set_cons_succ]
            refine call_at (i := 6) (some 34) 35 _ _ rfl rfl rfl (by rfl) (by kernel_rfl) #[x.f, fv] rfl Try.func35 (by kernel_rfl) (by kernel_rfl) ?_
            refine (ycmp_any (FX.out _ ED.out.1).1 (FM.out _ ED.out.1).1).mono ?_
            rintro e w2 ⟨rfl, hw⟩
            subst hw
            refine ⟨_, rfl, ⟨(DQ.out.cel 3 _ rfl).1, (DB.out.cel 3 _ rfl).1⟩, fun hHeld => ?_⟩
            simp only [Act.put, List.setIfInBounds_toArray, List.set_cons_zero, List.set_cons_succ]
            have c1 : (cmpB x.r.f (mF ps k).r.f < 0) = True := eq_true (by have := C1.out; omega)
            refine take_at (i := 7) (v := ?_) (some 35) rfl rfl (by kernel_rfl) (by kernel_rfl) (by kernel_rfl) (fun _ _ _ h => h) (Or.inl ⟨by rfl, ?_⟩) (by assumption) ?_
            rotate_left
            · (intro w hSw; (try dsimp only at hSw); go_simp; try with_reducible rfl)
            simp only [Act.put, List.setIfInBounds_toArray, List.set_cons_zero, List.set_cons_succ]
            refine wpAnyH_done (by kernel_rfl) ?_ _
            refine NoPanic.normal ?_
            clear hHeld
            have s3 := (DQ.out.cel 3 _ rfl).1
            go_wp2_with (refine wpList_put_rec rfl 43 (.tmp 40) (.tmp 38) rfl b 3 _ [x.f] (chC lv (.slice fa k fc) to x.f tv d) x.f rfl rfl XC.out.1.1 DB.out (by show 3 + 1 ≤ 6; omega) rfl (by kernel_rfl) (by intro u hu; rcases List.mem_singleton.1 hu with rfl; exact XC.out.1.2) ?_; intro W5 R5 B5 z5; have PB5 := hidIt R5; have PQ5 := hidIt (DQ.out.but B5 NB.out); have E5 := hidIt (And.intro (ED.out.1.trans (Off.but B5 (by simp))) (ED.out.2.trans (Off.but B5 (by simp)))); clear R5 B5 z5 s3)
            clear c1 DB DQ ED O0
            have ED := hidIt (And.intro E5.out.1.drew E5.out.2.drew)
            have DB := hidIt (PB5.out.below (Below.refl _ _).drew)
            have DQ := hidIt (PQ5.out.below (Below.refl _ _).drew)
            refine wp_region_noPanic ?_
            refine wp_region_held_drew (S := fun w' => w'.cell? ⟨wr.heap.size, 4, none⟩ = some x.l ∧ w'.cell? ⟨b, 4, none⟩ = some tv) (by kernel_rfl) ?_ (fun hHeld => ?_)
            · exact ⟨(DQ.out.cel 4 _ rfl).1, (DB.out.cel 4 _ rfl).1⟩
            refine take_at (i := 0) (v := ?_) (some 41) rfl rfl (by kernel_rfl) (by kernel_rfl) (by kernel_rfl) (fun _ _ _ h => h) (Or.inl ⟨by rfl, ?_⟩) (by assumption) ?_
            rotate_left
            · (intro w hSw; (try dsimp only at hSw); go_simp; try with_reducible rfl)
            simp only [Act.put, List.setIfInBounds_toArray, List.set_cons_zero, List.set_cons_succ]
            refine take_at (i := 1) (v := ?_) (some 42) rfl rfl (by kernel_rfl) (by kernel_rfl) (by kernel_rfl) (fun _ _ _ h => h) (Or.inl ⟨by rfl, ?_⟩) (by assumption) ?_
            rotate_left
            · (intro w hSw; (try dsimp only at hSw); go_simp; try with_reducible rfl)
            simp only [Act.put, List.setIfInBounds_toArray, List.set_cons_zero, List.set_cons_succ]
            refine take_at (i := 2) (v := ?_) (some 43) rfl rfl (by kernel_rfl) (by kernel_rfl) (by kernel_rfl) (fun _ _ _ h => h) (Or.inl ⟨by rfl, ?_⟩) (by assumption) ?_
            rotate_left
            · (intro w hSw; (try dsimp only at hSw); go_simp; try with_reducible rfl)
            simp only [Act.put, List.setIfInBounds_toArray, List.set_cons_zero, List.set_cons_succ]
            refine take_at (i := 3) (v := ?_) (some 44) rfl rfl (by kernel_rfl) (by kernel_rfl) (by kernel_rfl) (fun _ _ _ h => h) (Or.inl ⟨by rfl, ?_⟩) (by assumption) ?_
            rotate_left
            · (intro w hSw; (try dsimp only at hSw); go_simp; try with_reducible rfl)
            simp only [Act.put, List.setIfInBounds_toArray, List.set_cons_zero, List.set_cons_succ]
            refine take_at (i := 4) (v := ?_) (some 45) rfl rfl (by kernel_rfl) (by kernel_rfl) (by kernel_rfl) (fun _ _ _ h => h) (Or.inl ⟨by rfl, ?_⟩) (by assumption) ?_
            rotate_left
            · (intro w hSw; (try dsimp only at hSw); go_simp; try with_reducible rfl)
            simp only [Act.put, List.setIfInBounds_toArray, List.set_cons_zero, List.set_cons_succ]
            refine take_at (i := 5) (v := ?_) (some 46) rfl rfl (by kernel_rfl) (by kernel_rfl) (by kernel_rfl) (fun _ _ _ h => h) (Or.inl ⟨by rfl, ?_⟩) (by assumption) ?_
            rotate_left
            · (intro w hSw; (try dsimp only at hSw); go_simp; try with_reducible rfl)
            simp only [Act.put, List.setIfInBounds_toArray, List.set_cons_zero, List.set_cons_succ]
            refine call_at (i := 6) (some 47) 35 _ _ rfl rfl rfl (by rfl) (by kernel_rfl) #[x.l, tv] rfl Try.func35 (by kernel_rfl) (by kernel_rfl) ?_
            refine (ycmp_any (FX.out _ ED.out.1).2 (FM.out _ ED.out.1).2).mono ?_
            rintro e w2 ⟨rfl, hw⟩
            subst hw
            refine ⟨_, rfl, ⟨(DQ.out.cel 4 _ rfl).1, (DB.out.cel 4 _ rfl).1⟩, fun hHeld => ?_⟩
            simp only [Act.put, List.setIfInBounds_toArray, List.set_cons_zero, List.set_cons_succ]
            have c2 : (0 < cmpB x.r.l (mL ps k).r.l) = False := eq_false (by have := C2.out; omega)
            refine take_at (i := 7) (v := ?_) (some 48) rfl rfl (by kernel_rfl) (by kernel_rfl) (by kernel_rfl) (fun _ _ _ h => h) (Or.inl ⟨by rfl, ?_⟩) (by assumption) ?_
            rotate_left
            · (intro w hSw; (try dsimp only at hSw); go_simp; try with_reducible rfl)
            simp only [Act.put, List.setIfInBounds_toArray, List.set_cons_zero, List.set_cons_succ]
            refine wpAnyH_done (by kernel_rfl) ?_ _
            refine NoPanic.normal ?_
            clear hHeld
            go_wp2_with fail
            have PB6 := DB; have PQ6 := DQ; have E6 := ED
            clear c2 DB DQ ED PB5 PQ5 E5
            have ED := hidIt (And.intro E6.out.1.drew E6.out.2.drew)
            have DB := hidIt (PB6.out.below (Below.refl _ _).drew)
            have DQ := hidIt (PQ6.out.below (Below.refl _ _).drew)
            clear PB6 PQ6 E6
            obtain ⟨W7, v8, W8, TS, NX, S10⟩ := take_step HI.out HX.out SB.out DB.out DQ.out ED.out.1 ED.out.2 OX.out.one (f' := x.f) (t' := tv) NXT.out
            have TT := hidIt TS
            have NN := hidIt NX
            have SS := hidIt S10
            clear TS NX S10
            have cl := (DB.out.cel 1 _ rfl).1
            refine wp_region_noPanic ?_
            refine wp_region_held_drew (S := fun w' => w'.rangeAt wr.heap.size 0 x.cs) (by kernel_rfl) ?_ (fun hHeld => ?_)
            · exact DQ.out.1
            refine take_at (i := 0) (v := ?_) (some 54) rfl rfl (by kernel_rfl) (by kernel_rfl) (by kernel_rfl) (fun _ _ _ h => h) (Or.inl ⟨by rfl, ?_⟩) (by assumption) ?_
            rotate_left
            · (intro w hSw; (try dsimp only at hSw); go_simp; try with_reducible rfl)
            simp only [Act.put, List.setIfInBounds_toArray, List.set_cons_zero, List.set_cons_succ]
            refine take_at (i := 1) (v := ?_) (some 55) rfl rfl (by kernel_rfl) (by kernel_rfl) (by kernel_rfl) (fun _ _ _ h => h) (Or.inl ⟨by rfl, ?_⟩) (by assumption) ?_
            rotate_left
            · (intro w hSw; (try dsimp only at hSw); go_simp; try with_reducible rfl)
            simp only [Act.put, List.setIfInBounds_toArray, List.set_cons_zero, List.set_cons_succ]
            refine take_at (i := 2) (v := ?_) (some 56) rfl rfl (by kernel_rfl) (by kernel_rfl) (by kernel_rfl) (fun _ _ _ h => h) (Or.inl ⟨by rfl, ?_⟩) (by assumption) ?_
            rotate_left
            · (intro w hSw; (try dsimp only at hSw); go_simp; try with_reducible rfl)
            simp only [Act.put, List.setIfInBounds_toArray, List.set_cons_zero, List.set_cons_succ]
            refine take_at (i := 3) (v := ?_) (some 57) rfl rfl (by kernel_rfl) (by kernel_rfl) (by kernel_rfl) (fun _ _ _ h => h) (Or.inl ⟨by rfl, ?_⟩) (by assumption) ?_
            rotate_left
            · (intro w hSw; (try dsimp only at hSw); go_simp; try with_reducible rfl)
            simp only [Act.put, List.setIfInBounds_toArray, List.set_cons_zero, List.set_cons_succ]
            refine take_at (i := 5) (v := _) (some 59) rfl rfl (by kernel_rfl) (by kernel_rfl) (by kernel_rfl) (fun _ _ _ h => h) (yieldsIf_load_mid (by rfl) _ _ rfl _ _ rfl _ _ (fun w h => h) Try.underlying45 rfl (by kernel_rfl)) (by assumption) ?_
            simp only [Act.put, List.setIfInBounds_toArray, List.set_cons_zero, List.set_cons_succ]
            refine pair_at (i := 4) (j := 6) (some 58) (some 60) rfl rfl rfl rfl (by kernel_rfl) (by rfl) (by rfl) (.slice fa k fc) (.slice (some ⟨W5.drew.drew.heap.size, 0, none⟩) 1 1) W5.drew.drew W7 (by go_simp) (by rw [TT.out.1]; exact bsl_run 23 45 1 _ rfl 5 72 _ _ _ under_runs info_run (by decide) (by decide) rfl (by kernel_rfl)) ⟨hHeld, TT.out.2.2.2.2.1⟩ (fun hHeld => ?_) (fun hHeld => ?_)
            · skip
              simp only [Act.put, List.setIfInBounds_toArray, List.set_cons_zero, List.set_cons_succ]
              refine step_at (i := 6) (some 60) rfl rfl (by rfl) (by kernel_rfl) (.slice (some ⟨W5.drew.drew.heap.size, 0, none⟩) 1 1) W7 (by rw [TT.out.1]; exact bsl_run 23 45 1 _ rfl 5 72 _ _ _ under_runs info_run (by decide) (by decide) rfl (by kernel_rfl)) TT.out.2.2.2.2.1 (fun hHeld => ?_)
              clear cl
              simp only [Act.put, List.setIfInBounds_toArray, List.set_cons_zero, List.set_cons_succ]
              refine step_at (i := 7) (some 61) rfl rfl (by rfl) (by kernel_rfl) v8 W8 (app_runv (.tmp 58) (.tmp 60) 23 23 rfl _ _ rfl rfl TT.out.2.1) TT.out.2.2.2.2.2 (fun hHeld => ?_)
              simp only [Act.put, List.setIfInBounds_toArray, List.set_cons_zero, List.set_cons_succ]
              refine take_at (i := 8) (v := ?_) (some 62) rfl rfl (by kernel_rfl) (by kernel_rfl) (by kernel_rfl) (fun _ _ _ h => h) (Or.inl ⟨by rfl, ?_⟩) (by assumption) ?_
              rotate_left
              · (intro w hSw; (try dsimp only at hSw); go_simp; try with_reducible rfl)
              simp only [Act.put, List.setIfInBounds_toArray, List.set_cons_zero, List.set_cons_succ]
              refine take_at (i := 9) (v := ?_) (some 63) rfl rfl (by kernel_rfl) (by kernel_rfl) (by kernel_rfl) (fun _ _ _ h => h) (Or.inl ⟨by rfl, ?_⟩) (by assumption) ?_
              rotate_left
              · (intro w hSw; (try dsimp only at hSw); go_simp; try with_reducible rfl)
              simp only [Act.put, List.setIfInBounds_toArray, List.set_cons_zero, List.set_cons_succ]
              have hr8 := TT.out.2.2.1
              have S8 := SS.out
              clear TT SS
              generalize W8.setCell ⟨b, 1, none⟩ v8 = W10 at *
              refine mute_at (i := 10) none rfl rfl (by rfl) (by kernel_rfl) W10 (put_mute 23 (.tmp 63) (.tmp 61) rfl _ _ rfl rfl hr8) S8 (fun hHeld => ?_)
              simp only [Act.put]
              clear hr8 S8
              refine wpAnyH_done (by kernel_rfl) ?_ _
              refine NoPanic.normal ?_
              clear hHeld
              go_wp2_with fail
              exact ⟨⟨k + 1, v8, x.f, tv, LT.out, rfl, NN⟩, GO.out⟩
            · skip
              simp only [Act.put, List.setIfInBounds_toArray, List.set_cons_zero, List.set_cons_succ]
              have cl5 := TT.out.2.2.2.1
              refine step_at (i := 4) (some 58) rfl rfl (by rfl) (by kernel_rfl) (.slice fa k fc) W7 (by go_simp) TT.out.2.2.2.2.1 (fun hHeld => ?_)
              clear cl5
              clear cl
              simp only [Act.put, List.setIfInBounds_toArray, List.set_cons_zero, List.set_cons_succ]
              refine step_at (i := 7) (some 61) rfl rfl (by rfl) (by kernel_rfl) v8 W8 (app_runv (.tmp 58) (.tmp 60) 23 23 rfl _ _ rfl rfl TT.out.2.1) TT.out.2.2.2.2.2 (fun hHeld => ?_)
              simp only [Act.put, List.setIfInBounds_toArray, List.set_cons_zero, List.set_cons_succ]
              refine take_at (i := 8) (v := ?_) (some 62) rfl rfl (by kernel_rfl) (by kernel_rfl) (by kernel_rfl) (fun _ _ _ h => h) (Or.inl ⟨by rfl, ?_⟩) (by assumption) ?_
              rotate_left
              · (intro w hSw; (try dsimp only at hSw); go_simp; try with_reducible rfl)
              simp only [Act.put, List.setIfInBounds_toArray, List.set_cons_zero, List.set_cons_succ]
              refine take_at (i := 9) (v := ?_) (some 63) rfl rfl (by kernel_rfl) (by kernel_rfl) (by kernel_rfl) (fun _ _ _ h => h) (Or.inl ⟨by rfl, ?_⟩) (by assumption) ?_
              rotate_left
              · (intro w hSw; (try dsimp only at hSw); go_simp; try with_reducible rfl)
              simp only [Act.put, List.setIfInBounds_toArray, List.set_cons_zero, List.set_cons_succ]
              have hr8 := TT.out.2.2.1
              have S8 := SS.out
              clear TT SS
              generalize W8.setCell ⟨b, 1, none⟩ v8 = W10 at *
              refine mute_at (i := 10) none rfl rfl (by rfl) (by kernel_rfl) W10 (put_mute 23 (.tmp 63) (.tmp 61) rfl _ _ rfl rfl hr8) S8 (fun hHeld => ?_)
              simp only [Act.put]
              clear hr8 S8
              refine wpAnyH_done (by kernel_rfl) ?_ _
              refine NoPanic.normal ?_
              clear hHeld
              go_wp2_with fail
              exact ⟨⟨k + 1, v8, x.f, tv, LT.out, rfl, NN⟩, GO.out⟩
        · have C1 := hidIt C1
          by_cases C2 : 0 < cmpB x.r.l (mL ps k).r.l
          · have C2 := hidIt C2
            have NXT : Hid (fv = (mF ps (k + 1)).f ∧ x.l = (mL ps (k + 1)).l) := hidIt ⟨by rw [mF_no HX.out (by have := C1.out; omega)]; exact MO.out.1, by rw [mL_yes HX.out (by have := C2.out; omega)]⟩
            have O0 := hidIt (And.intro (HI.out.off.trans O2.out) O2.out)
            have ED := hidIt (And.intro O0.out.1.drew O0.out.2.drew)
            have DB := hidIt (PB.out.below (Below.refl _ _).drew)
            have DQ := hidIt (PQ.out.below (Below.refl _ _).drew)
            go_wp2_with fail
            refine wp_region_noPanic ?_
            refine wp_region_held_drew (S := fun w' => w'.cell? ⟨wr.heap.size, 3, none⟩ = some x.f ∧ w'.cell? ⟨b, 3, none⟩ = some fv) (by kernel_rfl) ?_ (fun hHeld => ?_)
            · exact ⟨(DQ.out.cel 3 _ rfl).1, (DB.out.cel 3 _ rfl).1⟩
            refine take_at (i := 0) (v := ?_) (some 28) rfl rfl (by kernel_rfl) (by kernel_rfl) (by kernel_rfl) (fun _ _ _ h => h) (Or.inl ⟨by rfl, ?_⟩) (by assumption) ?_
            rotate_left
            · (intro w hSw; (try dsimp only at hSw); go_simp; try with_reducible rfl)
            simp only [Act.put, List.setIfInBounds_toArray, List.set_cons_zero, List.set_cons_succ]
            refine take_at (i := 1) (v := ?_) (some 29) rfl rfl (by kernel_rfl) (by kernel_rfl) (by kernel_rfl) (fun _ _ _ h => h) (Or.inl ⟨by rfl, ?_⟩) (by assumption) ?_
            rotate_left
            · (intro w hSw; (try dsimp only at hSw); go_simp; try with_reducible rfl)
            simp only [Act.put, List.setIfInBounds_toArray, List.set_cons_zero, List.set_cons_succ]
            refine take_at (i := 2) (v := ?_) (some 30) rfl rfl (by kernel_rfl) (by kernel_rfl) (by kernel_rfl) (fun _ _ _ h => h) (Or.inl ⟨by rfl, ?_⟩) (by assumption) ?_
            rotate_left
            · (intro w hSw; (try dsimp only at hSw); go_simp; try with_reducible rfl)
            simp only [Act.put, List.setIfInBounds_toArray, List.set_cons_zero, List.set_cons_succ]
            refine take_at (i := 3) (v := ?_) (some 31) rfl rfl (by kernel_rfl) (by kernel_rfl) (by kernel_rfl) (fun _ _ _ h => h) (Or.inl ⟨by rfl, ?_⟩) (by assumption) ?_
            rotate_left
            · (intro w hSw; (try dsimp only at hSw); go_simp; try with_reducible rfl)
            simp only [Act.put, List.setIfInBounds_toArray, List.set_cons_zero, List.set_cons_succ]
            refine take_at (i := 4) (v := ?_) (some 32) rfl rfl (by kernel_rfl) (by kernel_rfl) (by kernel_rfl) (fun _ _ _ h => h) (Or.inl ⟨by rfl, ?_⟩) (by assumption) ?_
            rotate_left
            · (intro w hSw; (try dsimp only at hSw); go_simp; try with_reducible rfl)
            simp only [Act.put, List.setIfInBounds_toArray, List.set_cons_zero, List.set_cons_succ]
            refine take_at (i := 5) (v := ?_) (some 33) rfl rfl (by kernel_rfl) (by kernel_rfl) (by kernel_rfl) (fun _ _ _ h => h) (Or.inl ⟨by rfl, ?_⟩) (by assumption) ?_
            rotate_left
            · (intro w hSw; (try dsimp only at hSw); go_simp; try with_reducible rfl)
            simp only [Act.put, List.setIfInBounds_toArray, List.set_cons_zero, List.set_cons_succ]
            refine call_at (i := 6) (some 34) 35 _ _ rfl rfl rfl (by rfl) (by kernel_rfl) #[x.f, fv] rfl Try.func35 (by kernel_rfl) (by kernel_rfl) ?_
            refine (ycmp_any (FX.out _ ED.out.1).1 (FM.out _ ED.out.1).1).mono ?_
            rintro e w2 ⟨rfl, hw⟩
            subst hw
            refine ⟨_, rfl, ⟨(DQ.out.cel 3 _ rfl).1, (DB.out.cel 3 _ rfl).1⟩, fun hHeld => ?_⟩
            simp only [Act.put, List.setIfInBounds_toArray, List.set_cons_zero, List.set_cons_succ]
            have c1 : (cmpB x.r.f (mF ps k).r.f < 0) = False := eq_false (by have := C1.out; omega)
            refine take_at (i := 7) (v := ?_) (some 35) rfl rfl (by kernel_rfl) (by kernel_rfl) (by kernel_rfl) (fun _ _ _ h => h) (Or.inl ⟨by rfl, ?_⟩) (by assumption) ?_
            rotate_left
            · (intro w hSw; (try dsimp only at hSw); go_simp; try with_reducible rfl)
            simp only [Act.put, List.setIfInBounds_toArray, List.set_cons_zero, List.set_cons_succ]
            refine wpAnyH_done (by kernel_rfl) ?_ _
            refine NoPanic.normal ?_
            clear hHeld
            go_wp2_with fail
            have PB5 := DB; have PQ5 := DQ; have E5 := ED
            clear c1 DB DQ ED O0
            have ED := hidIt (And.intro E5.out.1.drew E5.out.2.drew)
            have DB := hidIt (PB5.out.below (Below.refl _ _).drew)
            have DQ := hidIt (PQ5.out.below (Below.refl _ _).drew)
            refine wp_region_noPanic ?_
            refine wp_region_held_drew (S := fun w' => w'.cell? ⟨wr.heap.size, 4, none⟩ = some x.l ∧ w'.cell? ⟨b, 4, none⟩ = some tv) (by kernel_rfl) ?_ (fun hHeld => ?_)
            · exact ⟨(DQ.out.cel 4 _ rfl).1, (DB.out.cel 4 _ rfl).1⟩
            refine take_at (i := 0) (v := ?_) (some 41) rfl rfl (by kernel_rfl) (by kernel_rfl) (by kernel_rfl) (fun _ _ _ h => h) (Or.inl ⟨by rfl, ?_⟩) (by assumption) ?_
            rotate_left
            · (intro w hSw; (try dsimp only at hSw); go_simp; try with_reducible rfl)
            simp only [Act.put, List.setIfInBounds_toArray, List.set_cons_zero, List.set_cons_succ]
            refine take_at (i := 1) (v := ?_) (some 42) rfl rfl (by kernel_rfl) (by kernel_rfl) (by kernel_rfl) (fun _ _ _ h => h) (Or.inl ⟨by rfl, ?_⟩) (by assumption) ?_
            rotate_left
            · (intro w hSw; (try dsimp only at hSw); go_simp; try with_reducible rfl)
            simp only [Act.put, List.setIfInBounds_toArray, List.set_cons_zero, List.set_cons_succ]
            refine take_at (i := 2) (v := ?_) (some 43) rfl rfl (by kernel_rfl) (by kernel_rfl) (by kernel_rfl) (fun _ _ _ h => h) (Or.inl ⟨by rfl, ?_⟩) (by assumption) ?_
            rotate_left
            · (intro w hSw; (try dsimp only at hSw); go_simp; try with_reducible rfl)
            simp only [Act.put, List.setIfInBounds_toArray, List.set_cons_zero, List.set_cons_succ]
            refine take_at (i := 3) (v := ?_) (some 44) rfl rfl (by kernel_rfl) (by kernel_rfl) (by kernel_rfl) (fun _ _ _ h => h) (Or.inl ⟨by rfl, ?_⟩) (by assumption) ?_
            rotate_left
            · (intro w hSw; (try dsimp only at hSw); go_simp; try with_reducible rfl)
            simp only [Act.put, List.setIfInBounds_toArray, List.set_cons_zero, List.set_cons_succ]
            refine take_at (i := 4) (v := ?_) (some 45) rfl rfl (by kernel_rfl) (by kernel_rfl) (by kernel_rfl) (fun _ _ _ h => h) (Or.inl ⟨by rfl, ?_⟩) (by assumption) ?_
            rotate_left
            · (intro w hSw; (try dsimp only at hSw); go_simp; try with_reducible rfl)
            simp only [Act.put, List.setIfInBounds_toArray, List.set_cons_zero, List.set_cons_succ]
            refine take_at (i := 5) (v := ?_) (some 46) rfl rfl (by kernel_rfl) (by kernel_rfl) (by kernel_rfl) (fun _ _ _ h => h) (Or.inl ⟨by rfl, ?_⟩) (by assumption) ?_
            rotate_left
            · (intro w hSw; (try dsimp only at hSw); go_simp; try with_reducible rfl)
            simp only [Act.put, List.setIfInBounds_toArray, List.set_cons_zero, List.set_cons_succ]
            refine call_at (i := 6) (some 47) 35 _ _ rfl rfl rfl (by rfl) (by kernel_rfl) #[x.l, tv] rfl Try.func35 (by kernel_rfl) (by kernel_rfl) ?_
            refine (ycmp_any (FX.out _ ED.out.1).2 (FM.out _ ED.out.1).2).mono ?_
            rintro e w2 ⟨rfl, hw⟩
            subst hw
            refine ⟨_, rfl, ⟨(DQ.out.cel 4 _ rfl).1, (DB.out.cel 4 _ rfl).1⟩, fun hHeld => ?_⟩
            simp only [Act.put, List.setIfInBounds_toArray, List.set_cons_zero, List.set_cons_succ]
            have c2 : (0 < cmpB x.r.l (mL ps k).r.l) = True := eq_true (by have := C2.out; omega)
            refine take_at (i := 7) (v := ?_) (some 48) rfl rfl (by kernel_rfl) (by kernel_rfl) (by kernel_rfl) (fun _ _ _ h => h) (Or.inl ⟨by rfl, ?_⟩) (by assumption) ?_
            rotate_left
            · (intro w hSw; (try dsimp only at hSw); go_simp; try with_reducible rfl)
            simp only [Act.put, List.setIfInBounds_toArray, List.set_cons_zero, List.set_cons_succ]
            refine wpAnyH_done (by kernel_rfl) ?_ _
            refine NoPanic.normal ?_
            clear hHeld
            have s3 := (DQ.out.cel 4 _ rfl).1
            go_wp2_with (refine wpList_put_rec rfl 43 (.tmp 53) (.tmp 51) rfl b 4 _ [x.l] (chC lv (.slice fa k fc) to fv x.l d) x.l rfl rfl XC.out.2.1 DB.out (by show 4 + 1 ≤ 6; omega) rfl (by kernel_rfl) (by intro u hu; rcases List.mem_singleton.1 hu with rfl; exact XC.out.2.2) ?_; intro W6 R6 B6 z6; have PB6 := hidIt R6; have PQ6 := hidIt (DQ.out.but B6 NB.out); have E6 := hidIt (And.intro (ED.out.1.trans (Off.but B6 (by simp))) (ED.out.2.trans (Off.but B6 (by simp)))); clear R6 B6 z6 s3)
            clear c2 DB DQ ED PB5 PQ5 E5
            have ED := hidIt (And.intro E6.out.1.drew E6.out.2.drew)
            have DB := hidIt (PB6.out.below (Below.refl _ _).drew)
            have DQ := hidIt (PQ6.out.below (Below.refl _ _).drew)
            clear PB6 PQ6 E6
            obtain ⟨W7, v8, W8, TS, NX, S10⟩ := take_step HI.out HX.out SB.out DB.out DQ.out ED.out.1 ED.out.2 OX.out.one (f' := fv) (t' := x.l) NXT.out
            have TT := hidIt TS
            have NN := hidIt NX
            have SS := hidIt S10
            clear TS NX S10
            have cl := (DB.out.cel 1 _ rfl).1
            refine wp_region_noPanic ?_
            refine wp_region_held_drew (S := fun w' => w'.rangeAt wr.heap.size 0 x.cs) (by kernel_rfl) ?_ (fun hHeld => ?_)
            · exact DQ.out.1
            refine take_at (i := 0) (v := ?_) (some 54) rfl rfl (by kernel_rfl) (by kernel_rfl) (by kernel_rfl) (fun _ _ _ h => h) (Or.inl ⟨by rfl, ?_⟩) (by assumption) ?_
            rotate_left
            · (intro w hSw; (try dsimp only at hSw); go_simp; try with_reducible rfl)
            simp only [Act.put, List.setIfInBounds_toArray, List.set_cons_zero, List.set_cons_succ]
            refine take_at (i := 1) (v := ?_) (some 55) rfl rfl (by kernel_rfl) (by kernel_rfl) (by kernel_rfl) (fun _ _ _ h => h) (Or.inl ⟨by rfl, ?_⟩) (by assumption) ?_
            rotate_left
            · (intro w hSw; (try dsimp only at hSw); go_simp; try with_reducible rfl)
            simp only [Act.put, List.setIfInBounds_toArray, List.set_cons_zero, List.set_cons_succ]
            refine take_at (i := 2) (v := ?_) (some 56) rfl rfl (by kernel_rfl) (by kernel_rfl) (by kernel_rfl) (fun _ _ _ h => h) (Or.inl ⟨by rfl, ?_⟩) (by assumption) ?_
            rotate_left
            · (intro w hSw; (try dsimp only at hSw); go_simp; try with_reducible rfl)
            simp only [Act.put, List.setIfInBounds_toArray, List.set_cons_zero, List.set_cons_succ]
            refine take_at (i := 3) (v := ?_) (some 57) rfl rfl (by kernel_rfl) (by kernel_rfl) (by kernel_rfl) (fun _ _ _ h => h) (Or.inl ⟨by rfl, ?_⟩) (by assumption) ?_
            rotate_left
            · (intro w hSw; (try dsimp only at hSw); go_simp; try with_reducible rfl)
            simp only [Act.put, List.setIfInBounds_toArray, List.set_cons_zero, List.set_cons_succ]
            refine take_at (i := 5) (v := _) (some 59) rfl rfl (by kernel_rfl) (by kernel_rfl) (by kernel_rfl) (fun _ _ _ h => h) (yieldsIf_load_mid (by rfl) _ _ rfl _ _ rfl _ _ (fun w h => h) Try.underlying45 rfl (by kernel_rfl)) (by assumption) ?_
            simp only [Act.put, List.setIfInBounds_toArray, List.set_cons_zero, List.set_cons_succ]
            refine pair_at (i := 4) (j := 6) (some 58) (some 60) rfl rfl rfl rfl (by kernel_rfl) (by rfl) (by rfl) (.slice fa k fc) (.slice (some ⟨W6.drew.heap.size, 0, none⟩) 1 1) W6.drew W7 (by go_simp) (by rw [TT.out.1]; exact bsl_run 23 45 1 _ rfl 5 72 _ _ _ under_runs info_run (by decide) (by decide) rfl (by kernel_rfl)) ⟨hHeld, TT.out.2.2.2.2.1⟩ (fun hHeld => ?_) (fun hHeld => ?_)
            · skip
              simp only [Act.put, List.setIfInBounds_toArray, List.set_cons_zero, List.set_cons_succ]
              refine step_at (i := 6) (some 60) rfl rfl (by rfl) (by kernel_rfl) (.slice (some ⟨W6.drew.heap.size, 0, none⟩) 1 1) W7 (by rw [TT.out.1]; exact bsl_run 23 45 1 _ rfl 5 72 _ _ _ under_runs info_run (by decide) (by decide) rfl (by kernel_rfl)) TT.out.2.2.2.2.1 (fun hHeld => ?_)
              clear cl
              simp only [Act.put, List.setIfInBounds_toArray, List.set_cons_zero, List.set_cons_succ]
              refine step_at (i := 7) (some 61) rfl rfl (by rfl) (by kernel_rfl) v8 W8 (app_runv (.tmp 58) (.tmp 60) 23 23 rfl _ _ rfl rfl TT.out.2.1) TT.out.2.2.2.2.2 (fun hHeld => ?_)
              simp only [Act.put, List.setIfInBounds_toArray, List.set_cons_zero, List.set_cons_succ]
              refine take_at (i := 8) (v := ?_) (some 62) rfl rfl (by kernel_rfl) (by kernel_rfl) (by kernel_rfl) (fun _ _ _ h => h) (Or.inl ⟨by rfl, ?_⟩) (by assumption) ?_
              rotate_left
              · (intro w hSw; (try dsimp only at hSw); go_simp; try with_reducible rfl)
              simp only [Act.put, List.setIfInBounds_toArray, List.set_cons_zero, List.set_cons_succ]
              refine take_at (i := 9) (v := ?_) (some 63) rfl rfl (by kernel_rfl) (by kernel_rfl) (by kernel_rfl) (fun _ _ _ h => h) (Or.inl ⟨by rfl, ?_⟩) (by assumption) ?_
              rotate_left
              · (intro w hSw; (try dsimp only at hSw); go_simp; try with_reducible rfl)
              simp only [Act.put, List.setIfInBounds_toArray, List.set_cons_zero, List.set_cons_succ]
              have hr8 := TT.out.2.2.1
              have S8 := SS.out
              clear TT SS
              generalize W8.setCell ⟨b, 1, none⟩ v8 = W10 at *
              refine mute_at (i := 10) none rfl rfl (by rfl) (by kernel_rfl) W10 (put_mute 23 (.tmp 63) (.tmp 61) rfl _ _ rfl rfl hr8) S8 (fun hHeld => ?_)
              simp only [Act.put]
              clear hr8 S8
              refine wpAnyH_done (by kernel_rfl) ?_ _
              refine NoPanic.normal ?_
              clear hHeld
              go_wp2_with fail
              exact ⟨⟨k + 1, v8, fv, x.l, LT.out, rfl, NN⟩, GO.out⟩
            · skip
              simp only [Act.put, List.setIfInBounds_toArray, List.set_cons_zero, List.set_cons_succ]
              have cl5 := TT.out.2.2.2.1
              refine step_at (i := 4) (some 58) rfl rfl (by rfl) (by kernel_rfl) (.slice fa k fc) W7 (by go_simp) TT.out.2.2.2.2.1 (fun hHeld => ?_)
              clear cl5
              clear cl
              simp only [Act.put, List.setIfInBounds_toArray, List.set_cons_zero, List.set_cons_succ]
              refine step_at (i := 7) (some 61) rfl rfl (by rfl) (by kernel_rfl) v8 W8 (app_runv (.tmp 58) (.tmp 60) 23 23 rfl _ _ rfl rfl TT.out.2.1) TT.out.2.2.2.2.2 (fun hHeld => ?_)
              simp only [Act.put, List.setIfInBounds_toArray, List.set_cons_zero, List.set_cons_succ]
              refine take_at (i := 8) (v := ?_) (some 62) rfl rfl (by kernel_rfl) (by kernel_rfl) (by kernel_rfl) (fun _ _ _ h => h) (Or.inl ⟨by rfl, ?_⟩) (by assumption) ?_
              rotate_left
              · (intro w hSw; (try dsimp only at hSw); go_simp; try with_reducible rfl)
              simp only [Act.put, List.setIfInBounds_toArray, List.set_cons_zero, List.set_cons_succ]
              refine take_at (i := 9) (v := ?_) (some 63) rfl rfl (by kernel_rfl) (by kernel_rfl) (by kernel_rfl) (fun _ _ _ h => h) (Or.inl ⟨by rfl, ?_⟩) (by assumption) ?_
              rotate_left
              · (intro w hSw; (try dsimp only at hSw); go_simp; try with_reducible rfl)
              simp only [Act.put, List.setIfInBounds_toArray, List.set_cons_zero, List.set_cons_succ]
              have hr8 := TT.out.2.2.1
              have S8 := SS.out
              clear TT SS
              generalize W8.setCell ⟨b, 1, none⟩ v8 = W10 at *
              refine mute_at (i := 10) none rfl rfl (by rfl) (by kernel_rfl) W10 (put_mute 23 (.tmp 63) (.tmp 61) rfl _ _ rfl rfl hr8) S8 (fun hHeld => ?_)
              simp only [Act.put]
              clear hr8 S8
              refine wpAnyH_done (by kernel_rfl) ?_ _
              refine NoPanic.normal ?_
              clear hHeld
              go_wp2_with fail
              exact ⟨⟨k + 1, v8, fv, x.l, LT.out, rfl, NN⟩, GO.out⟩
          · have C2 := hidIt C2
            have NXT : Hid (fv = (mF ps (k + 1)).f ∧ tv = (mL ps (k + 1)).l) := hidIt ⟨by rw [mF_no HX.out (by have := C1.out; omega)]; exact MO.out.1, by rw [mL_no HX.out (by have := C2.out; omega)]; exact MO.out.2⟩
            have O0 := hidIt (And.intro (HI.out.off.trans O2.out) O2.out)
            have ED := hidIt (And.intro O0.out.1.drew O0.out.2.drew)
            have DB := hidIt (PB.out.below (Below.refl _ _).drew)
            have DQ := hidIt (PQ.out.below (Below.refl _ _).drew)
            go_wp2_with fail
            refine wp_region_noPanic ?_
            refine wp_region_held_drew (S := fun w' => w'.cell? ⟨wr.heap.size, 3, none⟩ = some x.f ∧ w'.cell? ⟨b, 3, none⟩ = some fv) (by kernel_rfl) ?_ (fun hHeld => ?_)
            · exact ⟨(DQ.out.cel 3 _ rfl).1, (DB.out.cel 3 _ rfl).1⟩
            refine take_at (i := 0) (v := ?_) (some 28) rfl rfl (by kernel_rfl) (by kernel_rfl) (by kernel_rfl) (fun _ _ _ h => h) (Or.inl ⟨by rfl, ?_⟩) (by assumption) ?_
            rotate_left
            · (intro w hSw; (try dsimp only at hSw); go_simp; try with_reducible rfl)
            simp only [Act.put, List.setIfInBounds_toArray, List.set_cons_zero, List.set_cons_succ]
            refine take_at (i := 1) (v := ?_) (some 29) rfl rfl (by kernel_rfl) (by kernel_rfl) (by kernel_rfl) (fun _ _ _ h => h) (Or.inl ⟨by rfl, ?_⟩) (by assumption) ?_
            rotate_left
            · (intro w hSw; (try dsimp only at hSw); go_simp; try with_reducible rfl)
            simp only [Act.put, List.setIfInBounds_toArray, List.set_cons_zero, List.set_cons_succ]
            refine take_at (i := 2) (v := ?_) (some 30) rfl rfl (by kernel_rfl) (by kernel_rfl) (by kernel_rfl) (fun _ _ _ h => h) (Or.inl ⟨by rfl, ?_⟩) (by assumption) ?_
            rotate_left
            · (intro w hSw; (try dsimp only at hSw); go_simp; try with_reducible rfl)
            simp only [Act.put, List.setIfInBounds_toArray, List.set_cons_zero, List.set_cons_succ]
            refine take_at (i := 3) (v := ?_) (some 31) rfl rfl (by kernel_rfl) (by kernel_rfl) (by kernel_rfl) (fun _ _ _ h => h) (Or.inl ⟨by rfl, ?_⟩) (by assumption) ?_
            rotate_left
            · (intro w hSw; (try dsimp only at hSw); go_simp; try with_reducible rfl)
            simp only [Act.put, List.setIfInBounds_toArray, List.set_cons_zero, List.set_cons_succ]
            refine take_at (i := 4) (v := ?_) (some 32) rfl rfl (by kernel_rfl) (by kernel_rfl) (by kernel_rfl) (fun _ _ _ h => h) (Or.inl ⟨by rfl, ?_⟩) (by assumption) ?_
            rotate_left
            · (intro w hSw; (try dsimp only at hSw); go_simp; try with_reducible rfl)
            simp only [Act.put, List.setIfInBounds_toArray, List.set_cons_zero, List.set_cons_succ]
            refine take_at (i := 5) (v := ?_) (some 33) rfl rfl (by kernel_rfl) (by kernel_rfl) (by kernel_rfl) (fun _ _ _ h => h) (Or.inl ⟨by rfl, ?_⟩) (by assumption) ?_
            rotate_left
            · (intro w hSw; (try dsimp only at hSw); go_simp; try with_reducible rfl)
            simp only [Act.put, List.setIfInBounds_toArray, List.set_cons_zero, List.set_cons_succ]
            refine call_at (i := 6) (some 34) 35 _ _ rfl rfl rfl (by rfl) (by kernel_rfl) #[x.f, fv] rfl Try.func35 (by kernel_rfl) (by kernel_rfl) ?_
            refine (ycmp_any (FX.out _ ED.out.1).1 (FM.out _ ED.out.1).1).mono ?_
            rintro e w2 ⟨rfl, hw⟩
            subst hw
            refine ⟨_, rfl, ⟨(DQ.out.cel 3 _ rfl).1, (DB.out.cel 3 _ rfl).1⟩, fun hHeld => ?_⟩
            simp only [Act.put, List.setIfInBounds_toArray, List.set_cons_zero, List.set_cons_succ]
            have c1 : (cmpB x.r.f (mF ps k).r.f < 0) = False := eq_false (by have := C1.out; omega)
            refine take_at (i := 7) (v := ?_) (some 35) rfl rfl (by kernel_rfl) (by kernel_rfl) (by kernel_rfl) (fun _ _ _ h => h) (Or.inl ⟨by rfl, ?_⟩) (by assumption) ?_
            rotate_left
            · (intro w hSw; (try dsimp only at hSw); go_simp; try with_reducible rfl)
            simp only [Act.put, List.setIfInBounds_toArray, List.set_cons_zero, List.set_cons_succ]
            refine wpAnyH_done (by kernel_rfl) ?_ _
            refine NoPanic.normal ?_
            clear hHeld
            go_wp2_with fail
            have PB5 := DB; have PQ5 := DQ; have E5 := ED
            clear c1 DB DQ ED O0
            have ED := hidIt (And.intro E5.out.1.drew E5.out.2.drew)
            have DB := hidIt (PB5.out.below (Below.refl _ _).drew)
            have DQ := hidIt (PQ5.out.below (Below.refl _ _).drew)
            refine wp_region_noPanic ?_
            refine wp_region_held_drew (S := fun w' => w'.cell? ⟨wr.heap.size, 4, none⟩ = some x.l ∧ w'.cell? ⟨b, 4, none⟩ = some tv) (by kernel_rfl) ?_ (fun hHeld => ?_)
            · exact ⟨(DQ.out.cel 4 _ rfl).1, (DB.out.cel 4 _ rfl).1⟩
            refine take_at (i := 0) (v := ?_) (some 41) rfl rfl (by kernel_rfl) (by kernel_rfl) (by kernel_rfl) (fun _ _ _ h => h) (Or.inl ⟨by rfl, ?_⟩) (by assumption) ?_
            rotate_left
            · (intro w hSw; (try dsimp only at hSw); go_simp; try with_reducible rfl)
            simp only [Act.put, List.setIfInBounds_toArray, List.set_cons_zero, List.set_cons_succ]
            refine take_at (i := 1) (v := ?_) (some 42) rfl rfl (by kernel_rfl) (by kernel_rfl) (by kernel_rfl) (fun _ _ _ h => h) (Or.inl ⟨by rfl, ?_⟩) (by assumption) ?_
            rotate_left
            · (intro w hSw; (try dsimp only at hSw); go_simp; try with_reducible rfl)
            simp only [Act.put, List.setIfInBounds_toArray, List.set_cons_zero, List.set_cons_succ]
            refine take_at (i := 2) (v := ?_) (some 43) rfl rfl (by kernel_rfl) (by kernel_rfl) (by kernel_rfl) (fun _ _ _ h => h) (Or.inl ⟨by rfl, ?_⟩) (by assumption) ?_
            rotate_left
            · (intro w hSw; (try dsimp only at hSw); go_simp; try with_reducible rfl)
            simp only [Act.put, List.setIfInBounds_toArray, List.set_cons_zero, List.set_cons_succ]
            refine take_at (i := 3) (v := ?_) (some 44) rfl rfl (by kernel_rfl) (by kernel_rfl) (by kernel_rfl) (fun _ _ _ h => h) (Or.inl ⟨by rfl, ?_⟩) (by assumption) ?_
            rotate_left
            · (intro w hSw; (try dsimp only at hSw); go_simp; try with_reducible rfl)
            simp only [Act.put, List.setIfInBounds_toArray, List.set_cons_zero, List.set_cons_succ]
            refine take_at (i := 4) (v := ?_) (some 45) rfl rfl (by kernel_rfl) (by kernel_rfl) (by kernel_rfl) (fun _ _ _ h => h) (Or.inl ⟨by rfl, ?_⟩) (by assumption) ?_
            rotate_left
            · (intro w hSw; (try dsimp only at hSw); go_simp; try with_reducible rfl)
            simp only [Act.put, List.setIfInBounds_toArray, List.set_cons_zero, List.set_cons_succ]
            refine take_at (i := 5) (v := ?_) (some 46) rfl rfl (by kernel_rfl) (by kernel_rfl) (by kernel_rfl) (fun _ _ _ h => h) (Or.inl ⟨by rfl, ?_⟩) (by assumption) ?_
            rotate_left
            · (intro w hSw; (try dsimp only at hSw); go_simp; try with_reducible rfl)
            simp only [Act.put, List.setIfInBounds_toArray, List.set_cons_zero, List.set_cons_succ]
            refine call_at (i := 6) (some 47) 35 _ _ rfl rfl rfl (by rfl) (by kernel_rfl) #[x.l, tv] rfl Try.func35 (by kernel_rfl) (by kernel_rfl) ?_
            refine (ycmp_any (FX.out _ ED.out.1).2 (FM.out _ ED.out.1).2).mono ?_
            rintro e w2 ⟨rfl, hw⟩
            subst hw
            refine ⟨_, rfl, ⟨(DQ.out.cel 4 _ rfl).1, (DB.out.cel 4 _ rfl).1⟩, fun hHeld => ?_⟩
            simp only [Act.put, List.setIfInBounds_toArray, List.set_cons_zero, List.set_cons_succ]
            have c2 : (0 < cmpB x.r.l (mL ps k).r.l) = False := eq_false (by have := C2.out; omega)
            refine take_at (i := 7) (v := ?_) (some 48) rfl rfl (by kernel_rfl) (by kernel_rfl) (by kernel_rfl) (fun _ _ _ h => h) (Or.inl ⟨by rfl, ?_⟩) (by assumption) ?_
            rotate_left
            · (intro w hSw; (try dsimp only at hSw); go_simp; try with_reducible rfl)
            simp only [Act.put, List.setIfInBounds_toArray, List.set_cons_zero, List.set_cons_succ]
            refine wpAnyH_done (by kernel_rfl) ?_ _
            refine NoPanic.normal ?_
            clear hHeld
            go_wp2_with fail
            have PB6 := DB; have PQ6 := DQ; have E6 := ED
            clear c2 DB DQ ED PB5 PQ5 E5
            have ED := hidIt (And.intro E6.out.1.drew E6.out.2.drew)
            have DB := hidIt (PB6.out.below (Below.refl _ _).drew)
            have DQ := hidIt (PQ6.out.below (Below.refl _ _).drew)
            clear PB6 PQ6 E6
            obtain ⟨W7, v8, W8, TS, NX, S10⟩ := take_step HI.out HX.out SB.out DB.out DQ.out ED.out.1 ED.out.2 OX.out.one (f' := fv) (t' := tv) NXT.out
            have TT := hidIt TS
            have NN := hidIt NX
            have SS := hidIt S10
            clear TS NX S10
            have cl := (DB.out.cel 1 _ rfl).1
            refine wp_region_noPanic ?_
            refine wp_region_held_drew (S := fun w' => w'.rangeAt wr.heap.size 0 x.cs) (by kernel_rfl) ?_ (fun hHeld => ?_)
            · exact DQ.out.1
            refine take_at (i := 0) (v := ?_) (some 54) rfl rfl (by kernel_rfl) (by kernel_rfl) (by kernel_rfl) (fun _ _ _ h => h) (Or.inl ⟨by rfl, ?_⟩) (by assumption) ?_
            rotate_left
            · (intro w hSw; (try dsimp only at hSw); go_simp; try with_reducible rfl)
            simp only [Act.put, List.setIfInBounds_toArray, List.set_cons_zero, List.set_cons_succ]
            refine take_at (i := 1) (v := ?_) (some 55) rfl rfl (by kernel_rfl) (by kernel_rfl) (by kernel_rfl) (fun _ _ _ h => h) (Or.inl ⟨by rfl, ?_⟩) (by assumption) ?_
            rotate_left
            · (intro w hSw; (try dsimp only at hSw); go_simp; try with_reducible rfl)
            simp only [Act.put, List.setIfInBounds_toArray, List.set_cons_zero, List.set_cons_succ]
            refine take_at (i := 2) (v := ?_) (some 56) rfl rfl (by kernel_rfl) (by kernel_rfl) (by kernel_rfl) (fun _ _ _ h => h) (Or.inl ⟨by rfl, ?_⟩) (by assumption) ?_
            rotate_left
            · (intro w hSw; (try dsimp only at hSw); go_simp; try with_reducible rfl)
            simp only [Act.put, List.setIfInBounds_toArray, List.set_cons_zero, List.set_cons_succ]
            refine take_at (i := 3) (v := ?_) (some 57) rfl rfl (by kernel_rfl) (by kernel_rfl) (by kernel_rfl) (fun _ _ _ h => h) (Or.inl ⟨by rfl, ?_⟩) (by assumption) ?_
            rotate_left
            · (intro w hSw; (try dsimp only at hSw); go_simp; try with_reducible rfl)
            simp only [Act.put, List.setIfInBounds_toArray, List.set_cons_zero, List.set_cons_succ]
            refine take_at (i := 5) (v := _) (some 59) rfl rfl (by kernel_rfl) (by kernel_rfl) (by kernel_rfl) (fun _ _ _ h => h) (yieldsIf_load_mid (by rfl) _ _ rfl _ _ rfl _ _ (fun w h => h) Try.underlying45 rfl (by kernel_rfl)) (by assumption) ?_
            simp only [Act.put, List.setIfInBounds_toArray, List.set_cons_zero, List.set_cons_succ]
            refine pair_at (i := 4) (j := 6) (some 58) (some 60) rfl rfl rfl rfl (by kernel_rfl) (by rfl) (by rfl) (.slice fa k fc) (.slice (some ⟨W3.drew.drew.drew.heap.size, 0, none⟩) 1 1) W3.drew.drew.drew W7 (by go_simp) (by rw [TT.out.1]; exact bsl_run 23 45 1 _ rfl 5 72 _ _ _ under_runs info_run (by decide) (by decide) rfl (by kernel_rfl)) ⟨hHeld, TT.out.2.2.2.2.1⟩ (fun hHeld => ?_) (fun hHeld => ?_)
            · skip
              simp only [Act.put, List.setIfInBounds_toArray, List.set_cons_zero, List.set_cons_succ]
              refine step_at (i := 6) (some 60) rfl rfl (by rfl) (by kernel_rfl) (.slice (some ⟨W3.drew.drew.drew.heap.size, 0, none⟩) 1 1) W7 (by rw [TT.out.1]; exact bsl_run 23 45 1 _ rfl 5 72 _ _ _ under_runs info_run (by decide) (by decide) rfl (by kernel_rfl)) TT.out.2.2.2.2.1 (fun hHeld => ?_)
              clear cl
              simp only [Act.put, List.setIfInBounds_toArray, List.set_cons_zero, List.set_cons_succ]
              refine step_at (i := 7) (some 61) rfl rfl (by rfl) (by kernel_rfl) v8 W8 (app_runv (.tmp 58) (.tmp 60) 23 23 rfl _ _ rfl rfl TT.out.2.1) TT.out.2.2.2.2.2 (fun hHeld => ?_)
              simp only [Act.put, List.setIfInBounds_toArray, List.set_cons_zero, List.set_cons_succ]
              refine take_at (i := 8) (v := ?_) (some 62) rfl rfl (by kernel_rfl) (by kernel_rfl) (by kernel_rfl) (fun _ _ _ h => h) (Or.inl ⟨by rfl, ?_⟩) (by assumption) ?_
              rotate_left
              · (intro w hSw; (try dsimp only at hSw); go_simp; try with_reducible rfl)
              simp only [Act.put, List.setIfInBounds_toArray, List.set_cons_zero, List.set_cons_succ]
              refine take_at (i := 9) (v := ?_) (some 63) rfl rfl (by kernel_rfl) (by kernel_rfl) (by kernel_rfl) (fun _ _ _ h => h) (Or.inl ⟨by rfl, ?_⟩) (by assumption) ?_
              rotate_left
              · (intro w hSw; (try dsimp only at hSw); go_simp; try with_reducible rfl)
              simp only [Act.put, List.setIfInBounds_toArray, List.set_cons_zero, List.set_cons_succ]
              have hr8 := TT.out.2.2.1
              have S8 := SS.out
              clear TT SS
              generalize W8.setCell ⟨b, 1, none⟩ v8 = W10 at *
              refine mute_at (i := 10) none rfl rfl (by rfl) (by kernel_rfl) W10 (put_mute 23 (.tmp 63) (.tmp 61) rfl _ _ rfl rfl hr8) S8 (fun hHeld => ?_)
              simp only [Act.put]
              clear hr8 S8
              refine wpAnyH_done (by kernel_rfl) ?_ _
              refine NoPanic.normal ?_
              clear hHeld
              go_wp2_with fail
              exact ⟨⟨k + 1, v8, fv, tv, LT.out, rfl, NN⟩, GO.out⟩
            · skip
              simp only [Act.put, List.setIfInBounds_toArray, List.set_cons_zero, List.set_cons_succ]
              have cl5 := TT.out.2.2.2.1
              refine step_at (i := 4) (some 58) rfl rfl (by rfl) (by kernel_rfl) (.slice fa k fc) W7 (by go_simp) TT.out.2.2.2.2.1 (fun hHeld => ?_)
              clear cl5
              clear cl
              simp only [Act.put, List.setIfInBounds_toArray, List.set_cons_zero, List.set_cons_succ]
              refine step_at (i := 7) (some 61) rfl rfl (by rfl) (by kernel_rfl) v8 W8 (app_runv (.tmp 58) (.tmp 60) 23 23 rfl _ _ rfl rfl TT.out.2.1) TT.out.2.2.2.2.2 (fun hHeld => ?_)
              simp only [Act.put, List.setIfInBounds_toArray, List.set_cons_zero, List.set_cons_succ]
              refine take_at (i := 8) (v := ?_) (some 62) rfl rfl (by kernel_rfl) (by kernel_rfl) (by kernel_rfl) (fun _ _ _ h => h) (Or.inl ⟨by rfl, ?_⟩) (by assumption) ?_
              rotate_left
              · (intro w hSw; (try dsimp only at hSw); go_simp; try with_reducible rfl)
              simp only [Act.put, List.setIfInBounds_toArray, List.set_cons_zero, List.set_cons_succ]
              refine take_at (i := 9) (v := ?_) (some 63) rfl rfl (by kernel_rfl) (by kernel_rfl) (by kernel_rfl) (fun _ _ _ h => h) (Or.inl ⟨by rfl, ?_⟩) (by assumption) ?_
              rotate_left
              · (intro w hSw; (try dsimp only at hSw); go_simp; try with_reducible rfl)
              simp only [Act.put, List.setIfInBounds_toArray, List.set_cons_zero, List.set_cons_succ]
              have hr8 := TT.out.2.2.1
              have S8 := SS.out
              clear TT SS
              generalize W8.setCell ⟨b, 1, none⟩ v8 = W10 at *
              refine mute_at (i := 10) none rfl rfl (by rfl) (by kernel_rfl) W10 (put_mute 23 (.tmp 63) (.tmp 61) rfl _ _ rfl rfl hr8) S8 (fun hHeld => ?_)
              simp only [Act.put]
              clear hr8 S8
              refine wpAnyH_done (by kernel_rfl) ?_ _
              refine NoPanic.normal ?_
              clear hHeld
              go_wp2_with fail
              exact ⟨⟨k + 1, v8, fv, tv, LT.out, rfl, NN⟩, GO.out⟩
    · obtain rfl : k = n := by omega
      have i0 : ((k : Int) < (k : Int)) = False := eq_false (by omega)
      have FIN : Hid (TkP W b lv to d ps (.returned (.tuple #[])) wr) := hidIt (by
        have h := HI.out
        have e := HN.out.1
        rw [← e] at h
        exact ⟨rfl, fa, fc, fv, tv, h⟩)
      clear hk hlt
      go_wp2_with fail
      exact bodyPost_ret (v := .tuple #[]) (by simp [results, Try.results46, go_sem]) rfl FIN.out
end Go.Proofs.Ytelcijfcgflagaa
namespace Go.Proofs.Ytelcijfcgflagaa
open Go.RowKit
attribute [-go_sem] Builtin.append_
/-- A level's tables. -/
def lvR (ls : List LR) (i : Nat) : List RV := ((ls[i]?).map LR.rs).getD []
/-- Where it stands. -/
def lvA (ls : List LR) (i : Nat) : Option Addr := (ls[i]?).bind LR.a
theorem lvA_at {ls : List LR} {i : Nat} {x : LR} (h : ls[i]? = some x) : lvA ls i = x.a := by unfold lvA; rw [h]; rfl
theorem lvA_none {ls : List LR} {i : Nat} (h : ls.length ≤ i) : lvA ls i = none := by unfold lvA; rw [List.getElem?_eq_none h]; rfl
theorem lvR_at {ls : List LR} {i : Nat} {x : LR} (h : ls[i]? = some x) : lvR ls i = x.rs := by unfold lvR; rw [h]; rfl
theorem lvR_none {ls : List LR} {i : Nat} (h : ls.length ≤ i) : lvR ls i = [] := by unfold lvR; rw [List.getElem?_eq_none h]; rfl
theorem lvR_map (ls : List LR) (i : Nat) : (lvR ls i).map RV.r = ((rns ls)[i]?).getD [] := by
  unfold lvR rns
  rw [List.getElem?_map]
  cases ls[i]? <;> rfl
theorem lvR_bound {ls : List LR} {m : Nat} (h : ∀ x ∈ ls, x.rs.length ≤ m) (i : Nat) : (lvR ls i).length ≤ m := by
  unfold lvR
  cases q : ls[i]? with
  | none => simp
  | some x => exact h x (List.mem_of_getElem? q)
theorem lvR_all {ls : List LR} {p : RV → Prop} (h : ∀ x ∈ ls, ∀ y ∈ x.rs, p y) (i : Nat) : ∀ y ∈ lvR ls i, p y := by
  unfold lvR
  cases q : ls[i]? with
  | none => intro y hy; cases hy
  | some x => exact h x (List.mem_of_getElem? q)
theorem row_of {ls : List LR} (h : mayB (rns ls) = true) (i : Nat) : (∀ x ∈ lvR ls i, cmpB x.r.f x.r.l ≤ 0) ∧ (0 < i → Row (lvR ls i)) := by
  obtain ⟨_, h2, h3⟩ := (mayB_at _).1 h
  have at' : ∀ {k : Nat} {y : RV}, (lvR ls i)[k]? = some y → ∃ l, (rns ls)[i]? = some l ∧ l[k]? = some y.r := fun {k y} hk => by
    unfold lvR at hk
    cases q : ls[i]? with
    | none => rw [q] at hk; cases hk
    | some x =>
      rw [q] at hk
      exact ⟨x.rs.map RV.r, by unfold rns; rw [List.getElem?_map, q]; rfl, by rw [List.getElem?_map]; rw [show x.rs[k]? = some y from hk]; rfl⟩
  have s : ∀ x ∈ lvR ls i, cmpB x.r.f x.r.l ≤ 0 := fun x hx => by
    obtain ⟨k, hk⟩ := List.mem_iff_getElem?.1 hx
    obtain ⟨l, e1, e2⟩ := at' hk
    have := h2 i l k _ e1 e2
    unfold sndR at this
    simp only [Bool.and_eq_true, decide_eq_true_eq] at this
    exact this.2
  refine ⟨s, fun hi => ⟨s, fun k x y hx hy => ?_⟩⟩
  obtain ⟨l, e1, e2⟩ := at' hx
  obtain ⟨l', e1', e2'⟩ := at' hy
  rw [e1] at e1'
  injection e1' with e1'
  subst e1'
  exact h3 i l k _ _ hi e1 e2 e2'
theorem mF_le (ps : List RV) : ∀ k, cmpB (mF ps (k + 1)).r.f (ps.getD 0 rv0).r.f ≤ 0
  | 0 => by rw [mF_one, c_self]; omega
  | k + 1 => by
    show cmpB (if cmpB (ps.getD (k + 1) rv0).r.f (mF ps (k + 1)).r.f < 0 then ps.getD (k + 1) rv0 else mF ps (k + 1)).r.f _ ≤ 0
    have := mF_le ps k
    split
    · rename_i q; exact c_le_le (by omega) this
    · exact this
theorem mL_ge (ps : List RV) : ∀ k, cmpB (ps.getD 0 rv0).r.l (mL ps (k + 1)).r.l ≤ 0
  | 0 => by rw [mL_one, c_self]; omega
  | k + 1 => by
    show cmpB _ (if 0 < cmpB (ps.getD (k + 1) rv0).r.l (mL ps (k + 1)).r.l then ps.getD (k + 1) rv0 else mL ps (k + 1)).r.l ≤ 0
    have := mL_ge ps k
    split
    · rename_i q
      refine c_le_le this ?_
      rw [c_anti]
      omega
    · exact this
/-- From the least to the greatest key. -/
theorem mF_mL {ps : List RV} (h : ∀ x ∈ ps, cmpB x.r.f x.r.l ≤ 0) (hn : 0 < ps.length) : cmpB (mF ps ps.length).r.f (mL ps ps.length).r.l ≤ 0 := by
  obtain ⟨k, hk⟩ : ∃ k, ps.length = k + 1 := ⟨ps.length - 1, by omega⟩
  have h0 : ps.getD 0 rv0 ∈ ps := by rw [List.getD_eq_getElem?_getD, List.getElem?_eq_getElem hn]; exact List.getElem_mem hn
  rw [hk]
  exact c_le_le (c_le_le (mF_le ps k) (h _ h0)) (mL_ge ps k)
/-- What is taken of a level. -/
def froL (ls : List LR) (i : Nat) : List RV := if i = 0 then lvR ls 0 else ((lvR ls i)[bst (keyM (lvR ls i) (lvR ls (i + 1))) (lvR ls i).length]?).toList
def froF (ls : List LR) (i : Nat) : ByteArray := (mF (froL ls i) (froL ls i).length).r.f
def froT (ls : List LR) (i : Nat) : ByteArray := (mL (froL ls i) (froL ls i).length).r.l
def intL (ls : List LR) (i : Nat) : List RV := metL (lvR ls (i + 1)) (froF ls i) (froT ls i)
def drpB (ls : List LR) (i j : Nat) : Bool := (List.range j).all fun k => decide (k < i + 2) || (metL (lvR ls k) (froF ls i) (froT ls i)).isEmpty
theorem drpB_start (ls : List LR) (i : Nat) : drpB ls i (i + 2) = true := by
  unfold drpB
  rw [List.all_eq_true]
  intro k hk
  simp [List.mem_range.1 hk]
theorem drpB_next (ls : List LR) (i j : Nat) (h : i + 2 ≤ j) : drpB ls i (j + 1) = (drpB ls i j && (metL (lvR ls j) (froF ls i) (froT ls i)).isEmpty) := by
  unfold drpB
  rw [List.range_succ, List.all_append]
  simp [show ¬ j < i + 2 by omega]
theorem drpB_end (ls : List LR) (i j m : Nat) (h : ls.length ≤ j) (hm : j ≤ m) : drpB ls i m = drpB ls i j := by
  induction m with
  | zero => rw [show j = 0 by omega]
  | succ m ih =>
    by_cases e : j = m + 1
    · rw [e]
    · rw [← ih (by omega)]
      unfold drpB
      rw [List.range_succ, List.all_append]
      simp [lvR_none (ls := ls) (i := m) (by omega), metL]
theorem froL_sub (ls : List LR) (i : Nat) : ∀ x ∈ froL ls i, x ∈ lvR ls i := by
  intro x hx
  unfold froL at hx
  split at hx
  · rename_i h; rw [h]; exact hx
  · exact List.mem_of_getElem? (Option.mem_toList.1 hx)
theorem lvR_ok {W : World} {A : Option Addr} {ls : List LR} (h : Lvs W A ls) (i : Nat) : ∀ y ∈ lvR ls i, RVOk W [] y := lvR_all (fun x hx y hy => (h.1 x hx).1.1 y hy) i
theorem lvA_ls {W : World} {A : Option Addr} {ls : List LR} (h : Lvs W A ls) (i : Nat) : LsR W (lvA ls i) (lvR ls i) := by
  cases q : ls[i]? with
  | none =>
    have e : lvR ls i = [] := by unfold lvR; rw [q]; rfl
    rw [e]
    exact ⟨fun x hx => (by cases hx), fun z => absurd rfl z⟩
  | some x => rw [lvA_at q, lvR_at q]; exact (h.1 x (List.mem_of_getElem? q)).1
set_option maxRecDepth 100000 in
theorem lofs_any {W : World} {A : Option Addr} {ls : List LR} (L C i : Nat) (z : Int) (hz : z = (i : Int)) (hL : ls.length = L) (h : Lvs W A ls) (hl : L ≤ 1000) : Calls Try.prog 19 #[.slice A L C, .int .i64 z] W fun e w' => (∃ c, e = .returned (.slice (lvA ls i) (lvR ls i).length c) ∧ (lvR ls i).length ≤ c) ∧ w' = W := by
  subst hz
  by_cases hi : L ≤ i
  · have N := hidIt (And.intro (lvR_none (ls := ls) (i := i) (by omega)) (lvA_none (ls := ls) (i := i) (by omega)))
    have c1 : ((L : Int) ≤ (i : Int)) = True := eq_true (by omega)
    have c1' : (L ≤ i) = True := eq_true hi
    clear hi h hL
    go_enter Try.func19, Try.ntmps19
    go_wp2_with fail
    exact bodyPost_ret (v := .slice none 0 0) (by simp [results, Try.results19, go_sem]) rfl ⟨⟨0, by rw [N.out.1, N.out.2]; rfl, by rw [N.out.1]; exact Nat.le_refl _⟩, rfl⟩
  · obtain ⟨x, hx⟩ : ∃ x, ls[i]? = some x := ⟨_, List.getElem?_eq_getElem (by omega)⟩
    have N := hidIt (And.intro (lvR_at hx) (lvA_at hx))
    have K := hidIt (h.1 x (List.mem_of_getElem? hx))
    obtain ⟨b, o, ha, hc, hb⟩ := h.at i x hx
    subst ha
    have c1 : ((L : Int) ≤ (i : Int)) = False := eq_false (by omega)
    have c1' : (L ≤ i) = False := eq_false hi
    obtain ⟨i0, i1, _⟩ := tb_ar i L (by omega) (by omega)
    unfold LR.v at hc
    clear hi h hL hb hx
    go_enter Try.func19, Try.ntmps19
    go_wp2_with fail
    exact bodyPost_ret (v := .slice x.a x.rs.length x.c) (by simp [results, Try.results19, go_sem]) rfl ⟨⟨x.c, by rw [N.out.1, N.out.2], by rw [N.out.1]; exact K.out.2⟩, rfl⟩
end Go.Proofs.Ytelcijfcgflagaa
