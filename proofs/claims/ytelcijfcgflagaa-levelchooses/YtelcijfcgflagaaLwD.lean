/-
  Laws for the walk, not a claim by itself: what Replace keeps. By the verifier.
-/
import Derived.Test.YtelcijfcgflagaaLwC
import Derived.DeepKeys4
import Derived.Sort.Row
namespace Go.Proofs.Ytelcijfcgflagaa
open Go.RowKit
attribute [-go_sem] Builtin.append_
theorem zero_choice : (Try.prog.info? 50).bind (·.zero) = some (.agg (chC 0 (.slice none 0 0) (.slice none 0 0) (.slice none 0 0) (.slice none 0 0) false).toArray) := by kernel_rfl
theorem choice_size : (Try.prog.info? 50).map (·.size) = some 6 := by kernel_rfl
theorem chC_one (lv : Int) {fr to f l : Value} (d : Bool) (h1 : fr.oneCell' = true) (h2 : to.oneCell' = true) (h3 : f.oneCell' = true) (h4 : l.oneCell' = true) : ∀ v ∈ chC lv fr to f l d, v.oneCell' = true := by
  intro v hv
  simp only [chC, List.mem_cons, List.not_mem_nil, or_false] at hv
  rcases hv with rfl | rfl | rfl | rfl | rfl | rfl
  · rfl
  · exact h1
  · exact h2
  · exact h3
  · exact h4
  · rfl
/-- What choose keeps. -/
structure ChI (W : World) (ls : List LR) (i : Nat) (wr : World) (fa ta : Option Addr) (fc tc : Nat) (fv tv : Value) (d : Bool) : Prop where
  rc : Rec19 wr (W.heap.size + 1) 0 (chC (i : Int) (.slice fa (froL ls i).length fc) (.slice ta (intL ls i).length tc) fv tv d)
  own : OwnR wr 0 (.slice fa (froL ls i).length fc) (froL ls i)
  new : ∀ g, (Value.slice fa (froL ls i).length fc).ownBlock = some g → W.heap.size + 2 ≤ g
  into : ∀ U, Below W.heap.size W U → LsR U ta (intL ls i)
  cap : (intL ls i).length ≤ tc
  fve : fv = (mF (froL ls i) (froL ls i).length).f
  tve : tv = (mL (froL ls i) (froL ls i).length).l
  res : Rec19 wr W.heap.size 0 (chC 0 (.slice none 0 0) (.slice none 0 0) (.slice none 0 0) (.slice none 0 0) false)
  below : Below W.heap.size W wr
theorem ChI.below' {W : World} {ls : List LR} {i : Nat} {wr w' : World} {fa ta : Option Addr} {fc tc : Nat} {fv tv : Value} {d : Bool} (h : ChI W ls i wr fa ta fc tc fv tv d) (hB : Below wr.heap.size wr w') : ChI W ls i w' fa ta fc tc fv tv d :=
  ⟨h.rc.below hB, h.own.below hB, h.new, h.into, h.cap, h.fve, h.tve, h.res.below hB, h.below.trans (hB.mono h.below.size)⟩
theorem ChI.put {W : World} {ls : List LR} {i : Nat} {wr : World} {fa ta : Option Addr} {fc tc : Nat} {fv tv : Value} {d : Bool} (h : ChI W ls i wr fa ta fc tc fv tv d) (d' : Bool) : ChI W ls i (wr.setCell ⟨W.heap.size + 1, 5, none⟩ (.bool d')) fa ta fc tc fv tv d' := by
  have st : But (W.heap.size + 1) wr (wr.setCell ⟨W.heap.size + 1, 5, none⟩ (.bool d')) := But.set wr 5 _
  exact ⟨h.rc.put 5 (.bool d'), h.own.off (Off.set (bs := [W.heap.size + 1]) _ _ _ (by simp)) (fun g hg q => by have := h.new g hg; have := List.mem_singleton.1 q; omega), h.new, h.into, h.cap, h.fve, h.tve, h.res.but st (by omega), h.below.trans (st.below (by omega) h.below.size)⟩
/-- What choose answers. -/
structure ChR (W : World) (ls : List LR) (i : Nat) (w' : World) (fa ta : Option Addr) (fc tc : Nat) : Prop where
  own : OwnR w' 0 (.slice fa (froL ls i).length fc) (froL ls i)
  new : ∀ g, (Value.slice fa (froL ls i).length fc).ownBlock = some g → W.heap.size ≤ g
  into : ∀ U, Below W.heap.size W U → LsR U ta (intL ls i)
  cap : (intL ls i).length ≤ tc
  below : Below W.heap.size W w'
def ChP (W : World) (ls : List LR) (i : Nat) (e : Ending) (w' : World) : Prop := ∃ fa ta fc tc fv tv, e = .returned (.agg (chC (i : Int) (.slice fa (froL ls i).length fc) (.slice ta (intL ls i).length tc) fv tv (drpB ls i 4)).toArray) ∧ ChR W ls i w' fa ta fc tc
theorem froL_txt {W : World} {A : Option Addr} {ls : List LR} (h : Lvs W A ls) (i : Nat) (hn : 0 < (froL ls i).length) : Txt W [] (mF (froL ls i) (froL ls i).length).f (froF ls i) ∧ Txt W [] (mL (froL ls i) (froL ls i).length).l (froT ls i) :=
  ⟨(lvR_ok h i _ (froL_sub ls i _ (mF_mem _ hn _ (Nat.le_refl _)))).1, (lvR_ok h i _ (froL_sub ls i _ (mL_mem _ hn _ (Nat.le_refl _)))).2⟩
theorem zero_of {n : Nat} : ((n : Int) == 0) = decide (n = 0) := by
  by_cases h : n = 0
  · subst h; rfl
  · rw [decide_eq_false h]; simpa using h
set_option maxRecDepth 100000 in
set_option maxHeartbeats 8000000 in
theorem lchoose_any {W : World} {A : Option Addr} {ls : List LR} (L C i : Nat) (hL : ls.length = L) (h : Lvs W A ls) (hm : mayB (rns ls) = true) (hi : i ≤ 2) (hs : ∀ x ∈ ls, x.rs.length ≤ 1000) (hne : 0 < (lvR ls i).length) : Calls Try.prog 20 #[.slice A L C, .int .i64 (i : Int)] W (ChP W ls i) := by
  have h4 : L ≤ 4 := by have := ((mayB_at _).1 hm).1; unfold rns at this; simpa [hL] using this
  have HL := hidIt (And.intro hL (And.intro h h4))
  have RO := hidIt (fun k => row_of hm k)
  have BD := hidIt (fun k => lvR_bound hs k)
  have HI := hidIt (And.intro hi hne)
  obtain ⟨fs, fl⟩ : (∀ x ∈ froL ls i, cmpB x.r.f x.r.l ≤ 0) ∧ 0 < (froL ls i).length := ⟨fun x hx => (row_of hm i).1 x (froL_sub ls i x hx), by
    unfold froL
    split
    · rename_i q; subst q; exact hne
    · have := bst_lt (keyM (lvR ls i) (lvR ls (i + 1))) (lvR ls i).length hne
      rw [List.getElem?_eq_getElem this]
      simp⟩
  have FP := hidIt fl
  have FT : Hid (cmpB (froF ls i) (froT ls i) ≤ 0) := hidIt (mF_mL fs fl)
  have w1 : IntKind.i64.wrap ((i : Int) + 1) = (i : Int) + 1 := by rw [IntKind.wrap_i64]; omega
  have w1' : wrap64 ((i : Int) + 1) = (i : Int) + 1 := by unfold wrap64; omega
  have v2 : IntKind.i64.wrap ((i : Int) + 2) = (i : Int) + 2 := by rw [IntKind.wrap_i64]; omega
  have v2' : wrap64 ((i : Int) + 2) = (i : Int) + 2 := by unfold wrap64; omega
  clear hL h h4 hm hi hs hne fs fl
  go_enter Try.func20, Try.ntmps20
  have t1 : Hid True := trivial
  go_wp2_with (first
    | (have _q := t1; clear t1 _q; refine wpList_alloc_rec rfl 50 rfl _ W.heap.size rfl zero_choice ?_; intro W1 R1 B1 z1; have E1 := hidIt (And.intro B1 z1); have P1 := hidIt R1; clear R1 B1 z1)
    | (go_at_call 19; refine (lofs_any L C (i + 1) _ (by omega) HL.out.1 (HL.out.2.1.below E1.out.1) (by have := HL.out.2.2; omega)).mono ?_; rintro e w2 ⟨⟨nc, rfl, nk⟩, rfl⟩; have NK := hidIt nk; clear nk)
    | (refine wpList_alloc_rec rfl 50 rfl _ (W.heap.size + 1) E1.out.2 zero_choice ?_; intro W2 R2 B2 z2; have E2 : Hid (Below W.heap.size W W2 ∧ W2.heap.size = W.heap.size + 2) := hidIt (And.intro (E1.out.1.trans (B2.mono (by have := E1.out.2; omega))) (by omega)); have P2 := hidIt R2; have Q2 := hidIt (P1.out.below (by rw [E1.out.2]; exact B2)); clear R2 B2 z2)
    | (refine wpList_store_rec rfl 50 (.tmp 6) (.tmp 13) rfl (W.heap.size + 1) 0 _ (chC (i : Int) (.slice none 0 0) (.slice none 0 0) (.slice none 0 0) (.slice none 0 0) true) rfl rfl P2.out rfl choice_size (chC_one _ _ rfl rfl rfl rfl) ?_; intro W3 R3 B3; have E3 : Hid (Below W.heap.size W W3 ∧ W.heap.size + 2 ≤ W3.heap.size) := hidIt (And.intro (E2.out.1.trans (B3.below (by omega) E2.out.1.size)) (Nat.le_trans (Nat.le_of_eq E2.out.2.symm) B3.size)); have P3 := hidIt R3; have Q3 := hidIt (Q2.out.but B3 (by omega)); clear R3 B3; refine Held.out ?_))
  refine Held.mk ?_
  clear E1 E2 P1 P2 Q2 w1 w1'
  by_cases hi0 : i = 0
  · obtain rfl := hi0
    have c0 : (((0 : Nat) : Int) == 0) = true := rfl
    have FR : Hid (froL ls 0 = lvR ls 0) := hidIt rfl
    go_wp2_with (first
      | (go_at_call 19; refine (lofs_any L C 0 _ rfl HL.out.1 (HL.out.2.1.below E3.out.1) (by have := HL.out.2.2; omega)).mono ?_; rintro e w2 ⟨⟨ac, rfl, ak⟩, rfl⟩; clear ak)
      | (go_at_call 46; refine (ltake_any (ps := lvR ls 0) _ ac rfl (fun U hU => (lvA_ls HL.out.2.1 0).below (E3.out.1.trans (hU.below (fun g hg => by have := List.mem_singleton.1 hg; omega) E3.out.1.size))) (by have := BD.out 0; omega) P3.out).mono ?_; rintro e Wt ⟨rfl, fa, fc, fv, tv, tk⟩; have TK : Hid (∃ Wb, W.heap.size + 2 ≤ Wb.heap.size ∧ TkI Wb (W.heap.size + 1) ((0 : Nat) : Int) (.slice none 0 0) true (froL ls 0) (froL ls 0).length Wt (.slice fa (froL ls 0).length fc) fv tv) := hidIt (by rw [FR.out]; exact ⟨_, E3.out.2, tk⟩); have ET := hidIt (E3.out.1.trans (tk.off.below (fun g hg => by have := List.mem_singleton.1 hg; omega) E3.out.1.size)); have QT := hidIt (Q3.out.off tk.off (fun q => by have := List.mem_singleton.1 q; omega)); clear tk; refine Held.out ?_))
    refine Held.mk ?_
    clear c0 Q3 P3
    have KR : Hid (Rec19 Wt (W.heap.size + 1) 0 (chC ((0 : Nat) : Int) (.slice fa (froL ls 0).length fc) (.slice none 0 0) fv tv true)) := hidIt (by obtain ⟨_, _, tk⟩ := TK.out; exact tk.rc)
    have KO : Hid (OwnR Wt 0 (.slice fa (froL ls 0).length fc) (froL ls 0) ∧ ∀ g, (Value.slice fa (froL ls 0).length fc).ownBlock = some g → W.heap.size + 2 ≤ g) := hidIt (by
      obtain ⟨_, hz, tk⟩ := TK.out
      have o := tk.own
      rw [List.take_length] at o
      exact ⟨o, fun g hg => Nat.le_trans hz (tk.new g hg)⟩)
    have FV : Hid (fv = (mF (froL ls 0) (froL ls 0).length).f ∧ tv = (mL (froL ls 0) (froL ls 0).length).l) := hidIt (by
      obtain ⟨_, _, tk⟩ := TK.out
      exact tk.more FP.out)
    clear TK
    go_wp2_with (first
      | (refine wpList_load_rec rfl 50 (.tmp 6) rfl (W.heap.size + 1) 0 (chC ((0 : Nat) : Int) (.slice fa (froL ls 0).length fc) (.slice none 0 0) fv tv true) rfl _ Try.underlying50 rfl choice_size KR.out ?_)
      | (go_at_call 48; refine (lmet_any (f := froF ls 0) (t := froT ls 0) (N := []) (M := []) _ nc rfl ((lvA_ls HL.out.2.1 (0 + 1)).below ET.out) NK.out (by have := BD.out (0 + 1); omega) ((RO.out (0 + 1)).2 (by omega)) FT.out (by rw [FV.out.1]; exact (froL_txt (HL.out.2.1.below ET.out) 0 FP.out).1) (by rw [FV.out.2]; exact (froL_txt (HL.out.2.1.below ET.out) 0 FP.out).2)).mono ?_; rintro e W7 ⟨ta, tc, rfl, hc, hl, hb⟩; have HC := hidIt (And.intro hc hl); have E7 := hidIt (ET.out.trans (hb.mono ET.out.size)); have K7 := hidIt (KR.out.below hb); have Q7 := hidIt (QT.out.below hb); have O7 := hidIt (KO.out.1.below hb); clear hc hl hb)
      | (refine wpList_put_rec rfl 23 (.tmp 30) (.tmp 29) rfl (W.heap.size + 1) 2 _ [.slice ta (intL ls 0).length tc] (chC ((0 : Nat) : Int) (.slice fa (froL ls 0).length fc) (.slice ta (intL ls 0).length tc) fv tv true) _ rfl rfl rfl K7.out (by show 2 + 1 ≤ 6; omega) rfl (by kernel_rfl) (by intro u hu; rcases List.mem_singleton.1 hu with rfl; rfl) ?_; intro W8 R8 B8 z8; have CI : Hid (ChI W ls 0 W8 fa ta fc tc fv tv true) := hidIt ⟨R8, O7.out.off (Off.but (bs := [W.heap.size + 1]) B8 (by simp)) (fun g hg q => by have := KO.out.2 g hg; have := List.mem_singleton.1 q; omega), KO.out.2, fun U hU => HC.out.2 U ((lvA_ls HL.out.2.1 (0 + 1)).below hU), HC.out.1, FV.out.1, FV.out.2, Q7.out.but B8 (by omega), E7.out.trans (B8.below (by omega) E7.out.size)⟩; clear R8 B8 z8; refine Held.out ?_))
    refine Held.mk ?_
    clear KR KO K7 Q7 O7 E7 ET QT HC
    go_wp2_with fail
    go_loopw [7] (fun iv wr => ∃ j : Nat, 0 + 2 ≤ j ∧ iv = .int .i64 (j : Int) ∧ Hid (ChI W ls 0 wr fa ta fc tc fv tv (drpB ls 0 j))) (fun iv _ => L - (RowKit.intOf iv).toNat)
    case atStart => exact ⟨0 + 2, Nat.le_refl _, rfl, hidIt (by rw [drpB_start]; exact CI.out)⟩
    case round =>
      clear CI v2 v2'
      obtain ⟨j, hj2, rfl, HJ⟩ := hrel
      rename World => wr
      by_cases hlt : j < L
      · obtain ⟨x, hx⟩ : ∃ x, ls[j]? = some x := ⟨_, List.getElem?_eq_getElem (by have := HL.out.1; omega)⟩
        obtain ⟨xb, xo, ha, hcell, hb⟩ := HL.out.2.1.at j x hx
        subst ha
        have CX : Hid (∀ U, Below W.heap.size W U → U.cell? ⟨xb, xo + j, none⟩ = some (.slice x.a x.rs.length x.c)) := hidIt (fun U hU => (hU.cell (p := ⟨xb, xo + j, none⟩) hb).trans hcell)
        have XA := hidIt (lvR_at hx)
        have XO : Hid (LsR W x.a x.rs ∧ x.rs.length ≤ x.c ∧ x.rs.length ≤ 100000 ∧ Row x.rs) := hidIt (by
          have k := HL.out.2.1.1 x (List.mem_of_getElem? hx)
          have r := (RO.out j).2 (by omega)
          have l := BD.out j
          rw [lvR_at hx] at r l
          exact ⟨k.1, k.2, by omega, r⟩)
        obtain ⟨i0, i1, i2, i3, i4⟩ := tb_ar j L hlt (by have := HL.out.2.2; omega)
        have GO := hidIt i4
        have ED := hidIt (HJ.out.below' (Below.refl _ _).drew)
        have DX : Hid (drpB ls 0 (j + 1) = (drpB ls 0 j && (metL x.rs (froF ls 0) (froT ls 0)).isEmpty)) := hidIt (by rw [drpB_next ls 0 j hj2, XA.out])
        clear hx hcell hb hlt i4
        cases hd : drpB ls 0 j with
        | true =>
          rw [hd] at ED
          by_cases hq : (metL x.rs (froF ls 0) (froT ls 0)).length = 0
          · have C9 : Hid ((((metL x.rs (froF ls 0) (froT ls 0)).length : Int) == 0) = true) := hidIt (by rw [zero_of, decide_eq_true hq])
            have DN : Hid (drpB ls 0 (j + 1) = true) := hidIt (by rw [DX.out, hd, List.eq_nil_of_length_eq_zero hq]; rfl)
            clear hq hd DX HJ
            go_wp2_with fail
            refine wp_region_noPanic ?_
            refine wp_region_held_drew (S := fun _ => True) (by kernel_rfl) ?_ (fun hHeld => ?_)
            · trivial
            refine take_at (i := 0) (v := ?_) (some 39) rfl rfl (by kernel_rfl) (by kernel_rfl) (by kernel_rfl) (fun _ _ _ h => h) (Or.inl ⟨by rfl, ?_⟩) (by assumption) ?_
            rotate_left
            · (intro w hSw; (try dsimp only at hSw); go_simp; try with_reducible rfl)
            simp only [Act.put, List.setIfInBounds_toArray, List.set_cons_zero, List.set_cons_succ]
            have cl := (ED.out.rc.cel 5 _ rfl).1
            refine step_at (i := 1) (some 40) rfl rfl (by rfl) (by kernel_rfl) (.bool true) wr.drew (by go_simp) trivial (fun hHeld => ?_)
            clear cl
            simp only [Act.put, List.setIfInBounds_toArray, List.set_cons_zero, List.set_cons_succ]
            refine take_at (i := 2) (v := ?_) (some 41) rfl rfl (by kernel_rfl) (by kernel_rfl) (by kernel_rfl) (fun _ _ _ h => h) (Or.inl ⟨by rfl, ?_⟩) (by assumption) ?_
            rotate_left
            · (intro w hSw; (try dsimp only at hSw); go_simp; try with_reducible rfl)
            simp only [Act.put, List.setIfInBounds_toArray, List.set_cons_zero, List.set_cons_succ]
            refine take_at (i := 4) (v := ?_) (some 43) rfl rfl (by kernel_rfl) (by kernel_rfl) (by kernel_rfl) (fun _ _ _ h => h) (Or.inl ⟨by rfl, ?_⟩) (by assumption) ?_
            rotate_left
            · (intro w hSw; (try dsimp only at hSw); go_simp; try with_reducible rfl)
            simp only [Act.put, List.setIfInBounds_toArray, List.set_cons_zero, List.set_cons_succ]
            refine take_at (i := 5) (v := ?_) (some 44) rfl rfl (by kernel_rfl) (by kernel_rfl) (by kernel_rfl) (fun _ _ _ h => h) (Or.inl ⟨by rfl, ?_⟩) (by assumption) ?_
            rotate_left
            · (intro w hSw; (try dsimp only at hSw); go_simp; try with_reducible rfl)
            simp only [Act.put, List.setIfInBounds_toArray, List.set_cons_zero, List.set_cons_succ]
            refine take_at (i := 6) (v := ?_) (some 45) rfl rfl (by kernel_rfl) (by kernel_rfl) (by kernel_rfl) (fun _ _ _ h => h) (Or.inl ⟨by rfl, ?_⟩) (by assumption) ?_
            rotate_left
            · (intro w hSw; (try dsimp only at hSw); go_simp; try with_reducible rfl)
            simp only [Act.put, List.setIfInBounds_toArray, List.set_cons_zero, List.set_cons_succ]
            have c46 := CX.out _ ED.out.below
            have r42 := ED.out.rc.1
            refine pair_at (i := 3) (j := 7) (some 42) (some 46) rfl rfl rfl rfl (by kernel_rfl) (by rfl) (by rfl) (.agg (chC ((0 : Nat) : Int) (.slice fa (froL ls 0).length fc) (.slice ta (intL ls 0).length tc) fv tv true).toArray) (.slice x.a x.rs.length x.c) wr.drew wr.drew (rowload_run 50 (.tmp 6) rfl (W.heap.size + 1) 0 (chC ((0 : Nat) : Int) (.slice fa (froL ls 0).length fc) (.slice ta (intL ls 0).length tc) fv tv true) rfl _ r42 Try.underlying50 rfl choice_size) (by go_simp) ⟨trivial, trivial⟩ (fun hHeld => ?_) (fun hHeld => ?_)
            · skip
              simp only [Act.put, List.setIfInBounds_toArray, List.set_cons_zero, List.set_cons_succ]
              refine step_at (i := 7) (some 46) rfl rfl (by rfl) (by kernel_rfl) (.slice x.a x.rs.length x.c) wr.drew (by go_simp) trivial (fun hHeld => ?_)
              clear c46 r42
              simp only [Act.put, List.setIfInBounds_toArray, List.set_cons_zero, List.set_cons_succ]
              refine call_at (i := 8) (some 47) 48 _ _ rfl rfl rfl (by rfl) (by kernel_rfl) #[.agg (chC ((0 : Nat) : Int) (.slice fa (froL ls 0).length fc) (.slice ta (intL ls 0).length tc) fv tv true).toArray, .slice x.a x.rs.length x.c] rfl Try.func48 (by kernel_rfl) (by kernel_rfl) ?_
              refine (lmet_any (ps := x.rs) (f := froF ls 0) (t := froT ls 0) (N := []) (M := []) _ x.c rfl (XO.out.1.below ED.out.below) XO.out.2.1 XO.out.2.2.1 XO.out.2.2.2 FT.out (by rw [FV.out.1]; exact (froL_txt (HL.out.2.1.below ED.out.below) 0 FP.out).1) (by rw [FV.out.2]; exact (froL_txt (HL.out.2.1.below ED.out.below) 0 FP.out).2)).mono ?_
              rintro e W5 ⟨a5, c5, rfl, _, _, hb⟩
              have D5 := hidIt (ED.out.below' hb)
              clear hb
              refine ⟨_, rfl, trivial, fun hHeld => ?_⟩
              simp only [Act.put, List.setIfInBounds_toArray, List.set_cons_zero, List.set_cons_succ]
              have c9 : (((metL x.rs (froF ls 0) (froT ls 0)).length : Int) == 0) = true := C9.out
              refine take_at (i := 9) (v := ?_) (some 48) rfl rfl (by kernel_rfl) (by kernel_rfl) (by kernel_rfl) (fun _ _ _ h => h) (Or.inl ⟨by rfl, ?_⟩) (by assumption) ?_
              rotate_left
              · (intro w hSw; (try dsimp only at hSw); go_simp; try with_reducible rfl)
              simp only [Act.put, List.setIfInBounds_toArray, List.set_cons_zero, List.set_cons_succ]
              refine take_at (i := 10) (v := ?_) (some 49) rfl rfl (by kernel_rfl) (by kernel_rfl) (by kernel_rfl) (fun _ _ _ h => h) (Or.inl ⟨by rfl, ?_⟩) (by assumption) ?_
              rotate_left
              · (intro w hSw; (try dsimp only at hSw); go_simp; try with_reducible rfl)
              simp only [Act.put, List.setIfInBounds_toArray, List.set_cons_zero, List.set_cons_succ]
              refine take_at (i := 11) (v := ?_) (some 50) rfl rfl (by kernel_rfl) (by kernel_rfl) (by kernel_rfl) (fun _ _ _ h => h) (Or.inl ⟨by rfl, ?_⟩) (by assumption) ?_
              rotate_left
              · (intro w hSw; (try dsimp only at hSw); go_simp; try with_reducible rfl)
              simp only [Act.put, List.setIfInBounds_toArray, List.set_cons_zero, List.set_cons_succ]
              refine take_at (i := 12) (v := ?_) (some 51) rfl rfl (by kernel_rfl) (by kernel_rfl) (by kernel_rfl) (fun _ _ _ h => h) (Or.inl ⟨by rfl, ?_⟩) (by assumption) ?_
              rotate_left
              · (intro w hSw; (try dsimp only at hSw); go_simp; try with_reducible rfl)
              simp only [Act.put, List.setIfInBounds_toArray, List.set_cons_zero, List.set_cons_succ]
              clear c9
              have b5 := D5.out.rc.cel 5 _ rfl
              have hr := store_v 4 (by kernel_rfl) (v := .bool true) rfl rfl b5.1 b5.2
              have NX : Hid (ChI W ls 0 (W5.setCell ⟨W.heap.size + 1, 5, none⟩ (.bool true)) fa ta fc tc fv tv (drpB ls 0 (j + 1))) := hidIt (by rw [DN.out]; exact D5.out.put true)
              clear b5
              generalize W5.setCell ⟨W.heap.size + 1, 5, none⟩ (.bool true) = W6 at *
              refine mute_at (i := 13) none rfl rfl (by rfl) (by kernel_rfl) W6 (put_mute 4 (.tmp 51) (.tmp 50) rfl _ _ rfl rfl hr) trivial (fun hHeld => ?_)
              simp only [Act.put]
              clear hr
              refine wpAnyH_done (by kernel_rfl) ?_ _
              refine NoPanic.normal ?_
              clear hHeld
              go_wp2_with fail
              exact ⟨⟨j + 1, by omega, rfl, NX⟩, GO.out⟩
            · skip
              simp only [Act.put, List.setIfInBounds_toArray, List.set_cons_zero, List.set_cons_succ]
              refine step_at (i := 3) (some 42) rfl rfl (by rfl) (by kernel_rfl) (.agg (chC ((0 : Nat) : Int) (.slice fa (froL ls 0).length fc) (.slice ta (intL ls 0).length tc) fv tv true).toArray) wr.drew (rowload_run 50 (.tmp 6) rfl (W.heap.size + 1) 0 (chC ((0 : Nat) : Int) (.slice fa (froL ls 0).length fc) (.slice ta (intL ls 0).length tc) fv tv true) rfl _ r42 Try.underlying50 rfl choice_size) trivial (fun hHeld => ?_)
              clear c46 r42
              simp only [Act.put, List.setIfInBounds_toArray, List.set_cons_zero, List.set_cons_succ]
              refine call_at (i := 8) (some 47) 48 _ _ rfl rfl rfl (by rfl) (by kernel_rfl) #[.agg (chC ((0 : Nat) : Int) (.slice fa (froL ls 0).length fc) (.slice ta (intL ls 0).length tc) fv tv true).toArray, .slice x.a x.rs.length x.c] rfl Try.func48 (by kernel_rfl) (by kernel_rfl) ?_
              refine (lmet_any (ps := x.rs) (f := froF ls 0) (t := froT ls 0) (N := []) (M := []) _ x.c rfl (XO.out.1.below ED.out.below) XO.out.2.1 XO.out.2.2.1 XO.out.2.2.2 FT.out (by rw [FV.out.1]; exact (froL_txt (HL.out.2.1.below ED.out.below) 0 FP.out).1) (by rw [FV.out.2]; exact (froL_txt (HL.out.2.1.below ED.out.below) 0 FP.out).2)).mono ?_
              rintro e W5 ⟨a5, c5, rfl, _, _, hb⟩
              have D5 := hidIt (ED.out.below' hb)
              clear hb
              refine ⟨_, rfl, trivial, fun hHeld => ?_⟩
              simp only [Act.put, List.setIfInBounds_toArray, List.set_cons_zero, List.set_cons_succ]
              have c9 : (((metL x.rs (froF ls 0) (froT ls 0)).length : Int) == 0) = true := C9.out
              refine take_at (i := 9) (v := ?_) (some 48) rfl rfl (by kernel_rfl) (by kernel_rfl) (by kernel_rfl) (fun _ _ _ h => h) (Or.inl ⟨by rfl, ?_⟩) (by assumption) ?_
              rotate_left
              · (intro w hSw; (try dsimp only at hSw); go_simp; try with_reducible rfl)
              simp only [Act.put, List.setIfInBounds_toArray, List.set_cons_zero, List.set_cons_succ]
              refine take_at (i := 10) (v := ?_) (some 49) rfl rfl (by kernel_rfl) (by kernel_rfl) (by kernel_rfl) (fun _ _ _ h => h) (Or.inl ⟨by rfl, ?_⟩) (by assumption) ?_
              rotate_left
              · (intro w hSw; (try dsimp only at hSw); go_simp; try with_reducible rfl)
              simp only [Act.put, List.setIfInBounds_toArray, List.set_cons_zero, List.set_cons_succ]
              refine take_at (i := 11) (v := ?_) (some 50) rfl rfl (by kernel_rfl) (by kernel_rfl) (by kernel_rfl) (fun _ _ _ h => h) (Or.inl ⟨by rfl, ?_⟩) (by assumption) ?_
              rotate_left
              · (intro w hSw; (try dsimp only at hSw); go_simp; try with_reducible rfl)
              simp only [Act.put, List.setIfInBounds_toArray, List.set_cons_zero, List.set_cons_succ]
              refine take_at (i := 12) (v := ?_) (some 51) rfl rfl (by kernel_rfl) (by kernel_rfl) (by kernel_rfl) (fun _ _ _ h => h) (Or.inl ⟨by rfl, ?_⟩) (by assumption) ?_
              rotate_left
              · (intro w hSw; (try dsimp only at hSw); go_simp; try with_reducible rfl)
              simp only [Act.put, List.setIfInBounds_toArray, List.set_cons_zero, List.set_cons_succ]
              clear c9
              have b5 := D5.out.rc.cel 5 _ rfl
              have hr := store_v 4 (by kernel_rfl) (v := .bool true) rfl rfl b5.1 b5.2
              have NX : Hid (ChI W ls 0 (W5.setCell ⟨W.heap.size + 1, 5, none⟩ (.bool true)) fa ta fc tc fv tv (drpB ls 0 (j + 1))) := hidIt (by rw [DN.out]; exact D5.out.put true)
              clear b5
              generalize W5.setCell ⟨W.heap.size + 1, 5, none⟩ (.bool true) = W6 at *
              refine mute_at (i := 13) none rfl rfl (by rfl) (by kernel_rfl) W6 (put_mute 4 (.tmp 51) (.tmp 50) rfl _ _ rfl rfl hr) trivial (fun hHeld => ?_)
              simp only [Act.put]
              clear hr
              refine wpAnyH_done (by kernel_rfl) ?_ _
              refine NoPanic.normal ?_
              clear hHeld
              go_wp2_with fail
              exact ⟨⟨j + 1, by omega, rfl, NX⟩, GO.out⟩
          · have C9 : Hid ((((metL x.rs (froF ls 0) (froT ls 0)).length : Int) == 0) = false) := hidIt (by rw [zero_of, decide_eq_false hq])
            have DN : Hid (drpB ls 0 (j + 1) = false) := hidIt (by
              rw [DX.out, hd]
              cases qe : metL x.rs (froF ls 0) (froT ls 0) with
              | nil => rw [qe] at hq; exact absurd rfl hq
              | cons _ _ => rfl)
            clear hq hd DX HJ
            go_wp2_with fail
            refine wp_region_noPanic ?_
            refine wp_region_held_drew (S := fun _ => True) (by kernel_rfl) ?_ (fun hHeld => ?_)
            · trivial
            refine take_at (i := 0) (v := ?_) (some 39) rfl rfl (by kernel_rfl) (by kernel_rfl) (by kernel_rfl) (fun _ _ _ h => h) (Or.inl ⟨by rfl, ?_⟩) (by assumption) ?_
            rotate_left
            · (intro w hSw; (try dsimp only at hSw); go_simp; try with_reducible rfl)
            simp only [Act.put, List.setIfInBounds_toArray, List.set_cons_zero, List.set_cons_succ]
            have cl := (ED.out.rc.cel 5 _ rfl).1
            refine step_at (i := 1) (some 40) rfl rfl (by rfl) (by kernel_rfl) (.bool true) wr.drew (by go_simp) trivial (fun hHeld => ?_)
            clear cl
            simp only [Act.put, List.setIfInBounds_toArray, List.set_cons_zero, List.set_cons_succ]
            refine take_at (i := 2) (v := ?_) (some 41) rfl rfl (by kernel_rfl) (by kernel_rfl) (by kernel_rfl) (fun _ _ _ h => h) (Or.inl ⟨by rfl, ?_⟩) (by assumption) ?_
            rotate_left
            · (intro w hSw; (try dsimp only at hSw); go_simp; try with_reducible rfl)
            simp only [Act.put, List.setIfInBounds_toArray, List.set_cons_zero, List.set_cons_succ]
            refine take_at (i := 4) (v := ?_) (some 43) rfl rfl (by kernel_rfl) (by kernel_rfl) (by kernel_rfl) (fun _ _ _ h => h) (Or.inl ⟨by rfl, ?_⟩) (by assumption) ?_
            rotate_left
            · (intro w hSw; (try dsimp only at hSw); go_simp; try with_reducible rfl)
            simp only [Act.put, List.setIfInBounds_toArray, List.set_cons_zero, List.set_cons_succ]
            refine take_at (i := 5) (v := ?_) (some 44) rfl rfl (by kernel_rfl) (by kernel_rfl) (by kernel_rfl) (fun _ _ _ h => h) (Or.inl ⟨by rfl, ?_⟩) (by assumption) ?_
            rotate_left
            · (intro w hSw; (try dsimp only at hSw); go_simp; try with_reducible rfl)
            simp only [Act.put, List.setIfInBounds_toArray, List.set_cons_zero, List.set_cons_succ]
            refine take_at (i := 6) (v := ?_) (some 45) rfl rfl (by kernel_rfl) (by kernel_rfl) (by kernel_rfl) (fun _ _ _ h => h) (Or.inl ⟨by rfl, ?_⟩) (by assumption) ?_
            rotate_left
            · (intro w hSw; (try dsimp only at hSw); go_simp; try with_reducible rfl)
            simp only [Act.put, List.setIfInBounds_toArray, List.set_cons_zero, List.set_cons_succ]
            have c46 := CX.out _ ED.out.below
            have r42 := ED.out.rc.1
            refine pair_at (i := 3) (j := 7) (some 42) (some 46) rfl rfl rfl rfl (by kernel_rfl) (by rfl) (by rfl) (.agg (chC ((0 : Nat) : Int) (.slice fa (froL ls 0).length fc) (.slice ta (intL ls 0).length tc) fv tv true).toArray) (.slice x.a x.rs.length x.c) wr.drew wr.drew (rowload_run 50 (.tmp 6) rfl (W.heap.size + 1) 0 (chC ((0 : Nat) : Int) (.slice fa (froL ls 0).length fc) (.slice ta (intL ls 0).length tc) fv tv true) rfl _ r42 Try.underlying50 rfl choice_size) (by go_simp) ⟨trivial, trivial⟩ (fun hHeld => ?_) (fun hHeld => ?_)
            · skip
              simp only [Act.put, List.setIfInBounds_toArray, List.set_cons_zero, List.set_cons_succ]
              refine step_at (i := 7) (some 46) rfl rfl (by rfl) (by kernel_rfl) (.slice x.a x.rs.length x.c) wr.drew (by go_simp) trivial (fun hHeld => ?_)
              clear c46 r42
              simp only [Act.put, List.setIfInBounds_toArray, List.set_cons_zero, List.set_cons_succ]
              refine call_at (i := 8) (some 47) 48 _ _ rfl rfl rfl (by rfl) (by kernel_rfl) #[.agg (chC ((0 : Nat) : Int) (.slice fa (froL ls 0).length fc) (.slice ta (intL ls 0).length tc) fv tv true).toArray, .slice x.a x.rs.length x.c] rfl Try.func48 (by kernel_rfl) (by kernel_rfl) ?_
              refine (lmet_any (ps := x.rs) (f := froF ls 0) (t := froT ls 0) (N := []) (M := []) _ x.c rfl (XO.out.1.below ED.out.below) XO.out.2.1 XO.out.2.2.1 XO.out.2.2.2 FT.out (by rw [FV.out.1]; exact (froL_txt (HL.out.2.1.below ED.out.below) 0 FP.out).1) (by rw [FV.out.2]; exact (froL_txt (HL.out.2.1.below ED.out.below) 0 FP.out).2)).mono ?_
              rintro e W5 ⟨a5, c5, rfl, _, _, hb⟩
              have D5 := hidIt (ED.out.below' hb)
              clear hb
              refine ⟨_, rfl, trivial, fun hHeld => ?_⟩
              simp only [Act.put, List.setIfInBounds_toArray, List.set_cons_zero, List.set_cons_succ]
              have c9 : (((metL x.rs (froF ls 0) (froT ls 0)).length : Int) == 0) = false := C9.out
              refine take_at (i := 9) (v := ?_) (some 48) rfl rfl (by kernel_rfl) (by kernel_rfl) (by kernel_rfl) (fun _ _ _ h => h) (Or.inl ⟨by rfl, ?_⟩) (by assumption) ?_
              rotate_left
              · (intro w hSw; (try dsimp only at hSw); go_simp; try with_reducible rfl)
              simp only [Act.put, List.setIfInBounds_toArray, List.set_cons_zero, List.set_cons_succ]
              refine take_at (i := 10) (v := ?_) (some 49) rfl rfl (by kernel_rfl) (by kernel_rfl) (by kernel_rfl) (fun _ _ _ h => h) (Or.inl ⟨by rfl, ?_⟩) (by assumption) ?_
              rotate_left
              · (intro w hSw; (try dsimp only at hSw); go_simp; try with_reducible rfl)
              simp only [Act.put, List.setIfInBounds_toArray, List.set_cons_zero, List.set_cons_succ]
              refine take_at (i := 11) (v := ?_) (some 50) rfl rfl (by kernel_rfl) (by kernel_rfl) (by kernel_rfl) (fun _ _ _ h => h) (Or.inl ⟨by rfl, ?_⟩) (by assumption) ?_
              rotate_left
              · (intro w hSw; (try dsimp only at hSw); go_simp; try with_reducible rfl)
              simp only [Act.put, List.setIfInBounds_toArray, List.set_cons_zero, List.set_cons_succ]
              refine take_at (i := 12) (v := ?_) (some 51) rfl rfl (by kernel_rfl) (by kernel_rfl) (by kernel_rfl) (fun _ _ _ h => h) (Or.inl ⟨by rfl, ?_⟩) (by assumption) ?_
              rotate_left
              · (intro w hSw; (try dsimp only at hSw); go_simp; try with_reducible rfl)
              simp only [Act.put, List.setIfInBounds_toArray, List.set_cons_zero, List.set_cons_succ]
              clear c9
              have b5 := D5.out.rc.cel 5 _ rfl
              have hr := store_v 4 (by kernel_rfl) (v := .bool false) rfl rfl b5.1 b5.2
              have NX : Hid (ChI W ls 0 (W5.setCell ⟨W.heap.size + 1, 5, none⟩ (.bool false)) fa ta fc tc fv tv (drpB ls 0 (j + 1))) := hidIt (by rw [DN.out]; exact D5.out.put false)
              clear b5
              generalize W5.setCell ⟨W.heap.size + 1, 5, none⟩ (.bool false) = W6 at *
              refine mute_at (i := 13) none rfl rfl (by rfl) (by kernel_rfl) W6 (put_mute 4 (.tmp 51) (.tmp 50) rfl _ _ rfl rfl hr) trivial (fun hHeld => ?_)
              simp only [Act.put]
              clear hr
              refine wpAnyH_done (by kernel_rfl) ?_ _
              refine NoPanic.normal ?_
              clear hHeld
              go_wp2_with fail
              exact ⟨⟨j + 1, by omega, rfl, NX⟩, GO.out⟩
            · skip
              simp only [Act.put, List.setIfInBounds_toArray, List.set_cons_zero, List.set_cons_succ]
              refine step_at (i := 3) (some 42) rfl rfl (by rfl) (by kernel_rfl) (.agg (chC ((0 : Nat) : Int) (.slice fa (froL ls 0).length fc) (.slice ta (intL ls 0).length tc) fv tv true).toArray) wr.drew (rowload_run 50 (.tmp 6) rfl (W.heap.size + 1) 0 (chC ((0 : Nat) : Int) (.slice fa (froL ls 0).length fc) (.slice ta (intL ls 0).length tc) fv tv true) rfl _ r42 Try.underlying50 rfl choice_size) trivial (fun hHeld => ?_)
              clear c46 r42
              simp only [Act.put, List.setIfInBounds_toArray, List.set_cons_zero, List.set_cons_succ]
              refine call_at (i := 8) (some 47) 48 _ _ rfl rfl rfl (by rfl) (by kernel_rfl) #[.agg (chC ((0 : Nat) : Int) (.slice fa (froL ls 0).length fc) (.slice ta (intL ls 0).length tc) fv tv true).toArray, .slice x.a x.rs.length x.c] rfl Try.func48 (by kernel_rfl) (by kernel_rfl) ?_
              refine (lmet_any (ps := x.rs) (f := froF ls 0) (t := froT ls 0) (N := []) (M := []) _ x.c rfl (XO.out.1.below ED.out.below) XO.out.2.1 XO.out.2.2.1 XO.out.2.2.2 FT.out (by rw [FV.out.1]; exact (froL_txt (HL.out.2.1.below ED.out.below) 0 FP.out).1) (by rw [FV.out.2]; exact (froL_txt (HL.out.2.1.below ED.out.below) 0 FP.out).2)).mono ?_
              rintro e W5 ⟨a5, c5, rfl, _, _, hb⟩
              have D5 := hidIt (ED.out.below' hb)
              clear hb
              refine ⟨_, rfl, trivial, fun hHeld => ?_⟩
              simp only [Act.put, List.setIfInBounds_toArray, List.set_cons_zero, List.set_cons_succ]
              have c9 : (((metL x.rs (froF ls 0) (froT ls 0)).length : Int) == 0) = false := C9.out
              refine take_at (i := 9) (v := ?_) (some 48) rfl rfl (by kernel_rfl) (by kernel_rfl) (by kernel_rfl) (fun _ _ _ h => h) (Or.inl ⟨by rfl, ?_⟩) (by assumption) ?_
              rotate_left
              · (intro w hSw; (try dsimp only at hSw); go_simp; try with_reducible rfl)
              simp only [Act.put, List.setIfInBounds_toArray, List.set_cons_zero, List.set_cons_succ]
              refine take_at (i := 10) (v := ?_) (some 49) rfl rfl (by kernel_rfl) (by kernel_rfl) (by kernel_rfl) (fun _ _ _ h => h) (Or.inl ⟨by rfl, ?_⟩) (by assumption) ?_
              rotate_left
              · (intro w hSw; (try dsimp only at hSw); go_simp; try with_reducible rfl)
              simp only [Act.put, List.setIfInBounds_toArray, List.set_cons_zero, List.set_cons_succ]
              refine take_at (i := 11) (v := ?_) (some 50) rfl rfl (by kernel_rfl) (by kernel_rfl) (by kernel_rfl) (fun _ _ _ h => h) (Or.inl ⟨by rfl, ?_⟩) (by assumption) ?_
              rotate_left
              · (intro w hSw; (try dsimp only at hSw); go_simp; try with_reducible rfl)
              simp only [Act.put, List.setIfInBounds_toArray, List.set_cons_zero, List.set_cons_succ]
              refine take_at (i := 12) (v := ?_) (some 51) rfl rfl (by kernel_rfl) (by kernel_rfl) (by kernel_rfl) (fun _ _ _ h => h) (Or.inl ⟨by rfl, ?_⟩) (by assumption) ?_
              rotate_left
              · (intro w hSw; (try dsimp only at hSw); go_simp; try with_reducible rfl)
              simp only [Act.put, List.setIfInBounds_toArray, List.set_cons_zero, List.set_cons_succ]
              clear c9
              have b5 := D5.out.rc.cel 5 _ rfl
              have hr := store_v 4 (by kernel_rfl) (v := .bool false) rfl rfl b5.1 b5.2
              have NX : Hid (ChI W ls 0 (W5.setCell ⟨W.heap.size + 1, 5, none⟩ (.bool false)) fa ta fc tc fv tv (drpB ls 0 (j + 1))) := hidIt (by rw [DN.out]; exact D5.out.put false)
              clear b5
              generalize W5.setCell ⟨W.heap.size + 1, 5, none⟩ (.bool false) = W6 at *
              refine mute_at (i := 13) none rfl rfl (by rfl) (by kernel_rfl) W6 (put_mute 4 (.tmp 51) (.tmp 50) rfl _ _ rfl rfl hr) trivial (fun hHeld => ?_)
              simp only [Act.put]
              clear hr
              refine wpAnyH_done (by kernel_rfl) ?_ _
              refine NoPanic.normal ?_
              clear hHeld
              go_wp2_with fail
              exact ⟨⟨j + 1, by omega, rfl, NX⟩, GO.out⟩
        | false =>
          rw [hd] at ED
          have DN : Hid (drpB ls 0 (j + 1) = false) := hidIt (by rw [DX.out, hd]; rfl)
          clear hd DX HJ
          go_wp2_with fail
          refine wp_region_noPanic ?_
          refine wp_region_held_drew (S := fun _ => True) (by kernel_rfl) ?_ (fun hHeld => ?_)
          · trivial
          refine take_at (i := 0) (v := ?_) (some 39) rfl rfl (by kernel_rfl) (by kernel_rfl) (by kernel_rfl) (fun _ _ _ h => h) (Or.inl ⟨by rfl, ?_⟩) (by assumption) ?_
          rotate_left
          · (intro w hSw; (try dsimp only at hSw); go_simp; try with_reducible rfl)
          simp only [Act.put, List.setIfInBounds_toArray, List.set_cons_zero, List.set_cons_succ]
          have cl := (ED.out.rc.cel 5 _ rfl).1
          refine step_at (i := 1) (some 40) rfl rfl (by rfl) (by kernel_rfl) (.bool false) wr.drew (by go_simp) trivial (fun hHeld => ?_)
          clear cl
          simp only [Act.put, List.setIfInBounds_toArray, List.set_cons_zero, List.set_cons_succ]
          refine take_at (i := 2) (v := ?_) (some 41) rfl rfl (by kernel_rfl) (by kernel_rfl) (by kernel_rfl) (fun _ _ _ h => h) (Or.inl ⟨by rfl, ?_⟩) (by assumption) ?_
          rotate_left
          · (intro w hSw; (try dsimp only at hSw); go_simp; try with_reducible rfl)
          simp only [Act.put, List.setIfInBounds_toArray, List.set_cons_zero, List.set_cons_succ]
          refine take_at (i := 3) (v := undef) (some 42) rfl rfl (by kernel_rfl) (by kernel_rfl) (by kernel_rfl) (fun _ _ _ h => h) (Or.inr ⟨by rfl, rfl⟩) (by assumption) ?_
          simp only [Act.put, List.setIfInBounds_toArray, List.set_cons_zero, List.set_cons_succ]
          refine take_at (i := 4) (v := undef) (some 43) rfl rfl (by kernel_rfl) (by kernel_rfl) (by kernel_rfl) (fun _ _ _ h => h) (Or.inr ⟨by rfl, rfl⟩) (by assumption) ?_
          simp only [Act.put, List.setIfInBounds_toArray, List.set_cons_zero, List.set_cons_succ]
          refine take_at (i := 5) (v := undef) (some 44) rfl rfl (by kernel_rfl) (by kernel_rfl) (by kernel_rfl) (fun _ _ _ h => h) (Or.inr ⟨by rfl, rfl⟩) (by assumption) ?_
          simp only [Act.put, List.setIfInBounds_toArray, List.set_cons_zero, List.set_cons_succ]
          refine take_at (i := 6) (v := undef) (some 45) rfl rfl (by kernel_rfl) (by kernel_rfl) (by kernel_rfl) (fun _ _ _ h => h) (Or.inr ⟨by rfl, rfl⟩) (by assumption) ?_
          simp only [Act.put, List.setIfInBounds_toArray, List.set_cons_zero, List.set_cons_succ]
          refine take_at (i := 7) (v := undef) (some 46) rfl rfl (by kernel_rfl) (by kernel_rfl) (by kernel_rfl) (fun _ _ _ h => h) (Or.inr ⟨by rfl, rfl⟩) (by assumption) ?_
          simp only [Act.put, List.setIfInBounds_toArray, List.set_cons_zero, List.set_cons_succ]
          refine take_at (i := 8) (v := undef) (some 47) rfl rfl (by kernel_rfl) (by kernel_rfl) (by kernel_rfl) (fun _ _ _ h => h) (Or.inr ⟨by rfl, rfl⟩) (by assumption) ?_
          simp only [Act.put, List.setIfInBounds_toArray, List.set_cons_zero, List.set_cons_succ]
          refine take_at (i := 9) (v := undef) (some 48) rfl rfl (by kernel_rfl) (by kernel_rfl) (by kernel_rfl) (fun _ _ _ h => h) (Or.inr ⟨by rfl, rfl⟩) (by assumption) ?_
          simp only [Act.put, List.setIfInBounds_toArray, List.set_cons_zero, List.set_cons_succ]
          refine take_at (i := 10) (v := undef) (some 49) rfl rfl (by kernel_rfl) (by kernel_rfl) (by kernel_rfl) (fun _ _ _ h => h) (Or.inr ⟨by rfl, rfl⟩) (by assumption) ?_
          simp only [Act.put, List.setIfInBounds_toArray, List.set_cons_zero, List.set_cons_succ]
          refine take_at (i := 11) (v := ?_) (some 50) rfl rfl (by kernel_rfl) (by kernel_rfl) (by kernel_rfl) (fun _ _ _ h => h) (Or.inl ⟨by rfl, ?_⟩) (by assumption) ?_
          rotate_left
          · (intro w hSw; (try dsimp only at hSw); go_simp; try with_reducible rfl)
          simp only [Act.put, List.setIfInBounds_toArray, List.set_cons_zero, List.set_cons_succ]
          refine take_at (i := 12) (v := ?_) (some 51) rfl rfl (by kernel_rfl) (by kernel_rfl) (by kernel_rfl) (fun _ _ _ h => h) (Or.inl ⟨by rfl, ?_⟩) (by assumption) ?_
          rotate_left
          · (intro w hSw; (try dsimp only at hSw); go_simp; try with_reducible rfl)
          simp only [Act.put, List.setIfInBounds_toArray, List.set_cons_zero, List.set_cons_succ]
          have b5 := ED.out.rc.cel 5 _ rfl
          have hr := store_v 4 (by kernel_rfl) (v := .bool false) rfl rfl b5.1 b5.2
          have NX : Hid (ChI W ls 0 (wr.drew.setCell ⟨W.heap.size + 1, 5, none⟩ (.bool false)) fa ta fc tc fv tv (drpB ls 0 (j + 1))) := hidIt (by rw [DN.out]; exact ED.out.put false)
          clear b5
          generalize wr.drew.setCell ⟨W.heap.size + 1, 5, none⟩ (.bool false) = W6 at *
          refine mute_at (i := 13) none rfl rfl (by rfl) (by kernel_rfl) W6 (put_mute 4 (.tmp 51) (.tmp 50) rfl _ _ rfl rfl hr) trivial (fun hHeld => ?_)
          simp only [Act.put]
          clear hr
          refine wpAnyH_done (by kernel_rfl) ?_ _
          refine NoPanic.normal ?_
          clear hHeld
          go_wp2_with fail
          exact ⟨⟨j + 1, by omega, rfl, NX⟩, GO.out⟩
      · have i0 : ((j : Int) < (L : Int)) = False := eq_false (by omega)
        have FJ : Hid (ChI W ls 0 wr fa ta fc tc fv tv (drpB ls 0 4)) := hidIt (by
          have e1 := drpB_end ls 0 L j (by have := HL.out.1; omega) (by omega)
          have e2 := drpB_end ls 0 L 4 (by have := HL.out.1; omega) HL.out.2.2
          rw [e2, ← e1]
          exact HJ.out)
        have FX : Hid (fv.oneCell' = true ∧ tv.oneCell' = true) := hidIt (by
          have q := froL_txt HL.out.2.1 0 FP.out
          rw [FV.out.1, FV.out.2]
          exact ⟨q.1.one, q.2.one⟩)
        clear hlt HJ
        go_wp2_with (first
          | (refine wpList_load_rec rfl 50 (.tmp 6) rfl (W.heap.size + 1) 0 (chC ((0 : Nat) : Int) (.slice fa (froL ls 0).length fc) (.slice ta (intL ls 0).length tc) fv tv (drpB ls 0 4)) rfl _ Try.underlying50 rfl choice_size FJ.out.rc ?_)
          | (refine wpList_store_rec rfl 50 (.tmp 4) (.tmp 52) rfl W.heap.size 0 _ (chC ((0 : Nat) : Int) (.slice fa (froL ls 0).length fc) (.slice ta (intL ls 0).length tc) fv tv (drpB ls 0 4)) rfl rfl FJ.out.res rfl choice_size (chC_one _ _ rfl rfl FX.out.1 FX.out.2) ?_; intro W9 R9 B9; have RR := hidIt R9; have CR : Hid (ChR W ls 0 W9 fa ta fc tc) := hidIt ⟨FJ.out.own.off (Off.but (bs := [W.heap.size]) B9 (by simp)) (fun g hg q => by have := FJ.out.new g hg; have := List.mem_singleton.1 q; omega), fun g hg => (by have := FJ.out.new g hg; omega), FJ.out.into, FJ.out.cap, FJ.out.below.trans (B9.below (Nat.le_refl _) FJ.out.below.size)⟩; clear R9 B9))
        have hl := RR.out.run_load 50 _ Try.underlying50 rfl choice_size
        exact bodyPost_ret (v := .agg (chC ((0 : Nat) : Int) (.slice fa (froL ls 0).length fc) (.slice ta (intL ls 0).length tc) fv tv (drpB ls 0 4)).toArray) (by simp [results, Try.results20, asAddr, Act.put, hl]) rfl ⟨_, _, _, _, _, _, rfl, CR.out⟩
  · have c0 : ((i : Int) == 0) = false := by rw [zero_of]; simpa using hi0
    have NZ := hidIt hi0
    clear hi0
    go_wp2_with (first
      | (go_at_call 19; refine (lofs_any L C i _ rfl HL.out.1 (HL.out.2.1.below E3.out.1) (by have := HL.out.2.2; omega)).mono ?_; rintro e w2 ⟨⟨ac, rfl, ak⟩, rfl⟩; clear ak)
      | (go_at_call 47; refine (lfewest_any _ ac _ nc rfl ((lvA_ls HL.out.2.1 i).below E3.out.1) HI.out.2 (by have := BD.out i; omega) (RO.out i).1 rfl ((lvA_ls HL.out.2.1 (i + 1)).below E3.out.1) NK.out (by have := BD.out (i + 1); omega) ((RO.out (i + 1)).2 (by omega))).mono ?_; rintro e W4 ⟨y, hy, rfl, hb⟩; have HY := hidIt hy; have E4 : Hid (Below W.heap.size W W4 ∧ W.heap.size + 2 ≤ W4.heap.size) := hidIt (And.intro (E3.out.1.trans (hb.mono E3.out.1.size)) (Nat.le_trans E3.out.2 hb.size)); have P4 := hidIt (P3.out.below hb); have Q4 := hidIt (Q3.out.below hb); have YM := hidIt (List.mem_of_getElem? hy); clear hy hb; obtain ⟨W5, hW5⟩ : ∃ W5, W5 = W4.alloc (.cells y.cs.toArray 45) := ⟨_, rfl⟩; have A5 : Below W4.heap.size W4 W5 := (by rw [hW5]; exact (Below.refl _ _).alloc (Nat.le_refl _) _); have R5 : Rec19 W5 W4.heap.size 0 y.cs := (by rw [hW5]; exact Rec19.new W4 _ y.cs); have E5 : Hid (Below W.heap.size W W5 ∧ W.heap.size + 2 ≤ W5.heap.size) := hidIt (And.intro (E4.out.1.trans (A5.mono E4.out.1.size)) (Nat.le_trans E4.out.2 A5.size)); have P5 := hidIt (P4.out.below A5); have Q5 := hidIt (Q4.out.below A5); have Y5 := hidIt R5; have HW5 := hidIt hW5; clear A5 R5 hW5)
      | (refine wpList_run_w (by rfl) (.slice (some ⟨W4.heap.size, 0, none⟩) 1 1) W5 (by rw [HW5.out]; exact bsl_run 23 45 1 _ rfl 5 72 _ _ _ under_runs info_run (by decide) (by decide) rfl (by kernel_rfl)) ?_)
      | (go_at_call 46; refine (ltake_any (ps := [y]) 1 1 rfl (fun U hU => ⟨fun z hz => (by have e := List.mem_singleton.1 hz; subst e; exact ((lvR_ok HL.out.2.1 i z YM.out)).below (E5.out.1.trans (hU.below (fun g hg => by have := List.mem_singleton.1 hg; omega) E5.out.1.size))), fun _ => (by
          have o5 := Y5.out.off hU (fun q => by have := List.mem_singleton.1 q; have := E4.out.2; omega)
          exact ⟨_, 0, rfl, by rw [rcs_single]; exact o5.1, o5.2.2⟩)⟩) (by omega) P5.out).mono ?_; rintro e Wt ⟨rfl, fa, fc, fv, tv, tk⟩; have FR : Hid (froL ls i = [y]) := hidIt (by unfold froL; rw [if_neg NZ.out, HY.out]; rfl); have TK : Hid (∃ Wb, W.heap.size + 2 ≤ Wb.heap.size ∧ TkI Wb (W.heap.size + 1) (i : Int) (.slice none 0 0) true (froL ls i) (froL ls i).length Wt (.slice fa (froL ls i).length fc) fv tv) := hidIt (by rw [FR.out]; exact ⟨_, E5.out.2, tk⟩); have ET := hidIt (E5.out.1.trans (tk.off.below (fun g hg => by have := List.mem_singleton.1 hg; omega) E5.out.1.size)); have QT := hidIt (Q5.out.off tk.off (fun q => by have := List.mem_singleton.1 q; omega)); clear tk; refine Held.out ?_))
    refine Held.mk ?_
    clear c0
    have KR : Hid (Rec19 Wt (W.heap.size + 1) 0 (chC (i : Int) (.slice fa (froL ls i).length fc) (.slice none 0 0) fv tv true)) := hidIt (by obtain ⟨_, _, tk⟩ := TK.out; exact tk.rc)
    have KO : Hid (OwnR Wt 0 (.slice fa (froL ls i).length fc) (froL ls i) ∧ ∀ g, (Value.slice fa (froL ls i).length fc).ownBlock = some g → W.heap.size + 2 ≤ g) := hidIt (by
      obtain ⟨_, hz, tk⟩ := TK.out
      have o := tk.own
      rw [List.take_length] at o
      exact ⟨o, fun g hg => Nat.le_trans hz (tk.new g hg)⟩)
    have FV : Hid (fv = (mF (froL ls i) (froL ls i).length).f ∧ tv = (mL (froL ls i) (froL ls i).length).l) := hidIt (by
      obtain ⟨_, _, tk⟩ := TK.out
      exact tk.more FP.out)
    clear TK
    go_wp2_with (first
      | (refine wpList_load_rec rfl 50 (.tmp 6) rfl (W.heap.size + 1) 0 (chC (i : Int) (.slice fa (froL ls i).length fc) (.slice none 0 0) fv tv true) rfl _ Try.underlying50 rfl choice_size KR.out ?_)
      | (go_at_call 48; refine (lmet_any (f := froF ls i) (t := froT ls i) (N := []) (M := []) _ nc rfl ((lvA_ls HL.out.2.1 (i + 1)).below ET.out) NK.out (by have := BD.out (i + 1); omega) ((RO.out (i + 1)).2 (by omega)) FT.out (by rw [FV.out.1]; exact (froL_txt (HL.out.2.1.below ET.out) i FP.out).1) (by rw [FV.out.2]; exact (froL_txt (HL.out.2.1.below ET.out) i FP.out).2)).mono ?_; rintro e W7 ⟨ta, tc, rfl, hc, hl, hb⟩; have HC := hidIt (And.intro hc hl); have E7 := hidIt (ET.out.trans (hb.mono ET.out.size)); have K7 := hidIt (KR.out.below hb); have Q7 := hidIt (QT.out.below hb); have O7 := hidIt (KO.out.1.below hb); clear hc hl hb)
      | (refine wpList_put_rec rfl 23 (.tmp 30) (.tmp 29) rfl (W.heap.size + 1) 2 _ [.slice ta (intL ls i).length tc] (chC (i : Int) (.slice fa (froL ls i).length fc) (.slice ta (intL ls i).length tc) fv tv true) _ rfl rfl rfl K7.out (by show 2 + 1 ≤ 6; omega) rfl (by kernel_rfl) (by intro u hu; rcases List.mem_singleton.1 hu with rfl; rfl) ?_; intro W8 R8 B8 z8; have CI : Hid (ChI W ls i W8 fa ta fc tc fv tv true) := hidIt ⟨R8, O7.out.off (Off.but (bs := [W.heap.size + 1]) B8 (by simp)) (fun g hg q => by have := KO.out.2 g hg; have := List.mem_singleton.1 q; omega), KO.out.2, fun U hU => HC.out.2 U ((lvA_ls HL.out.2.1 (i + 1)).below hU), HC.out.1, FV.out.1, FV.out.2, Q7.out.but B8 (by omega), E7.out.trans (B8.below (by omega) E7.out.size)⟩; clear R8 B8 z8; refine Held.out ?_))
    refine Held.mk ?_
    clear KR KO K7 Q7 O7 E7 ET QT HC
    go_wp2_with fail
    go_loopw [7] (fun iv wr => ∃ j : Nat, i + 2 ≤ j ∧ iv = .int .i64 (j : Int) ∧ Hid (ChI W ls i wr fa ta fc tc fv tv (drpB ls i j))) (fun iv _ => L - (RowKit.intOf iv).toNat)
    case atStart => exact ⟨i + 2, Nat.le_refl _, rfl, hidIt (by rw [drpB_start]; exact CI.out)⟩
    case round =>
      clear CI v2 v2'
      obtain ⟨j, hj2, rfl, HJ⟩ := hrel
      rename World => wr
      by_cases hlt : j < L
      · obtain ⟨x, hx⟩ : ∃ x, ls[j]? = some x := ⟨_, List.getElem?_eq_getElem (by have := HL.out.1; omega)⟩
        obtain ⟨xb, xo, ha, hcell, hb⟩ := HL.out.2.1.at j x hx
        subst ha
        have CX : Hid (∀ U, Below W.heap.size W U → U.cell? ⟨xb, xo + j, none⟩ = some (.slice x.a x.rs.length x.c)) := hidIt (fun U hU => (hU.cell (p := ⟨xb, xo + j, none⟩) hb).trans hcell)
        have XA := hidIt (lvR_at hx)
        have XO : Hid (LsR W x.a x.rs ∧ x.rs.length ≤ x.c ∧ x.rs.length ≤ 100000 ∧ Row x.rs) := hidIt (by
          have k := HL.out.2.1.1 x (List.mem_of_getElem? hx)
          have r := (RO.out j).2 (by omega)
          have l := BD.out j
          rw [lvR_at hx] at r l
          exact ⟨k.1, k.2, by omega, r⟩)
        obtain ⟨i0, i1, i2, i3, i4⟩ := tb_ar j L hlt (by have := HL.out.2.2; omega)
        have GO := hidIt i4
        have ED := hidIt (HJ.out.below' (Below.refl _ _).drew)
        have DX : Hid (drpB ls i (j + 1) = (drpB ls i j && (metL x.rs (froF ls i) (froT ls i)).isEmpty)) := hidIt (by rw [drpB_next ls i j hj2, XA.out])
        clear hx hcell hb hlt i4
        cases hd : drpB ls i j with
        | true =>
          rw [hd] at ED
          by_cases hq : (metL x.rs (froF ls i) (froT ls i)).length = 0
          · have C9 : Hid ((((metL x.rs (froF ls i) (froT ls i)).length : Int) == 0) = true) := hidIt (by rw [zero_of, decide_eq_true hq])
            have DN : Hid (drpB ls i (j + 1) = true) := hidIt (by rw [DX.out, hd, List.eq_nil_of_length_eq_zero hq]; rfl)
            clear hq hd DX HJ
            go_wp2_with fail
            refine wp_region_noPanic ?_
            refine wp_region_held_drew (S := fun _ => True) (by kernel_rfl) ?_ (fun hHeld => ?_)
            · trivial
            refine take_at (i := 0) (v := ?_) (some 39) rfl rfl (by kernel_rfl) (by kernel_rfl) (by kernel_rfl) (fun _ _ _ h => h) (Or.inl ⟨by rfl, ?_⟩) (by assumption) ?_
            rotate_left
            · (intro w hSw; (try dsimp only at hSw); go_simp; try with_reducible rfl)
            simp only [Act.put, List.setIfInBounds_toArray, List.set_cons_zero, List.set_cons_succ]
            have cl := (ED.out.rc.cel 5 _ rfl).1
            refine step_at (i := 1) (some 40) rfl rfl (by rfl) (by kernel_rfl) (.bool true) wr.drew (by go_simp) trivial (fun hHeld => ?_)
            clear cl
            simp only [Act.put, List.setIfInBounds_toArray, List.set_cons_zero, List.set_cons_succ]
            refine take_at (i := 2) (v := ?_) (some 41) rfl rfl (by kernel_rfl) (by kernel_rfl) (by kernel_rfl) (fun _ _ _ h => h) (Or.inl ⟨by rfl, ?_⟩) (by assumption) ?_
            rotate_left
            · (intro w hSw; (try dsimp only at hSw); go_simp; try with_reducible rfl)
            simp only [Act.put, List.setIfInBounds_toArray, List.set_cons_zero, List.set_cons_succ]
            refine take_at (i := 4) (v := ?_) (some 43) rfl rfl (by kernel_rfl) (by kernel_rfl) (by kernel_rfl) (fun _ _ _ h => h) (Or.inl ⟨by rfl, ?_⟩) (by assumption) ?_
            rotate_left
            · (intro w hSw; (try dsimp only at hSw); go_simp; try with_reducible rfl)
            simp only [Act.put, List.setIfInBounds_toArray, List.set_cons_zero, List.set_cons_succ]
            refine take_at (i := 5) (v := ?_) (some 44) rfl rfl (by kernel_rfl) (by kernel_rfl) (by kernel_rfl) (fun _ _ _ h => h) (Or.inl ⟨by rfl, ?_⟩) (by assumption) ?_
            rotate_left
            · (intro w hSw; (try dsimp only at hSw); go_simp; try with_reducible rfl)
            simp only [Act.put, List.setIfInBounds_toArray, List.set_cons_zero, List.set_cons_succ]
            refine take_at (i := 6) (v := ?_) (some 45) rfl rfl (by kernel_rfl) (by kernel_rfl) (by kernel_rfl) (fun _ _ _ h => h) (Or.inl ⟨by rfl, ?_⟩) (by assumption) ?_
            rotate_left
            · (intro w hSw; (try dsimp only at hSw); go_simp; try with_reducible rfl)
            simp only [Act.put, List.setIfInBounds_toArray, List.set_cons_zero, List.set_cons_succ]
            have c46 := CX.out _ ED.out.below
            have r42 := ED.out.rc.1
            refine pair_at (i := 3) (j := 7) (some 42) (some 46) rfl rfl rfl rfl (by kernel_rfl) (by rfl) (by rfl) (.agg (chC (i : Int) (.slice fa (froL ls i).length fc) (.slice ta (intL ls i).length tc) fv tv true).toArray) (.slice x.a x.rs.length x.c) wr.drew wr.drew (rowload_run 50 (.tmp 6) rfl (W.heap.size + 1) 0 (chC (i : Int) (.slice fa (froL ls i).length fc) (.slice ta (intL ls i).length tc) fv tv true) rfl _ r42 Try.underlying50 rfl choice_size) (by go_simp) ⟨trivial, trivial⟩ (fun hHeld => ?_) (fun hHeld => ?_)
            · skip
              simp only [Act.put, List.setIfInBounds_toArray, List.set_cons_zero, List.set_cons_succ]
              refine step_at (i := 7) (some 46) rfl rfl (by rfl) (by kernel_rfl) (.slice x.a x.rs.length x.c) wr.drew (by go_simp) trivial (fun hHeld => ?_)
              clear c46 r42
              simp only [Act.put, List.setIfInBounds_toArray, List.set_cons_zero, List.set_cons_succ]
              refine call_at (i := 8) (some 47) 48 _ _ rfl rfl rfl (by rfl) (by kernel_rfl) #[.agg (chC (i : Int) (.slice fa (froL ls i).length fc) (.slice ta (intL ls i).length tc) fv tv true).toArray, .slice x.a x.rs.length x.c] rfl Try.func48 (by kernel_rfl) (by kernel_rfl) ?_
              refine (lmet_any (ps := x.rs) (f := froF ls i) (t := froT ls i) (N := []) (M := []) _ x.c rfl (XO.out.1.below ED.out.below) XO.out.2.1 XO.out.2.2.1 XO.out.2.2.2 FT.out (by rw [FV.out.1]; exact (froL_txt (HL.out.2.1.below ED.out.below) i FP.out).1) (by rw [FV.out.2]; exact (froL_txt (HL.out.2.1.below ED.out.below) i FP.out).2)).mono ?_
              rintro e W5 ⟨a5, c5, rfl, _, _, hb⟩
              have D5 := hidIt (ED.out.below' hb)
              clear hb
              refine ⟨_, rfl, trivial, fun hHeld => ?_⟩
              simp only [Act.put, List.setIfInBounds_toArray, List.set_cons_zero, List.set_cons_succ]
              have c9 : (((metL x.rs (froF ls i) (froT ls i)).length : Int) == 0) = true := C9.out
              refine take_at (i := 9) (v := ?_) (some 48) rfl rfl (by kernel_rfl) (by kernel_rfl) (by kernel_rfl) (fun _ _ _ h => h) (Or.inl ⟨by rfl, ?_⟩) (by assumption) ?_
              rotate_left
              · (intro w hSw; (try dsimp only at hSw); go_simp; try with_reducible rfl)
              simp only [Act.put, List.setIfInBounds_toArray, List.set_cons_zero, List.set_cons_succ]
              refine take_at (i := 10) (v := ?_) (some 49) rfl rfl (by kernel_rfl) (by kernel_rfl) (by kernel_rfl) (fun _ _ _ h => h) (Or.inl ⟨by rfl, ?_⟩) (by assumption) ?_
              rotate_left
              · (intro w hSw; (try dsimp only at hSw); go_simp; try with_reducible rfl)
              simp only [Act.put, List.setIfInBounds_toArray, List.set_cons_zero, List.set_cons_succ]
              refine take_at (i := 11) (v := ?_) (some 50) rfl rfl (by kernel_rfl) (by kernel_rfl) (by kernel_rfl) (fun _ _ _ h => h) (Or.inl ⟨by rfl, ?_⟩) (by assumption) ?_
              rotate_left
              · (intro w hSw; (try dsimp only at hSw); go_simp; try with_reducible rfl)
              simp only [Act.put, List.setIfInBounds_toArray, List.set_cons_zero, List.set_cons_succ]
              refine take_at (i := 12) (v := ?_) (some 51) rfl rfl (by kernel_rfl) (by kernel_rfl) (by kernel_rfl) (fun _ _ _ h => h) (Or.inl ⟨by rfl, ?_⟩) (by assumption) ?_
              rotate_left
              · (intro w hSw; (try dsimp only at hSw); go_simp; try with_reducible rfl)
              simp only [Act.put, List.setIfInBounds_toArray, List.set_cons_zero, List.set_cons_succ]
              clear c9
              have b5 := D5.out.rc.cel 5 _ rfl
              have hr := store_v 4 (by kernel_rfl) (v := .bool true) rfl rfl b5.1 b5.2
              have NX : Hid (ChI W ls i (W5.setCell ⟨W.heap.size + 1, 5, none⟩ (.bool true)) fa ta fc tc fv tv (drpB ls i (j + 1))) := hidIt (by rw [DN.out]; exact D5.out.put true)
              clear b5
              generalize W5.setCell ⟨W.heap.size + 1, 5, none⟩ (.bool true) = W6 at *
              refine mute_at (i := 13) none rfl rfl (by rfl) (by kernel_rfl) W6 (put_mute 4 (.tmp 51) (.tmp 50) rfl _ _ rfl rfl hr) trivial (fun hHeld => ?_)
              simp only [Act.put]
              clear hr
              refine wpAnyH_done (by kernel_rfl) ?_ _
              refine NoPanic.normal ?_
              clear hHeld
              go_wp2_with fail
              exact ⟨⟨j + 1, by omega, rfl, NX⟩, GO.out⟩
            · skip
              simp only [Act.put, List.setIfInBounds_toArray, List.set_cons_zero, List.set_cons_succ]
              refine step_at (i := 3) (some 42) rfl rfl (by rfl) (by kernel_rfl) (.agg (chC (i : Int) (.slice fa (froL ls i).length fc) (.slice ta (intL ls i).length tc) fv tv true).toArray) wr.drew (rowload_run 50 (.tmp 6) rfl (W.heap.size + 1) 0 (chC (i : Int) (.slice fa (froL ls i).length fc) (.slice ta (intL ls i).length tc) fv tv true) rfl _ r42 Try.underlying50 rfl choice_size) trivial (fun hHeld => ?_)
              clear c46 r42
              simp only [Act.put, List.setIfInBounds_toArray, List.set_cons_zero, List.set_cons_succ]
              refine call_at (i := 8) (some 47) 48 _ _ rfl rfl rfl (by rfl) (by kernel_rfl) #[.agg (chC (i : Int) (.slice fa (froL ls i).length fc) (.slice ta (intL ls i).length tc) fv tv true).toArray, .slice x.a x.rs.length x.c] rfl Try.func48 (by kernel_rfl) (by kernel_rfl) ?_
              refine (lmet_any (ps := x.rs) (f := froF ls i) (t := froT ls i) (N := []) (M := []) _ x.c rfl (XO.out.1.below ED.out.below) XO.out.2.1 XO.out.2.2.1 XO.out.2.2.2 FT.out (by rw [FV.out.1]; exact (froL_txt (HL.out.2.1.below ED.out.below) i FP.out).1) (by rw [FV.out.2]; exact (froL_txt (HL.out.2.1.below ED.out.below) i FP.out).2)).mono ?_
              rintro e W5 ⟨a5, c5, rfl, _, _, hb⟩
              have D5 := hidIt (ED.out.below' hb)
              clear hb
              refine ⟨_, rfl, trivial, fun hHeld => ?_⟩
              simp only [Act.put, List.setIfInBounds_toArray, List.set_cons_zero, List.set_cons_succ]
              have c9 : (((metL x.rs (froF ls i) (froT ls i)).length : Int) == 0) = true := C9.out
              refine take_at (i := 9) (v := ?_) (some 48) rfl rfl (by kernel_rfl) (by kernel_rfl) (by kernel_rfl) (fun _ _ _ h => h) (Or.inl ⟨by rfl, ?_⟩) (by assumption) ?_
              rotate_left
              · (intro w hSw; (try dsimp only at hSw); go_simp; try with_reducible rfl)
              simp only [Act.put, List.setIfInBounds_toArray, List.set_cons_zero, List.set_cons_succ]
              refine take_at (i := 10) (v := ?_) (some 49) rfl rfl (by kernel_rfl) (by kernel_rfl) (by kernel_rfl) (fun _ _ _ h => h) (Or.inl ⟨by rfl, ?_⟩) (by assumption) ?_
              rotate_left
              · (intro w hSw; (try dsimp only at hSw); go_simp; try with_reducible rfl)
              simp only [Act.put, List.setIfInBounds_toArray, List.set_cons_zero, List.set_cons_succ]
              refine take_at (i := 11) (v := ?_) (some 50) rfl rfl (by kernel_rfl) (by kernel_rfl) (by kernel_rfl) (fun _ _ _ h => h) (Or.inl ⟨by rfl, ?_⟩) (by assumption) ?_
              rotate_left
              · (intro w hSw; (try dsimp only at hSw); go_simp; try with_reducible rfl)
              simp only [Act.put, List.setIfInBounds_toArray, List.set_cons_zero, List.set_cons_succ]
              refine take_at (i := 12) (v := ?_) (some 51) rfl rfl (by kernel_rfl) (by kernel_rfl) (by kernel_rfl) (fun _ _ _ h => h) (Or.inl ⟨by rfl, ?_⟩) (by assumption) ?_
              rotate_left
              · (intro w hSw; (try dsimp only at hSw); go_simp; try with_reducible rfl)
              simp only [Act.put, List.setIfInBounds_toArray, List.set_cons_zero, List.set_cons_succ]
              clear c9
              have b5 := D5.out.rc.cel 5 _ rfl
              have hr := store_v 4 (by kernel_rfl) (v := .bool true) rfl rfl b5.1 b5.2
              have NX : Hid (ChI W ls i (W5.setCell ⟨W.heap.size + 1, 5, none⟩ (.bool true)) fa ta fc tc fv tv (drpB ls i (j + 1))) := hidIt (by rw [DN.out]; exact D5.out.put true)
              clear b5
              generalize W5.setCell ⟨W.heap.size + 1, 5, none⟩ (.bool true) = W6 at *
              refine mute_at (i := 13) none rfl rfl (by rfl) (by kernel_rfl) W6 (put_mute 4 (.tmp 51) (.tmp 50) rfl _ _ rfl rfl hr) trivial (fun hHeld => ?_)
              simp only [Act.put]
              clear hr
              refine wpAnyH_done (by kernel_rfl) ?_ _
              refine NoPanic.normal ?_
              clear hHeld
              go_wp2_with fail
              exact ⟨⟨j + 1, by omega, rfl, NX⟩, GO.out⟩
          · have C9 : Hid ((((metL x.rs (froF ls i) (froT ls i)).length : Int) == 0) = false) := hidIt (by rw [zero_of, decide_eq_false hq])
            have DN : Hid (drpB ls i (j + 1) = false) := hidIt (by
              rw [DX.out, hd]
              cases qe : metL x.rs (froF ls i) (froT ls i) with
              | nil => rw [qe] at hq; exact absurd rfl hq
              | cons _ _ => rfl)
            clear hq hd DX HJ
            go_wp2_with fail
            refine wp_region_noPanic ?_
            refine wp_region_held_drew (S := fun _ => True) (by kernel_rfl) ?_ (fun hHeld => ?_)
            · trivial
            refine take_at (i := 0) (v := ?_) (some 39) rfl rfl (by kernel_rfl) (by kernel_rfl) (by kernel_rfl) (fun _ _ _ h => h) (Or.inl ⟨by rfl, ?_⟩) (by assumption) ?_
            rotate_left
            · (intro w hSw; (try dsimp only at hSw); go_simp; try with_reducible rfl)
            simp only [Act.put, List.setIfInBounds_toArray, List.set_cons_zero, List.set_cons_succ]
            have cl := (ED.out.rc.cel 5 _ rfl).1
            refine step_at (i := 1) (some 40) rfl rfl (by rfl) (by kernel_rfl) (.bool true) wr.drew (by go_simp) trivial (fun hHeld => ?_)
            clear cl
            simp only [Act.put, List.setIfInBounds_toArray, List.set_cons_zero, List.set_cons_succ]
            refine take_at (i := 2) (v := ?_) (some 41) rfl rfl (by kernel_rfl) (by kernel_rfl) (by kernel_rfl) (fun _ _ _ h => h) (Or.inl ⟨by rfl, ?_⟩) (by assumption) ?_
            rotate_left
            · (intro w hSw; (try dsimp only at hSw); go_simp; try with_reducible rfl)
            simp only [Act.put, List.setIfInBounds_toArray, List.set_cons_zero, List.set_cons_succ]
            refine take_at (i := 4) (v := ?_) (some 43) rfl rfl (by kernel_rfl) (by kernel_rfl) (by kernel_rfl) (fun _ _ _ h => h) (Or.inl ⟨by rfl, ?_⟩) (by assumption) ?_
            rotate_left
            · (intro w hSw; (try dsimp only at hSw); go_simp; try with_reducible rfl)
            simp only [Act.put, List.setIfInBounds_toArray, List.set_cons_zero, List.set_cons_succ]
            refine take_at (i := 5) (v := ?_) (some 44) rfl rfl (by kernel_rfl) (by kernel_rfl) (by kernel_rfl) (fun _ _ _ h => h) (Or.inl ⟨by rfl, ?_⟩) (by assumption) ?_
            rotate_left
            · (intro w hSw; (try dsimp only at hSw); go_simp; try with_reducible rfl)
            simp only [Act.put, List.setIfInBounds_toArray, List.set_cons_zero, List.set_cons_succ]
            refine take_at (i := 6) (v := ?_) (some 45) rfl rfl (by kernel_rfl) (by kernel_rfl) (by kernel_rfl) (fun _ _ _ h => h) (Or.inl ⟨by rfl, ?_⟩) (by assumption) ?_
            rotate_left
            · (intro w hSw; (try dsimp only at hSw); go_simp; try with_reducible rfl)
            simp only [Act.put, List.setIfInBounds_toArray, List.set_cons_zero, List.set_cons_succ]
            have c46 := CX.out _ ED.out.below
            have r42 := ED.out.rc.1
            refine pair_at (i := 3) (j := 7) (some 42) (some 46) rfl rfl rfl rfl (by kernel_rfl) (by rfl) (by rfl) (.agg (chC (i : Int) (.slice fa (froL ls i).length fc) (.slice ta (intL ls i).length tc) fv tv true).toArray) (.slice x.a x.rs.length x.c) wr.drew wr.drew (rowload_run 50 (.tmp 6) rfl (W.heap.size + 1) 0 (chC (i : Int) (.slice fa (froL ls i).length fc) (.slice ta (intL ls i).length tc) fv tv true) rfl _ r42 Try.underlying50 rfl choice_size) (by go_simp) ⟨trivial, trivial⟩ (fun hHeld => ?_) (fun hHeld => ?_)
            · skip
              simp only [Act.put, List.setIfInBounds_toArray, List.set_cons_zero, List.set_cons_succ]
              refine step_at (i := 7) (some 46) rfl rfl (by rfl) (by kernel_rfl) (.slice x.a x.rs.length x.c) wr.drew (by go_simp) trivial (fun hHeld => ?_)
              clear c46 r42
              simp only [Act.put, List.setIfInBounds_toArray, List.set_cons_zero, List.set_cons_succ]
              refine call_at (i := 8) (some 47) 48 _ _ rfl rfl rfl (by rfl) (by kernel_rfl) #[.agg (chC (i : Int) (.slice fa (froL ls i).length fc) (.slice ta (intL ls i).length tc) fv tv true).toArray, .slice x.a x.rs.length x.c] rfl Try.func48 (by kernel_rfl) (by kernel_rfl) ?_
              refine (lmet_any (ps := x.rs) (f := froF ls i) (t := froT ls i) (N := []) (M := []) _ x.c rfl (XO.out.1.below ED.out.below) XO.out.2.1 XO.out.2.2.1 XO.out.2.2.2 FT.out (by rw [FV.out.1]; exact (froL_txt (HL.out.2.1.below ED.out.below) i FP.out).1) (by rw [FV.out.2]; exact (froL_txt (HL.out.2.1.below ED.out.below) i FP.out).2)).mono ?_
              rintro e W5 ⟨a5, c5, rfl, _, _, hb⟩
              have D5 := hidIt (ED.out.below' hb)
              clear hb
              refine ⟨_, rfl, trivial, fun hHeld => ?_⟩
              simp only [Act.put, List.setIfInBounds_toArray, List.set_cons_zero, List.set_cons_succ]
              have c9 : (((metL x.rs (froF ls i) (froT ls i)).length : Int) == 0) = false := C9.out
              refine take_at (i := 9) (v := ?_) (some 48) rfl rfl (by kernel_rfl) (by kernel_rfl) (by kernel_rfl) (fun _ _ _ h => h) (Or.inl ⟨by rfl, ?_⟩) (by assumption) ?_
              rotate_left
              · (intro w hSw; (try dsimp only at hSw); go_simp; try with_reducible rfl)
              simp only [Act.put, List.setIfInBounds_toArray, List.set_cons_zero, List.set_cons_succ]
              refine take_at (i := 10) (v := ?_) (some 49) rfl rfl (by kernel_rfl) (by kernel_rfl) (by kernel_rfl) (fun _ _ _ h => h) (Or.inl ⟨by rfl, ?_⟩) (by assumption) ?_
              rotate_left
              · (intro w hSw; (try dsimp only at hSw); go_simp; try with_reducible rfl)
              simp only [Act.put, List.setIfInBounds_toArray, List.set_cons_zero, List.set_cons_succ]
              refine take_at (i := 11) (v := ?_) (some 50) rfl rfl (by kernel_rfl) (by kernel_rfl) (by kernel_rfl) (fun _ _ _ h => h) (Or.inl ⟨by rfl, ?_⟩) (by assumption) ?_
              rotate_left
              · (intro w hSw; (try dsimp only at hSw); go_simp; try with_reducible rfl)
              simp only [Act.put, List.setIfInBounds_toArray, List.set_cons_zero, List.set_cons_succ]
              refine take_at (i := 12) (v := ?_) (some 51) rfl rfl (by kernel_rfl) (by kernel_rfl) (by kernel_rfl) (fun _ _ _ h => h) (Or.inl ⟨by rfl, ?_⟩) (by assumption) ?_
              rotate_left
              · (intro w hSw; (try dsimp only at hSw); go_simp; try with_reducible rfl)
              simp only [Act.put, List.setIfInBounds_toArray, List.set_cons_zero, List.set_cons_succ]
              clear c9
              have b5 := D5.out.rc.cel 5 _ rfl
              have hr := store_v 4 (by kernel_rfl) (v := .bool false) rfl rfl b5.1 b5.2
              have NX : Hid (ChI W ls i (W5.setCell ⟨W.heap.size + 1, 5, none⟩ (.bool false)) fa ta fc tc fv tv (drpB ls i (j + 1))) := hidIt (by rw [DN.out]; exact D5.out.put false)
              clear b5
              generalize W5.setCell ⟨W.heap.size + 1, 5, none⟩ (.bool false) = W6 at *
              refine mute_at (i := 13) none rfl rfl (by rfl) (by kernel_rfl) W6 (put_mute 4 (.tmp 51) (.tmp 50) rfl _ _ rfl rfl hr) trivial (fun hHeld => ?_)
              simp only [Act.put]
              clear hr
              refine wpAnyH_done (by kernel_rfl) ?_ _
              refine NoPanic.normal ?_
              clear hHeld
              go_wp2_with fail
              exact ⟨⟨j + 1, by omega, rfl, NX⟩, GO.out⟩
            · skip
              simp only [Act.put, List.setIfInBounds_toArray, List.set_cons_zero, List.set_cons_succ]
              refine step_at (i := 3) (some 42) rfl rfl (by rfl) (by kernel_rfl) (.agg (chC (i : Int) (.slice fa (froL ls i).length fc) (.slice ta (intL ls i).length tc) fv tv true).toArray) wr.drew (rowload_run 50 (.tmp 6) rfl (W.heap.size + 1) 0 (chC (i : Int) (.slice fa (froL ls i).length fc) (.slice ta (intL ls i).length tc) fv tv true) rfl _ r42 Try.underlying50 rfl choice_size) trivial (fun hHeld => ?_)
              clear c46 r42
              simp only [Act.put, List.setIfInBounds_toArray, List.set_cons_zero, List.set_cons_succ]
              refine call_at (i := 8) (some 47) 48 _ _ rfl rfl rfl (by rfl) (by kernel_rfl) #[.agg (chC (i : Int) (.slice fa (froL ls i).length fc) (.slice ta (intL ls i).length tc) fv tv true).toArray, .slice x.a x.rs.length x.c] rfl Try.func48 (by kernel_rfl) (by kernel_rfl) ?_
              refine (lmet_any (ps := x.rs) (f := froF ls i) (t := froT ls i) (N := []) (M := []) _ x.c rfl (XO.out.1.below ED.out.below) XO.out.2.1 XO.out.2.2.1 XO.out.2.2.2 FT.out (by rw [FV.out.1]; exact (froL_txt (HL.out.2.1.below ED.out.below) i FP.out).1) (by rw [FV.out.2]; exact (froL_txt (HL.out.2.1.below ED.out.below) i FP.out).2)).mono ?_
              rintro e W5 ⟨a5, c5, rfl, _, _, hb⟩
              have D5 := hidIt (ED.out.below' hb)
              clear hb
              refine ⟨_, rfl, trivial, fun hHeld => ?_⟩
              simp only [Act.put, List.setIfInBounds_toArray, List.set_cons_zero, List.set_cons_succ]
              have c9 : (((metL x.rs (froF ls i) (froT ls i)).length : Int) == 0) = false := C9.out
              refine take_at (i := 9) (v := ?_) (some 48) rfl rfl (by kernel_rfl) (by kernel_rfl) (by kernel_rfl) (fun _ _ _ h => h) (Or.inl ⟨by rfl, ?_⟩) (by assumption) ?_
              rotate_left
              · (intro w hSw; (try dsimp only at hSw); go_simp; try with_reducible rfl)
              simp only [Act.put, List.setIfInBounds_toArray, List.set_cons_zero, List.set_cons_succ]
              refine take_at (i := 10) (v := ?_) (some 49) rfl rfl (by kernel_rfl) (by kernel_rfl) (by kernel_rfl) (fun _ _ _ h => h) (Or.inl ⟨by rfl, ?_⟩) (by assumption) ?_
              rotate_left
              · (intro w hSw; (try dsimp only at hSw); go_simp; try with_reducible rfl)
              simp only [Act.put, List.setIfInBounds_toArray, List.set_cons_zero, List.set_cons_succ]
              refine take_at (i := 11) (v := ?_) (some 50) rfl rfl (by kernel_rfl) (by kernel_rfl) (by kernel_rfl) (fun _ _ _ h => h) (Or.inl ⟨by rfl, ?_⟩) (by assumption) ?_
              rotate_left
              · (intro w hSw; (try dsimp only at hSw); go_simp; try with_reducible rfl)
              simp only [Act.put, List.setIfInBounds_toArray, List.set_cons_zero, List.set_cons_succ]
              refine take_at (i := 12) (v := ?_) (some 51) rfl rfl (by kernel_rfl) (by kernel_rfl) (by kernel_rfl) (fun _ _ _ h => h) (Or.inl ⟨by rfl, ?_⟩) (by assumption) ?_
              rotate_left
              · (intro w hSw; (try dsimp only at hSw); go_simp; try with_reducible rfl)
              simp only [Act.put, List.setIfInBounds_toArray, List.set_cons_zero, List.set_cons_succ]
              clear c9
              have b5 := D5.out.rc.cel 5 _ rfl
              have hr := store_v 4 (by kernel_rfl) (v := .bool false) rfl rfl b5.1 b5.2
              have NX : Hid (ChI W ls i (W5.setCell ⟨W.heap.size + 1, 5, none⟩ (.bool false)) fa ta fc tc fv tv (drpB ls i (j + 1))) := hidIt (by rw [DN.out]; exact D5.out.put false)
              clear b5
              generalize W5.setCell ⟨W.heap.size + 1, 5, none⟩ (.bool false) = W6 at *
              refine mute_at (i := 13) none rfl rfl (by rfl) (by kernel_rfl) W6 (put_mute 4 (.tmp 51) (.tmp 50) rfl _ _ rfl rfl hr) trivial (fun hHeld => ?_)
              simp only [Act.put]
              clear hr
              refine wpAnyH_done (by kernel_rfl) ?_ _
              refine NoPanic.normal ?_
              clear hHeld
              go_wp2_with fail
              exact ⟨⟨j + 1, by omega, rfl, NX⟩, GO.out⟩
        | false =>
          rw [hd] at ED
          have DN : Hid (drpB ls i (j + 1) = false) := hidIt (by rw [DX.out, hd]; rfl)
          clear hd DX HJ
          go_wp2_with fail
          refine wp_region_noPanic ?_
          refine wp_region_held_drew (S := fun _ => True) (by kernel_rfl) ?_ (fun hHeld => ?_)
          · trivial
          refine take_at (i := 0) (v := ?_) (some 39) rfl rfl (by kernel_rfl) (by kernel_rfl) (by kernel_rfl) (fun _ _ _ h => h) (Or.inl ⟨by rfl, ?_⟩) (by assumption) ?_
          rotate_left
          · (intro w hSw; (try dsimp only at hSw); go_simp; try with_reducible rfl)
          simp only [Act.put, List.setIfInBounds_toArray, List.set_cons_zero, List.set_cons_succ]
          have cl := (ED.out.rc.cel 5 _ rfl).1
          refine step_at (i := 1) (some 40) rfl rfl (by rfl) (by kernel_rfl) (.bool false) wr.drew (by go_simp) trivial (fun hHeld => ?_)
          clear cl
          simp only [Act.put, List.setIfInBounds_toArray, List.set_cons_zero, List.set_cons_succ]
          refine take_at (i := 2) (v := ?_) (some 41) rfl rfl (by kernel_rfl) (by kernel_rfl) (by kernel_rfl) (fun _ _ _ h => h) (Or.inl ⟨by rfl, ?_⟩) (by assumption) ?_
          rotate_left
          · (intro w hSw; (try dsimp only at hSw); go_simp; try with_reducible rfl)
          simp only [Act.put, List.setIfInBounds_toArray, List.set_cons_zero, List.set_cons_succ]
          refine take_at (i := 3) (v := undef) (some 42) rfl rfl (by kernel_rfl) (by kernel_rfl) (by kernel_rfl) (fun _ _ _ h => h) (Or.inr ⟨by rfl, rfl⟩) (by assumption) ?_
          simp only [Act.put, List.setIfInBounds_toArray, List.set_cons_zero, List.set_cons_succ]
          refine take_at (i := 4) (v := undef) (some 43) rfl rfl (by kernel_rfl) (by kernel_rfl) (by kernel_rfl) (fun _ _ _ h => h) (Or.inr ⟨by rfl, rfl⟩) (by assumption) ?_
          simp only [Act.put, List.setIfInBounds_toArray, List.set_cons_zero, List.set_cons_succ]
          refine take_at (i := 5) (v := undef) (some 44) rfl rfl (by kernel_rfl) (by kernel_rfl) (by kernel_rfl) (fun _ _ _ h => h) (Or.inr ⟨by rfl, rfl⟩) (by assumption) ?_
          simp only [Act.put, List.setIfInBounds_toArray, List.set_cons_zero, List.set_cons_succ]
          refine take_at (i := 6) (v := undef) (some 45) rfl rfl (by kernel_rfl) (by kernel_rfl) (by kernel_rfl) (fun _ _ _ h => h) (Or.inr ⟨by rfl, rfl⟩) (by assumption) ?_
          simp only [Act.put, List.setIfInBounds_toArray, List.set_cons_zero, List.set_cons_succ]
          refine take_at (i := 7) (v := undef) (some 46) rfl rfl (by kernel_rfl) (by kernel_rfl) (by kernel_rfl) (fun _ _ _ h => h) (Or.inr ⟨by rfl, rfl⟩) (by assumption) ?_
          simp only [Act.put, List.setIfInBounds_toArray, List.set_cons_zero, List.set_cons_succ]
          refine take_at (i := 8) (v := undef) (some 47) rfl rfl (by kernel_rfl) (by kernel_rfl) (by kernel_rfl) (fun _ _ _ h => h) (Or.inr ⟨by rfl, rfl⟩) (by assumption) ?_
          simp only [Act.put, List.setIfInBounds_toArray, List.set_cons_zero, List.set_cons_succ]
          refine take_at (i := 9) (v := undef) (some 48) rfl rfl (by kernel_rfl) (by kernel_rfl) (by kernel_rfl) (fun _ _ _ h => h) (Or.inr ⟨by rfl, rfl⟩) (by assumption) ?_
          simp only [Act.put, List.setIfInBounds_toArray, List.set_cons_zero, List.set_cons_succ]
          refine take_at (i := 10) (v := undef) (some 49) rfl rfl (by kernel_rfl) (by kernel_rfl) (by kernel_rfl) (fun _ _ _ h => h) (Or.inr ⟨by rfl, rfl⟩) (by assumption) ?_
          simp only [Act.put, List.setIfInBounds_toArray, List.set_cons_zero, List.set_cons_succ]
          refine take_at (i := 11) (v := ?_) (some 50) rfl rfl (by kernel_rfl) (by kernel_rfl) (by kernel_rfl) (fun _ _ _ h => h) (Or.inl ⟨by rfl, ?_⟩) (by assumption) ?_
          rotate_left
          · (intro w hSw; (try dsimp only at hSw); go_simp; try with_reducible rfl)
          simp only [Act.put, List.setIfInBounds_toArray, List.set_cons_zero, List.set_cons_succ]
          refine take_at (i := 12) (v := ?_) (some 51) rfl rfl (by kernel_rfl) (by kernel_rfl) (by kernel_rfl) (fun _ _ _ h => h) (Or.inl ⟨by rfl, ?_⟩) (by assumption) ?_
          rotate_left
          · (intro w hSw; (try dsimp only at hSw); go_simp; try with_reducible rfl)
          simp only [Act.put, List.setIfInBounds_toArray, List.set_cons_zero, List.set_cons_succ]
          have b5 := ED.out.rc.cel 5 _ rfl
          have hr := store_v 4 (by kernel_rfl) (v := .bool false) rfl rfl b5.1 b5.2
          have NX : Hid (ChI W ls i (wr.drew.setCell ⟨W.heap.size + 1, 5, none⟩ (.bool false)) fa ta fc tc fv tv (drpB ls i (j + 1))) := hidIt (by rw [DN.out]; exact ED.out.put false)
          clear b5
          generalize wr.drew.setCell ⟨W.heap.size + 1, 5, none⟩ (.bool false) = W6 at *
          refine mute_at (i := 13) none rfl rfl (by rfl) (by kernel_rfl) W6 (put_mute 4 (.tmp 51) (.tmp 50) rfl _ _ rfl rfl hr) trivial (fun hHeld => ?_)
          simp only [Act.put]
          clear hr
          refine wpAnyH_done (by kernel_rfl) ?_ _
          refine NoPanic.normal ?_
          clear hHeld
          go_wp2_with fail
          exact ⟨⟨j + 1, by omega, rfl, NX⟩, GO.out⟩
      · have i0 : ((j : Int) < (L : Int)) = False := eq_false (by omega)
        have FJ : Hid (ChI W ls i wr fa ta fc tc fv tv (drpB ls i 4)) := hidIt (by
          have e1 := drpB_end ls i L j (by have := HL.out.1; omega) (by omega)
          have e2 := drpB_end ls i L 4 (by have := HL.out.1; omega) HL.out.2.2
          rw [e2, ← e1]
          exact HJ.out)
        have FX : Hid (fv.oneCell' = true ∧ tv.oneCell' = true) := hidIt (by
          have q := froL_txt HL.out.2.1 i FP.out
          rw [FV.out.1, FV.out.2]
          exact ⟨q.1.one, q.2.one⟩)
        clear hlt HJ
        go_wp2_with (first
          | (refine wpList_load_rec rfl 50 (.tmp 6) rfl (W.heap.size + 1) 0 (chC (i : Int) (.slice fa (froL ls i).length fc) (.slice ta (intL ls i).length tc) fv tv (drpB ls i 4)) rfl _ Try.underlying50 rfl choice_size FJ.out.rc ?_)
          | (refine wpList_store_rec rfl 50 (.tmp 4) (.tmp 52) rfl W.heap.size 0 _ (chC (i : Int) (.slice fa (froL ls i).length fc) (.slice ta (intL ls i).length tc) fv tv (drpB ls i 4)) rfl rfl FJ.out.res rfl choice_size (chC_one _ _ rfl rfl FX.out.1 FX.out.2) ?_; intro W9 R9 B9; have RR := hidIt R9; have CR : Hid (ChR W ls i W9 fa ta fc tc) := hidIt ⟨FJ.out.own.off (Off.but (bs := [W.heap.size]) B9 (by simp)) (fun g hg q => by have := FJ.out.new g hg; have := List.mem_singleton.1 q; omega), fun g hg => (by have := FJ.out.new g hg; omega), FJ.out.into, FJ.out.cap, FJ.out.below.trans (B9.below (Nat.le_refl _) FJ.out.below.size)⟩; clear R9 B9))
        have hl := RR.out.run_load 50 _ Try.underlying50 rfl choice_size
        exact bodyPost_ret (v := .agg (chC (i : Int) (.slice fa (froL ls i).length fc) (.slice ta (intL ls i).length tc) fv tv (drpB ls i 4)).toArray) (by simp [results, Try.results20, asAddr, Act.put, hl]) rfl ⟨_, _, _, _, _, _, rfl, CR.out⟩
end Go.Proofs.Ytelcijfcgflagaa
namespace Go.Proofs.Ytelcijfcgflagaa
open Go.RowKit
attribute [-go_sem] Builtin.append_
theorem PlI.from {W W1 w' : World} {B1 B2 : Nat} {a a2 : Option Addr} {c c2 : Nat} {os os2 : List RV} (h : PlI W1 w' B1 B2 a c os a2 c2 os2) (hB : Below W.heap.size W W1) : PlI W w' B1 B2 a c os a2 c2 os2 :=
  ⟨⟨Nat.le_trans hB.size h.lo.1, h.lo.2⟩, h.hi, h.own, h.new, h.oks, h.ovs, h.own2, h.new2, h.oks2, hB.trans (h.below.mono hB.size)⟩
theorem froL_few {ls : List LR} {m : Nat} (h : ∀ x ∈ ls, x.rs.length ≤ m) (h1 : 1 ≤ m) (i : Nat) : (froL ls i).length ≤ m := by
  unfold froL
  split
  · exact lvR_bound h 0
  · cases (lvR ls i)[bst (keyM (lvR ls i) (lvR ls (i + 1))) (lvR ls i).length]? with
    | none => simp
    | some _ => simpa using h1
theorem intL_few {ls : List LR} {m : Nat} (h : ∀ x ∈ ls, x.rs.length ≤ m) (i : Nat) : (intL ls i).length ≤ m := Nat.le_trans (List.length_filter_le _ _) (lvR_bound h (i + 1))
theorem intL_sub (ls : List LR) (i : Nat) : ∀ x ∈ intL ls i, x ∈ lvR ls (i + 1) := fun _ hx => (List.mem_filter.1 hx).1
/-- May it be chosen from? -/
def choB (ls : List LR) (z : Int) : Bool := mayB (rns ls) && decide (0 ≤ z) && decide (z < 3) && decide (0 < (lvR ls z.toNat).length)
/-- What Choose answers. -/
def ChoP (W : World) (ls : List LR) (z : Int) (e : Ending) (w' : World) : Prop :=
  (choB ls z = false ∧ e = .returned (.tuple #[.agg (plC 0 (.slice none 0 0) (.slice none 0 0) false).toArray, .int .i64 2]) ∧ Below W.heap.size W w') ∨
  (choB ls z = true ∧ ∃ B1 B2 a c os a2 c2 os2, e = .returned (.tuple #[.agg (plC z (.slice a (os : List RV).length c) (.slice a2 (os2 : List RV).length c2) (drpB ls z.toNat 4)).toArray, .int .i64 0]) ∧ PlI W w' B1 B2 a c os a2 c2 os2 ∧ os.map RV.r = (froL ls z.toNat).map RV.r ∧ os2.map RV.r = (intL ls z.toNat).map RV.r)
theorem plC_one (lv : Int) {fr to : Value} (d : Bool) (h1 : fr.oneCell' = true) (h2 : to.oneCell' = true) : ∀ v ∈ plC lv fr to d, v.oneCell' = true := by
  intro v hv
  simp only [plC, List.mem_cons, List.not_mem_nil, or_false] at hv
  rcases hv with rfl | rfl | rfl | rfl
  · rfl
  · exact h1
  · exact h2
  · rfl
set_option maxRecDepth 100000 in
set_option maxHeartbeats 4000000 in
theorem lChoose_any {W : World} {A : Option Addr} {ls : List LR} (L C : Nat) (z : Int) (hL : ls.length = L) (h : Lvs W A ls) (hl : L ≤ 1000) (hs : ∀ x ∈ ls, x.rs.length ≤ 1000) (hz : ∀ x ∈ ls, ∀ y ∈ x.rs, y.r.f.size ≤ 1000000 ∧ y.r.l.size ≤ 1000000) : Calls Try.prog 7 #[.slice A L C, .int .i64 z] W (ChoP W ls z) := by
  have HL := hidIt (And.intro hL (And.intro h hl))
  have HS := hidIt (And.intro hs hz)
  clear hL h hl hs hz
  have A1 : Hid True := trivial
  by_cases hm : mayB (rns ls) = true
  · have MI : Hid (mayI (rns ls) = 0) := hidIt (by unfold mayI; rw [hm]; rfl)
    by_cases hg : 0 ≤ z ∧ z < 3
    · obtain ⟨i, rfl⟩ : ∃ i : Nat, z = (i : Int) := ⟨z.toNat, by omega⟩
      have GB : Hid ((decide (0 ≤ (i : Int)) && decide ((i : Int) < 3)) = true) := hidIt (by simp; omega)
      by_cases hn : (lvR ls i).length = 0
      · have NO : Hid (choB ls (i : Int) = false) := hidIt (by unfold choB; rw [Int.toNat_natCast, decide_eq_false (p := 0 < (lvR ls i).length) (by omega)]; simp)
        have N0 := hidIt hn
        clear hm hg hn
        go_enter Try.func7, Try.ntmps7
        go_wp2_with (first
          | (have _q := A1; clear A1 _q; refine wpList_alloc_rec rfl 25 rfl _ W.heap.size rfl zero_plan ?_; intro W1 R1 B1 z1; have E1 := hidIt B1; have P1 := hidIt R1; clear R1 B1 z1)
          | (go_at_call 17; refine (lcheck_any L C HL.out.1 (HL.out.2.1.below E1.out) (fun x hx => by have := HS.out.1 x hx; omega)).mono ?_; rw [MI.out]; rintro e W2 ⟨rfl, hb⟩; have E2 := hidIt (E1.out.trans (hb.mono E1.out.size)); have P2 := hidIt (P1.out.below hb); clear hb)
          | (go_at_call 18; refine (lmaygo_any _ _).mono ?_; rw [GB.out]; rintro e w3 ⟨rfl, rfl⟩)
          | (go_at_call 19; refine (lofs_any L C i _ rfl HL.out.1 (HL.out.2.1.below E2.out) HL.out.2.2).mono ?_; rw [N0.out]; rintro e w3 ⟨⟨nc, rfl, _⟩, rfl⟩)
          | (refine wpList_store_rec rfl 25 (.tmp 4) (.tmp 21) rfl W.heap.size 0 _ (plC 0 (.slice none 0 0) (.slice none 0 0) false) rfl rfl P2.out rfl plan_size (plC_one _ _ rfl rfl) ?_; intro W3 R3 B3; have RR := hidIt R3; have E3 := hidIt (E2.out.trans (B3.below (Nat.le_refl _) E2.out.size)); clear R3 B3))
        have hl := RR.out.run_load 25 _ Try.underlying25 rfl plan_size
        exact bodyPost_ret (v := .tuple #[.agg (plC 0 (.slice none 0 0) (.slice none 0 0) false).toArray, .int .i64 2]) (by simp [results, Try.results7, asAddr, hl]) rfl (.inl ⟨NO.out, rfl, E3.out⟩)
      · have YES : Hid (choB ls (i : Int) = true) := hidIt (by unfold choB; rw [hm, Int.toNat_natCast]; simp; omega)
        have MB := hidIt (And.intro hm (And.intro (show i ≤ 2 by omega) (show 0 < (lvR ls i).length by omega)))
        have c0 : (((lvR ls i).length : Int) == 0) = false := by rw [zero_of, decide_eq_false hn]
        clear hm hg hn
        go_enter Try.func7, Try.ntmps7
        go_wp2_with (first
          | (have _q := A1; clear A1 _q; refine wpList_alloc_rec rfl 25 rfl _ W.heap.size rfl zero_plan ?_; intro W1 R1 B1 z1; have E1 := hidIt (And.intro B1 z1); have P1 := hidIt R1; clear R1 B1 z1)
          | (go_at_call 17; refine (lcheck_any L C HL.out.1 (HL.out.2.1.below E1.out.1) (fun x hx => by have := HS.out.1 x hx; omega)).mono ?_; rw [MI.out]; rintro e W2 ⟨rfl, hb⟩; have E2 : Hid (Below W.heap.size W W2 ∧ W.heap.size + 1 ≤ W2.heap.size) := hidIt ⟨E1.out.1.trans (hb.mono E1.out.1.size), by have := E1.out.2; have := hb.size; omega⟩; have P2 := hidIt (P1.out.below hb); clear hb)
          | (go_at_call 18; refine (lmaygo_any _ _).mono ?_; rw [GB.out]; rintro e w3 ⟨rfl, rfl⟩)
          | (go_at_call 19; refine (lofs_any L C i _ rfl HL.out.1 (HL.out.2.1.below E2.out.1) HL.out.2.2).mono ?_; rintro e w3 ⟨⟨nc, rfl, _⟩, rfl⟩)
          | (go_at_call 20; refine (lchoose_any L C i HL.out.1 (HL.out.2.1.below E2.out.1) MB.out.1 MB.out.2.1 HS.out.1 MB.out.2.2).mono ?_; rintro e W4 ⟨fa, ta, fc, tc, fv, tv, rfl, hc⟩; have CR := hidIt hc; have E4 : Hid (Below W.heap.size W W4 ∧ W.heap.size + 1 ≤ W4.heap.size) := hidIt ⟨E2.out.1.trans (hc.below.mono E2.out.1.size), Nat.le_trans E2.out.2 hc.below.size⟩; have P4 := hidIt (P2.out.below hc.below); clear hc)
          | (go_at_call 21; refine (lplan_any (ps := froL ls i) (qs := intL ls i) _ fc _ tc rfl (CR.out.own.ls (fun x hx => (lvR_ok (HL.out.2.1.below E4.out.1) i x (froL_sub ls i x hx)))) (by have := froL_few HS.out.1 (by omega) i; omega) (fun y hy => lvR_all HS.out.2 i y (froL_sub ls i y hy)) rfl (CR.out.into _ CR.out.below) (by have := intL_few HS.out.1 i; omega) (fun y hy => lvR_all HS.out.2 (i + 1) y (intL_sub ls i y hy))).mono ?_; rintro e W5 ⟨B1, B2, a, c, os, a2, c2, os2, rfl, hp, ho1, ho2⟩; have PI := hidIt (And.intro (hp.from E4.out.1) (show W.heap.size < B1 by have := hp.lo; have := E4.out.2; omega)); have OO := hidIt (And.intro ho1 ho2); have P5 := hidIt (P4.out.below hp.below); clear hp ho1 ho2)
          | (refine wpList_store_rec rfl 25 (.tmp 4) (.tmp 25) rfl W.heap.size 0 _ (plC (i : Int) (.slice a os.length c) (.slice a2 os2.length c2) (drpB ls i 4)) rfl rfl P5.out rfl plan_size (plC_one _ _ rfl rfl) ?_; intro W6 R6 B6; have RR := hidIt R6; have PF := hidIt (PI.out.1.put B6 PI.out.2 (Nat.le_refl _)); clear R6 B6))
        have hl := RR.out.run_load 25 _ Try.underlying25 rfl plan_size
        exact bodyPost_ret (v := .tuple #[.agg (plC (i : Int) (.slice a os.length c) (.slice a2 os2.length c2) (drpB ls i 4)).toArray, .int .i64 0]) (by simp [results, Try.results7, asAddr, hl]) rfl (.inr ⟨YES.out, _, _, _, _, _, _, _, _, rfl, PF.out, OO.out.1, OO.out.2⟩)
    · have NO : Hid (choB ls z = false) := hidIt (by
        unfold choB
        by_cases q : 0 ≤ z
        · rw [decide_eq_false (p := z < 3) (fun r => hg ⟨q, r⟩)]; simp
        · rw [decide_eq_false q]; simp)
      have GB : Hid ((decide (0 ≤ z) && decide (z < 3)) = false) := hidIt (by
        by_cases q : 0 ≤ z
        · rw [decide_eq_false (p := z < 3) (fun r => hg ⟨q, r⟩)]; simp
        · rw [decide_eq_false q]; simp)
      clear hm hg
      go_enter Try.func7, Try.ntmps7
      go_wp2_with (first
        | (have _q := A1; clear A1 _q; refine wpList_alloc_rec rfl 25 rfl _ W.heap.size rfl zero_plan ?_; intro W1 R1 B1 z1; have E1 := hidIt B1; have P1 := hidIt R1; clear R1 B1 z1)
        | (go_at_call 17; refine (lcheck_any L C HL.out.1 (HL.out.2.1.below E1.out) (fun x hx => by have := HS.out.1 x hx; omega)).mono ?_; rw [MI.out]; rintro e W2 ⟨rfl, hb⟩; have E2 := hidIt (E1.out.trans (hb.mono E1.out.size)); have P2 := hidIt (P1.out.below hb); clear hb)
        | (go_at_call 18; refine (lmaygo_any _ _).mono ?_; rw [GB.out]; rintro e w3 ⟨rfl, rfl⟩)
        | (refine wpList_store_rec rfl 25 (.tmp 4) (.tmp 21) rfl W.heap.size 0 _ (plC 0 (.slice none 0 0) (.slice none 0 0) false) rfl rfl P2.out rfl plan_size (plC_one _ _ rfl rfl) ?_; intro W3 R3 B3; have RR := hidIt R3; have E3 := hidIt (E2.out.trans (B3.below (Nat.le_refl _) E2.out.size)); clear R3 B3))
      have hl := RR.out.run_load 25 _ Try.underlying25 rfl plan_size
      exact bodyPost_ret (v := .tuple #[.agg (plC 0 (.slice none 0 0) (.slice none 0 0) false).toArray, .int .i64 2]) (by simp [results, Try.results7, asAddr, hl]) rfl (.inl ⟨NO.out, rfl, E3.out⟩)
  · have MI : Hid (mayI (rns ls) = 2) := hidIt (by unfold mayI; rw [if_neg hm])
    have NO : Hid (choB ls z = false) := hidIt (by unfold choB; rw [Bool.eq_false_iff.2 hm]; simp)
    clear hm
    go_enter Try.func7, Try.ntmps7
    go_wp2_with (first
      | (have _q := A1; clear A1 _q; refine wpList_alloc_rec rfl 25 rfl _ W.heap.size rfl zero_plan ?_; intro W1 R1 B1 z1; have E1 := hidIt B1; have P1 := hidIt R1; clear R1 B1 z1)
      | (go_at_call 17; refine (lcheck_any L C HL.out.1 (HL.out.2.1.below E1.out) (fun x hx => by have := HS.out.1 x hx; omega)).mono ?_; rw [MI.out]; rintro e W2 ⟨rfl, hb⟩; have E2 := hidIt (E1.out.trans (hb.mono E1.out.size)); have P2 := hidIt (P1.out.below hb); clear hb)
      | (refine wpList_store_rec rfl 25 (.tmp 4) (.tmp 21) rfl W.heap.size 0 _ (plC 0 (.slice none 0 0) (.slice none 0 0) false) rfl rfl P2.out rfl plan_size (plC_one _ _ rfl rfl) ?_; intro W3 R3 B3; have RR := hidIt R3; have E3 := hidIt (E2.out.trans (B3.below (Nat.le_refl _) E2.out.size)); clear R3 B3))
    have hl := RR.out.run_load 25 _ Try.underlying25 rfl plan_size
    exact bodyPost_ret (v := .tuple #[.agg (plC 0 (.slice none 0 0) (.slice none 0 0) false).toArray, .int .i64 2]) (by simp [results, Try.results7, asAddr, hl]) rfl (.inl ⟨NO.out, rfl, E3.out⟩)
end Go.Proofs.Ytelcijfcgflagaa
namespace Go.Proofs.Ytelcijfcgflagaa
open Go.RowKit Go.Maps
attribute [-go_sem] Builtin.append_
theorem laid_outR : laidOutB Try.prog = true := by kernel_rfl
theorem row_ref : (42 : TypeId) < Try.prog.types.size := of_decide_eq_true (by kernel_rfl)
theorem wide_ref : (match Try.prog.underlying 42 with | some (.array _ _) | some (.struct _) => true | _ => false) = true := by kernel_rfl
set_option maxRecDepth 100000 in
theorem law_ref : WideMaps.KeyLaw Try.prog 42 := deep_law_laid laid_outR (m := 3) (by omega) row_ref (by kernel_rfl) wide_ref
theorem keyed_ref : Keyed Try.prog 42 := Keyed.of_law law_ref
theorem keytype_ref : Try.prog.keyType 42 = true := by kernel_rfl
/-- A number of 64 bits. -/
def I64 (x : Int) : Prop := -9223372036854775808 ≤ x ∧ x < 9223372036854775808
theorem wf_int (x : Int) (h : I64 x) : (Lit.int .i64 x).wf = true := by
  unfold I64 at h
  simp [Lit.wf, IntKind.min, IntKind.max, IntKind.signed, IntKind.bits]
  omega
/-- The two cells of a ref. -/
def twoC (p q : Int) : List Value := [.int .i64 p, .int .i64 q]
/-- The key of a ref. -/
def keyR (p q : Int) : Lit := .string (keyBytes [.int .i64 p, .int .i64 q])
theorem cells_ref : Try.prog.cellsOf 42 = 2 := by kernel_rfl
theorem cells_int : Try.prog.cellsOf 3 = 1 := by kernel_rfl
theorem lits_int (d : Nat) (x : Int) (h : I64 x) : Try.prog.keyLits (d + 1) 3 [.int .i64 x] = some [.int .i64 x] := by
  unfold Program.keyLits
  rw [Try.underlying3]
  simp only
  rw [if_pos ⟨trivial, wf_int x h⟩]
set_option maxRecDepth 100000 in
theorem lits_ref (d : Nat) (p q : Int) (hp : I64 p) (hq : I64 q) : Try.prog.keyLits (d + 2) 42 (twoC p q) = some [.int .i64 p, .int .i64 q] := by
  unfold Program.keyLits
  rw [Try.underlying42]
  simp only
  rw [if_pos ⟨by rw [cells_ref]; rfl, by kernel_rfl⟩]
  simp only [List.mapM_cons, List.mapM_nil, cells_int]
  rw [show List.take 1 (List.drop 0 (twoC p q)) = [.int .i64 p] from rfl, show List.take 1 (List.drop 1 (twoC p q)) = [.int .i64 q] from rfl, lits_int d p hp, lits_int d q hq]
  rfl
set_option maxRecDepth 100000 in
theorem key_ref (p q : Int) (hp : I64 p) (hq : I64 q) : keyOf Try.prog 42 (.agg (twoC p q).toArray) = some (keyR p q) := by
  have hfo : (Value.agg (twoC p q).toArray).formed Try.prog 42 = true := by
    simp only [Value.formed, Try.underlying42, cells_ref, List.size_toArray]
    rfl
  obtain ⟨d, hd⟩ : ∃ d, Try.prog.types.size + 1 = d + 2 := ⟨Try.prog.types.size - 1, by have : 0 < Try.prog.types.size := Nat.lt_of_le_of_lt (Nat.zero_le _) row_ref; omega⟩
  unfold keyOf
  rw [Try.underlying42]
  simp only
  rw [keytype_ref, hfo, hd]
  simp only [Bool.and_self, if_true]
  rw [show (Value.agg (twoC p q).toArray).cells.toList = twoC p q from rfl, lits_ref d p q hp hq]
  rfl
theorem keyR_inj {p q p' q' : Int} (hp : I64 p) (hq : I64 q) (hp' : I64 p') (hq' : I64 q') (h : keyR p q = keyR p' q') : p = p' ∧ q = q' := by
  have h1 := key_ref p q hp hq
  have h2 := key_ref p' q' hp' hq'
  rw [← h] at h2
  have e := keyed_ref.inj h1 h2
  simpa [twoC] using e
/-- A map of refs. -/
abbrev OwnsR (W : World) (m n : Nat) (D : DataW Value) : Prop := W.ownsMap Try.prog 42 unitElem m n D
theorem own_sameR {W W' : World} {m n : Nat} {D : DataW Value} (h : OwnsR W m n D) (e : W'.heap[m]? = W.heap[m]?) : OwnsR W' m n D := by
  obtain ⟨es, c, hb, r⟩ := h
  exact ⟨es, c, e.trans hb, r⟩
theorem OwnsR.below {W W' : World} {m n : Nat} {D : DataW Value} (h : OwnsR W m n D) (hB : Below W.heap.size W W') : OwnsR W' m n D := own_sameR h (hB.block m h.lt)
theorem OwnsR.off {W W' : World} {bs : List Nat} {m n : Nat} {D : DataW Value} (h : OwnsR W m n D) (hB : Off bs W W') (hm : m ∉ bs) : OwnsR W' m n D := own_sameR h (hB.block m h.lt hm)
theorem zero_unit (w : World) : (zeroValue 79).run Try.prog w = .ok (.agg #[]) w := by
  have h : (Try.prog.info? 79).bind (·.zero) = some (.agg #[]) := by kernel_rfl
  cases hi : Try.prog.info? 79 with
  | none => simp [hi] at h
  | some i =>
    have hz : i.zero = some (.agg #[]) := by simpa [hi] using h
    simp [zeroValue, typeInfo, hi, hz]
theorem lookR (W : World) (m n : Nat) (D : DataW Value) (p q : Int) (h : OwnsR W m n D) (hp : I64 p) (hq : I64 q) : (Instr.lookup 57 (.map (some m)) (.agg (twoC p q).toArray) true).run Try.prog W = .ok (.tuple #[.agg #[], .bool (Maps.has D (keyR p q))]) W := by
  obtain ⟨v, ps, hr, hv⟩ := h.look_ok keyed_ref Try.underlying57 (zero_unit W) (zd := .agg []) (zp := []) unitElem_mk (key_ref p q hp hq)
  obtain ⟨rfl, _⟩ := unitElem_inv hv
  exact hr
theorem look_run {o : Oper} {a : Act} {w : World} (t : TypeId) (m x : Operand) (hop : o.op = .lookup t m x true) (M X : Value) (hm : a.eval m = M) (hx : a.eval x = X) {v : Value} (hr : (Instr.lookup t M X true).run Try.prog w = .ok v w) :
    (execOp a.eval o).run Try.prog w = .ok (.value v) w := by
  simp [execOp, hop, hm, hx, hr, Result.andThen]
theorem unit_alloc {o : Oper} {a : Act} {w : World} (ho : o.op = .alloc 79) :
    (execOp a.eval o).run Try.prog w = .ok (.value (.pointer (some ⟨w.heap.size, 0, none⟩))) (w.alloc (.cells #[] 79)) := by
  unfold execOp
  have h := zero_unit w
  simp only [ho]
  simp [Instr.alloc, h, newVar, newRow, Value.cells, Result.andThen]
theorem unit_store {o : Oper} {a : Act} {w : World} (x v : Operand) (ho : o.op = .store 79 x v) (A : Addr) (hx : a.eval x = .pointer (some A)) (hv : a.eval v = .agg #[]) :
    (execOp a.eval o).run Try.prog w = .ok .skip w := by
  unfold execOp
  simp only [ho, hx, hv]
  simp [Instr.storeAt, Instr.sureAddr, storeVar, storeCells, Value.cells, Result.andThen]
theorem mapup_run {a : Act} {w : World} {o : Oper} (t : TypeId) (m x v : Operand) (hop : o.op = .mapUpdate t m x v) (M X V : Value) (hm : a.eval m = M) (hx : a.eval x = X) (hv : a.eval v = V) {w' : World} (hr : (Instr.mapUpdate t M X V).run Try.prog w = .ok () w') :
    (execOp a.eval o).run Try.prog w = .ok .skip w' := by
  simp [execOp, hop, hm, hx, hv, hr, Result.andThen]
section
variable {ops : Array Oper} {rest : List Oper} {o : Oper} {a : Act} {w : World} {Q : Exit → Act → World → Prop}
/-- An operation that gives nothing, whose run is known. -/
theorem wpList_mute_w (hw : Region.wanted o (yielded ops a.tmps) = true) (w' : World) (hx : (execOp a.eval o).run Try.prog w = .ok .skip w') (hK : wpList Try.prog ops Q rest (a.put o.dst undef) w') : wpList Try.prog ops Q (o :: rest) a w := by
  refine wpList_step fun K hK' => ?_
  rw [if_pos hw]
  unfold Oper.wp
  rw [hx]
  exact hK' _ _ hK
end
/-- Roots as a set. -/
def rset (ps : List RV) : DataW Value := setOf (.agg []) (ps.map fun x => keyR x.r.ad x.r.st)
/-- Is a root among those of tables? -/
def hasR (ps : List Rn) (r : Rn) : Bool := ps.any fun x => decide (x.ad = r.ad ∧ x.st = r.st)
def Rf (r : Rn) : Prop := I64 r.ad ∧ I64 r.st
theorem sameKeyR {p q p' q' : Int} (hp : I64 p) (hq : I64 q) (hp' : I64 p') (hq' : I64 q') : (keyR p q).sameKey (keyR p' q') = decide (p = p' ∧ q = q') := by
  by_cases h : p = p' ∧ q = q'
  · obtain ⟨rfl, rfl⟩ := h
    rw [decide_eq_true ⟨rfl, rfl⟩]
    exact WideAt.sameKey_self trivial
  · rw [decide_eq_false h]
    exact sameKey_ne fun e => h (keyR_inj hp hq hp' hq' e)
theorem has_rset {ps : List RV} {r : Rn} (h : ∀ x ∈ ps, Rf x.r) (hr : Rf r) : Maps.has (rset ps) (keyR r.ad r.st) = hasR (ps.map RV.r) r := by
  unfold rset hasR
  rw [has_setOf _ _ _ (fun x hx => by obtain ⟨y, _, rfl⟩ := List.mem_map.1 hx; trivial)]
  rw [List.any_map, List.any_map]
  induction ps with
  | nil => rfl
  | cons x q ih =>
    rw [List.any_cons, List.any_cons, ih (fun y hy => h y (List.mem_cons_of_mem _ hy))]
    congr 1
    exact sameKeyR (h x List.mem_cons_self).1 (h x List.mem_cons_self).2 hr.1 hr.2
theorem ref_size : (Try.prog.info? 42).map (·.size) = some 2 := by kernel_rfl
theorem ref_cells {W : World} {b : Nat} {x : RV} (h : W.rangeAt b 0 x.cs) : W.rangeAt b 0 (twoC x.r.ad x.r.st) := fun j v hj => by
  match j with
  | 0 => exact h 0 v hj
  | 1 => exact h 1 v hj
  | j + 2 => cases hj
/-- What rootsOf keeps. -/
structure RoI (W : World) (ps : List RV) (k : Nat) (wr : World) : Prop where
  map : OwnsR wr W.heap.size k (rset (ps.take k))
  below : Below W.heap.size W wr
theorem RoI.step {W wr w3 w4 : World} {ps : List RV} {k : Nat} {x : RV} (h : RoI W ps k wr) (hx : ps[k]? = some x) (hB : Below wr.heap.size wr w3) (hm : OwnsR w4 W.heap.size (k + 1) ((rset (ps.take k)).put (keyR x.r.ad x.r.st) (.agg []))) (hO : Off [W.heap.size] w3 w4) : RoI W ps (k + 1) w4 := by
  refine ⟨?_, (h.below.trans (hB.mono h.below.size)).trans (hO.below (fun g hg => by have := List.mem_singleton.1 hg; omega) (Nat.le_trans h.below.size hB.size))⟩
  obtain ⟨hl, rfl⟩ := List.getElem?_eq_some_iff.1 hx
  unfold rset at hm ⊢
  rw [List.take_succ_eq_append_getElem hl, List.map_append, List.map_singleton, setOf_snoc]
  exact hm
/-- What rootsOf answers. -/
def RoP (W : World) (ps : List RV) (e : Ending) (w' : World) : Prop := ∃ m n, e = .returned (.map (some m)) ∧ W.heap.size ≤ m ∧ OwnsR w' m n (rset ps) ∧ Below W.heap.size W w'
set_option maxRecDepth 100000 in
set_option maxHeartbeats 2000000 in
theorem lrootsOf_any {W : World} {a : Option Addr} {ps : List RV} (n C : Nat) (hn : ps.length = n) (hL : LsR W a ps) (hf : n ≤ 50000) (hI : ∀ x ∈ ps, Rf x.r) : Calls Try.prog 27 #[.slice a n C] W (RoP W ps) := by
  have HL := hidIt hL
  have HN := hidIt (And.intro hn (And.intro hf hI))
  have hmm := fun w => run_makeMap (P := Try.prog) 57 w
  have st : Hid (RoI W ps 0 (W.alloc (.map #[] 0))) := hidIt ⟨World.ownsMap_made (H := Value) W Try.prog 42 unitElem, (Below.refl _ _).alloc (Nat.le_refl _) _⟩
  clear hn hL hf hI
  go_enter Try.func27, Try.ntmps27
  go_wp2_with fail
  clear hmm
  go_loopw [9] (fun iv wr => ∃ k : Nat, k ≤ n ∧ iv = .int .i64 (k : Int) ∧ Hid (RoI W ps k wr)) (fun iv _ => n - (RowKit.intOf iv).toNat)
  case atStart => exact ⟨0, Nat.zero_le _, rfl, st⟩
  case round =>
    clear st
    obtain ⟨k, hk, rfl, HI⟩ := hrel
    rename World => wr
    by_cases hlt : k < n
    · obtain ⟨x, hx⟩ : ∃ x, ps[k]? = some x := ⟨_, List.getElem?_eq_getElem (by have := HN.out.1; omega)⟩
      obtain ⟨b, o, ha, hr, hb⟩ := (HL.out.below HI.out.below).at k x hx
      subst ha
      have LT := hidIt hlt
      have HX := hidIt hx
      have OX := hidIt ((HL.out.1 x (List.mem_of_getElem? hx)).below HI.out.below)
      have KX := hidIt (HN.out.2.2 x (List.mem_of_getElem? hx))
      obtain ⟨i0, i1, i2, i3, i4⟩ := tb_ar k n hlt (by have := HN.out.2.1; omega)
      have GO := hidIt i4
      have KB : Hid (k < maxLen) := hidIt (by unfold maxLen; have := HN.out.2.1; omega)
      clear hx hlt hk hb i4
      go_wp2_with (first
        | (refine wpList_load_mid rfl 45 (.tmp 11) rfl b (o + k * 5) rfl x.cs _ hr Try.underlying45 rfl run_size ?_; clear hr)
        | (refine wpList_alloc_rec rfl 45 rfl _ wr.heap.size rfl run_zero ?_; intro W2 R2 B2 z2; have E2 := hidIt (And.intro B2 z2); have P2 := hidIt R2; clear R2 B2 z2)
        | (refine wpList_store_rec rfl 45 (.tmp 5) (.tmp 12) rfl wr.heap.size 0 _ x.cs rfl rfl P2.out rfl run_size OX.out.one ?_; intro W3 R3 B3; have E3 := hidIt (E2.out.1.trans (B3.below (Nat.le_refl _) (by have := E2.out.2; omega))); have P3 := hidIt (ref_cells R3.1); clear R3 B3; obtain ⟨W4, hr4, M4, t4⟩ := World.ownsMap.store (w := W3) (HI.out.map.below E3.out) keyed_ref Try.underlying57 KB.out (key_ref x.r.ad x.r.st KX.out.1 KX.out.2) (val := .agg #[]) (d := .agg []) (ps := []) unitElem_mk; have NX := hidIt (HI.out.step HX.out E3.out M4 (Off.grown t4.grown (fun r e => by cases e; simp))); have R4 := hidIt hr4; clear hr4 M4 t4)
        | (refine wpList_load_mid rfl 42 (.tmp 14) rfl wr.heap.size 0 rfl (twoC x.r.ad x.r.st) _ P3.out Try.underlying42 rfl ref_size ?_)
        | (refine wpList_mute_w (by rfl) W4 (mapup_run 57 (.tmp 13) (.tmp 15) (.tmp 16) rfl _ _ _ rfl rfl rfl R4.out) ?_))
      exact ⟨⟨k + 1, LT.out, rfl, NX⟩, GO.out⟩
    · obtain rfl : k = n := by omega
      have i0 : ((k : Int) < (k : Int)) = False := eq_false (by omega)
      have FIN : Hid (RoP W ps (.returned (.map (some W.heap.size))) wr) := hidIt (by
        have h := HI.out.map
        rw [List.take_of_length_le (by have := HN.out.1; omega)] at h
        exact ⟨_, _, rfl, Nat.le_refl _, h, HI.out.below⟩)
      clear hk hlt
      go_wp2_with fail
      exact bodyPost_ret (v := .map (some W.heap.size)) (by simp [results, Try.results27, go_sem]) rfl FIN.out
set_option maxRecDepth 100000 in
theorem lhas_any {W : World} {m n : Nat} {D : DataW Value} {x : RV} {N : List Nat} (h : OwnsR W m n D) (hx : RVOk W N x) (hr : Rf x.r) : Calls Try.prog 31 #[.map (some m), .agg x.cs.toArray] W fun e w' => e = .returned (.bool (Maps.has D (keyR x.r.ad x.r.st))) ∧ Below W.heap.size W w' := by
  have HM := hidIt h
  have HX := hidIt (And.intro hx hr)
  clear h hx hr
  go_enter Try.func31, Try.ntmps31
  go_wp2_with (first
    | (refine wpList_box_rec rfl 45 (.tmp 1) rfl x.cs rfl W.heap.size rfl ?_; intro W1 R1 B1 z1; have E1 := hidIt B1; have P1 := hidIt (ref_cells R1.1); clear R1 B1 z1)
    | (refine wpList_load_mid rfl 42 (.tmp 9) rfl W.heap.size 0 rfl (twoC x.r.ad x.r.st) _ P1.out Try.underlying42 rfl ref_size ?_)
    | (refine wpList_run_w (by rfl) (.tuple #[.agg #[], .bool (Maps.has D (keyR x.r.ad x.r.st))]) W1 (look_run 57 (.tmp 8) (.tmp 10) rfl _ _ rfl rfl (lookR W1 m n D x.r.ad x.r.st (HM.out.below E1.out) HX.out.2.1 HX.out.2.2)) ?_)
    | (refine wpList_run_w (by rfl) (.pointer (some ⟨W1.heap.size, 0, none⟩)) (W1.alloc (.cells #[] 79)) (unit_alloc rfl) ?_; have A2 : Below W1.heap.size W1 (W1.alloc (.cells #[] 79)) := (Below.refl _ _).alloc (Nat.le_refl _) _; generalize W1.alloc (.cells #[] 79) = W2 at *; have E2 := hidIt (E1.out.trans (A2.mono E1.out.size)); clear A2)
    | (refine wpList_mute_w (by rfl) W2 (unit_store (.tmp 5) (.tmp 12) rfl _ rfl rfl) ?_))
  exact bodyPost_ret (v := .bool (Maps.has D (keyR x.r.ad x.r.st))) (by simp [results, Try.results31, go_sem]) rfl ⟨rfl, E2.out⟩
end Go.Proofs.Ytelcijfcgflagaa
namespace Go.Proofs.Ytelcijfcgflagaa
open Go.RowKit
attribute [-go_sem] Builtin.append_
/-- Is a table's root in a set? -/
def inD (D : DataW Value) (x : RV) : Bool := Maps.has D (keyR x.r.ad x.r.st)
set_option maxRecDepth 100000 in
set_option maxHeartbeats 2000000 in
theorem lhaveAll_any {W : World} {m q : Nat} {D : DataW Value} {a : Option Addr} {ps : List RV} (n C : Nat) (hn : ps.length = n) (hL : LsR W a ps) (hf : n ≤ 50000) (hM : OwnsR W m q D) (hI : ∀ x ∈ ps, Rf x.r) : Calls Try.prog 28 #[.map (some m), .slice a n C] W fun e w' => e = .returned (.bool (ps.all (inD D))) ∧ Below W.heap.size W w' := by
  have HL := hidIt hL
  have HN := hidIt (And.intro hn (And.intro hf (And.intro hM hI)))
  clear hn hL hf hM hI
  go_enter Try.func28, Try.ntmps28
  go_wp2_with fail
  go_loopw [9] (fun iv wr => ∃ k : Nat, k ≤ n ∧ iv = .int .i64 (k : Int) ∧ Hid (Below W.heap.size W wr ∧ (ps.take k).all (inD D) = true)) (fun iv _ => n - (RowKit.intOf iv).toNat)
  case atStart => exact ⟨0, Nat.zero_le _, rfl, ⟨Below.refl _ _, rfl⟩⟩
  case round =>
    obtain ⟨k, hk, rfl, HI⟩ := hrel
    rename World => wr
    by_cases hlt : k < n
    · obtain ⟨x, hx⟩ : ∃ x, ps[k]? = some x := ⟨_, List.getElem?_eq_getElem (by have := HN.out.1; omega)⟩
      obtain ⟨b, o, ha, hr, hb⟩ := (HL.out.below HI.out.1).at k x hx
      subst ha
      have LT := hidIt hlt
      have OX := hidIt ((HL.out.1 x (List.mem_of_getElem? hx)).below HI.out.1)
      have KX := hidIt (HN.out.2.2.2 x (List.mem_of_getElem? hx))
      have TK : Hid ((ps.take (k + 1)).all (inD D) = inD D x) := hidIt (by
        obtain ⟨hl, rfl⟩ := List.getElem?_eq_some_iff.1 hx
        rw [List.take_succ_eq_append_getElem hl, List.all_append, HI.out.2]
        simp)
      have MX := hidIt (List.mem_of_getElem? hx)
      obtain ⟨i0, i1, i2, i3, i4⟩ := tb_ar k n hlt (by have := HN.out.2.1; omega)
      have GO := hidIt i4
      clear hx hlt hk hb i4
      cases hd : inD D x with
      | true =>
        have HD := hidIt hd
        clear hd
        go_wp2_with (first
          | (refine wpList_load_mid rfl 45 (.tmp 11) rfl b (o + k * 5) rfl x.cs _ hr Try.underlying45 rfl run_size ?_; clear hr)
          | (refine wpList_alloc_rec rfl 45 rfl _ wr.heap.size rfl run_zero ?_; intro W2 R2 B2 z2; have E2 := hidIt (And.intro B2 z2); have P2 := hidIt R2; clear R2 B2 z2)
          | (refine wpList_store_rec rfl 45 (.tmp 6) (.tmp 12) rfl wr.heap.size 0 _ x.cs rfl rfl P2.out rfl run_size OX.out.one ?_; intro W3 R3 B3; have E3 := hidIt (E2.out.1.trans (B3.below (Nat.le_refl _) (by have := E2.out.2; omega))); have P3 := hidIt R3; clear R3 B3)
          | (refine wpList_load_rec rfl 45 (.tmp 6) rfl wr.heap.size 0 x.cs rfl _ Try.underlying45 rfl run_size P3.out ?_)
          | (go_at_call 31; refine (lhas_any (HN.out.2.2.1.below (HI.out.1.trans (E3.out.mono HI.out.1.size))) (OX.out.below E3.out) KX.out).mono ?_; rw [show Maps.has D (keyR x.r.ad x.r.st) = true from HD.out]; rintro e W4 ⟨rfl, hb⟩; have NX : Hid (Below W.heap.size W W4 ∧ (ps.take (k + 1)).all (inD D) = true) := hidIt ⟨(HI.out.1.trans (E3.out.mono HI.out.1.size)).trans (hb.mono (Nat.le_trans HI.out.1.size E3.out.size)), TK.out.trans HD.out⟩; clear hb))
        exact ⟨⟨k + 1, LT.out, rfl, NX⟩, GO.out⟩
      | false =>
        have HD := hidIt hd
        clear hd
        have FIN : Hid (ps.all (inD D) = false) := hidIt (by
          rw [Bool.eq_false_iff]
          intro z
          rw [List.all_eq_true] at z
          have := z x MX.out
          rw [HD.out] at this
          cases this)
        go_wp2_with (first
          | (refine wpList_load_mid rfl 45 (.tmp 11) rfl b (o + k * 5) rfl x.cs _ hr Try.underlying45 rfl run_size ?_; clear hr)
          | (refine wpList_alloc_rec rfl 45 rfl _ wr.heap.size rfl run_zero ?_; intro W2 R2 B2 z2; have E2 := hidIt (And.intro B2 z2); have P2 := hidIt R2; clear R2 B2 z2)
          | (refine wpList_store_rec rfl 45 (.tmp 6) (.tmp 12) rfl wr.heap.size 0 _ x.cs rfl rfl P2.out rfl run_size OX.out.one ?_; intro W3 R3 B3; have E3 := hidIt (E2.out.1.trans (B3.below (Nat.le_refl _) (by have := E2.out.2; omega))); have P3 := hidIt R3; clear R3 B3)
          | (refine wpList_load_rec rfl 45 (.tmp 6) rfl wr.heap.size 0 x.cs rfl _ Try.underlying45 rfl run_size P3.out ?_)
          | (go_at_call 31; refine (lhas_any (HN.out.2.2.1.below (HI.out.1.trans (E3.out.mono HI.out.1.size))) (OX.out.below E3.out) KX.out).mono ?_; rw [show Maps.has D (keyR x.r.ad x.r.st) = false from HD.out]; rintro e W4 ⟨rfl, hb⟩; have NX : Hid (Below W.heap.size W W4) := hidIt ((HI.out.1.trans (E3.out.mono HI.out.1.size)).trans (hb.mono (Nat.le_trans HI.out.1.size E3.out.size))); clear hb))
        exact bodyPost_ret (v := .bool false) (by simp [results, Try.results28, go_sem]) rfl ⟨by rw [FIN.out], NX.out⟩
    · obtain rfl : k = n := by omega
      have i0 : ((k : Int) < (k : Int)) = False := eq_false (by omega)
      have FIN : Hid (ps.all (inD D) = true ∧ Below W.heap.size W wr) := hidIt (by
        have h := HI.out.2
        rw [List.take_of_length_le (by have := HN.out.1; omega)] at h
        exact ⟨h, HI.out.1⟩)
      clear hk hlt
      go_wp2_with fail
      exact bodyPost_ret (v := .bool true) (by simp [results, Try.results28, go_sem]) rfl ⟨by rw [FIN.out.1], FIN.out.2⟩
/-- What IndexFunc answers. -/
def IxP (W : World) (ps : List RV) (D : DataW Value) (e : Ending) (w' : World) : Prop := (∃ z : Int, e = .returned (.int .i64 z) ∧ ((z = -1 ∧ ∀ x ∈ ps, inD D x = false) ∨ ∃ i x, z = ((i : Nat) : Int) ∧ ps[i]? = some x ∧ inD D x = true ∧ ∀ y ∈ ps.take i, inD D y = false)) ∧ Below W.heap.size W w'
set_option maxRecDepth 100000 in
set_option maxHeartbeats 2000000 in
theorem lindexF_any {W : World} {m q : Nat} {D : DataW Value} {a : Option Addr} {ps : List RV} (n C : Nat) (hn : ps.length = n) (hL : LsR W a ps) (hf : n ≤ 50000) (hM : OwnsR W m q D) (hI : ∀ x ∈ ps, Rf x.r) : Calls Try.prog 53 #[.slice a n C, .func (.func 31) #[.map (some m)] #[]] W (IxP W ps D) := by
  have HL := hidIt hL
  have HN := hidIt (And.intro hn (And.intro hf (And.intro hM hI)))
  clear hn hL hf hM hI
  go_enter Try.func53, Try.ntmps53
  go_wp2_with fail
  go_loopw [8] (fun iv wr => ∃ k : Nat, k ≤ n ∧ iv = .int .i64 (k : Int) ∧ Hid (Below W.heap.size W wr ∧ ∀ y ∈ ps.take k, inD D y = false)) (fun iv _ => n - (RowKit.intOf iv).toNat)
  case atStart => exact ⟨0, Nat.zero_le _, rfl, ⟨Below.refl _ _, fun y hy => by rw [List.take_zero] at hy; cases hy⟩⟩
  case round =>
    obtain ⟨k, hk, rfl, HI⟩ := hrel
    rename World => wr
    by_cases hlt : k < n
    · obtain ⟨x, hx⟩ : ∃ x, ps[k]? = some x := ⟨_, List.getElem?_eq_getElem (by have := HN.out.1; omega)⟩
      obtain ⟨b, o, ha, hr, hb⟩ := (HL.out.below HI.out.1).at k x hx
      subst ha
      have LT := hidIt hlt
      have HX := hidIt hx
      have OX := hidIt ((HL.out.1 x (List.mem_of_getElem? hx)).below HI.out.1)
      have KX := hidIt (HN.out.2.2.2 x (List.mem_of_getElem? hx))
      obtain ⟨i0, i1, i2, i3, i4⟩ := tb_ar k n hlt (by have := HN.out.2.1; omega)
      have GO := hidIt i4
      clear hx hlt hk hb i4
      cases hd : inD D x with
      | true =>
        have HD := hidIt hd
        clear hd
        go_wp2_with (first
          | (refine wpList_load_mid rfl 45 (.tmp 14) rfl b (o + k * 5) rfl x.cs _ hr Try.underlying45 rfl run_size ?_; clear hr)
          | (go_at_call 31; refine (lhas_any (HN.out.2.2.1.below HI.out.1) OX.out KX.out).mono ?_; rw [show Maps.has D (keyR x.r.ad x.r.st) = true from HD.out]; rintro e W4 ⟨rfl, hb⟩; have NX : Hid (Below W.heap.size W W4) := hidIt (HI.out.1.trans (hb.mono HI.out.1.size)); clear hb))
        exact bodyPost_ret (v := .int .i64 (k : Int)) (by simp [results, Try.results53, go_sem]) rfl ⟨⟨_, rfl, .inr ⟨k, x, rfl, HX.out, HD.out, HI.out.2⟩⟩, NX.out⟩
      | false =>
        have HD := hidIt hd
        clear hd
        go_wp2_with (first
          | (refine wpList_load_mid rfl 45 (.tmp 14) rfl b (o + k * 5) rfl x.cs _ hr Try.underlying45 rfl run_size ?_; clear hr)
          | (go_at_call 31; refine (lhas_any (HN.out.2.2.1.below HI.out.1) OX.out KX.out).mono ?_; rw [show Maps.has D (keyR x.r.ad x.r.st) = false from HD.out]; rintro e W4 ⟨rfl, hb⟩; have NX : Hid (Below W.heap.size W W4 ∧ ∀ y ∈ ps.take (k + 1), inD D y = false) := hidIt ⟨HI.out.1.trans (hb.mono HI.out.1.size), (by
              have h := HX.out
              obtain ⟨hl, e⟩ := List.getElem?_eq_some_iff.1 h
              rw [List.take_succ_eq_append_getElem hl, e]
              intro y hy
              rcases List.mem_append.1 hy with hy | hy
              · exact HI.out.2 y hy
              · have := List.mem_singleton.1 hy
                subst this
                exact HD.out)⟩; clear hb))
        exact ⟨⟨k + 1, LT.out, rfl, NX⟩, GO.out⟩
    · obtain rfl : k = n := by omega
      have i0 : ((k : Int) < (k : Int)) = False := eq_false (by omega)
      have FIN : Hid ((∀ x ∈ ps, inD D x = false) ∧ Below W.heap.size W wr) := hidIt (by
        have h := HI.out.2
        rw [List.take_of_length_le (by have := HN.out.1; omega)] at h
        exact ⟨h, HI.out.1⟩)
      clear hk hlt
      go_wp2_with fail
      exact bodyPost_ret (v := .int .i64 (-1)) (by simp [results, Try.results53, go_sem]) rfl ⟨⟨_, rfl, .inl ⟨rfl, FIN.out.1⟩⟩, FIN.out.2⟩
end Go.Proofs.Ytelcijfcgflagaa
namespace Go.Proofs.Ytelcijfcgflagaa
open Go.RowKit
attribute [-go_sem] Builtin.append_
theorem rcs_set (ps : List RV) (i : Nat) (x : RV) (h : i < ps.length) : (rcs ps).take (i * 5) ++ x.cs ++ (rcs ps).drop (i * 5 + 5) = rcs (ps.set i x) := by
  rw [rcs_take, show i * 5 + 5 = (i + 1) * 5 by omega, rcs_drop, List.set_eq_take_append_cons_drop, if_pos h]
  simp [rcs]
theorem OwnR.obj {W : World} {g n c : Nat} {ps : List RV} (h : OwnR W 0 (.slice (some ⟨g, 0, none⟩) n c) ps) (hn : ps.length = n) : ∃ cur, W.heap[g]? = some (.cells cur 45 (0, 0)) ∧ n ≤ c ∧ c ≤ maxLen ∧ cur.size = c * 5 ∧ cur.toList.take (n * 5) = rcs ps := by
  rcases h.2 with ⟨h0, _⟩ | ⟨g', cap, cur, hv, _, hg, hc, hm, hs, ht⟩
  · injection h0 with h0; cases h0
  · injection hv with e1 e2 e3
    injection e1 with e1
    injection e1 with e1
    subst e1 e2 e3
    exact ⟨cur, hg, hc, hm, hs, ht⟩
theorem OwnR.form' {W : World} {a : Option Addr} {n c : Nat} {ps : List RV} (h : OwnR W 0 (.slice a n c) ps) (_ : ps.length = n) : (a = none ∧ ps = []) ∨ ∃ g, a = some ⟨g, 0, none⟩ := by
  rcases h.form with ⟨h0, h1⟩ | ⟨g, cap, hv, _⟩
  · injection h0 with e1 e2
    exact .inl ⟨e1, h1⟩
  · injection hv with e1
    exact .inr ⟨g, e1⟩
theorem OwnR.mk' {W : World} {g n c : Nat} {ps : List RV} {cur : Array Value} (hn : ps.length = n) (hg : W.heap[g]? = some (.cells cur 45 (0, 0))) (hc : n ≤ c) (hm : c ≤ maxLen) (hs : cur.size = c * 5) (ht : cur.toList.take (n * 5) = rcs ps) : OwnR W 0 (.slice (some ⟨g, 0, none⟩) n c) ps := by
  subst hn
  exact ⟨rcs_len ps, .inr ⟨g, c, cur, rfl, Nat.zero_le _, hg, hc, hm, hs, ht⟩⟩
theorem setRow_at (W : World) (g : Nat) (cur : Array Value) (cs : Array Value) (T : TypeId) (h : W.heap[g]? = some (.cells cur T (0, 0))) : (W.setRow g cs).heap[g]? = some (.cells cs T (0, 0)) := by
  unfold World.setRow
  rw [Array.getElem?_modify, if_pos rfl, h]
  rfl
/-- A table is put in place. -/
theorem own_put {W : World} {g n c i : Nat} {ps : List RV} {x : RV} (h : OwnR W 0 (.slice (some ⟨g, 0, none⟩) n c) ps) (hn : ps.length = n) (hi : i < n) (h1 : ∀ v ∈ x.cs, v.oneCell' = true) : ∃ W', (Instr.storeAt 45 (.pointer (some ⟨g, i * 5, none⟩)) (.agg x.cs.toArray)).run Try.prog W = .ok () W' ∧ OwnR W' 0 (.slice (some ⟨g, 0, none⟩) n c) (ps.set i x) ∧ But g W W' := by
  obtain ⟨cur, hg, hc, hm, hs, ht⟩ := h.obj hn
  have hst := run_storeCells_at Try.prog g (i * 5) 45 x.cs 0 cur W hg (by rw [hs]; show i * 5 + 0 + 5 ≤ c * 5; omega) h1
  simp only [Nat.add_zero] at hst
  obtain ⟨cs', hcs⟩ : ∃ cs', cs' = (cur.toList.take (i * 5) ++ x.cs ++ cur.toList.drop (i * 5 + x.cs.length)).toArray := ⟨_, rfl⟩
  rw [← hcs] at hst
  refine ⟨W.setRow g cs', ?_, OwnR.mk' (by simpa using hn) (setRow_at W g cur cs' _ hg) hc hm ?_ ?_, setRow_butR W g cs'⟩
  · simp [Instr.storeAt, Instr.sureAddr, storeVar, Value.cells, hst, Result.andThen]
    rfl
  · rw [hcs, List.size_toArray, List.length_append, List.length_append, List.length_take, List.length_drop, Array.length_toList, hs, show x.cs.length = 5 from rfl]
    omega
  · rw [hcs, show x.cs.length = 5 from rfl, ← rcs_set ps i x (by omega), ← ht]
    rw [List.take_append, List.take_append, List.take_take, List.length_append, List.length_take, Array.length_toList, hs, show x.cs.length = 5 from rfl, Nat.min_eq_left (show i * 5 ≤ c * 5 by omega), Nat.min_eq_right (show i * 5 ≤ n * 5 by omega), List.take_take, Nat.min_eq_left (show i * 5 ≤ n * 5 by omega), List.take_of_length_le (show x.cs.length ≤ n * 5 - i * 5 by show 5 ≤ _; omega), List.drop_take, show n * 5 - (i * 5 + 5) = n * 5 - (i * 5 + 5) from rfl]
theorem zeroCells_mem (n : Nat) : ∀ v ∈ (Builtin.zeroCells (Value.agg #[.int .i64 0, .int .i64 0, .int .i64 0, .slice none 0 0, .slice none 0 0]).cells n).toList, v.oneCell' = true := by
  intro v hv
  unfold Builtin.zeroCells at hv
  simp only [Value.cells, Array.toList_map, List.mem_map] at hv
  obtain ⟨k, _, rfl⟩ := hv
  have : k % 5 < 5 := Nat.mod_lt _ (by omega)
  show (#[Value.int .i64 0, .int .i64 0, .int .i64 0, .slice none 0 0, .slice none 0 0][k % 5]!).oneCell' = true
  match k % 5, this with
  | 0, _ => rfl
  | 1, _ => rfl
  | 2, _ => rfl
  | 3, _ => rfl
  | 4, _ => rfl
theorem zeroCells_len (n : Nat) : (Builtin.zeroCells (Value.agg #[.int .i64 0, .int .i64 0, .int .i64 0, .slice none 0 0, .slice none 0 0]).cells n).toList.length = n * 5 := by
  unfold Builtin.zeroCells
  simp [Value.cells]
/-- The tables from a place on are cleared. -/
theorem own_clear (ty : TypeId) {W : World} {g n c i C : Nat} {ps : List RV} (h : OwnR W 0 (.slice (some ⟨g, 0, none⟩) n c) ps) (hn : ps.length = n) (hi : i < n) : ∃ W', (Builtin.clear_ #[23] ty #[.slice (some ⟨g, i * 5, none⟩) (n - i) C]).run Try.prog W = .ok (.tuple #[]) W' ∧ OwnR W' 0 (.slice (some ⟨g, 0, none⟩) i c) (ps.take i) ∧ But g W W' := by
  obtain ⟨cur, hg, hc, hm, hs, ht⟩ := h.obj hn
  have hst := run_storeCells_at Try.prog g (i * 5) 45 _ 0 cur W hg (by rw [hs, zeroCells_len (n - i)]; omega) (zeroCells_mem (n - i))
  obtain ⟨k, hk⟩ : ∃ k, n - i = k + 1 := ⟨n - i - 1, by omega⟩
  simp only [Nat.add_zero] at hst
  obtain ⟨zs, hzs⟩ : ∃ zs, zs = (Builtin.zeroCells (Value.agg #[.int .i64 0, .int .i64 0, .int .i64 0, .slice none 0 0, .slice none 0 0]).cells (n - i)).toList := ⟨_, rfl⟩
  have zl : zs.length = (n - i) * 5 := by rw [hzs, zeroCells_len]
  obtain ⟨cs', hcs⟩ : ∃ cs', cs' = (cur.toList.take (i * 5) ++ zs ++ cur.toList.drop (i * 5 + zs.length)).toArray := ⟨_, rfl⟩
  rw [← hzs, ← hcs] at hst
  refine ⟨W.setRow g cs', ?_, OwnR.mk' (by rw [List.length_take]; omega) (setRow_at W g cur cs' _ hg) (by omega) hm ?_ ?_, setRow_butR W g cs'⟩
  · rw [hzs, hk] at hst
    rw [hk]
    simp [Builtin.clear_, run_underlying under_runs, hst, Result.andThen]
  · rw [hcs, List.size_toArray, List.length_append, List.length_append, List.length_take, List.length_drop, Array.length_toList, hs, zl]
    omega
  · rw [hcs, List.append_assoc, List.take_append_of_le_length (by rw [List.length_take, Array.length_toList, hs]; omega), List.take_take, Nat.min_self, ← rcs_take, ← ht, List.take_take, Nat.min_eq_left (by omega)]
theorem slc_low (W : World) (g n c i : Nat) (hi : i < n) (hc : n ≤ c) : (Instr.slice 23 (.slice (some ⟨g, 0, none⟩) n c) (some (.int .i64 (i : Int))) none none).run Try.prog W = .ok (.slice (some ⟨g, i * 5, none⟩) (n - i) (c - i)) W := by
  obtain ⟨i0, hi0, _, hz1, _⟩ := info_parts info_run
  have e : ¬ c = i := by omega
  have a : i ≤ n := by omega
  simp [Instr.slice, Instr.sliceBounds, run_underlying under_runs, Instr.sliceBound, asIntOf, a, e, sizeOf, typeInfo, hi0, hz1, Addr.add]
  exact fun q => q.symm
theorem slc_high (W : World) (g n c i : Nat) (hi : i < n) (hc : n ≤ c) : (Instr.slice 23 (.slice (some ⟨g, 0, none⟩) n c) none (some (.int .i64 (i : Int))) none).run Try.prog W = .ok (.slice (some ⟨g, 0, none⟩) i c) W := by
  obtain ⟨i0, hi0, _⟩ := info_parts info_run
  have a : i ≤ c := by omega
  simp [Instr.slice, Instr.sliceBounds, run_underlying under_runs, Instr.sliceBound, asIntOf, a, sizeOf, typeInfo, hi0, Addr.add]
theorem slc_runl {a : Act} {w : World} {o : Oper} (x y : Operand) (ho : o.op = .slice 23 x (some y) none none) (v v' : Value) (ad : Option Addr) (n C : Nat) (i : Nat) (hv : v = .slice ad n C) (hx : a.eval x = v) (hy : a.eval y = .int .i64 (i : Int)) (he : Try.prog.underlying 23 = some (.slice (Try.prog.elem 23))) (hr : (Instr.slice 23 v (some (.int .i64 (i : Int))) none none).run Try.prog w = .ok v' w) : (execOp a.eval o).run Try.prog w = .ok (.value v') w := by
  subst hv
  unfold execOp
  simp only [ho, hx, Option.map_some, Option.map_none, hy, Sem.run_bind, run_sliceAt_slice _ _ _ _ _ _ he, hr, Result.andThen_ok]
  rfl
theorem slc_runh {a : Act} {w : World} {o : Oper} (x y : Operand) (ho : o.op = .slice 23 x none (some y) none) (v v' : Value) (ad : Option Addr) (n C : Nat) (i : Nat) (hv : v = .slice ad n C) (hx : a.eval x = v) (hy : a.eval y = .int .i64 (i : Int)) (he : Try.prog.underlying 23 = some (.slice (Try.prog.elem 23))) (hr : (Instr.slice 23 v none (some (.int .i64 (i : Int))) none).run Try.prog w = .ok v' w) : (execOp a.eval o).run Try.prog w = .ok (.value v') w := by
  subst hv
  unfold execOp
  simp only [ho, hx, Option.map_some, Option.map_none, hy, Sem.run_bind, run_sliceAt_slice _ _ _ _ _ _ he, hr, Result.andThen_ok]
  rfl
theorem clear_exec {a : Act} {w w' : World} {o : Oper} (x : Operand) (xT : TypeId) (ho : o.op = .call { callee := .builtin .clear, args := #[x], argTypes := #[xT] }) (v : Value) (hx : a.eval x = v) (hr : (Builtin.clear_ #[xT] o.type #[v]).run Try.prog w = .ok (.tuple #[]) w') : (execOp a.eval o).run Try.prog w = .ok (.value (.tuple #[])) w' := by
  simp [execOp, ho, resolve, invoke, builtin, hx, hr, Result.andThen]
/-- What DeleteFunc keeps: i tables are kept of the first j. -/
structure DlI (W : World) (g n c : Nat) (D : DataW Value) (ps : List RV) (i j : Nat) (wr : World) (ds : List RV) : Prop where
  own : OwnR wr 0 (.slice (some ⟨g, 0, none⟩) n c) ds
  len : ds.length = n
  lo : ds.take i = (ps.take j).filter fun x => !inD D x
  hi : ∀ k, j ≤ k → ds[k]? = ps[k]?
  ij : i < j
  jn : j ≤ n
  off : Off [g] W wr
  sub : ∀ y ∈ ds, y ∈ ps
theorem DlI.skip {W wr w' : World} {g n c i j : Nat} {D : DataW Value} {ps ds : List RV} {x : RV} (h : DlI W g n c D ps i j wr ds) (hx : ps[j]? = some x) (hd : inD D x = true) (hj : j < n) (hB : Below wr.heap.size wr w') : DlI W g n c D ps i (j + 1) w' ds := by
  refine ⟨h.own.below hB, h.len, ?_, fun k hk => h.hi k (by omega), by have := h.ij; omega, hj, h.off.trans (Off.of hB), h.sub⟩
  obtain ⟨hl, rfl⟩ := List.getElem?_eq_some_iff.1 hx
  rw [List.take_succ_eq_append_getElem hl, List.filter_append, ← h.lo]
  simp [hd]
theorem DlI.keep {W wr w1 w' : World} {g n c i j : Nat} {D : DataW Value} {ps ds : List RV} {x : RV} (h : DlI W g n c D ps i j wr ds) (hx : ps[j]? = some x) (hd : inD D x = false) (hj : j < n) (hB : Below wr.heap.size wr w1) (hO : OwnR w' 0 (.slice (some ⟨g, 0, none⟩) n c) (ds.set i x)) (hP : But g w1 w') : DlI W g n c D ps (i + 1) (j + 1) w' (ds.set i x) := by
  have il : i < ds.length := by have := h.ij; have := h.len; omega
  refine ⟨hO, by rw [List.length_set]; exact h.len, ?_, fun k hk => by rw [List.getElem?_set_ne (by have := h.ij; omega)]; exact h.hi k (by omega), by have := h.ij; omega, hj, (h.off.trans (Off.of hB)).trans (Off.but hP (by simp)), fun y hy => by
    rcases List.mem_or_eq_of_mem_set hy with q | q
    · exact h.sub y q
    · rw [q]; exact List.mem_of_getElem? hx⟩
  obtain ⟨hl, rfl⟩ := List.getElem?_eq_some_iff.1 hx
  rw [List.take_succ_eq_append_getElem hl, List.filter_append, ← h.lo, List.take_succ_eq_append_getElem (by rw [List.length_set]; exact il), List.take_set_of_le (Nat.le_refl _)]
  simp [hd]
/-- What DeleteFunc answers. -/
def DlP (W : World) (v : Value) (c : Nat) (ds : List RV) (e : Ending) (w' : World) : Prop := ∃ a, e = .returned (.slice a ds.length c) ∧ OwnR w' 0 (.slice a ds.length c) ds ∧ (∀ b, (Value.slice a ds.length c).ownBlock = some b → v.ownBlock = some b) ∧ Off v.ownBlock.toList W w'
set_option maxRecDepth 100000 in
set_option maxHeartbeats 4000000 in
theorem ldelete_any {W : World} {m q : Nat} {D : DataW Value} {a : Option Addr} {ps : List RV} (n c : Nat) (hn : ps.length = n) (hO : OwnR W 0 (.slice a n c) ps) (hp : ∀ x ∈ ps, RVOk W (Value.slice a n c).ownBlock.toList x) (hf : n ≤ 50000) (hM : OwnsR W m q D) (hm : ∀ b, (Value.slice a n c).ownBlock = some b → b ≠ m) (hI : ∀ x ∈ ps, Rf x.r) : Calls Try.prog 30 #[.slice a n c, .func (.func 31) #[.map (some m)] #[]] W (DlP W (.slice a n c) c (ps.filter fun x => !inD D x)) := by
  have LS : Hid (LsR W a ps) := hidIt (hO.ls (fun x hx => (hp x hx).any))
  have HN := hidIt (And.intro hn (And.intro hf (And.intro hM hI)))
  have HP := hidIt hp
  have IX := lindexF_any n c hn LS.out hf hM hI
  by_cases hall : ∀ x ∈ ps, inD D x = false
  · have HA := hidIt hall
    have FI : Hid (ps.filter (fun x => !inD D x) = ps) := hidIt (List.filter_eq_self.2 (fun x hx => by rw [hall x hx]; rfl))
    have IX2 := hidIt IX
    have OO := hidIt hO
    clear hn hO hp hf hM hm hI hall IX
    go_enter Try.func30, Try.ntmps30
    go_wp2_with (go_at_call 53; refine IX2.out.mono ?_; rintro e W1 ⟨⟨z, rfl, hz⟩, hb⟩; obtain ⟨rfl, _⟩ : z = -1 ∧ True := (by
        rcases hz with ⟨rfl, _⟩ | ⟨i, x, _, hx, hd, _⟩
        · exact ⟨rfl, trivial⟩
        · rw [HA.out x (List.mem_of_getElem? hx)] at hd; cases hd); have B1 := hidIt hb; clear hb hz)
    exact bodyPost_ret (v := .slice a n c) (by simp [results, Try.results30, go_sem]) rfl ⟨a, by rw [FI.out, HN.out.1], by rw [FI.out, HN.out.1]; exact OO.out.below B1.out, fun b hb => by rw [FI.out, HN.out.1] at hb; exact hb, Off.of B1.out⟩
  · obtain ⟨g, rfl, hg⟩ : ∃ g, a = some ⟨g, 0, none⟩ ∧ g ≠ m := by
      rcases hO.form' hn with ⟨_, h0⟩ | ⟨g, rfl⟩
      · exact absurd (fun x hx => by rw [h0] at hx; cases hx) hall
      · exact ⟨g, rfl, hm g rfl⟩
    have NA := hidIt hall
    have GM := hidIt hg
    have CC : Hid (n ≤ c) := hidIt (by obtain ⟨_, _, h, _⟩ := hO.obj hn; exact h)
    have IX2 := hidIt IX
    have OO := hidIt hO
    clear hn hO hp hf hM hm hI hall IX hg
    go_enter Try.func30, Try.ntmps30
    go_wp2_with (go_at_call 53; refine IX2.out.mono ?_; rintro e W1 ⟨⟨z, rfl, hz⟩, hb⟩; obtain ⟨i, rfl, hx⟩ : ∃ i : Nat, z = (i : Int) ∧ ∃ x, ps[i]? = some x ∧ inD D x = true ∧ ∀ y ∈ ps.take i, inD D y = false := (by
        rcases hz with ⟨_, h⟩ | ⟨i, x, rfl, hx, hd, hy⟩
        · exact absurd h NA.out
        · exact ⟨i, rfl, x, hx, hd, hy⟩); have il : i < n := (by obtain ⟨x, hx, _⟩ := hx; have := (List.getElem?_eq_some_iff.1 hx).1; have := HN.out.1; omega); have B1 := hidIt hb; have HX := hidIt hx; have c0 : ((i : Int) == -1) = false := (by simp); have i3 : IntKind.i64.wrap ((i : Int) + 1) = (i : Int) + 1 := (by rw [IntKind.wrap_i64]; have := HN.out.2.1; omega); have i2 : wrap64 ((i : Int) + 1) = (i : Int) + 1 := (by unfold wrap64; have := HN.out.2.1; omega); have IL := hidIt il; clear hb hx il)
    have ST : Hid (DlI W g n c D ps i (i + 1) W1 ps) := hidIt (by
      obtain ⟨x, hx, hd, hy⟩ := HX.out
      obtain ⟨hl, e⟩ := List.getElem?_eq_some_iff.1 hx
      refine ⟨OO.out.below B1.out, HN.out.1, ?_, fun k _ => rfl, by omega, IL.out, Off.of B1.out, fun _ h => h⟩
      rw [List.take_succ_eq_append_getElem hl, List.filter_append, e, List.filter_eq_self.2 (fun y hy' => by rw [hy y hy']; rfl)]
      simp [hd])
    clear c0 i2 i3
    go_loopw [5, 6] (fun iv jv wr => ∃ (i j : Nat) (ds : List RV), iv = .int .i64 (i : Int) ∧ jv = .int .i64 (j : Int) ∧ Hid (DlI W g n c D ps i j wr ds)) (fun _ jv _ => n - (RowKit.intOf jv).toNat)
    case atStart => exact ⟨i, i + 1, ps, rfl, rfl, ST⟩
    case round =>
      clear ST HX IL
      obtain ⟨i, j, ds, rfl, rfl, HI⟩ := hrel
      rename World => wr
      by_cases hlt : j < n
      · obtain ⟨x, hx⟩ : ∃ x, ps[j]? = some x := ⟨_, List.getElem?_eq_getElem (by have := HN.out.1; omega)⟩
        have hdj : ds[j]? = some x := by rw [HI.out.hi j (Nat.le_refl _)]; exact hx
        have RO : Hid (∀ y ∈ ps, RVOk wr [] y) := hidIt (fun y hy => ((HP.out y hy).off HI.out.off).any)
        obtain ⟨b', o, ha, hr, hb⟩ := (HI.out.own.ls (fun y hy => RO.out y (HI.out.sub y hy))).at j x hdj
        injection ha with ha
        injection ha with e1 e2
        subst e1 e2
        rw [Nat.zero_add] at hr
        have HX := hidIt hx
        have LT := hidIt hlt
        have OX := hidIt (RO.out x (List.mem_of_getElem? hx))
        have KX := hidIt (HN.out.2.2.2 x (List.mem_of_getElem? hx))
        have MW : Hid (∀ U, Below wr.heap.size wr U → OwnsR U m q D) := hidIt (fun U hU => (HN.out.2.2.1.off HI.out.off (by simp; exact fun e => GM.out e.symm)).below hU)
        obtain ⟨i0, i1, i2, i3, i4⟩ := tb_ar j n hlt (by have := HN.out.2.1; omega)
        obtain ⟨k0, k1, k2, k3, _⟩ := tb_ar i n (by have := HI.out.ij; omega) (by have := HN.out.2.1; omega)
        have GO := hidIt i4
        clear hx hlt hdj hb i4
        cases hd : inD D x with
        | true =>
          have HD := hidIt hd
          clear hd
          go_wp2_with (first
            | (refine wpList_load_mid rfl 45 (.tmp 24) rfl g (j * 5) rfl x.cs _ hr Try.underlying45 rfl run_size ?_; clear hr)
            | (refine wpList_alloc_rec rfl 45 rfl _ wr.heap.size rfl run_zero ?_; intro W2 R2 B2 z2; have E2 := hidIt (And.intro B2 z2); have P2 := hidIt R2; clear R2 B2 z2)
            | (refine wpList_store_rec rfl 45 (.tmp 7) (.tmp 25) rfl wr.heap.size 0 _ x.cs rfl rfl P2.out rfl run_size OX.out.one ?_; intro W3 R3 B3; have E3 := hidIt (E2.out.1.trans (B3.below (Nat.le_refl _) (by have := E2.out.2; omega))); have P3 := hidIt R3; clear R3 B3)
            | (refine wpList_load_rec rfl 45 (.tmp 7) rfl wr.heap.size 0 x.cs rfl _ Try.underlying45 rfl run_size P3.out ?_)
            | (go_at_call 31; refine (lhas_any (MW.out _ E3.out) (OX.out.below E3.out) KX.out).mono ?_; rw [show Maps.has D (keyR x.r.ad x.r.st) = true from HD.out]; rintro e W4 ⟨rfl, hb⟩; have NX := hidIt (HI.out.skip HX.out HD.out LT.out (E3.out.trans (hb.mono E3.out.size))); clear hb))
          exact ⟨⟨i, j + 1, ds, rfl, rfl, NX⟩, GO.out⟩
        | false =>
          have HD := hidIt hd
          clear hd
          go_wp2_with (first
            | (refine wpList_load_mid rfl 45 (.tmp 24) rfl g (j * 5) rfl x.cs _ hr Try.underlying45 rfl run_size ?_; clear hr)
            | (refine wpList_alloc_rec rfl 45 rfl _ wr.heap.size rfl run_zero ?_; intro W2 R2 B2 z2; have E2 := hidIt (And.intro B2 z2); have P2 := hidIt R2; clear R2 B2 z2)
            | (refine wpList_store_rec rfl 45 (.tmp 7) (.tmp 25) rfl wr.heap.size 0 _ x.cs rfl rfl P2.out rfl run_size OX.out.one ?_; intro W3 R3 B3; have E3 := hidIt (E2.out.1.trans (B3.below (Nat.le_refl _) (by have := E2.out.2; omega))); have P3 := hidIt R3; clear R3 B3)
            | (refine wpList_load_rec rfl 45 (.tmp 7) rfl wr.heap.size 0 x.cs rfl _ Try.underlying45 rfl run_size P3.out ?_)
            | (go_at_call 31; refine (lhas_any (MW.out _ E3.out) (OX.out.below E3.out) KX.out).mono ?_; rw [show Maps.has D (keyR x.r.ad x.r.st) = false from HD.out]; rintro e W4 ⟨rfl, hb⟩; have E4 := hidIt (E3.out.trans (hb.mono E3.out.size)); have P4 := hidIt (P3.out.below hb); obtain ⟨W5, hr5, O5, B5⟩ := own_put (i := i) (x := x) (HI.out.own.below E4.out) HI.out.len (by have := HI.out.ij; have := LT.out; omega) OX.out.one; have NX := hidIt (HI.out.keep HX.out HD.out LT.out E4.out O5 B5); have R5 := hidIt hr5; clear hb hr5 O5 B5)
            | (refine wpList_load_rec rfl 45 (.tmp 7) rfl wr.heap.size 0 x.cs rfl _ Try.underlying45 rfl run_size P4.out ?_)
            | (refine wpList_mute_w (by rfl) W5 (put_mute 45 (.tmp 33) (.tmp 32) rfl _ _ rfl rfl R5.out) ?_))
          exact ⟨⟨i + 1, j + 1, _, rfl, rfl, NX⟩, GO.out⟩
      · obtain rfl : j = n := by have := HI.out.jn; omega
        have i0 : ((j : Int) < (j : Int)) = False := eq_false (by omega)
        obtain ⟨W2, hr2, O2, B2⟩ := own_clear (i := i) (C := c - i) 0 HI.out.own HI.out.len HI.out.ij
        have EQ : Hid (ds.take i = ps.filter (fun x => !inD D x) ∧ (ps.filter (fun x => !inD D x)).length = i) := hidIt (by
          have h := HI.out.lo
          rw [List.take_of_length_le (l := ps) (by have := HN.out.1; omega)] at h
          exact ⟨h, by rw [← h, List.length_take]; have := HI.out.len; have := HI.out.ij; omega⟩)
        have FIN : Hid (DlP W (.slice (some ⟨g, 0, none⟩) j c) c (ps.filter fun x => !inD D x) (.returned (.slice (some ⟨g, 0, none⟩) i c)) W2) := hidIt ⟨_, by rw [EQ.out.2], by rw [EQ.out.2, ← EQ.out.1]; exact O2, fun b hb => hb, (HI.out.off.trans (Off.but B2 (by simp)))⟩
        have SL := hidIt (slc_low wr g j c i HI.out.ij CC.out)
        have SH := hidIt (slc_high W2 g j c i HI.out.ij CC.out)
        have R2 := hidIt hr2
        clear hlt hr2 O2 B2
        go_wp2_with (first
          | (refine wpList_run_w (by rfl) _ wr (slc_runl (.tmp 36) (.tmp 37) rfl _ _ (some ⟨g, 0, none⟩) j c i rfl rfl rfl (by kernel_rfl) SL.out) ?_)
          | (refine wpList_run_w (by rfl) _ W2 (clear_exec (.tmp 38) 23 rfl _ rfl R2.out) ?_)
          | (refine wpList_run_w (by rfl) _ W2 (slc_runh (.tmp 39) (.tmp 40) rfl _ _ (some ⟨g, 0, none⟩) j c i rfl rfl rfl (by kernel_rfl) SH.out) ?_))
        exact bodyPost_ret (v := .slice (some ⟨g, 0, none⟩) i c) (by simp [results, Try.results30, go_sem]) rfl FIN.out
end Go.Proofs.Ytelcijfcgflagaa
namespace Go.Proofs.Ytelcijfcgflagaa
open Go.RowKit
attribute [-go_sem] Builtin.append_
theorem setCell_self {W : World} {g i : Nat} {v : Value} (h : W.cell? ⟨g, i, none⟩ = some v) : W.setCell ⟨g, i, none⟩ v = W := by
  rw [Sort.setCell_eq]
  obtain ⟨c, e, fr, hc, hi⟩ := Sort.cells_of_cell? h
  refine Sort.mapBlock_id W g _ (fun c' e' fr' hc' => ?_)
  rw [hc] at hc'
  injection hc' with hc'
  injection hc' with h1
  subst h1
  obtain ⟨hl, hv⟩ := Array.getElem?_eq_some_iff.1 hi
  subst hv
  show c.setIfInBounds i c[i] = c
  apply Array.ext_getElem?
  intro k
  rw [Array.getElem?_setIfInBounds]
  split
  · rename_i e; subst e; rw [Array.getElem?_eq_getElem hl]
  · rfl
theorem upd4_self (lv : Nat → Value) (i : Nat) : upd4 lv i (lv i) = lv := by
  funext j
  unfold upd4
  split
  · rename_i h; rw [h]
  · rfl
/-- A level's tables are changed where they are. -/
theorem Fo.keep {B1 : Nat} {W W2 : World} {g i : Nat} {lv : Nat → Value} {os : Nat → List RV} {qs : List RV} (h : Fo B1 W g lv os) (hi : i < 4) (hsz : B1 ≤ W.heap.size) (hI : InsR W (lv i) qs (lv i) W2) (hq : ∀ x ∈ qs, OkT B1 W (foN g lv) x) : Fo B1 W2 g lv (upd4 os i qs) := by
  have k := h.set hi hsz hI hq
  rw [upd4_self] at k
  have hgn : g ∉ (lv i).ownBlock.toList := fun q => (h.new i hi g (by simpa using q)).2 rfl
  have c := ((h.rc.off hI.off hgn).cel i (lv i) (four_at lv hi)).1
  rwa [setCell_self c] at k
/-- What Replace keeps: the plan in its box, and four levels of its own. -/
structure ReI (W : World) (z : Int) (fr to : Value) (d : Bool) (B1 g : Nat) (X : World) (lv : Nat → Value) (os : Nat → List RV) : Prop where
  below : Below W.heap.size W X
  rc : Rec19 X W.heap.size 0 (plC z fr to d)
  fo : Fo B1 X g lv os
  lo : W.heap.size < g ∧ W.heap.size < B1 ∧ B1 ≤ X.heap.size
theorem ReI.below' {W : World} {z : Int} {fr to : Value} {d : Bool} {B1 g : Nat} {X X' : World} {lv : Nat → Value} {os : Nat → List RV} (h : ReI W z fr to d B1 g X lv os) (hB : Below X.heap.size X X') : ReI W z fr to d B1 g X' lv os :=
  ⟨h.below.trans (hB.mono h.below.size), h.rc.below hB, h.fo.below hB, h.lo.1, h.lo.2.1, Nat.le_trans h.lo.2.2 hB.size⟩
/-- A level's cell. -/
theorem ReI.cell {W : World} {z : Int} {fr to : Value} {d : Bool} {B1 g i : Nat} {X : World} {lv : Nat → Value} {os : Nat → List RV} (h : ReI W z fr to d B1 g X lv os) (hi : i < 4) : X.cell? ⟨g, i, none⟩ = some (lv i) := (h.fo.rc.cel i (lv i) (four_at lv hi)).1
theorem ReI.set {W : World} {z : Int} {fr to : Value} {d : Bool} {B1 g i : Nat} {X X2 : World} {lv : Nat → Value} {os : Nat → List RV} {v' : Value} {qs : List RV} (h : ReI W z fr to d B1 g X lv os) (hi : i < 4) (hI : InsR X (lv i) qs v' X2) (hq : ∀ x ∈ qs, OkT B1 X (foN g lv) x) :
    (Instr.storeAt 23 (.pointer (some ⟨g, i, none⟩)) v').run Try.prog X2 = .ok () (X2.setCell ⟨g, i, none⟩ v') ∧ Rec19 X2 W.heap.size 0 (plC z fr to d) ∧ ReI W z fr to d B1 g (X2.setCell ⟨g, i, none⟩ v') (upd4 lv i v') (upd4 os i qs) := by
  have gn : g ∉ (lv i).ownBlock.toList := fun q => (h.fo.new i hi g (by simpa using q)).2 rfl
  have wn : W.heap.size ∉ (lv i).ownBlock.toList := fun q => by have := (h.fo.new i hi _ (by simpa using q)).1; have := h.lo; omega
  have c := (h.fo.rc.off hI.off gn).cel i (lv i) (four_at lv hi)
  obtain ⟨va, vc, hv, _⟩ := hI.own.sl
  have R2 := h.rc.off hI.off wn
  have st : But g X2 (X2.setCell ⟨g, i, none⟩ v') := But.set X2 i v'
  have b2 : Below W.heap.size W X2 := h.below.trans (hI.off.below (fun b hb => by have := (h.fo.new i hi b (by simpa using hb)).1; have := h.lo; omega) h.below.size)
  refine ⟨store_v 23 (by kernel_rfl) (by rw [hv]; rfl) (by rw [hv]; rfl) c.1 c.2, R2, b2.trans (st.below (by have := h.lo; omega) b2.size), R2.but st (by have := h.lo; omega), h.fo.set hi h.lo.2.2 hI hq, h.lo.1, h.lo.2.1, ?_⟩
  have := hI.off.size
  have := st.size
  have := h.lo
  omega
theorem ReI.keep {W : World} {z : Int} {fr to : Value} {d : Bool} {B1 g i : Nat} {X X2 : World} {lv : Nat → Value} {os : Nat → List RV} {qs : List RV} (h : ReI W z fr to d B1 g X lv os) (hi : i < 4) (hI : InsR X (lv i) qs (lv i) X2) (hq : ∀ x ∈ qs, OkT B1 X (foN g lv) x) : ReI W z fr to d B1 g X2 lv (upd4 os i qs) := by
  have wn : W.heap.size ∉ (lv i).ownBlock.toList := fun q => by have := (h.fo.new i hi _ (by simpa using q)).1; have := h.lo; omega
  have b2 : Below W.heap.size W X2 := h.below.trans (hI.off.below (fun b hb => by have := (h.fo.new i hi b (by simpa using hb)).1; have := h.lo; omega) h.below.size)
  exact ⟨b2, h.rc.off hI.off wn, h.fo.keep hi h.lo.2.2 hI hq, h.lo.1, h.lo.2.1, Nat.le_trans h.lo.2.2 hI.off.size⟩
/-- What a level's own row is. -/
theorem ReI.row {W : World} {z : Int} {fr to : Value} {d : Bool} {B1 g i : Nat} {X : World} {lv : Nat → Value} {os : Nat → List RV} (h : ReI W z fr to d B1 g X lv os) (hi : i < 4) : ∃ a c, lv i = .slice a (os i).length c ∧ OwnR X 0 (.slice a (os i).length c) (os i) ∧ (∀ x ∈ os i, RVOk X (Value.slice a (os i).length c).ownBlock.toList x) := by
  obtain ⟨a, c, hv, _⟩ := (h.fo.own i hi).sl
  have o := h.fo.own i hi
  rw [hv] at o
  exact ⟨a, c, hv, o, fun x hx => ((h.fo.oks i hi x hx).2).mono (fun b hb => .inl (foN_of.2 (.inr ⟨i, hi, by rw [hv]; simpa using hb⟩)))⟩
/-- DeleteFunc's answer, as a change of a level. -/
theorem DlP.ins {X w' : World} {v : Value} {c : Nat} {ds : List RV} {e : Ending} (h : DlP X v c ds e w') : ∃ v', e = .returned v' ∧ InsR X v ds v' w' := by
  obtain ⟨a, rfl, ho, hb, hO⟩ := h
  exact ⟨_, rfl, ho, hO, fun g hg => .inl (hb g hg)⟩
/-- Copies, as tables that may be put into a level. -/
theorem OkT.lift {B0 B1 : Nat} {W : World} {N M : List Nat} {x : RV} (h : OkT B0 W N x) (hB : B1 ≤ B0) (hM : ∀ b ∈ M, b < B0) : OkT B1 W M x := ⟨⟨h.1.1.low hB, h.1.2.low hB⟩, h.1.1.txt hM, h.1.2.txt hM⟩
theorem Fo.foN_lt {B1 : Nat} {W : World} {g : Nat} {lv : Nat → Value} {os : Nat → List RV} (h : Fo B1 W g lv os) : ∀ b ∈ foN g lv, b < W.heap.size := fun b hb => by
  rcases foN_of.1 hb with rfl | ⟨i, hi, hb⟩
  · exact h.rc.2.2
  · exact (h.own i hi).lt hb
end Go.Proofs.Ytelcijfcgflagaa
