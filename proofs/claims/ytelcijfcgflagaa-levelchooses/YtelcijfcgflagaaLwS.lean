/-
  Walks, not a claim by itself: the reference's span. By the verifier.
-/
import Derived.Test.YtelcijfcgflagaaLwC
import Derived.Test.YtelcijfcgflagaaLwB
namespace Go.Proofs.Ytelcijfcgflagaa
open Go.RowKit
attribute [-go_sem] Builtin.append_
/-- What some tables span, as Go has it. -/
def spK (ps : List RV) (k : Nat) : RV := ⟨(mF ps k).f, (mL ps k).l, ⟨(ps.getD 0 rv0).r.ad, (ps.getD 0 rv0).r.st, (ps.getD 0 rv0).r.ct, (mF ps k).r.f, (mL ps k).r.l⟩⟩
theorem spK_one (ps : List RV) : (spK ps 1).cs = (ps.getD 0 rv0).cs := by unfold spK; rw [mF_one, mL_one]
theorem spK_ok {W : World} {ps : List RV} (h : ∀ x ∈ ps, RVOk W [] x) (hn : 0 < ps.length) (k : Nat) (hk : k ≤ ps.length) : RVOk W [] (spK ps k) := ⟨(h _ (mF_mem ps hn k hk)).1, (h _ (mL_mem ps hn k hk)).2⟩
theorem gtr_str (a b : ByteArray) (w : World) : (binOp .gtr 9 (.string a) (.string b)).run Try.prog w = .ok (.bool (!decide (cmpB a b ≤ 0))) w := by
  have h0 : (binOp .gtr 9 (.string a) (.string b)).run Try.prog w = .ok (.bool (!(Op.bytesLess a.toList b.toList || (a.toList == b.toList)))) w := rfl
  have h1 := leq_str a b w
  have h2 : (binOp .leq 9 (.string a) (.string b)).run Try.prog w = .ok (.bool (Op.bytesLess a.toList b.toList || (a.toList == b.toList))) w := rfl
  rw [h2] at h1
  injection h1 with h1 _
  injection h1 with h1
  rw [h0, h1]
def SpP (W : World) (ps : List RV) (e : Ending) (w' : World) : Prop := e = .returned (.agg (spK ps ps.length).cs.toArray) ∧ Below W.heap.size W w'
set_option maxRecDepth 100000 in
set_option maxHeartbeats 4000000 in
theorem nspan_any {W : World} {a : Option Addr} {ps : List RV} (n C : Nat) (hn : ps.length = n) (hL : LsR W a ps) (h1 : 0 < n) (hf : n ≤ 50000) : Calls Try.prog 25 #[.slice a n C] W (SpP W ps) := by
  have HL := hidIt hL
  have HN := hidIt (And.intro hn (And.intro h1 hf))
  obtain ⟨x0, hx0⟩ : ∃ x0, ps[0]? = some x0 := ⟨_, List.getElem?_eq_getElem (by omega)⟩
  obtain ⟨b, o, ha, hr0, hb⟩ := hL.at 0 x0 hx0
  subst ha
  rw [Nat.zero_mul, Nat.add_zero] at hr0
  have G0 := hidIt (getD_at hx0)
  have O0 := hidIt (hL.1 x0 (List.mem_of_getElem? hx0))
  have R0 : Hid (∀ U, Below W.heap.size W U → U.rangeAt b o x0.cs) := hidIt (fun U hU j v hj => (hU.cell (p := ⟨b, o + j, none⟩) hb).trans (hr0 j v hj))
  have n1 : ((0 : Int) < (n : Int)) = True := eq_true (by omega)
  have n2 : (0 < n) = True := eq_true h1
  have t1 : Hid True := trivial
  clear hn hL h1 hf hx0 hb hr0
  go_enter Try.func25, Try.ntmps25
  go_wp2_with (first
    | (have _q := t1; clear t1 _q; refine wpList_alloc_rec rfl 45 rfl _ W.heap.size rfl run_zero ?_; intro W1 R1 B1 z1; have E1 := hidIt (And.intro B1 z1); have P1 := hidIt R1; clear R1 B1 z1)
    | (refine wpList_load_mid rfl 45 (.tmp 6) rfl b o rfl x0.cs _ (R0.out _ E1.out.1) Try.underlying45 rfl run_size ?_)
    | (refine wpList_alloc_rec rfl 45 rfl _ (W.heap.size + 1) E1.out.2 run_zero ?_; intro W2 R2 B2 z2; have E2 : Hid (Below W.heap.size W W2 ∧ W2.heap.size = W.heap.size + 2) := hidIt ⟨E1.out.1.trans (B2.mono (by have := E1.out.2; omega)), by have := E1.out.2; omega⟩; have P2 := hidIt R2; have Q2 := hidIt (P1.out.below (by rw [E1.out.2]; exact B2)); clear R2 B2 z2)
    | (refine wpList_store_rec rfl 45 (.tmp 3) (.tmp 7) rfl (W.heap.size + 1) 0 _ x0.cs rfl rfl P2.out rfl run_size O0.out.one ?_; intro W3 R3 B3; have E3 := hidIt (E2.out.1.trans (B3.below (by omega) E2.out.1.size)); have P3 := hidIt R3; have Q3 := hidIt (Q2.out.but B3 (by omega)); clear R3 B3; refine Held.out ?_))
  refine Held.mk ?_
  clear n1 n2
  have ST : Hid (Rec19 W3 (W.heap.size + 1) 0 (spK ps 1).cs ∧ Rec19 W3 W.heap.size 0 [.int .i64 0, .int .i64 0, .int .i64 0, .slice none 0 0, .slice none 0 0] ∧ Below W.heap.size W W3) := hidIt ⟨by rw [spK_one, G0.out]; exact P3.out, Q3.out, E3.out⟩
  go_wp2_with fail
  go_loopw [4] (fun iv wr => ∃ k : Nat, 1 ≤ k ∧ k ≤ n ∧ iv = .int .i64 (k : Int) ∧ Hid (Rec19 wr (W.heap.size + 1) 0 (spK ps k).cs ∧ Rec19 wr W.heap.size 0 [.int .i64 0, .int .i64 0, .int .i64 0, .slice none 0 0, .slice none 0 0] ∧ Below W.heap.size W wr)) (fun iv _ => n - (RowKit.intOf iv).toNat)
  case atStart => exact ⟨1, by omega, HN.out.2.1, rfl, ST⟩
  case round =>
    clear ST E1 P1 E2 P2 Q2 E3 P3 Q3 R0 O0 G0
    obtain ⟨k, hk1, hk, rfl, HI⟩ := hrel
    rename World => wr
    by_cases hlt : k < n
    · obtain ⟨x, hx⟩ : ∃ x, ps[k]? = some x := ⟨_, List.getElem?_eq_getElem (by have := HN.out.1; omega)⟩
      obtain ⟨b', o', ha, hr, hb⟩ := HL.out.at k x hx
      injection ha with ha
      injection ha with e1 e2
      subst e1 e2
      have LT := hidIt hlt
      have K1 := hidIt hk1
      have HX := hidIt hx
      have XR : Hid (∀ U, Below W.heap.size W U → U.cell? ⟨b, o + k * 5 + 3, none⟩ = some x.f ∧ U.cell? ⟨b, o + k * 5 + 4, none⟩ = some x.l) := hidIt (fun U hU => ⟨(hU.cell (p := ⟨b, o + k * 5 + 3, none⟩) hb).trans (hr 3 _ rfl), (hU.cell (p := ⟨b, o + k * 5 + 4, none⟩) hb).trans (hr 4 _ rfl)⟩)
      have OX := hidIt (HL.out.1 x (List.mem_of_getElem? hx))
      have XC := hidIt (And.intro (And.intro OX.out.1.cells OX.out.1.one) (And.intro OX.out.2.cells OX.out.2.one))
      have SO : Hid (∀ U, Below W.heap.size W U → RVOk U [] (spK ps k)) := hidIt (fun U hU => spK_ok (fun y hy => (HL.out.1 y hy).below hU) (by have := HN.out; omega) k (by have := HN.out.1; omega))
      obtain ⟨i0, i1, i2, i3, i4⟩ := tb_ar k n hlt (by have := HN.out.2.2; omega)
      have GO := hidIt i4
      obtain ⟨fo, hfo⟩ : ∃ fo, fo = (mF ps k).f := ⟨_, rfl⟩
      obtain ⟨lo, hlo⟩ : ∃ lo, lo = (mL ps k).l := ⟨_, rfl⟩
      obtain ⟨zs, hzs⟩ : ∃ zs : Int × Int × Int, zs = ((ps.getD 0 rv0).r.ad, (ps.getD 0 rv0).r.st, (ps.getD 0 rv0).r.ct) := ⟨_, rfl⟩
      have CS : Hid ((spK ps k).cs = [.int .i64 zs.1, .int .i64 zs.2.1, .int .i64 zs.2.2, fo, lo]) := hidIt (by rw [hzs, hfo, hlo]; rfl)
      have P0 := HI.out.1
      rw [CS.out] at P0
      have PB := hidIt P0
      have QB := hidIt HI.out.2.1
      have EB := hidIt HI.out.2.2
      have FO : Hid (∀ U, Below W.heap.size W U → Txt U [] fo (mF ps k).r.f ∧ Txt U [] lo (mL ps k).r.l) := hidIt (fun U hU => by rw [hfo, hlo]; exact ⟨(SO.out U hU).1, (SO.out U hU).2⟩)
      have EQ := hidIt (And.intro hfo (And.intro hlo hzs))
      clear hx hlt hk hk1 hb hr i4 P0 hfo hlo hzs
      by_cases C1 : cmpB x.r.f (mF ps k).r.f < 0
      · have C1 := hidIt (show cmpB x.r.f (mF ps k).r.f < 0 from C1)
        by_cases C2 : cmpB (mL ps k).r.l x.r.l < 0
        · have C2 := hidIt (show cmpB (mL ps k).r.l x.r.l < 0 from C2)
          have PD := hidIt (PB.out.below (Below.refl _ _).drew)
          have QD := hidIt (QB.out.below (Below.refl _ _).drew)
          have ED := hidIt EB.out.drew
          have hb1 : Op.bytesLess x.r.f.toList (mF ps k).r.f.toList = true := by rw [less_isR, decide_eq_true C1.out]
          go_wp2_with fail
          refine wp_region_noPanic ?_
          refine wp_region_held_drew (S := fun w' => w'.cell? ⟨b, o + k * 5 + 3, none⟩ = some x.f ∧ w'.cell? ⟨W.heap.size + 1, 3, none⟩ = some fo ∧ (convert 43 9 x.f).run Try.prog w' = .ok (.string x.r.f) w' ∧ (convert 43 9 fo).run Try.prog w' = .ok (.string (mF ps k).r.f) w') (by kernel_rfl) ?_ (fun hHeld => ?_)
          · exact ⟨(XR.out _ ED.out).1, (PD.out.cel 3 _ rfl).1, conv_ofR (OX.out.1.below ED.out), conv_ofR (FO.out _ ED.out).1⟩
          refine take_at (i := 0) (v := ?_) (some 14) rfl rfl (by kernel_rfl) (by kernel_rfl) (by kernel_rfl) (fun _ _ _ h => h) (Or.inl ⟨by rfl, ?_⟩) (by assumption) ?_
          rotate_left
          · (intro w hSw; (try dsimp only at hSw); go_simp; try with_reducible rfl)
          simp only [Act.put, List.setIfInBounds_toArray, List.set_cons_zero, List.set_cons_succ]
          refine take_at (i := 1) (v := ?_) (some 15) rfl rfl (by kernel_rfl) (by kernel_rfl) (by kernel_rfl) (fun _ _ _ h => h) (Or.inl ⟨by rfl, ?_⟩) (by assumption) ?_
          rotate_left
          · (intro w hSw; (try dsimp only at hSw); go_simp; try with_reducible rfl)
          simp only [Act.put, List.setIfInBounds_toArray, List.set_cons_zero, List.set_cons_succ]
          refine take_at (i := 2) (v := ?_) (some 16) rfl rfl (by kernel_rfl) (by kernel_rfl) (by kernel_rfl) (fun _ _ _ h => h) (Or.inl ⟨by rfl, ?_⟩) (by assumption) ?_
          rotate_left
          · (intro w hSw; (try dsimp only at hSw); go_simp; try with_reducible rfl)
          simp only [Act.put, List.setIfInBounds_toArray, List.set_cons_zero, List.set_cons_succ]
          refine take_at (i := 3) (v := ?_) (some 17) rfl rfl (by kernel_rfl) (by kernel_rfl) (by kernel_rfl) (fun _ _ _ h => h) (Or.inl ⟨by rfl, ?_⟩) (by assumption) ?_
          rotate_left
          · (intro w hSw; (try dsimp only at hSw); go_simp; try with_reducible rfl)
          simp only [Act.put, List.setIfInBounds_toArray, List.set_cons_zero, List.set_cons_succ]
          refine take_at (i := 4) (v := ?_) (some 18) rfl rfl (by kernel_rfl) (by kernel_rfl) (by kernel_rfl) (fun _ _ _ h => h) (Or.inl ⟨by rfl, ?_⟩) (by assumption) ?_
          rotate_left
          · (intro w hSw; (try dsimp only at hSw); go_simp; try with_reducible rfl)
          simp only [Act.put, List.setIfInBounds_toArray, List.set_cons_zero, List.set_cons_succ]
          refine take_at (i := 5) (v := ?_) (some 19) rfl rfl (by kernel_rfl) (by kernel_rfl) (by kernel_rfl) (fun _ _ _ h => h) (Or.inl ⟨by rfl, ?_⟩) (by assumption) ?_
          rotate_left
          · (intro w hSw; (try dsimp only at hSw); go_simp; try with_reducible rfl)
          simp only [Act.put, List.setIfInBounds_toArray, List.set_cons_zero, List.set_cons_succ]
          refine take_at (i := 6) (v := ?_) (some 20) rfl rfl (by kernel_rfl) (by kernel_rfl) (by kernel_rfl) (fun _ _ _ h => h) (Or.inl ⟨by rfl, ?_⟩) (by assumption) ?_
          rotate_left
          · (intro w hSw; (try dsimp only at hSw); go_simp; try with_reducible rfl)
          simp only [Act.put, List.setIfInBounds_toArray, List.set_cons_zero, List.set_cons_succ]
          refine take_at (i := 7) (v := ?_) (some 21) rfl rfl (by kernel_rfl) (by kernel_rfl) (by kernel_rfl) (fun _ _ _ h => h) (Or.inl ⟨by rfl, ?_⟩) (by assumption) ?_
          rotate_left
          · (intro w hSw; (try dsimp only at hSw); go_simp; try with_reducible rfl)
          simp only [Act.put, List.setIfInBounds_toArray, List.set_cons_zero, List.set_cons_succ]
          refine take_at (i := 8) (v := ?_) (some 22) rfl rfl (by kernel_rfl) (by kernel_rfl) (by kernel_rfl) (fun _ _ _ h => h) (Or.inl ⟨by rfl, ?_⟩) (by assumption) ?_
          rotate_left
          · (intro w hSw; (try dsimp only at hSw); go_simp; try with_reducible rfl)
          simp only [Act.put, List.setIfInBounds_toArray, List.set_cons_zero, List.set_cons_succ]
          refine take_at (i := 9) (v := ?_) (some 23) rfl rfl (by kernel_rfl) (by kernel_rfl) (by kernel_rfl) (fun _ _ _ h => h) (Or.inl ⟨by rfl, ?_⟩) (by assumption) ?_
          rotate_left
          · (intro w hSw; (try dsimp only at hSw); go_simp; try with_reducible rfl)
          simp only [Act.put, List.setIfInBounds_toArray, List.set_cons_zero, List.set_cons_succ]
          refine wpAnyH_done (by kernel_rfl) ?_ _
          refine NoPanic.normal ?_
          clear hHeld hb1
          have xf := (XR.out _ ED.out).1
          go_wp2_with (refine wpList_put_rec rfl 43 (.tmp 29) (.tmp 28) rfl (W.heap.size + 1) 3 _ [x.f] [.int .i64 zs.1, .int .i64 zs.2.1, .int .i64 zs.2.2, x.f, lo] x.f rfl rfl XC.out.1.1 PD.out (by show 3 + 1 ≤ 5; omega) rfl (by kernel_rfl) (by intro u hu; rcases List.mem_singleton.1 hu with rfl; exact XC.out.1.2) ?_; intro W5 R5 B5 z5; have P5 := hidIt R5; have Q5 := hidIt (QD.out.but B5 (by omega)); have E5 := hidIt (ED.out.trans (B5.below (by omega) ED.out.size)); clear R5 B5 z5 xf)
          clear PD QD ED
          have PD := hidIt (P5.out.below (Below.refl _ _).drew)
          have QD := hidIt (Q5.out.below (Below.refl _ _).drew)
          have ED := hidIt E5.out.drew
          have hb2 : ∀ w, (binOp .gtr 9 (.string x.r.l) (.string (mL ps k).r.l)).run Try.prog w = .ok (.bool true) w := fun w => by rw [gtr_str, decide_eq_false (by have := C2.out; have := c_anti x.r.l (mL ps k).r.l; omega)]; rfl
          refine wp_region_noPanic ?_
          refine wp_region_held_drew (S := fun w' => w'.cell? ⟨b, o + k * 5 + 4, none⟩ = some x.l ∧ w'.cell? ⟨W.heap.size + 1, 4, none⟩ = some lo ∧ (convert 43 9 x.l).run Try.prog w' = .ok (.string x.r.l) w' ∧ (convert 43 9 lo).run Try.prog w' = .ok (.string (mL ps k).r.l) w') (by kernel_rfl) ?_ (fun hHeld => ?_)
          · exact ⟨(XR.out _ ED.out).2, (PD.out.cel 4 _ rfl).1, conv_ofR (OX.out.2.below ED.out), conv_ofR (FO.out _ ED.out).2⟩
          refine take_at (i := 0) (v := ?_) (some 30) rfl rfl (by kernel_rfl) (by kernel_rfl) (by kernel_rfl) (fun _ _ _ h => h) (Or.inl ⟨by rfl, ?_⟩) (by assumption) ?_
          rotate_left
          · (intro w hSw; (try dsimp only at hSw); go_simp; try with_reducible rfl)
          simp only [Act.put, List.setIfInBounds_toArray, List.set_cons_zero, List.set_cons_succ]
          refine take_at (i := 1) (v := ?_) (some 31) rfl rfl (by kernel_rfl) (by kernel_rfl) (by kernel_rfl) (fun _ _ _ h => h) (Or.inl ⟨by rfl, ?_⟩) (by assumption) ?_
          rotate_left
          · (intro w hSw; (try dsimp only at hSw); go_simp; try with_reducible rfl)
          simp only [Act.put, List.setIfInBounds_toArray, List.set_cons_zero, List.set_cons_succ]
          refine take_at (i := 2) (v := ?_) (some 32) rfl rfl (by kernel_rfl) (by kernel_rfl) (by kernel_rfl) (fun _ _ _ h => h) (Or.inl ⟨by rfl, ?_⟩) (by assumption) ?_
          rotate_left
          · (intro w hSw; (try dsimp only at hSw); go_simp; try with_reducible rfl)
          simp only [Act.put, List.setIfInBounds_toArray, List.set_cons_zero, List.set_cons_succ]
          refine take_at (i := 3) (v := ?_) (some 33) rfl rfl (by kernel_rfl) (by kernel_rfl) (by kernel_rfl) (fun _ _ _ h => h) (Or.inl ⟨by rfl, ?_⟩) (by assumption) ?_
          rotate_left
          · (intro w hSw; (try dsimp only at hSw); go_simp; try with_reducible rfl)
          simp only [Act.put, List.setIfInBounds_toArray, List.set_cons_zero, List.set_cons_succ]
          refine take_at (i := 4) (v := ?_) (some 34) rfl rfl (by kernel_rfl) (by kernel_rfl) (by kernel_rfl) (fun _ _ _ h => h) (Or.inl ⟨by rfl, ?_⟩) (by assumption) ?_
          rotate_left
          · (intro w hSw; (try dsimp only at hSw); go_simp; try with_reducible rfl)
          simp only [Act.put, List.setIfInBounds_toArray, List.set_cons_zero, List.set_cons_succ]
          refine take_at (i := 5) (v := ?_) (some 35) rfl rfl (by kernel_rfl) (by kernel_rfl) (by kernel_rfl) (fun _ _ _ h => h) (Or.inl ⟨by rfl, ?_⟩) (by assumption) ?_
          rotate_left
          · (intro w hSw; (try dsimp only at hSw); go_simp; try with_reducible rfl)
          simp only [Act.put, List.setIfInBounds_toArray, List.set_cons_zero, List.set_cons_succ]
          refine take_at (i := 6) (v := ?_) (some 36) rfl rfl (by kernel_rfl) (by kernel_rfl) (by kernel_rfl) (fun _ _ _ h => h) (Or.inl ⟨by rfl, ?_⟩) (by assumption) ?_
          rotate_left
          · (intro w hSw; (try dsimp only at hSw); go_simp; try with_reducible rfl)
          simp only [Act.put, List.setIfInBounds_toArray, List.set_cons_zero, List.set_cons_succ]
          refine take_at (i := 7) (v := ?_) (some 37) rfl rfl (by kernel_rfl) (by kernel_rfl) (by kernel_rfl) (fun _ _ _ h => h) (Or.inl ⟨by rfl, ?_⟩) (by assumption) ?_
          rotate_left
          · (intro w hSw; (try dsimp only at hSw); go_simp; try with_reducible rfl)
          simp only [Act.put, List.setIfInBounds_toArray, List.set_cons_zero, List.set_cons_succ]
          refine take_at (i := 8) (v := ?_) (some 38) rfl rfl (by kernel_rfl) (by kernel_rfl) (by kernel_rfl) (fun _ _ _ h => h) (Or.inl ⟨by rfl, ?_⟩) (by assumption) ?_
          rotate_left
          · (intro w hSw; (try dsimp only at hSw); go_simp; try with_reducible rfl)
          simp only [Act.put, List.setIfInBounds_toArray, List.set_cons_zero, List.set_cons_succ]
          refine take_at (i := 9) (v := ?_) (some 39) rfl rfl (by kernel_rfl) (by kernel_rfl) (by kernel_rfl) (fun _ _ _ h => h) (Or.inl ⟨by rfl, ?_⟩) (by assumption) ?_
          rotate_left
          · (intro w hSw; (try dsimp only at hSw); go_simp; try with_reducible rfl)
          simp only [Act.put, List.setIfInBounds_toArray, List.set_cons_zero, List.set_cons_succ]
          refine wpAnyH_done (by kernel_rfl) ?_ _
          refine NoPanic.normal ?_
          clear hHeld hb2
          have xf := (XR.out _ ED.out).2
          go_wp2_with (refine wpList_put_rec rfl 43 (.tmp 45) (.tmp 44) rfl (W.heap.size + 1) 4 _ [x.l] [.int .i64 zs.1, .int .i64 zs.2.1, .int .i64 zs.2.2, x.f, x.l] x.l rfl rfl XC.out.2.1 PD.out (by show 4 + 1 ≤ 5; omega) rfl (by kernel_rfl) (by intro u hu; rcases List.mem_singleton.1 hu with rfl; exact XC.out.2.2) ?_; intro W6 R6 B6 z6; have P6 := hidIt R6; have Q6 := hidIt (QD.out.but B6 (by omega)); have E6 := hidIt (ED.out.trans (B6.below (by omega) ED.out.size)); clear R6 B6 z6 xf; refine Held.out ?_)
          refine Held.mk ?_
          have NX := hidIt (And.intro (show Rec19 _ (W.heap.size + 1) 0 (spK ps (k + 1)).cs by have q := P6.out; have e : (spK ps (k + 1)).cs = [.int .i64 zs.1, .int .i64 zs.2.1, .int .i64 zs.2.2, x.f, x.l] := (by unfold spK; rw [mF_yes HX.out (by have := C1.out; omega), mL_yes HX.out (by have := C2.out; have := c_anti x.r.l (mL ps k).r.l; omega), EQ.out.2.2]; rfl); rw [e]; exact q) (And.intro Q6.out E6.out))
          clear P6 Q6 E6 PD QD ED P5 Q5 E5
          go_wp2_with fail
          exact ⟨⟨k + 1, by have := K1.out; omega, LT.out, rfl, NX⟩, GO.out⟩
        · have C2 := hidIt (show ¬ cmpB (mL ps k).r.l x.r.l < 0 from C2)
          have PD := hidIt (PB.out.below (Below.refl _ _).drew)
          have QD := hidIt (QB.out.below (Below.refl _ _).drew)
          have ED := hidIt EB.out.drew
          have hb1 : Op.bytesLess x.r.f.toList (mF ps k).r.f.toList = true := by rw [less_isR, decide_eq_true C1.out]
          go_wp2_with fail
          refine wp_region_noPanic ?_
          refine wp_region_held_drew (S := fun w' => w'.cell? ⟨b, o + k * 5 + 3, none⟩ = some x.f ∧ w'.cell? ⟨W.heap.size + 1, 3, none⟩ = some fo ∧ (convert 43 9 x.f).run Try.prog w' = .ok (.string x.r.f) w' ∧ (convert 43 9 fo).run Try.prog w' = .ok (.string (mF ps k).r.f) w') (by kernel_rfl) ?_ (fun hHeld => ?_)
          · exact ⟨(XR.out _ ED.out).1, (PD.out.cel 3 _ rfl).1, conv_ofR (OX.out.1.below ED.out), conv_ofR (FO.out _ ED.out).1⟩
          refine take_at (i := 0) (v := ?_) (some 14) rfl rfl (by kernel_rfl) (by kernel_rfl) (by kernel_rfl) (fun _ _ _ h => h) (Or.inl ⟨by rfl, ?_⟩) (by assumption) ?_
          rotate_left
          · (intro w hSw; (try dsimp only at hSw); go_simp; try with_reducible rfl)
          simp only [Act.put, List.setIfInBounds_toArray, List.set_cons_zero, List.set_cons_succ]
          refine take_at (i := 1) (v := ?_) (some 15) rfl rfl (by kernel_rfl) (by kernel_rfl) (by kernel_rfl) (fun _ _ _ h => h) (Or.inl ⟨by rfl, ?_⟩) (by assumption) ?_
          rotate_left
          · (intro w hSw; (try dsimp only at hSw); go_simp; try with_reducible rfl)
          simp only [Act.put, List.setIfInBounds_toArray, List.set_cons_zero, List.set_cons_succ]
          refine take_at (i := 2) (v := ?_) (some 16) rfl rfl (by kernel_rfl) (by kernel_rfl) (by kernel_rfl) (fun _ _ _ h => h) (Or.inl ⟨by rfl, ?_⟩) (by assumption) ?_
          rotate_left
          · (intro w hSw; (try dsimp only at hSw); go_simp; try with_reducible rfl)
          simp only [Act.put, List.setIfInBounds_toArray, List.set_cons_zero, List.set_cons_succ]
          refine take_at (i := 3) (v := ?_) (some 17) rfl rfl (by kernel_rfl) (by kernel_rfl) (by kernel_rfl) (fun _ _ _ h => h) (Or.inl ⟨by rfl, ?_⟩) (by assumption) ?_
          rotate_left
          · (intro w hSw; (try dsimp only at hSw); go_simp; try with_reducible rfl)
          simp only [Act.put, List.setIfInBounds_toArray, List.set_cons_zero, List.set_cons_succ]
          refine take_at (i := 4) (v := ?_) (some 18) rfl rfl (by kernel_rfl) (by kernel_rfl) (by kernel_rfl) (fun _ _ _ h => h) (Or.inl ⟨by rfl, ?_⟩) (by assumption) ?_
          rotate_left
          · (intro w hSw; (try dsimp only at hSw); go_simp; try with_reducible rfl)
          simp only [Act.put, List.setIfInBounds_toArray, List.set_cons_zero, List.set_cons_succ]
          refine take_at (i := 5) (v := ?_) (some 19) rfl rfl (by kernel_rfl) (by kernel_rfl) (by kernel_rfl) (fun _ _ _ h => h) (Or.inl ⟨by rfl, ?_⟩) (by assumption) ?_
          rotate_left
          · (intro w hSw; (try dsimp only at hSw); go_simp; try with_reducible rfl)
          simp only [Act.put, List.setIfInBounds_toArray, List.set_cons_zero, List.set_cons_succ]
          refine take_at (i := 6) (v := ?_) (some 20) rfl rfl (by kernel_rfl) (by kernel_rfl) (by kernel_rfl) (fun _ _ _ h => h) (Or.inl ⟨by rfl, ?_⟩) (by assumption) ?_
          rotate_left
          · (intro w hSw; (try dsimp only at hSw); go_simp; try with_reducible rfl)
          simp only [Act.put, List.setIfInBounds_toArray, List.set_cons_zero, List.set_cons_succ]
          refine take_at (i := 7) (v := ?_) (some 21) rfl rfl (by kernel_rfl) (by kernel_rfl) (by kernel_rfl) (fun _ _ _ h => h) (Or.inl ⟨by rfl, ?_⟩) (by assumption) ?_
          rotate_left
          · (intro w hSw; (try dsimp only at hSw); go_simp; try with_reducible rfl)
          simp only [Act.put, List.setIfInBounds_toArray, List.set_cons_zero, List.set_cons_succ]
          refine take_at (i := 8) (v := ?_) (some 22) rfl rfl (by kernel_rfl) (by kernel_rfl) (by kernel_rfl) (fun _ _ _ h => h) (Or.inl ⟨by rfl, ?_⟩) (by assumption) ?_
          rotate_left
          · (intro w hSw; (try dsimp only at hSw); go_simp; try with_reducible rfl)
          simp only [Act.put, List.setIfInBounds_toArray, List.set_cons_zero, List.set_cons_succ]
          refine take_at (i := 9) (v := ?_) (some 23) rfl rfl (by kernel_rfl) (by kernel_rfl) (by kernel_rfl) (fun _ _ _ h => h) (Or.inl ⟨by rfl, ?_⟩) (by assumption) ?_
          rotate_left
          · (intro w hSw; (try dsimp only at hSw); go_simp; try with_reducible rfl)
          simp only [Act.put, List.setIfInBounds_toArray, List.set_cons_zero, List.set_cons_succ]
          refine wpAnyH_done (by kernel_rfl) ?_ _
          refine NoPanic.normal ?_
          clear hHeld hb1
          have xf := (XR.out _ ED.out).1
          go_wp2_with (refine wpList_put_rec rfl 43 (.tmp 29) (.tmp 28) rfl (W.heap.size + 1) 3 _ [x.f] [.int .i64 zs.1, .int .i64 zs.2.1, .int .i64 zs.2.2, x.f, lo] x.f rfl rfl XC.out.1.1 PD.out (by show 3 + 1 ≤ 5; omega) rfl (by kernel_rfl) (by intro u hu; rcases List.mem_singleton.1 hu with rfl; exact XC.out.1.2) ?_; intro W5 R5 B5 z5; have P5 := hidIt R5; have Q5 := hidIt (QD.out.but B5 (by omega)); have E5 := hidIt (ED.out.trans (B5.below (by omega) ED.out.size)); clear R5 B5 z5 xf)
          clear PD QD ED
          have PD := hidIt (P5.out.below (Below.refl _ _).drew)
          have QD := hidIt (Q5.out.below (Below.refl _ _).drew)
          have ED := hidIt E5.out.drew
          have hb2 : ∀ w, (binOp .gtr 9 (.string x.r.l) (.string (mL ps k).r.l)).run Try.prog w = .ok (.bool false) w := fun w => by rw [gtr_str, decide_eq_true (by have := C2.out; have := c_anti x.r.l (mL ps k).r.l; omega)]; rfl
          refine wp_region_noPanic ?_
          refine wp_region_held_drew (S := fun w' => w'.cell? ⟨b, o + k * 5 + 4, none⟩ = some x.l ∧ w'.cell? ⟨W.heap.size + 1, 4, none⟩ = some lo ∧ (convert 43 9 x.l).run Try.prog w' = .ok (.string x.r.l) w' ∧ (convert 43 9 lo).run Try.prog w' = .ok (.string (mL ps k).r.l) w') (by kernel_rfl) ?_ (fun hHeld => ?_)
          · exact ⟨(XR.out _ ED.out).2, (PD.out.cel 4 _ rfl).1, conv_ofR (OX.out.2.below ED.out), conv_ofR (FO.out _ ED.out).2⟩
          refine take_at (i := 0) (v := ?_) (some 30) rfl rfl (by kernel_rfl) (by kernel_rfl) (by kernel_rfl) (fun _ _ _ h => h) (Or.inl ⟨by rfl, ?_⟩) (by assumption) ?_
          rotate_left
          · (intro w hSw; (try dsimp only at hSw); go_simp; try with_reducible rfl)
          simp only [Act.put, List.setIfInBounds_toArray, List.set_cons_zero, List.set_cons_succ]
          refine take_at (i := 1) (v := ?_) (some 31) rfl rfl (by kernel_rfl) (by kernel_rfl) (by kernel_rfl) (fun _ _ _ h => h) (Or.inl ⟨by rfl, ?_⟩) (by assumption) ?_
          rotate_left
          · (intro w hSw; (try dsimp only at hSw); go_simp; try with_reducible rfl)
          simp only [Act.put, List.setIfInBounds_toArray, List.set_cons_zero, List.set_cons_succ]
          refine take_at (i := 2) (v := ?_) (some 32) rfl rfl (by kernel_rfl) (by kernel_rfl) (by kernel_rfl) (fun _ _ _ h => h) (Or.inl ⟨by rfl, ?_⟩) (by assumption) ?_
          rotate_left
          · (intro w hSw; (try dsimp only at hSw); go_simp; try with_reducible rfl)
          simp only [Act.put, List.setIfInBounds_toArray, List.set_cons_zero, List.set_cons_succ]
          refine take_at (i := 3) (v := ?_) (some 33) rfl rfl (by kernel_rfl) (by kernel_rfl) (by kernel_rfl) (fun _ _ _ h => h) (Or.inl ⟨by rfl, ?_⟩) (by assumption) ?_
          rotate_left
          · (intro w hSw; (try dsimp only at hSw); go_simp; try with_reducible rfl)
          simp only [Act.put, List.setIfInBounds_toArray, List.set_cons_zero, List.set_cons_succ]
          refine take_at (i := 4) (v := ?_) (some 34) rfl rfl (by kernel_rfl) (by kernel_rfl) (by kernel_rfl) (fun _ _ _ h => h) (Or.inl ⟨by rfl, ?_⟩) (by assumption) ?_
          rotate_left
          · (intro w hSw; (try dsimp only at hSw); go_simp; try with_reducible rfl)
          simp only [Act.put, List.setIfInBounds_toArray, List.set_cons_zero, List.set_cons_succ]
          refine take_at (i := 5) (v := ?_) (some 35) rfl rfl (by kernel_rfl) (by kernel_rfl) (by kernel_rfl) (fun _ _ _ h => h) (Or.inl ⟨by rfl, ?_⟩) (by assumption) ?_
          rotate_left
          · (intro w hSw; (try dsimp only at hSw); go_simp; try with_reducible rfl)
          simp only [Act.put, List.setIfInBounds_toArray, List.set_cons_zero, List.set_cons_succ]
          refine take_at (i := 6) (v := ?_) (some 36) rfl rfl (by kernel_rfl) (by kernel_rfl) (by kernel_rfl) (fun _ _ _ h => h) (Or.inl ⟨by rfl, ?_⟩) (by assumption) ?_
          rotate_left
          · (intro w hSw; (try dsimp only at hSw); go_simp; try with_reducible rfl)
          simp only [Act.put, List.setIfInBounds_toArray, List.set_cons_zero, List.set_cons_succ]
          refine take_at (i := 7) (v := ?_) (some 37) rfl rfl (by kernel_rfl) (by kernel_rfl) (by kernel_rfl) (fun _ _ _ h => h) (Or.inl ⟨by rfl, ?_⟩) (by assumption) ?_
          rotate_left
          · (intro w hSw; (try dsimp only at hSw); go_simp; try with_reducible rfl)
          simp only [Act.put, List.setIfInBounds_toArray, List.set_cons_zero, List.set_cons_succ]
          refine take_at (i := 8) (v := ?_) (some 38) rfl rfl (by kernel_rfl) (by kernel_rfl) (by kernel_rfl) (fun _ _ _ h => h) (Or.inl ⟨by rfl, ?_⟩) (by assumption) ?_
          rotate_left
          · (intro w hSw; (try dsimp only at hSw); go_simp; try with_reducible rfl)
          simp only [Act.put, List.setIfInBounds_toArray, List.set_cons_zero, List.set_cons_succ]
          refine take_at (i := 9) (v := ?_) (some 39) rfl rfl (by kernel_rfl) (by kernel_rfl) (by kernel_rfl) (fun _ _ _ h => h) (Or.inl ⟨by rfl, ?_⟩) (by assumption) ?_
          rotate_left
          · (intro w hSw; (try dsimp only at hSw); go_simp; try with_reducible rfl)
          simp only [Act.put, List.setIfInBounds_toArray, List.set_cons_zero, List.set_cons_succ]
          refine wpAnyH_done (by kernel_rfl) ?_ _
          refine NoPanic.normal ?_
          clear hHeld hb2
          have P6 := PD; have Q6 := QD; have E6 := ED
          have NX := hidIt (And.intro (show Rec19 _ (W.heap.size + 1) 0 (spK ps (k + 1)).cs by have q := P6.out; have e : (spK ps (k + 1)).cs = [.int .i64 zs.1, .int .i64 zs.2.1, .int .i64 zs.2.2, x.f, lo] := (by unfold spK; rw [mF_yes HX.out (by have := C1.out; omega), mL_no HX.out (by have := C2.out; have := c_anti x.r.l (mL ps k).r.l; omega), EQ.out.2.2]; rw [EQ.out.2.1]; rfl); rw [e]; exact q) (And.intro Q6.out E6.out))
          clear P6 Q6 E6 PD QD ED P5 Q5 E5
          go_wp2_with fail
          exact ⟨⟨k + 1, by have := K1.out; omega, LT.out, rfl, NX⟩, GO.out⟩
      · have C1 := hidIt (show ¬ cmpB x.r.f (mF ps k).r.f < 0 from C1)
        by_cases C2 : cmpB (mL ps k).r.l x.r.l < 0
        · have C2 := hidIt (show cmpB (mL ps k).r.l x.r.l < 0 from C2)
          have PD := hidIt (PB.out.below (Below.refl _ _).drew)
          have QD := hidIt (QB.out.below (Below.refl _ _).drew)
          have ED := hidIt EB.out.drew
          have hb1 : Op.bytesLess x.r.f.toList (mF ps k).r.f.toList = false := by rw [less_isR, decide_eq_false (by have := C1.out; omega)]
          go_wp2_with fail
          refine wp_region_noPanic ?_
          refine wp_region_held_drew (S := fun w' => w'.cell? ⟨b, o + k * 5 + 3, none⟩ = some x.f ∧ w'.cell? ⟨W.heap.size + 1, 3, none⟩ = some fo ∧ (convert 43 9 x.f).run Try.prog w' = .ok (.string x.r.f) w' ∧ (convert 43 9 fo).run Try.prog w' = .ok (.string (mF ps k).r.f) w') (by kernel_rfl) ?_ (fun hHeld => ?_)
          · exact ⟨(XR.out _ ED.out).1, (PD.out.cel 3 _ rfl).1, conv_ofR (OX.out.1.below ED.out), conv_ofR (FO.out _ ED.out).1⟩
          refine take_at (i := 0) (v := ?_) (some 14) rfl rfl (by kernel_rfl) (by kernel_rfl) (by kernel_rfl) (fun _ _ _ h => h) (Or.inl ⟨by rfl, ?_⟩) (by assumption) ?_
          rotate_left
          · (intro w hSw; (try dsimp only at hSw); go_simp; try with_reducible rfl)
          simp only [Act.put, List.setIfInBounds_toArray, List.set_cons_zero, List.set_cons_succ]
          refine take_at (i := 1) (v := ?_) (some 15) rfl rfl (by kernel_rfl) (by kernel_rfl) (by kernel_rfl) (fun _ _ _ h => h) (Or.inl ⟨by rfl, ?_⟩) (by assumption) ?_
          rotate_left
          · (intro w hSw; (try dsimp only at hSw); go_simp; try with_reducible rfl)
          simp only [Act.put, List.setIfInBounds_toArray, List.set_cons_zero, List.set_cons_succ]
          refine take_at (i := 2) (v := ?_) (some 16) rfl rfl (by kernel_rfl) (by kernel_rfl) (by kernel_rfl) (fun _ _ _ h => h) (Or.inl ⟨by rfl, ?_⟩) (by assumption) ?_
          rotate_left
          · (intro w hSw; (try dsimp only at hSw); go_simp; try with_reducible rfl)
          simp only [Act.put, List.setIfInBounds_toArray, List.set_cons_zero, List.set_cons_succ]
          refine take_at (i := 3) (v := ?_) (some 17) rfl rfl (by kernel_rfl) (by kernel_rfl) (by kernel_rfl) (fun _ _ _ h => h) (Or.inl ⟨by rfl, ?_⟩) (by assumption) ?_
          rotate_left
          · (intro w hSw; (try dsimp only at hSw); go_simp; try with_reducible rfl)
          simp only [Act.put, List.setIfInBounds_toArray, List.set_cons_zero, List.set_cons_succ]
          refine take_at (i := 4) (v := ?_) (some 18) rfl rfl (by kernel_rfl) (by kernel_rfl) (by kernel_rfl) (fun _ _ _ h => h) (Or.inl ⟨by rfl, ?_⟩) (by assumption) ?_
          rotate_left
          · (intro w hSw; (try dsimp only at hSw); go_simp; try with_reducible rfl)
          simp only [Act.put, List.setIfInBounds_toArray, List.set_cons_zero, List.set_cons_succ]
          refine take_at (i := 5) (v := ?_) (some 19) rfl rfl (by kernel_rfl) (by kernel_rfl) (by kernel_rfl) (fun _ _ _ h => h) (Or.inl ⟨by rfl, ?_⟩) (by assumption) ?_
          rotate_left
          · (intro w hSw; (try dsimp only at hSw); go_simp; try with_reducible rfl)
          simp only [Act.put, List.setIfInBounds_toArray, List.set_cons_zero, List.set_cons_succ]
          refine take_at (i := 6) (v := ?_) (some 20) rfl rfl (by kernel_rfl) (by kernel_rfl) (by kernel_rfl) (fun _ _ _ h => h) (Or.inl ⟨by rfl, ?_⟩) (by assumption) ?_
          rotate_left
          · (intro w hSw; (try dsimp only at hSw); go_simp; try with_reducible rfl)
          simp only [Act.put, List.setIfInBounds_toArray, List.set_cons_zero, List.set_cons_succ]
          refine take_at (i := 7) (v := ?_) (some 21) rfl rfl (by kernel_rfl) (by kernel_rfl) (by kernel_rfl) (fun _ _ _ h => h) (Or.inl ⟨by rfl, ?_⟩) (by assumption) ?_
          rotate_left
          · (intro w hSw; (try dsimp only at hSw); go_simp; try with_reducible rfl)
          simp only [Act.put, List.setIfInBounds_toArray, List.set_cons_zero, List.set_cons_succ]
          refine take_at (i := 8) (v := ?_) (some 22) rfl rfl (by kernel_rfl) (by kernel_rfl) (by kernel_rfl) (fun _ _ _ h => h) (Or.inl ⟨by rfl, ?_⟩) (by assumption) ?_
          rotate_left
          · (intro w hSw; (try dsimp only at hSw); go_simp; try with_reducible rfl)
          simp only [Act.put, List.setIfInBounds_toArray, List.set_cons_zero, List.set_cons_succ]
          refine take_at (i := 9) (v := ?_) (some 23) rfl rfl (by kernel_rfl) (by kernel_rfl) (by kernel_rfl) (fun _ _ _ h => h) (Or.inl ⟨by rfl, ?_⟩) (by assumption) ?_
          rotate_left
          · (intro w hSw; (try dsimp only at hSw); go_simp; try with_reducible rfl)
          simp only [Act.put, List.setIfInBounds_toArray, List.set_cons_zero, List.set_cons_succ]
          refine wpAnyH_done (by kernel_rfl) ?_ _
          refine NoPanic.normal ?_
          clear hHeld hb1
          go_wp2_with fail
          have P5 := PD; have Q5 := QD; have E5 := ED
          clear PD QD ED
          have PD := hidIt (P5.out.below (Below.refl _ _).drew)
          have QD := hidIt (Q5.out.below (Below.refl _ _).drew)
          have ED := hidIt E5.out.drew
          have hb2 : ∀ w, (binOp .gtr 9 (.string x.r.l) (.string (mL ps k).r.l)).run Try.prog w = .ok (.bool true) w := fun w => by rw [gtr_str, decide_eq_false (by have := C2.out; have := c_anti x.r.l (mL ps k).r.l; omega)]; rfl
          refine wp_region_noPanic ?_
          refine wp_region_held_drew (S := fun w' => w'.cell? ⟨b, o + k * 5 + 4, none⟩ = some x.l ∧ w'.cell? ⟨W.heap.size + 1, 4, none⟩ = some lo ∧ (convert 43 9 x.l).run Try.prog w' = .ok (.string x.r.l) w' ∧ (convert 43 9 lo).run Try.prog w' = .ok (.string (mL ps k).r.l) w') (by kernel_rfl) ?_ (fun hHeld => ?_)
          · exact ⟨(XR.out _ ED.out).2, (PD.out.cel 4 _ rfl).1, conv_ofR (OX.out.2.below ED.out), conv_ofR (FO.out _ ED.out).2⟩
          refine take_at (i := 0) (v := ?_) (some 30) rfl rfl (by kernel_rfl) (by kernel_rfl) (by kernel_rfl) (fun _ _ _ h => h) (Or.inl ⟨by rfl, ?_⟩) (by assumption) ?_
          rotate_left
          · (intro w hSw; (try dsimp only at hSw); go_simp; try with_reducible rfl)
          simp only [Act.put, List.setIfInBounds_toArray, List.set_cons_zero, List.set_cons_succ]
          refine take_at (i := 1) (v := ?_) (some 31) rfl rfl (by kernel_rfl) (by kernel_rfl) (by kernel_rfl) (fun _ _ _ h => h) (Or.inl ⟨by rfl, ?_⟩) (by assumption) ?_
          rotate_left
          · (intro w hSw; (try dsimp only at hSw); go_simp; try with_reducible rfl)
          simp only [Act.put, List.setIfInBounds_toArray, List.set_cons_zero, List.set_cons_succ]
          refine take_at (i := 2) (v := ?_) (some 32) rfl rfl (by kernel_rfl) (by kernel_rfl) (by kernel_rfl) (fun _ _ _ h => h) (Or.inl ⟨by rfl, ?_⟩) (by assumption) ?_
          rotate_left
          · (intro w hSw; (try dsimp only at hSw); go_simp; try with_reducible rfl)
          simp only [Act.put, List.setIfInBounds_toArray, List.set_cons_zero, List.set_cons_succ]
          refine take_at (i := 3) (v := ?_) (some 33) rfl rfl (by kernel_rfl) (by kernel_rfl) (by kernel_rfl) (fun _ _ _ h => h) (Or.inl ⟨by rfl, ?_⟩) (by assumption) ?_
          rotate_left
          · (intro w hSw; (try dsimp only at hSw); go_simp; try with_reducible rfl)
          simp only [Act.put, List.setIfInBounds_toArray, List.set_cons_zero, List.set_cons_succ]
          refine take_at (i := 4) (v := ?_) (some 34) rfl rfl (by kernel_rfl) (by kernel_rfl) (by kernel_rfl) (fun _ _ _ h => h) (Or.inl ⟨by rfl, ?_⟩) (by assumption) ?_
          rotate_left
          · (intro w hSw; (try dsimp only at hSw); go_simp; try with_reducible rfl)
          simp only [Act.put, List.setIfInBounds_toArray, List.set_cons_zero, List.set_cons_succ]
          refine take_at (i := 5) (v := ?_) (some 35) rfl rfl (by kernel_rfl) (by kernel_rfl) (by kernel_rfl) (fun _ _ _ h => h) (Or.inl ⟨by rfl, ?_⟩) (by assumption) ?_
          rotate_left
          · (intro w hSw; (try dsimp only at hSw); go_simp; try with_reducible rfl)
          simp only [Act.put, List.setIfInBounds_toArray, List.set_cons_zero, List.set_cons_succ]
          refine take_at (i := 6) (v := ?_) (some 36) rfl rfl (by kernel_rfl) (by kernel_rfl) (by kernel_rfl) (fun _ _ _ h => h) (Or.inl ⟨by rfl, ?_⟩) (by assumption) ?_
          rotate_left
          · (intro w hSw; (try dsimp only at hSw); go_simp; try with_reducible rfl)
          simp only [Act.put, List.setIfInBounds_toArray, List.set_cons_zero, List.set_cons_succ]
          refine take_at (i := 7) (v := ?_) (some 37) rfl rfl (by kernel_rfl) (by kernel_rfl) (by kernel_rfl) (fun _ _ _ h => h) (Or.inl ⟨by rfl, ?_⟩) (by assumption) ?_
          rotate_left
          · (intro w hSw; (try dsimp only at hSw); go_simp; try with_reducible rfl)
          simp only [Act.put, List.setIfInBounds_toArray, List.set_cons_zero, List.set_cons_succ]
          refine take_at (i := 8) (v := ?_) (some 38) rfl rfl (by kernel_rfl) (by kernel_rfl) (by kernel_rfl) (fun _ _ _ h => h) (Or.inl ⟨by rfl, ?_⟩) (by assumption) ?_
          rotate_left
          · (intro w hSw; (try dsimp only at hSw); go_simp; try with_reducible rfl)
          simp only [Act.put, List.setIfInBounds_toArray, List.set_cons_zero, List.set_cons_succ]
          refine take_at (i := 9) (v := ?_) (some 39) rfl rfl (by kernel_rfl) (by kernel_rfl) (by kernel_rfl) (fun _ _ _ h => h) (Or.inl ⟨by rfl, ?_⟩) (by assumption) ?_
          rotate_left
          · (intro w hSw; (try dsimp only at hSw); go_simp; try with_reducible rfl)
          simp only [Act.put, List.setIfInBounds_toArray, List.set_cons_zero, List.set_cons_succ]
          refine wpAnyH_done (by kernel_rfl) ?_ _
          refine NoPanic.normal ?_
          clear hHeld hb2
          have xf := (XR.out _ ED.out).2
          go_wp2_with (refine wpList_put_rec rfl 43 (.tmp 45) (.tmp 44) rfl (W.heap.size + 1) 4 _ [x.l] [.int .i64 zs.1, .int .i64 zs.2.1, .int .i64 zs.2.2, fo, x.l] x.l rfl rfl XC.out.2.1 PD.out (by show 4 + 1 ≤ 5; omega) rfl (by kernel_rfl) (by intro u hu; rcases List.mem_singleton.1 hu with rfl; exact XC.out.2.2) ?_; intro W6 R6 B6 z6; have P6 := hidIt R6; have Q6 := hidIt (QD.out.but B6 (by omega)); have E6 := hidIt (ED.out.trans (B6.below (by omega) ED.out.size)); clear R6 B6 z6 xf; refine Held.out ?_)
          refine Held.mk ?_
          have NX := hidIt (And.intro (show Rec19 _ (W.heap.size + 1) 0 (spK ps (k + 1)).cs by have q := P6.out; have e : (spK ps (k + 1)).cs = [.int .i64 zs.1, .int .i64 zs.2.1, .int .i64 zs.2.2, fo, x.l] := (by unfold spK; rw [mF_no HX.out (by have := C1.out; omega), mL_yes HX.out (by have := C2.out; have := c_anti x.r.l (mL ps k).r.l; omega), EQ.out.2.2]; rw [EQ.out.1]; rfl); rw [e]; exact q) (And.intro Q6.out E6.out))
          clear P6 Q6 E6 PD QD ED P5 Q5 E5
          go_wp2_with fail
          exact ⟨⟨k + 1, by have := K1.out; omega, LT.out, rfl, NX⟩, GO.out⟩
        · have C2 := hidIt (show ¬ cmpB (mL ps k).r.l x.r.l < 0 from C2)
          have PD := hidIt (PB.out.below (Below.refl _ _).drew)
          have QD := hidIt (QB.out.below (Below.refl _ _).drew)
          have ED := hidIt EB.out.drew
          have hb1 : Op.bytesLess x.r.f.toList (mF ps k).r.f.toList = false := by rw [less_isR, decide_eq_false (by have := C1.out; omega)]
          go_wp2_with fail
          refine wp_region_noPanic ?_
          refine wp_region_held_drew (S := fun w' => w'.cell? ⟨b, o + k * 5 + 3, none⟩ = some x.f ∧ w'.cell? ⟨W.heap.size + 1, 3, none⟩ = some fo ∧ (convert 43 9 x.f).run Try.prog w' = .ok (.string x.r.f) w' ∧ (convert 43 9 fo).run Try.prog w' = .ok (.string (mF ps k).r.f) w') (by kernel_rfl) ?_ (fun hHeld => ?_)
          · exact ⟨(XR.out _ ED.out).1, (PD.out.cel 3 _ rfl).1, conv_ofR (OX.out.1.below ED.out), conv_ofR (FO.out _ ED.out).1⟩
          refine take_at (i := 0) (v := ?_) (some 14) rfl rfl (by kernel_rfl) (by kernel_rfl) (by kernel_rfl) (fun _ _ _ h => h) (Or.inl ⟨by rfl, ?_⟩) (by assumption) ?_
          rotate_left
          · (intro w hSw; (try dsimp only at hSw); go_simp; try with_reducible rfl)
          simp only [Act.put, List.setIfInBounds_toArray, List.set_cons_zero, List.set_cons_succ]
          refine take_at (i := 1) (v := ?_) (some 15) rfl rfl (by kernel_rfl) (by kernel_rfl) (by kernel_rfl) (fun _ _ _ h => h) (Or.inl ⟨by rfl, ?_⟩) (by assumption) ?_
          rotate_left
          · (intro w hSw; (try dsimp only at hSw); go_simp; try with_reducible rfl)
          simp only [Act.put, List.setIfInBounds_toArray, List.set_cons_zero, List.set_cons_succ]
          refine take_at (i := 2) (v := ?_) (some 16) rfl rfl (by kernel_rfl) (by kernel_rfl) (by kernel_rfl) (fun _ _ _ h => h) (Or.inl ⟨by rfl, ?_⟩) (by assumption) ?_
          rotate_left
          · (intro w hSw; (try dsimp only at hSw); go_simp; try with_reducible rfl)
          simp only [Act.put, List.setIfInBounds_toArray, List.set_cons_zero, List.set_cons_succ]
          refine take_at (i := 3) (v := ?_) (some 17) rfl rfl (by kernel_rfl) (by kernel_rfl) (by kernel_rfl) (fun _ _ _ h => h) (Or.inl ⟨by rfl, ?_⟩) (by assumption) ?_
          rotate_left
          · (intro w hSw; (try dsimp only at hSw); go_simp; try with_reducible rfl)
          simp only [Act.put, List.setIfInBounds_toArray, List.set_cons_zero, List.set_cons_succ]
          refine take_at (i := 4) (v := ?_) (some 18) rfl rfl (by kernel_rfl) (by kernel_rfl) (by kernel_rfl) (fun _ _ _ h => h) (Or.inl ⟨by rfl, ?_⟩) (by assumption) ?_
          rotate_left
          · (intro w hSw; (try dsimp only at hSw); go_simp; try with_reducible rfl)
          simp only [Act.put, List.setIfInBounds_toArray, List.set_cons_zero, List.set_cons_succ]
          refine take_at (i := 5) (v := ?_) (some 19) rfl rfl (by kernel_rfl) (by kernel_rfl) (by kernel_rfl) (fun _ _ _ h => h) (Or.inl ⟨by rfl, ?_⟩) (by assumption) ?_
          rotate_left
          · (intro w hSw; (try dsimp only at hSw); go_simp; try with_reducible rfl)
          simp only [Act.put, List.setIfInBounds_toArray, List.set_cons_zero, List.set_cons_succ]
          refine take_at (i := 6) (v := ?_) (some 20) rfl rfl (by kernel_rfl) (by kernel_rfl) (by kernel_rfl) (fun _ _ _ h => h) (Or.inl ⟨by rfl, ?_⟩) (by assumption) ?_
          rotate_left
          · (intro w hSw; (try dsimp only at hSw); go_simp; try with_reducible rfl)
          simp only [Act.put, List.setIfInBounds_toArray, List.set_cons_zero, List.set_cons_succ]
          refine take_at (i := 7) (v := ?_) (some 21) rfl rfl (by kernel_rfl) (by kernel_rfl) (by kernel_rfl) (fun _ _ _ h => h) (Or.inl ⟨by rfl, ?_⟩) (by assumption) ?_
          rotate_left
          · (intro w hSw; (try dsimp only at hSw); go_simp; try with_reducible rfl)
          simp only [Act.put, List.setIfInBounds_toArray, List.set_cons_zero, List.set_cons_succ]
          refine take_at (i := 8) (v := ?_) (some 22) rfl rfl (by kernel_rfl) (by kernel_rfl) (by kernel_rfl) (fun _ _ _ h => h) (Or.inl ⟨by rfl, ?_⟩) (by assumption) ?_
          rotate_left
          · (intro w hSw; (try dsimp only at hSw); go_simp; try with_reducible rfl)
          simp only [Act.put, List.setIfInBounds_toArray, List.set_cons_zero, List.set_cons_succ]
          refine take_at (i := 9) (v := ?_) (some 23) rfl rfl (by kernel_rfl) (by kernel_rfl) (by kernel_rfl) (fun _ _ _ h => h) (Or.inl ⟨by rfl, ?_⟩) (by assumption) ?_
          rotate_left
          · (intro w hSw; (try dsimp only at hSw); go_simp; try with_reducible rfl)
          simp only [Act.put, List.setIfInBounds_toArray, List.set_cons_zero, List.set_cons_succ]
          refine wpAnyH_done (by kernel_rfl) ?_ _
          refine NoPanic.normal ?_
          clear hHeld hb1
          go_wp2_with fail
          have P5 := PD; have Q5 := QD; have E5 := ED
          clear PD QD ED
          have PD := hidIt (P5.out.below (Below.refl _ _).drew)
          have QD := hidIt (Q5.out.below (Below.refl _ _).drew)
          have ED := hidIt E5.out.drew
          have hb2 : ∀ w, (binOp .gtr 9 (.string x.r.l) (.string (mL ps k).r.l)).run Try.prog w = .ok (.bool false) w := fun w => by rw [gtr_str, decide_eq_true (by have := C2.out; have := c_anti x.r.l (mL ps k).r.l; omega)]; rfl
          refine wp_region_noPanic ?_
          refine wp_region_held_drew (S := fun w' => w'.cell? ⟨b, o + k * 5 + 4, none⟩ = some x.l ∧ w'.cell? ⟨W.heap.size + 1, 4, none⟩ = some lo ∧ (convert 43 9 x.l).run Try.prog w' = .ok (.string x.r.l) w' ∧ (convert 43 9 lo).run Try.prog w' = .ok (.string (mL ps k).r.l) w') (by kernel_rfl) ?_ (fun hHeld => ?_)
          · exact ⟨(XR.out _ ED.out).2, (PD.out.cel 4 _ rfl).1, conv_ofR (OX.out.2.below ED.out), conv_ofR (FO.out _ ED.out).2⟩
          refine take_at (i := 0) (v := ?_) (some 30) rfl rfl (by kernel_rfl) (by kernel_rfl) (by kernel_rfl) (fun _ _ _ h => h) (Or.inl ⟨by rfl, ?_⟩) (by assumption) ?_
          rotate_left
          · (intro w hSw; (try dsimp only at hSw); go_simp; try with_reducible rfl)
          simp only [Act.put, List.setIfInBounds_toArray, List.set_cons_zero, List.set_cons_succ]
          refine take_at (i := 1) (v := ?_) (some 31) rfl rfl (by kernel_rfl) (by kernel_rfl) (by kernel_rfl) (fun _ _ _ h => h) (Or.inl ⟨by rfl, ?_⟩) (by assumption) ?_
          rotate_left
          · (intro w hSw; (try dsimp only at hSw); go_simp; try with_reducible rfl)
          simp only [Act.put, List.setIfInBounds_toArray, List.set_cons_zero, List.set_cons_succ]
          refine take_at (i := 2) (v := ?_) (some 32) rfl rfl (by kernel_rfl) (by kernel_rfl) (by kernel_rfl) (fun _ _ _ h => h) (Or.inl ⟨by rfl, ?_⟩) (by assumption) ?_
          rotate_left
          · (intro w hSw; (try dsimp only at hSw); go_simp; try with_reducible rfl)
          simp only [Act.put, List.setIfInBounds_toArray, List.set_cons_zero, List.set_cons_succ]
          refine take_at (i := 3) (v := ?_) (some 33) rfl rfl (by kernel_rfl) (by kernel_rfl) (by kernel_rfl) (fun _ _ _ h => h) (Or.inl ⟨by rfl, ?_⟩) (by assumption) ?_
          rotate_left
          · (intro w hSw; (try dsimp only at hSw); go_simp; try with_reducible rfl)
          simp only [Act.put, List.setIfInBounds_toArray, List.set_cons_zero, List.set_cons_succ]
          refine take_at (i := 4) (v := ?_) (some 34) rfl rfl (by kernel_rfl) (by kernel_rfl) (by kernel_rfl) (fun _ _ _ h => h) (Or.inl ⟨by rfl, ?_⟩) (by assumption) ?_
          rotate_left
          · (intro w hSw; (try dsimp only at hSw); go_simp; try with_reducible rfl)
          simp only [Act.put, List.setIfInBounds_toArray, List.set_cons_zero, List.set_cons_succ]
          refine take_at (i := 5) (v := ?_) (some 35) rfl rfl (by kernel_rfl) (by kernel_rfl) (by kernel_rfl) (fun _ _ _ h => h) (Or.inl ⟨by rfl, ?_⟩) (by assumption) ?_
          rotate_left
          · (intro w hSw; (try dsimp only at hSw); go_simp; try with_reducible rfl)
          simp only [Act.put, List.setIfInBounds_toArray, List.set_cons_zero, List.set_cons_succ]
          refine take_at (i := 6) (v := ?_) (some 36) rfl rfl (by kernel_rfl) (by kernel_rfl) (by kernel_rfl) (fun _ _ _ h => h) (Or.inl ⟨by rfl, ?_⟩) (by assumption) ?_
          rotate_left
          · (intro w hSw; (try dsimp only at hSw); go_simp; try with_reducible rfl)
          simp only [Act.put, List.setIfInBounds_toArray, List.set_cons_zero, List.set_cons_succ]
          refine take_at (i := 7) (v := ?_) (some 37) rfl rfl (by kernel_rfl) (by kernel_rfl) (by kernel_rfl) (fun _ _ _ h => h) (Or.inl ⟨by rfl, ?_⟩) (by assumption) ?_
          rotate_left
          · (intro w hSw; (try dsimp only at hSw); go_simp; try with_reducible rfl)
          simp only [Act.put, List.setIfInBounds_toArray, List.set_cons_zero, List.set_cons_succ]
          refine take_at (i := 8) (v := ?_) (some 38) rfl rfl (by kernel_rfl) (by kernel_rfl) (by kernel_rfl) (fun _ _ _ h => h) (Or.inl ⟨by rfl, ?_⟩) (by assumption) ?_
          rotate_left
          · (intro w hSw; (try dsimp only at hSw); go_simp; try with_reducible rfl)
          simp only [Act.put, List.setIfInBounds_toArray, List.set_cons_zero, List.set_cons_succ]
          refine take_at (i := 9) (v := ?_) (some 39) rfl rfl (by kernel_rfl) (by kernel_rfl) (by kernel_rfl) (fun _ _ _ h => h) (Or.inl ⟨by rfl, ?_⟩) (by assumption) ?_
          rotate_left
          · (intro w hSw; (try dsimp only at hSw); go_simp; try with_reducible rfl)
          simp only [Act.put, List.setIfInBounds_toArray, List.set_cons_zero, List.set_cons_succ]
          refine wpAnyH_done (by kernel_rfl) ?_ _
          refine NoPanic.normal ?_
          clear hHeld hb2
          have P6 := PD; have Q6 := QD; have E6 := ED
          have NX := hidIt (And.intro (show Rec19 _ (W.heap.size + 1) 0 (spK ps (k + 1)).cs by have q := P6.out; have e : (spK ps (k + 1)).cs = [.int .i64 zs.1, .int .i64 zs.2.1, .int .i64 zs.2.2, fo, lo] := (by unfold spK; rw [mF_no HX.out (by have := C1.out; omega), mL_no HX.out (by have := C2.out; have := c_anti x.r.l (mL ps k).r.l; omega), EQ.out.2.2]; rw [EQ.out.1]; rw [EQ.out.2.1]; rfl); rw [e]; exact q) (And.intro Q6.out E6.out))
          clear P6 Q6 E6 PD QD ED P5 Q5 E5
          go_wp2_with fail
          exact ⟨⟨k + 1, by have := K1.out; omega, LT.out, rfl, NX⟩, GO.out⟩
    · obtain rfl : k = n := by omega
      have i0 : ((k : Int) < (k : Int)) = False := eq_false (by omega)
      have OK := hidIt (spK_ok (k := k) (fun y hy => (HL.out.1 y hy).below HI.out.2.2) (by have := HN.out; omega) (by have := HN.out.1; omega))
      clear hk hk1 hlt
      go_wp2_with (first
        | (refine wpList_load_rec rfl 45 (.tmp 3) rfl (W.heap.size + 1) 0 (spK ps k).cs rfl _ Try.underlying45 rfl run_size HI.out.1 ?_)
        | (refine wpList_store_rec rfl 45 (.tmp 2) (.tmp 46) rfl W.heap.size 0 _ (spK ps k).cs rfl rfl HI.out.2.1 rfl run_size OK.out.one ?_; intro W9 R9 B9; have RR := hidIt R9; have E9 := hidIt (HI.out.2.2.trans (B9.below (Nat.le_refl _) HI.out.2.2.size)); clear R9 B9))
      have hl := RR.out.run_load 45 _ Try.underlying45 rfl run_size
      exact bodyPost_ret (v := .agg (spK ps k).cs.toArray) (by simp [results, Try.results25, asAddr, Act.put, hl]) rfl ⟨by rw [HN.out.1], E9.out⟩
end Go.Proofs.Ytelcijfcgflagaa
