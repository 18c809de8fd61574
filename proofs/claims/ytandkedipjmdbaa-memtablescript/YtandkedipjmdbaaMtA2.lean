/-
  Walks, not a claim by itself: the script's Get. By the verifier.
-/
import Derived.Test.YtandkedipjmdbaaMtA0
import Derived.Test.YtandkedipjmdbaaReg3
namespace Go.Proofs.Ytandkedipjmdbaa
open Go.RowKit
attribute [-go_sem] Builtin.append_
/-- What Get tells. -/
def gR (l : List Pr) (k : ByteArray) : Pr × Int := match fnd l k with
  | some p => (p, 0)
  | none => (⟨.empty, .empty, false⟩, 6)
theorem tget_u {W : World} {N : List Nat} {t : Nat} {v key : Value} {ps : List PV} {k : ByteArray} (hT : Tab W t v ps) (hk : Txt W N key k) : Calls Try.prog 22 #[.pointer (some ⟨t, 0, none⟩), key] W fun e w' => ∃ a n C b m D, e = .returned (.tuple #[.agg (PV.mk (.slice a n C) (.slice b m D) (gR (ps.map PV.p) k).1).cs.toArray, .int .i64 (gR (ps.map PV.p) k).2]) ∧ FrP w' W.heap.size ⟨.slice a n C, .slice b m D, (gR (ps.map PV.p) k).1⟩ ∧ Below W.heap.size W w' := by
  refine (tget_ok hT hk).mono ?_
  intro e w' hG
  cases hf : fnd (ps.map PV.p) k with
  | some p =>
    obtain ⟨a, n, C, b, m, D, he, _, hF, hB⟩ := hG.yes p hf
    exact ⟨a, n, C, b, m, D, by unfold gR; rw [hf]; exact he, by unfold gR; rw [hf]; exact hF, hB⟩
  | none =>
    obtain ⟨he, hB⟩ := hG.not hf
    exact ⟨none, 0, 0, none, 0, 0, by unfold gR; rw [hf]; exact he, by unfold gR; rw [hf]; exact ⟨.inl ⟨rfl, rfl⟩, .inl ⟨rfl, rfl⟩⟩, hB⟩
theorem rget_u {W : World} {N : List Nat} {r : Nat} {lv key : Value} {rs : List PV} {k : ByteArray} (hT : RT W r lv rs) (hk : Txt W N key k) : Calls Try.prog 35 #[.pointer (some ⟨r, 0, none⟩), key] W fun e w' => ∃ y : PV, e = .returned (.tuple #[.agg y.cs.toArray, .int .i64 (gR (rs.map PV.p) k).2]) ∧ y.p = (gR (rs.map PV.p) k).1 ∧ (y ∈ rs ∨ y = pvN) ∧ Below W.heap.size W w' := by
  refine (rget_any hT hk).mono ?_
  rintro e w' ⟨hB, ⟨x, hx, hf, he⟩ | ⟨hf, he⟩⟩
  · exact ⟨x, by unfold gR; rw [hf]; exact he, by unfold gR; rw [hf], .inl hx, hB⟩
  · exact ⟨pvN, by unfold gR; rw [hf]; exact he, by unfold gR; rw [hf]; rfl, .inr rfl, hB⟩
theorem y_ok {W W' : World} {r : Nat} {lv : Value} {rs : List PV} {y : PV} (h : RT W r lv rs) (hy : y ∈ rs ∨ y = pvN) (hB : Below W.heap.size W W') : PVOk W' [] y := by
  rcases hy with hy | rfl
  · exact ((h.ok y hy).mono (fun b hb => by cases hb)).below hB
  · exact pvN_ok W'
theorem frp_low {W : World} {base base' : Nat} {x : PV} (h : FrP W base x) (hb : base' ≤ base) : FrP W base' x := ⟨h.1.low hb, h.2.low hb⟩
theorem frp_below {W W' : World} {base : Nat} {x : PV} (h : FrP W base x) (hB : Below W.heap.size W W') : FrP W' base x := ⟨h.1.below hB, h.2.below hB⟩
theorem ovs_one {W W' : World} {base : Nat} {x : PV} (h : FrP W base x) (hB : Below W.heap.size W W') : ∀ z ∈ [x], OvS W' base W.heap.size z.k ∧ OvS W' base W.heap.size z.v := fun z hz => by
  rcases List.mem_singleton.1 hz with rfl
  have k := frp_pv h
  exact ⟨OvS.of (h.1.below hB) ((k.1.mono (M := [W.heap.size]) (fun b hb => .inr (by simp at hb; omega))).below hB) (by simp), OvS.of (h.2.below hB) ((k.2.mono (M := [W.heap.size]) (fun b hb => .inr (by simp at hb; omega))).below hB) (by simp)⟩
theorem pal_run {a : Act} {w : World} {o : Oper} (ho : o.op = .alloc 47) : (execOp a.eval o).run Try.prog w = .ok (.value (.pointer (some ⟨w.heap.size, 0, none⟩))) (w.alloc (.cells ([.slice none 0 0, .slice none 0 0, .bool false] : List Value).toArray 47)) := by
  unfold execOp
  cases hi : Try.prog.info? 47 with
  | none => have := pair_zero; simp [hi] at this
  | some i =>
    have hz' : i.zero = some (.agg ([.slice none 0 0, .slice none 0 0, .bool false] : List Value).toArray) := by have := pair_zero; simpa [hi] using this
    simp only [ho]
    simp [Instr.alloc, zeroValue, typeInfo, hi, hz', newVar, newRow, Value.cells, Result.andThen]
set_option maxRecDepth 100000 in
set_option maxHeartbeats 8000000 in
theorem act_2 {H : Nat} {W : World} {P t r : Nat} {v lv : Value} {qs rs : List PV} (h : SI H W P t r v qs lv rs) (he : rs.map PV.p = qs.map PV.p) (kd nn : Int) (ka va : Option Addr) (n m kC vC : Nat) (fk fv : Nat → Int) (hk : AA H W ka n fk) (hv : AA H W va m fv) (hd : kd = 2) : Calls Try.prog 13 #[.pointer (some ⟨P, 0, none⟩), .agg (actC kd nn ka va n m kC vC).toArray] W fun e w' => e = .returned (.bool true) ∧ StP H W P w' := by
  have S0 := hidIt h
  have HE := hidIt he
  have HK := hidIt hk
  have HV := hidIt hv
  subst hd
  clear h he hk hv
  go_enter Try.func13, Try.ntmps13
  go_wp2_with (refine wpList_box_rec rfl 35 (.tmp 1) rfl (actC 2 nn ka va n m kC vC) rfl W.heap.size rfl ?_; intro W1 R1 B1 z1; have E1 := hidIt (B1.mono S0.out.size); have S1 := hidIt (S0.out.more B1); have K1 := hidIt (HK.out.below E1.out); have V1 := hidIt (HV.out.below E1.out); have a0 := (R1.cel 0 _ rfl).1; have a1 := (R1.cel 1 _ rfl).1; have a2 := (R1.cel 2 _ rfl).1; have a3 := (R1.cel 3 _ rfl).1; have P1 := hidIt R1; have b1 := hidIt B1; clear R1 B1 z1)
  have CE : Hid (∀ U, Below W1.heap.size W1 U → U.cell? ⟨P, 0, none⟩ = some (.pointer (some ⟨t, 0, none⟩)) ∧ U.cell? ⟨P, 1, none⟩ = some (.pointer (some ⟨r, 0, none⟩)) ∧ U.cell? ⟨W.heap.size, 2, none⟩ = some (.slice ka n kC)) := hidIt (fun U hU => ⟨((S1.out.pr.below hU).cel 0 _ rfl).1, ((S1.out.pr.below hU).cel 1 _ rfl).1, ((P1.out.below hU).cel 2 _ rfl).1⟩)
  have bW1 := hidIt (Below.refl W1.heap.size W1)
  clear a0 a1 a2 a3
  refine wp_region_noPanic ?_
  refine wp_region_held_drew (S := fun w' => w'.cell? ⟨P, 0, none⟩ = some (.pointer (some ⟨t, 0, none⟩)) ∧ w'.cell? ⟨P, 1, none⟩ = some (.pointer (some ⟨r, 0, none⟩)) ∧ w'.cell? ⟨W.heap.size, 2, none⟩ = some (.slice ka n kC)) (by kernel_rfl) ?_ (fun hHeld => ?_)
  · exact CE.out _ bW1.out.drew
  have zUd : Below W1.heap.size W1 W1.drew := (Below.refl _ _).drew
  obtain ⟨Ud, hUd⟩ : ∃ Ud, Ud = W1.drew := ⟨_, rfl⟩
  rw [← hUd] at hHeld zUd ⊢
  have bUd : Below W1.heap.size W1 Ud := bW1.out.trans (zUd.mono bW1.out.size)
  clear hUd
  refine take_at (i := 0) (v := ?_) (some 34) rfl rfl (by kernel_rfl) (by kernel_rfl) (by kernel_rfl) (fun _ _ _ h => h) (Or.inl ⟨by rfl, ?_⟩) (by assumption) ?_
  rotate_left
  · (intro w hSw; (try dsimp only at hSw); go_simp; try with_reducible rfl)
  simp only [Act.put, List.setIfInBounds_toArray, List.set_cons_zero, List.set_cons_succ]
  refine take_at (i := 1) (v := ?_) (some 35) rfl rfl (by kernel_rfl) (by kernel_rfl) (by kernel_rfl) (fun _ _ _ h => h) (Or.inl ⟨by rfl, ?_⟩) (by assumption) ?_
  rotate_left
  · (intro w hSw; (try dsimp only at hSw); go_simp; try with_reducible rfl)
  simp only [Act.put, List.setIfInBounds_toArray, List.set_cons_zero, List.set_cons_succ]
  refine take_at (i := 2) (v := ?_) (some 36) rfl rfl (by kernel_rfl) (by kernel_rfl) (by kernel_rfl) (fun _ _ _ h => h) (Or.inl ⟨by rfl, ?_⟩) (by assumption) ?_
  rotate_left
  · (intro w hSw; (try dsimp only at hSw); go_simp; try with_reducible rfl)
  simp only [Act.put, List.setIfInBounds_toArray, List.set_cons_zero, List.set_cons_succ]
  refine take_at (i := 3) (v := ?_) (some 37) rfl rfl (by kernel_rfl) (by kernel_rfl) (by kernel_rfl) (fun _ _ _ h => h) (Or.inl ⟨by rfl, ?_⟩) (by assumption) ?_
  rotate_left
  · (intro w hSw; (try dsimp only at hSw); go_simp; try with_reducible rfl)
  simp only [Act.put, List.setIfInBounds_toArray, List.set_cons_zero, List.set_cons_succ]
  refine take_at (i := 4) (v := ?_) (some 38) rfl rfl (by kernel_rfl) (by kernel_rfl) (by kernel_rfl) (fun _ _ _ h => h) (Or.inl ⟨by rfl, ?_⟩) (by assumption) ?_
  rotate_left
  · (intro w hSw; (try dsimp only at hSw); go_simp; try with_reducible rfl)
  simp only [Act.put, List.setIfInBounds_toArray, List.set_cons_zero, List.set_cons_succ]
  refine take_at (i := 5) (v := ?_) (some 39) rfl rfl (by kernel_rfl) (by kernel_rfl) (by kernel_rfl) (fun _ _ _ h => h) (Or.inl ⟨by rfl, ?_⟩) (by assumption) ?_
  rotate_left
  · (intro w hSw; (try dsimp only at hSw); go_simp; try with_reducible rfl)
  simp only [Act.put, List.setIfInBounds_toArray, List.set_cons_zero, List.set_cons_succ]
  obtain ⟨Ua, hUa⟩ : ∃ Ua, Ua = Ud.alloc (.cells ([.slice none 0 0, .slice none 0 0, .bool false] : List Value).toArray 47) := ⟨_, rfl⟩
  have zUa : Below Ud.heap.size Ud Ua := by rw [hUa]; exact (Below.refl _ _).alloc (Nat.le_refl _) _
  have RUa : Rec19 Ua Ud.heap.size 0 [.slice none 0 0, .slice none 0 0, .bool false] := by rw [hUa]; exact Rec19.new Ud _ _
  have bUa : Below W1.heap.size W1 Ua := bUd.trans (zUa.mono bUd.size)
  refine duo_at (i := 6) (j := 10) (some 40) (some 5) 22 #[.tmp 37, .tmp 39] _ rfl rfl rfl rfl rfl (by rfl) (by rfl) (by kernel_rfl) (.pointer (some ⟨Ud.heap.size, 0, none⟩)) Ua (by rw [hUa]; exact pal_run rfl) (CE.out _ bUa) (fun hHeld => ?_) #[.pointer (some ⟨t, 0, none⟩), .slice ka n kC] rfl Try.func22 (by kernel_rfl) (by kernel_rfl) ?_
  · skip
    simp only [Act.put, List.setIfInBounds_toArray, List.set_cons_zero, List.set_cons_succ]
    refine call_at (i := 6) (some 40) 22 _ _ rfl rfl rfl (by rfl) (by kernel_rfl) #[.pointer (some ⟨t, 0, none⟩), .slice ka n kC] rfl Try.func22 (by kernel_rfl) (by kernel_rfl) ?_
    refine (tget_u (S1.out.tab.below bUa) (Txt.of (C := kC) (K1.out.below (bUa.mono S1.out.size)).1)).mono ?_
    rintro e Ub ⟨a6, n6, C6, b6, m6, D6, rfl, F6, zb⟩
    have bUb : Below W1.heap.size W1 Ub := bUa.trans (zb.mono bUa.size)
    refine ⟨_, rfl, CE.out _ bUb, fun hHeld => ?_⟩
    simp only [Act.put, List.setIfInBounds_toArray, List.set_cons_zero, List.set_cons_succ]
    refine take_at (i := 7) (v := ?_) (some 33) rfl rfl (by kernel_rfl) (by kernel_rfl) (by kernel_rfl) (fun _ _ _ h => h) (Or.inl ⟨by rfl, ?_⟩) (by assumption) ?_
    rotate_left
    · (intro w hSw; (try dsimp only at hSw); go_simp; try with_reducible rfl)
    simp only [Act.put, List.setIfInBounds_toArray, List.set_cons_zero, List.set_cons_succ]
    refine take_at (i := 8) (v := ?_) (some 41) rfl rfl (by kernel_rfl) (by kernel_rfl) (by kernel_rfl) (fun _ _ _ h => h) (Or.inl ⟨by rfl, ?_⟩) (by assumption) ?_
    rotate_left
    · (intro w hSw; (try dsimp only at hSw); go_simp; try with_reducible rfl)
    simp only [Act.put, List.setIfInBounds_toArray, List.set_cons_zero, List.set_cons_succ]
    refine take_at (i := 9) (v := ?_) (some 42) rfl rfl (by kernel_rfl) (by kernel_rfl) (by kernel_rfl) (fun _ _ _ h => h) (Or.inl ⟨by rfl, ?_⟩) (by assumption) ?_
    rotate_left
    · (intro w hSw; (try dsimp only at hSw); go_simp; try with_reducible rfl)
    simp only [Act.put, List.setIfInBounds_toArray, List.set_cons_zero, List.set_cons_succ]
    obtain ⟨Uc, hrU, RUc, BUc⟩ := (RUa.below zb).run_store 47 [.slice a6 n6 C6, .slice b6 m6 D6, .bool (gR (qs.map PV.p) (txtN n fk)).1.g] rfl pair_size (by intro u hu; simp only [List.mem_cons, List.not_mem_nil, or_false] at hu; rcases hu with rfl | rfl | rfl <;> rfl)
    have xU : Below W1.heap.size W1 Uc := (zUd.trans (zUa.mono zUd.size)).trans ((zb.mono (Nat.le_trans zUd.size zUa.size)).trans (BUc.below zUd.size (Nat.le_trans (Nat.le_trans zUd.size zUa.size) zb.size)))
    have bUc := hidIt (bW1.out.trans (xU.mono bW1.out.size))
    refine mute_at (i := 11) none rfl rfl (by rfl) (by kernel_rfl) Uc (put_mute 47 (.tmp 5) (.tmp 41) rfl _ _ rfl rfl hrU) (CE.out _ bUc.out) (fun hHeld => ?_)
    simp only [Act.put]
    refine take_at (i := 12) (v := ?_) (some 6) rfl rfl (by kernel_rfl) (by kernel_rfl) (by kernel_rfl) (fun _ _ _ h => h) (Or.inl ⟨by rfl, ?_⟩) (by assumption) ?_
    rotate_left
    · (intro w hSw; (try dsimp only at hSw); go_simp; try with_reducible rfl)
    simp only [Act.put, List.setIfInBounds_toArray, List.set_cons_zero, List.set_cons_succ]
    refine wpAnyH_done (by kernel_rfl) ?_ _
    refine NoPanic.normal ?_
    have XU := hidIt RUc
    have XBU : Hid (W1.heap.size ≤ Ud.heap.size) := hidIt bUd.size
    have F7 : Hid (FrP Uc W1.heap.size ⟨.slice a6 n6 C6, .slice b6 m6 D6, (gR (qs.map PV.p) (txtN n fk)).1⟩) := hidIt (frp_low ((F6.offN (Off.but (bs := [Ud.heap.size]) BUc (by simp)) (fun b hb => by simp at hb; subst hb; exact RUa.2.2))) bUa.size)
    clear hHeld hrU RUc BUc RUa zb zUa bUa bUb zUd bUd hUa
    go_wp2_with fail
    refine wp_region_noPanic ?_
    refine wp_region_held_drew (S := fun w' => w'.cell? ⟨P, 0, none⟩ = some (.pointer (some ⟨t, 0, none⟩)) ∧ w'.cell? ⟨P, 1, none⟩ = some (.pointer (some ⟨r, 0, none⟩)) ∧ w'.cell? ⟨W.heap.size, 2, none⟩ = some (.slice ka n kC)) (by kernel_rfl) ?_ (fun hHeld => ?_)
    · exact CE.out _ bUc.out.drew
    have zVd : Below Uc.heap.size Uc Uc.drew := (Below.refl _ _).drew
    obtain ⟨Vd, hVd⟩ : ∃ Vd, Vd = Uc.drew := ⟨_, rfl⟩
    rw [← hVd] at hHeld zVd ⊢
    have bVd : Below W1.heap.size W1 Vd := bUc.out.trans (zVd.mono bUc.out.size)
    clear hVd
    refine take_at (i := 0) (v := ?_) (some 44) rfl rfl (by kernel_rfl) (by kernel_rfl) (by kernel_rfl) (fun _ _ _ h => h) (Or.inl ⟨by rfl, ?_⟩) (by assumption) ?_
    rotate_left
    · (intro w hSw; (try dsimp only at hSw); go_simp; try with_reducible rfl)
    simp only [Act.put, List.setIfInBounds_toArray, List.set_cons_zero, List.set_cons_succ]
    refine take_at (i := 1) (v := ?_) (some 45) rfl rfl (by kernel_rfl) (by kernel_rfl) (by kernel_rfl) (fun _ _ _ h => h) (Or.inl ⟨by rfl, ?_⟩) (by assumption) ?_
    rotate_left
    · (intro w hSw; (try dsimp only at hSw); go_simp; try with_reducible rfl)
    simp only [Act.put, List.setIfInBounds_toArray, List.set_cons_zero, List.set_cons_succ]
    refine take_at (i := 2) (v := ?_) (some 46) rfl rfl (by kernel_rfl) (by kernel_rfl) (by kernel_rfl) (fun _ _ _ h => h) (Or.inl ⟨by rfl, ?_⟩) (by assumption) ?_
    rotate_left
    · (intro w hSw; (try dsimp only at hSw); go_simp; try with_reducible rfl)
    simp only [Act.put, List.setIfInBounds_toArray, List.set_cons_zero, List.set_cons_succ]
    refine take_at (i := 3) (v := ?_) (some 47) rfl rfl (by kernel_rfl) (by kernel_rfl) (by kernel_rfl) (fun _ _ _ h => h) (Or.inl ⟨by rfl, ?_⟩) (by assumption) ?_
    rotate_left
    · (intro w hSw; (try dsimp only at hSw); go_simp; try with_reducible rfl)
    simp only [Act.put, List.setIfInBounds_toArray, List.set_cons_zero, List.set_cons_succ]
    refine take_at (i := 4) (v := ?_) (some 48) rfl rfl (by kernel_rfl) (by kernel_rfl) (by kernel_rfl) (fun _ _ _ h => h) (Or.inl ⟨by rfl, ?_⟩) (by assumption) ?_
    rotate_left
    · (intro w hSw; (try dsimp only at hSw); go_simp; try with_reducible rfl)
    simp only [Act.put, List.setIfInBounds_toArray, List.set_cons_zero, List.set_cons_succ]
    refine take_at (i := 5) (v := ?_) (some 49) rfl rfl (by kernel_rfl) (by kernel_rfl) (by kernel_rfl) (fun _ _ _ h => h) (Or.inl ⟨by rfl, ?_⟩) (by assumption) ?_
    rotate_left
    · (intro w hSw; (try dsimp only at hSw); go_simp; try with_reducible rfl)
    simp only [Act.put, List.setIfInBounds_toArray, List.set_cons_zero, List.set_cons_succ]
    obtain ⟨Va, hVa⟩ : ∃ Va, Va = Vd.alloc (.cells ([.slice none 0 0, .slice none 0 0, .bool false] : List Value).toArray 47) := ⟨_, rfl⟩
    have zVa : Below Vd.heap.size Vd Va := by rw [hVa]; exact (Below.refl _ _).alloc (Nat.le_refl _) _
    have RVa : Rec19 Va Vd.heap.size 0 [.slice none 0 0, .slice none 0 0, .bool false] := by rw [hVa]; exact Rec19.new Vd _ _
    have bVa : Below W1.heap.size W1 Va := bVd.trans (zVa.mono bVd.size)
    refine duo_at (i := 6) (j := 10) (some 50) (some 7) 35 #[.tmp 47, .tmp 49] _ rfl rfl rfl rfl rfl (by rfl) (by rfl) (by kernel_rfl) (.pointer (some ⟨Vd.heap.size, 0, none⟩)) Va (by rw [hVa]; exact pal_run rfl) (CE.out _ bVa) (fun hHeld => ?_) #[.pointer (some ⟨r, 0, none⟩), .slice ka n kC] rfl Try.func35 (by kernel_rfl) (by kernel_rfl) ?_
    · skip
      simp only [Act.put, List.setIfInBounds_toArray, List.set_cons_zero, List.set_cons_succ]
      refine call_at (i := 6) (some 50) 35 _ _ rfl rfl rfl (by rfl) (by kernel_rfl) #[.pointer (some ⟨r, 0, none⟩), .slice ka n kC] rfl Try.func35 (by kernel_rfl) (by kernel_rfl) ?_
      refine (rget_u (S1.out.ref.below bVa) (Txt.of (C := kC) (K1.out.below (bVa.mono S1.out.size)).1)).mono ?_
      rintro e Vb ⟨y, rfl, hyp, hyo, zb⟩
      rw [HE.out]
      have bVb : Below W1.heap.size W1 Vb := bVa.trans (zb.mono bVa.size)
      refine ⟨_, rfl, CE.out _ bVb, fun hHeld => ?_⟩
      simp only [Act.put, List.setIfInBounds_toArray, List.set_cons_zero, List.set_cons_succ]
      refine take_at (i := 7) (v := ?_) (some 43) rfl rfl (by kernel_rfl) (by kernel_rfl) (by kernel_rfl) (fun _ _ _ h => h) (Or.inl ⟨by rfl, ?_⟩) (by assumption) ?_
      rotate_left
      · (intro w hSw; (try dsimp only at hSw); go_simp; try with_reducible rfl)
      simp only [Act.put, List.setIfInBounds_toArray, List.set_cons_zero, List.set_cons_succ]
      refine take_at (i := 8) (v := ?_) (some 51) rfl rfl (by kernel_rfl) (by kernel_rfl) (by kernel_rfl) (fun _ _ _ h => h) (Or.inl ⟨by rfl, ?_⟩) (by assumption) ?_
      rotate_left
      · (intro w hSw; (try dsimp only at hSw); go_simp; try with_reducible rfl)
      simp only [Act.put, List.setIfInBounds_toArray, List.set_cons_zero, List.set_cons_succ]
      refine take_at (i := 9) (v := ?_) (some 52) rfl rfl (by kernel_rfl) (by kernel_rfl) (by kernel_rfl) (fun _ _ _ h => h) (Or.inl ⟨by rfl, ?_⟩) (by assumption) ?_
      rotate_left
      · (intro w hSw; (try dsimp only at hSw); go_simp; try with_reducible rfl)
      simp only [Act.put, List.setIfInBounds_toArray, List.set_cons_zero, List.set_cons_succ]
      obtain ⟨Vc, hrV, RVc, BVc⟩ := (RVa.below zb).run_store 47 [y.k, y.v, .bool y.p.g] rfl pair_size (one_of (y_ok S1.out.ref hyo bVb))
      have xV : Below Uc.heap.size Uc Vc := (zVd.trans (zVa.mono zVd.size)).trans ((zb.mono (Nat.le_trans zVd.size zVa.size)).trans (BVc.below zVd.size (Nat.le_trans (Nat.le_trans zVd.size zVa.size) zb.size)))
      have bVc := hidIt (bUc.out.trans (xV.mono bUc.out.size))
      refine mute_at (i := 11) none rfl rfl (by rfl) (by kernel_rfl) Vc (put_mute 47 (.tmp 7) (.tmp 51) rfl _ _ rfl rfl hrV) (CE.out _ bVc.out) (fun hHeld => ?_)
      simp only [Act.put]
      refine take_at (i := 12) (v := ?_) (some 8) rfl rfl (by kernel_rfl) (by kernel_rfl) (by kernel_rfl) (fun _ _ _ h => h) (Or.inl ⟨by rfl, ?_⟩) (by assumption) ?_
      rotate_left
      · (intro w hSw; (try dsimp only at hSw); go_simp; try with_reducible rfl)
      simp only [Act.put, List.setIfInBounds_toArray, List.set_cons_zero, List.set_cons_succ]
      refine wpAnyH_done (by kernel_rfl) ?_ _
      refine NoPanic.normal ?_
      have XV := hidIt RVc
      have XBV : Hid (W1.heap.size ≤ Vd.heap.size) := hidIt bVd.size
      have F8 := hidIt (frp_below F7.out xV)
      have XX8 := hidIt (XU.out.below xV)
      have Y8 := hidIt (y_ok S1.out.ref hyo bVc.out)
      have YP := hidIt hyp
      have bZZ := bVc
      have x0 := (XX8.out.cel 0 _ rfl).1
      have x1 := (XX8.out.cel 1 _ rfl).1
      have x2 := (XX8.out.cel 2 _ rfl).1
      have y0 := (XV.out.cel 0 _ rfl).1
      have y1 := (XV.out.cel 1 _ rfl).1
      have y2 := (XV.out.cel 2 _ rfl).1
      clear hyo hyp xV
      clear hHeld hrV RVc BVc RVa zb zVa bVa bVb zVd bVd hVa
      go_wp2_with (first
        | (go_at_call 23; refine (samePair_any (x := PV.mk (.slice a6 n6 C6) (.slice b6 m6 D6) (gR (qs.map PV.p) (txtN n fk)).1) (y := y) (frp_pv F8.out) Y8.out).mono ?_; rintro e W9 ⟨h1, hb⟩; have h2 : e = .returned (.bool true) := (by rw [h1, decide_eq_true (show (gR (qs.map PV.p) (txtN n fk)).1 = y.p by rw [YP.out, HE.out])]); subst h2; clear h1 x0 x1 x2 y0 y1 y2; have F9 := hidIt (frp_below F8.out hb); have X9 := hidIt (XX8.out.below hb); have b9 := hidIt (bZZ.out.trans (hb.mono bZZ.out.size)); have x0 := (X9.out.cel 0 _ rfl).1; have x1 := (X9.out.cel 1 _ rfl).1; have x2 := (X9.out.cel 2 _ rfl).1; clear hb)
        | (refine wpList_run_w (by rfl) (.slice (some ⟨W9.heap.size, 0, none⟩) 1 1) (W9.alloc (.cells (PV.mk (.slice a6 n6 C6) (.slice b6 m6 D6) (gR (qs.map PV.p) (txtN n fk)).1).cs.toArray 47)) (bsl_run 27 47 1 _ rfl 3 56 _ _ _ under_pairs info_pair (by decide) (by decide) rfl (by kernel_rfl)) ?_; obtain ⟨W10, hW10⟩ : ∃ W10, W10 = W9.alloc (.cells (PV.mk (.slice a6 n6 C6) (.slice b6 m6 D6) (gR (qs.map PV.p) (txtN n fk)).1).cs.toArray 47) := ⟨_, rfl⟩; rw [← hW10]; have A10 := hidIt (show Below W9.heap.size W9 W10 by rw [hW10]; exact (Below.refl _ _).alloc (Nat.le_refl _) _); have R10 := hidIt (show Rec19 W10 W9.heap.size 0 (PV.mk (.slice a6 n6 C6) (.slice b6 m6 D6) (gR (qs.map PV.p) (txtN n fk)).1).cs by rw [hW10]; exact Rec19.new W9 _ _); clear hW10 x0 x1 x2)
        | (go_at_call 12; refine (overPairs_any (base := W1.heap.size) (os := [PV.mk (.slice a6 n6 C6) (.slice b6 m6 D6) (gR (qs.map PV.p) (txtN n fk)).1]) 1 1 rfl (by decide) (Nat.le_trans b9.out.size A10.out.size) (fun _ => ⟨W9.heap.size, rfl, b9.out.size, by rw [pcs_single]; exact R10.out, ovs_one F9.out A10.out⟩)).mono ?_; rintro e W11 ⟨rfl, hb⟩; have b11 := hidIt (b9.out.trans ((A10.out.mono b9.out.size).trans hb)); clear hb))
      exact bodyPost_ret (v := .bool true) (by simp [results, Try.results13, go_sem]) rfl ⟨rfl, t, r, v, qs, lv, rs, S1.out.more b11.out, HE.out, E1.out.trans (b11.out.mono S1.out.size)⟩
    · skip
      clear RVa bVa zVa hVa
      refine (rget_u (S1.out.ref.below bVd) (Txt.of (C := kC) (K1.out.below (bVd.mono S1.out.size)).1)).mono ?_
      rintro e Vb ⟨y, rfl, hyp, hyo, zb⟩
      rw [HE.out]
      have bVb : Below W1.heap.size W1 Vb := bVd.trans (zb.mono bVd.size)
      refine ⟨_, rfl, CE.out _ bVb, fun hHeld => ?_⟩
      simp only [Act.put, List.setIfInBounds_toArray, List.set_cons_zero, List.set_cons_succ]
      refine take_at (i := 7) (v := ?_) (some 43) rfl rfl (by kernel_rfl) (by kernel_rfl) (by kernel_rfl) (fun _ _ _ h => h) (Or.inl ⟨by rfl, ?_⟩) (by assumption) ?_
      rotate_left
      · (intro w hSw; (try dsimp only at hSw); go_simp; try with_reducible rfl)
      simp only [Act.put, List.setIfInBounds_toArray, List.set_cons_zero, List.set_cons_succ]
      refine take_at (i := 8) (v := ?_) (some 51) rfl rfl (by kernel_rfl) (by kernel_rfl) (by kernel_rfl) (fun _ _ _ h => h) (Or.inl ⟨by rfl, ?_⟩) (by assumption) ?_
      rotate_left
      · (intro w hSw; (try dsimp only at hSw); go_simp; try with_reducible rfl)
      simp only [Act.put, List.setIfInBounds_toArray, List.set_cons_zero, List.set_cons_succ]
      refine take_at (i := 9) (v := ?_) (some 52) rfl rfl (by kernel_rfl) (by kernel_rfl) (by kernel_rfl) (fun _ _ _ h => h) (Or.inl ⟨by rfl, ?_⟩) (by assumption) ?_
      rotate_left
      · (intro w hSw; (try dsimp only at hSw); go_simp; try with_reducible rfl)
      simp only [Act.put, List.setIfInBounds_toArray, List.set_cons_zero, List.set_cons_succ]
      obtain ⟨Ve, hVe⟩ : ∃ Ve, Ve = Vb.alloc (.cells ([.slice none 0 0, .slice none 0 0, .bool false] : List Value).toArray 47) := ⟨_, rfl⟩
      have zVe : Below Vb.heap.size Vb Ve := by rw [hVe]; exact (Below.refl _ _).alloc (Nat.le_refl _) _
      have RVe : Rec19 Ve Vb.heap.size 0 [.slice none 0 0, .slice none 0 0, .bool false] := by rw [hVe]; exact Rec19.new Vb _ _
      have bVe : Below W1.heap.size W1 Ve := bVb.trans (zVe.mono bVb.size)
      refine step_at (i := 10) (some 7) rfl rfl (by rfl) (by kernel_rfl) (.pointer (some ⟨Vb.heap.size, 0, none⟩)) Ve (by rw [hVe]; exact pal_run rfl) (CE.out _ bVe) (fun hHeld => ?_)
      simp only [Act.put, List.setIfInBounds_toArray, List.set_cons_zero, List.set_cons_succ]
      obtain ⟨Vc, hrV, RVc, BVc⟩ := RVe.run_store 47 [y.k, y.v, .bool y.p.g] rfl pair_size (one_of (y_ok S1.out.ref hyo bVb))
      have yV : Below Vb.heap.size Vb Vc := zVe.trans (BVc.below (Nat.le_refl _) zVe.size)
      have xV : Below Uc.heap.size Uc Vc := (zVd.trans (zb.mono zVd.size)).trans (yV.mono (Nat.le_trans zVd.size zb.size))
      have bVc := hidIt (bUc.out.trans (xV.mono bUc.out.size))
      refine mute_at (i := 11) none rfl rfl (by rfl) (by kernel_rfl) Vc (put_mute 47 (.tmp 7) (.tmp 51) rfl _ _ rfl rfl hrV) (CE.out _ bVc.out) (fun hHeld => ?_)
      simp only [Act.put]
      refine take_at (i := 12) (v := ?_) (some 8) rfl rfl (by kernel_rfl) (by kernel_rfl) (by kernel_rfl) (fun _ _ _ h => h) (Or.inl ⟨by rfl, ?_⟩) (by assumption) ?_
      rotate_left
      · (intro w hSw; (try dsimp only at hSw); go_simp; try with_reducible rfl)
      simp only [Act.put, List.setIfInBounds_toArray, List.set_cons_zero, List.set_cons_succ]
      refine wpAnyH_done (by kernel_rfl) ?_ _
      refine NoPanic.normal ?_
      have XV := hidIt RVc
      have XBV : Hid (W1.heap.size ≤ Vb.heap.size) := hidIt bVb.size
      have F8 := hidIt (frp_below F7.out xV)
      have XX8 := hidIt (XU.out.below xV)
      have Y8 := hidIt (y_ok S1.out.ref hyo bVc.out)
      have YP := hidIt hyp
      have bZZ := bVc
      have x0 := (XX8.out.cel 0 _ rfl).1
      have x1 := (XX8.out.cel 1 _ rfl).1
      have x2 := (XX8.out.cel 2 _ rfl).1
      have y0 := (XV.out.cel 0 _ rfl).1
      have y1 := (XV.out.cel 1 _ rfl).1
      have y2 := (XV.out.cel 2 _ rfl).1
      clear hyo hyp xV
      clear hHeld hrV RVc BVc RVe zb zVe bVe bVb zVd bVd hVe yV
      go_wp2_with (first
        | (go_at_call 23; refine (samePair_any (x := PV.mk (.slice a6 n6 C6) (.slice b6 m6 D6) (gR (qs.map PV.p) (txtN n fk)).1) (y := y) (frp_pv F8.out) Y8.out).mono ?_; rintro e W9 ⟨h1, hb⟩; have h2 : e = .returned (.bool true) := (by rw [h1, decide_eq_true (show (gR (qs.map PV.p) (txtN n fk)).1 = y.p by rw [YP.out, HE.out])]); subst h2; clear h1 x0 x1 x2 y0 y1 y2; have F9 := hidIt (frp_below F8.out hb); have X9 := hidIt (XX8.out.below hb); have b9 := hidIt (bZZ.out.trans (hb.mono bZZ.out.size)); have x0 := (X9.out.cel 0 _ rfl).1; have x1 := (X9.out.cel 1 _ rfl).1; have x2 := (X9.out.cel 2 _ rfl).1; clear hb)
        | (refine wpList_run_w (by rfl) (.slice (some ⟨W9.heap.size, 0, none⟩) 1 1) (W9.alloc (.cells (PV.mk (.slice a6 n6 C6) (.slice b6 m6 D6) (gR (qs.map PV.p) (txtN n fk)).1).cs.toArray 47)) (bsl_run 27 47 1 _ rfl 3 56 _ _ _ under_pairs info_pair (by decide) (by decide) rfl (by kernel_rfl)) ?_; obtain ⟨W10, hW10⟩ : ∃ W10, W10 = W9.alloc (.cells (PV.mk (.slice a6 n6 C6) (.slice b6 m6 D6) (gR (qs.map PV.p) (txtN n fk)).1).cs.toArray 47) := ⟨_, rfl⟩; rw [← hW10]; have A10 := hidIt (show Below W9.heap.size W9 W10 by rw [hW10]; exact (Below.refl _ _).alloc (Nat.le_refl _) _); have R10 := hidIt (show Rec19 W10 W9.heap.size 0 (PV.mk (.slice a6 n6 C6) (.slice b6 m6 D6) (gR (qs.map PV.p) (txtN n fk)).1).cs by rw [hW10]; exact Rec19.new W9 _ _); clear hW10 x0 x1 x2)
        | (go_at_call 12; refine (overPairs_any (base := W1.heap.size) (os := [PV.mk (.slice a6 n6 C6) (.slice b6 m6 D6) (gR (qs.map PV.p) (txtN n fk)).1]) 1 1 rfl (by decide) (Nat.le_trans b9.out.size A10.out.size) (fun _ => ⟨W9.heap.size, rfl, b9.out.size, by rw [pcs_single]; exact R10.out, ovs_one F9.out A10.out⟩)).mono ?_; rintro e W11 ⟨rfl, hb⟩; have b11 := hidIt (b9.out.trans ((A10.out.mono b9.out.size).trans hb)); clear hb))
      exact bodyPost_ret (v := .bool true) (by simp [results, Try.results13, go_sem]) rfl ⟨rfl, t, r, v, qs, lv, rs, S1.out.more b11.out, HE.out, E1.out.trans (b11.out.mono S1.out.size)⟩
  · skip
    clear RUa bUa zUa hUa
    refine (tget_u (S1.out.tab.below bUd) (Txt.of (C := kC) (K1.out.below (bUd.mono S1.out.size)).1)).mono ?_
    rintro e Ub ⟨a6, n6, C6, b6, m6, D6, rfl, F6, zb⟩
    have bUb : Below W1.heap.size W1 Ub := bUd.trans (zb.mono bUd.size)
    refine ⟨_, rfl, CE.out _ bUb, fun hHeld => ?_⟩
    simp only [Act.put, List.setIfInBounds_toArray, List.set_cons_zero, List.set_cons_succ]
    refine take_at (i := 7) (v := ?_) (some 33) rfl rfl (by kernel_rfl) (by kernel_rfl) (by kernel_rfl) (fun _ _ _ h => h) (Or.inl ⟨by rfl, ?_⟩) (by assumption) ?_
    rotate_left
    · (intro w hSw; (try dsimp only at hSw); go_simp; try with_reducible rfl)
    simp only [Act.put, List.setIfInBounds_toArray, List.set_cons_zero, List.set_cons_succ]
    refine take_at (i := 8) (v := ?_) (some 41) rfl rfl (by kernel_rfl) (by kernel_rfl) (by kernel_rfl) (fun _ _ _ h => h) (Or.inl ⟨by rfl, ?_⟩) (by assumption) ?_
    rotate_left
    · (intro w hSw; (try dsimp only at hSw); go_simp; try with_reducible rfl)
    simp only [Act.put, List.setIfInBounds_toArray, List.set_cons_zero, List.set_cons_succ]
    refine take_at (i := 9) (v := ?_) (some 42) rfl rfl (by kernel_rfl) (by kernel_rfl) (by kernel_rfl) (fun _ _ _ h => h) (Or.inl ⟨by rfl, ?_⟩) (by assumption) ?_
    rotate_left
    · (intro w hSw; (try dsimp only at hSw); go_simp; try with_reducible rfl)
    simp only [Act.put, List.setIfInBounds_toArray, List.set_cons_zero, List.set_cons_succ]
    obtain ⟨Ue, hUe⟩ : ∃ Ue, Ue = Ub.alloc (.cells ([.slice none 0 0, .slice none 0 0, .bool false] : List Value).toArray 47) := ⟨_, rfl⟩
    have zUe : Below Ub.heap.size Ub Ue := by rw [hUe]; exact (Below.refl _ _).alloc (Nat.le_refl _) _
    have RUe : Rec19 Ue Ub.heap.size 0 [.slice none 0 0, .slice none 0 0, .bool false] := by rw [hUe]; exact Rec19.new Ub _ _
    have bUe : Below W1.heap.size W1 Ue := bUb.trans (zUe.mono bUb.size)
    refine step_at (i := 10) (some 5) rfl rfl (by rfl) (by kernel_rfl) (.pointer (some ⟨Ub.heap.size, 0, none⟩)) Ue (by rw [hUe]; exact pal_run rfl) (CE.out _ bUe) (fun hHeld => ?_)
    simp only [Act.put, List.setIfInBounds_toArray, List.set_cons_zero, List.set_cons_succ]
    obtain ⟨Uc, hrU, RUc, BUc⟩ := RUe.run_store 47 [.slice a6 n6 C6, .slice b6 m6 D6, .bool (gR (qs.map PV.p) (txtN n fk)).1.g] rfl pair_size (by intro u hu; simp only [List.mem_cons, List.not_mem_nil, or_false] at hu; rcases hu with rfl | rfl | rfl <;> rfl)
    have yU : Below Ub.heap.size Ub Uc := zUe.trans (BUc.below (Nat.le_refl _) zUe.size)
    have xU : Below W1.heap.size W1 Uc := (zUd.trans (zb.mono zUd.size)).trans (yU.mono (Nat.le_trans zUd.size zb.size))
    have bUc := hidIt (bW1.out.trans (xU.mono bW1.out.size))
    refine mute_at (i := 11) none rfl rfl (by rfl) (by kernel_rfl) Uc (put_mute 47 (.tmp 5) (.tmp 41) rfl _ _ rfl rfl hrU) (CE.out _ bUc.out) (fun hHeld => ?_)
    simp only [Act.put]
    refine take_at (i := 12) (v := ?_) (some 6) rfl rfl (by kernel_rfl) (by kernel_rfl) (by kernel_rfl) (fun _ _ _ h => h) (Or.inl ⟨by rfl, ?_⟩) (by assumption) ?_
    rotate_left
    · (intro w hSw; (try dsimp only at hSw); go_simp; try with_reducible rfl)
    simp only [Act.put, List.setIfInBounds_toArray, List.set_cons_zero, List.set_cons_succ]
    refine wpAnyH_done (by kernel_rfl) ?_ _
    refine NoPanic.normal ?_
    have XU := hidIt RUc
    have XBU : Hid (W1.heap.size ≤ Ub.heap.size) := hidIt bUb.size
    have F7 : Hid (FrP Uc W1.heap.size ⟨.slice a6 n6 C6, .slice b6 m6 D6, (gR (qs.map PV.p) (txtN n fk)).1⟩) := hidIt (frp_low (frp_below F6 yU) bUd.size)
    clear hHeld hrU RUc BUc RUe zb zUe bUe bUb zUd bUd hUe yU
    go_wp2_with fail
    refine wp_region_noPanic ?_
    refine wp_region_held_drew (S := fun w' => w'.cell? ⟨P, 0, none⟩ = some (.pointer (some ⟨t, 0, none⟩)) ∧ w'.cell? ⟨P, 1, none⟩ = some (.pointer (some ⟨r, 0, none⟩)) ∧ w'.cell? ⟨W.heap.size, 2, none⟩ = some (.slice ka n kC)) (by kernel_rfl) ?_ (fun hHeld => ?_)
    · exact CE.out _ bUc.out.drew
    have zVd : Below Uc.heap.size Uc Uc.drew := (Below.refl _ _).drew
    obtain ⟨Vd, hVd⟩ : ∃ Vd, Vd = Uc.drew := ⟨_, rfl⟩
    rw [← hVd] at hHeld zVd ⊢
    have bVd : Below W1.heap.size W1 Vd := bUc.out.trans (zVd.mono bUc.out.size)
    clear hVd
    refine take_at (i := 0) (v := ?_) (some 44) rfl rfl (by kernel_rfl) (by kernel_rfl) (by kernel_rfl) (fun _ _ _ h => h) (Or.inl ⟨by rfl, ?_⟩) (by assumption) ?_
    rotate_left
    · (intro w hSw; (try dsimp only at hSw); go_simp; try with_reducible rfl)
    simp only [Act.put, List.setIfInBounds_toArray, List.set_cons_zero, List.set_cons_succ]
    refine take_at (i := 1) (v := ?_) (some 45) rfl rfl (by kernel_rfl) (by kernel_rfl) (by kernel_rfl) (fun _ _ _ h => h) (Or.inl ⟨by rfl, ?_⟩) (by assumption) ?_
    rotate_left
    · (intro w hSw; (try dsimp only at hSw); go_simp; try with_reducible rfl)
    simp only [Act.put, List.setIfInBounds_toArray, List.set_cons_zero, List.set_cons_succ]
    refine take_at (i := 2) (v := ?_) (some 46) rfl rfl (by kernel_rfl) (by kernel_rfl) (by kernel_rfl) (fun _ _ _ h => h) (Or.inl ⟨by rfl, ?_⟩) (by assumption) ?_
    rotate_left
    · (intro w hSw; (try dsimp only at hSw); go_simp; try with_reducible rfl)
    simp only [Act.put, List.setIfInBounds_toArray, List.set_cons_zero, List.set_cons_succ]
    refine take_at (i := 3) (v := ?_) (some 47) rfl rfl (by kernel_rfl) (by kernel_rfl) (by kernel_rfl) (fun _ _ _ h => h) (Or.inl ⟨by rfl, ?_⟩) (by assumption) ?_
    rotate_left
    · (intro w hSw; (try dsimp only at hSw); go_simp; try with_reducible rfl)
    simp only [Act.put, List.setIfInBounds_toArray, List.set_cons_zero, List.set_cons_succ]
    refine take_at (i := 4) (v := ?_) (some 48) rfl rfl (by kernel_rfl) (by kernel_rfl) (by kernel_rfl) (fun _ _ _ h => h) (Or.inl ⟨by rfl, ?_⟩) (by assumption) ?_
    rotate_left
    · (intro w hSw; (try dsimp only at hSw); go_simp; try with_reducible rfl)
    simp only [Act.put, List.setIfInBounds_toArray, List.set_cons_zero, List.set_cons_succ]
    refine take_at (i := 5) (v := ?_) (some 49) rfl rfl (by kernel_rfl) (by kernel_rfl) (by kernel_rfl) (fun _ _ _ h => h) (Or.inl ⟨by rfl, ?_⟩) (by assumption) ?_
    rotate_left
    · (intro w hSw; (try dsimp only at hSw); go_simp; try with_reducible rfl)
    simp only [Act.put, List.setIfInBounds_toArray, List.set_cons_zero, List.set_cons_succ]
    obtain ⟨Va, hVa⟩ : ∃ Va, Va = Vd.alloc (.cells ([.slice none 0 0, .slice none 0 0, .bool false] : List Value).toArray 47) := ⟨_, rfl⟩
    have zVa : Below Vd.heap.size Vd Va := by rw [hVa]; exact (Below.refl _ _).alloc (Nat.le_refl _) _
    have RVa : Rec19 Va Vd.heap.size 0 [.slice none 0 0, .slice none 0 0, .bool false] := by rw [hVa]; exact Rec19.new Vd _ _
    have bVa : Below W1.heap.size W1 Va := bVd.trans (zVa.mono bVd.size)
    refine duo_at (i := 6) (j := 10) (some 50) (some 7) 35 #[.tmp 47, .tmp 49] _ rfl rfl rfl rfl rfl (by rfl) (by rfl) (by kernel_rfl) (.pointer (some ⟨Vd.heap.size, 0, none⟩)) Va (by rw [hVa]; exact pal_run rfl) (CE.out _ bVa) (fun hHeld => ?_) #[.pointer (some ⟨r, 0, none⟩), .slice ka n kC] rfl Try.func35 (by kernel_rfl) (by kernel_rfl) ?_
    · skip
      simp only [Act.put, List.setIfInBounds_toArray, List.set_cons_zero, List.set_cons_succ]
      refine call_at (i := 6) (some 50) 35 _ _ rfl rfl rfl (by rfl) (by kernel_rfl) #[.pointer (some ⟨r, 0, none⟩), .slice ka n kC] rfl Try.func35 (by kernel_rfl) (by kernel_rfl) ?_
      refine (rget_u (S1.out.ref.below bVa) (Txt.of (C := kC) (K1.out.below (bVa.mono S1.out.size)).1)).mono ?_
      rintro e Vb ⟨y, rfl, hyp, hyo, zb⟩
      rw [HE.out]
      have bVb : Below W1.heap.size W1 Vb := bVa.trans (zb.mono bVa.size)
      refine ⟨_, rfl, CE.out _ bVb, fun hHeld => ?_⟩
      simp only [Act.put, List.setIfInBounds_toArray, List.set_cons_zero, List.set_cons_succ]
      refine take_at (i := 7) (v := ?_) (some 43) rfl rfl (by kernel_rfl) (by kernel_rfl) (by kernel_rfl) (fun _ _ _ h => h) (Or.inl ⟨by rfl, ?_⟩) (by assumption) ?_
      rotate_left
      · (intro w hSw; (try dsimp only at hSw); go_simp; try with_reducible rfl)
      simp only [Act.put, List.setIfInBounds_toArray, List.set_cons_zero, List.set_cons_succ]
      refine take_at (i := 8) (v := ?_) (some 51) rfl rfl (by kernel_rfl) (by kernel_rfl) (by kernel_rfl) (fun _ _ _ h => h) (Or.inl ⟨by rfl, ?_⟩) (by assumption) ?_
      rotate_left
      · (intro w hSw; (try dsimp only at hSw); go_simp; try with_reducible rfl)
      simp only [Act.put, List.setIfInBounds_toArray, List.set_cons_zero, List.set_cons_succ]
      refine take_at (i := 9) (v := ?_) (some 52) rfl rfl (by kernel_rfl) (by kernel_rfl) (by kernel_rfl) (fun _ _ _ h => h) (Or.inl ⟨by rfl, ?_⟩) (by assumption) ?_
      rotate_left
      · (intro w hSw; (try dsimp only at hSw); go_simp; try with_reducible rfl)
      simp only [Act.put, List.setIfInBounds_toArray, List.set_cons_zero, List.set_cons_succ]
      obtain ⟨Vc, hrV, RVc, BVc⟩ := (RVa.below zb).run_store 47 [y.k, y.v, .bool y.p.g] rfl pair_size (one_of (y_ok S1.out.ref hyo bVb))
      have xV : Below Uc.heap.size Uc Vc := (zVd.trans (zVa.mono zVd.size)).trans ((zb.mono (Nat.le_trans zVd.size zVa.size)).trans (BVc.below zVd.size (Nat.le_trans (Nat.le_trans zVd.size zVa.size) zb.size)))
      have bVc := hidIt (bUc.out.trans (xV.mono bUc.out.size))
      refine mute_at (i := 11) none rfl rfl (by rfl) (by kernel_rfl) Vc (put_mute 47 (.tmp 7) (.tmp 51) rfl _ _ rfl rfl hrV) (CE.out _ bVc.out) (fun hHeld => ?_)
      simp only [Act.put]
      refine take_at (i := 12) (v := ?_) (some 8) rfl rfl (by kernel_rfl) (by kernel_rfl) (by kernel_rfl) (fun _ _ _ h => h) (Or.inl ⟨by rfl, ?_⟩) (by assumption) ?_
      rotate_left
      · (intro w hSw; (try dsimp only at hSw); go_simp; try with_reducible rfl)
      simp only [Act.put, List.setIfInBounds_toArray, List.set_cons_zero, List.set_cons_succ]
      refine wpAnyH_done (by kernel_rfl) ?_ _
      refine NoPanic.normal ?_
      have XV := hidIt RVc
      have XBV : Hid (W1.heap.size ≤ Vd.heap.size) := hidIt bVd.size
      have F8 := hidIt (frp_below F7.out xV)
      have XX8 := hidIt (XU.out.below xV)
      have Y8 := hidIt (y_ok S1.out.ref hyo bVc.out)
      have YP := hidIt hyp
      have bZZ := bVc
      have x0 := (XX8.out.cel 0 _ rfl).1
      have x1 := (XX8.out.cel 1 _ rfl).1
      have x2 := (XX8.out.cel 2 _ rfl).1
      have y0 := (XV.out.cel 0 _ rfl).1
      have y1 := (XV.out.cel 1 _ rfl).1
      have y2 := (XV.out.cel 2 _ rfl).1
      clear hyo hyp xV
      clear hHeld hrV RVc BVc RVa zb zVa bVa bVb zVd bVd hVa
      go_wp2_with (first
        | (go_at_call 23; refine (samePair_any (x := PV.mk (.slice a6 n6 C6) (.slice b6 m6 D6) (gR (qs.map PV.p) (txtN n fk)).1) (y := y) (frp_pv F8.out) Y8.out).mono ?_; rintro e W9 ⟨h1, hb⟩; have h2 : e = .returned (.bool true) := (by rw [h1, decide_eq_true (show (gR (qs.map PV.p) (txtN n fk)).1 = y.p by rw [YP.out, HE.out])]); subst h2; clear h1 x0 x1 x2 y0 y1 y2; have F9 := hidIt (frp_below F8.out hb); have X9 := hidIt (XX8.out.below hb); have b9 := hidIt (bZZ.out.trans (hb.mono bZZ.out.size)); have x0 := (X9.out.cel 0 _ rfl).1; have x1 := (X9.out.cel 1 _ rfl).1; have x2 := (X9.out.cel 2 _ rfl).1; clear hb)
        | (refine wpList_run_w (by rfl) (.slice (some ⟨W9.heap.size, 0, none⟩) 1 1) (W9.alloc (.cells (PV.mk (.slice a6 n6 C6) (.slice b6 m6 D6) (gR (qs.map PV.p) (txtN n fk)).1).cs.toArray 47)) (bsl_run 27 47 1 _ rfl 3 56 _ _ _ under_pairs info_pair (by decide) (by decide) rfl (by kernel_rfl)) ?_; obtain ⟨W10, hW10⟩ : ∃ W10, W10 = W9.alloc (.cells (PV.mk (.slice a6 n6 C6) (.slice b6 m6 D6) (gR (qs.map PV.p) (txtN n fk)).1).cs.toArray 47) := ⟨_, rfl⟩; rw [← hW10]; have A10 := hidIt (show Below W9.heap.size W9 W10 by rw [hW10]; exact (Below.refl _ _).alloc (Nat.le_refl _) _); have R10 := hidIt (show Rec19 W10 W9.heap.size 0 (PV.mk (.slice a6 n6 C6) (.slice b6 m6 D6) (gR (qs.map PV.p) (txtN n fk)).1).cs by rw [hW10]; exact Rec19.new W9 _ _); clear hW10 x0 x1 x2)
        | (go_at_call 12; refine (overPairs_any (base := W1.heap.size) (os := [PV.mk (.slice a6 n6 C6) (.slice b6 m6 D6) (gR (qs.map PV.p) (txtN n fk)).1]) 1 1 rfl (by decide) (Nat.le_trans b9.out.size A10.out.size) (fun _ => ⟨W9.heap.size, rfl, b9.out.size, by rw [pcs_single]; exact R10.out, ovs_one F9.out A10.out⟩)).mono ?_; rintro e W11 ⟨rfl, hb⟩; have b11 := hidIt (b9.out.trans ((A10.out.mono b9.out.size).trans hb)); clear hb))
      exact bodyPost_ret (v := .bool true) (by simp [results, Try.results13, go_sem]) rfl ⟨rfl, t, r, v, qs, lv, rs, S1.out.more b11.out, HE.out, E1.out.trans (b11.out.mono S1.out.size)⟩
    · skip
      clear RVa bVa zVa hVa
      refine (rget_u (S1.out.ref.below bVd) (Txt.of (C := kC) (K1.out.below (bVd.mono S1.out.size)).1)).mono ?_
      rintro e Vb ⟨y, rfl, hyp, hyo, zb⟩
      rw [HE.out]
      have bVb : Below W1.heap.size W1 Vb := bVd.trans (zb.mono bVd.size)
      refine ⟨_, rfl, CE.out _ bVb, fun hHeld => ?_⟩
      simp only [Act.put, List.setIfInBounds_toArray, List.set_cons_zero, List.set_cons_succ]
      refine take_at (i := 7) (v := ?_) (some 43) rfl rfl (by kernel_rfl) (by kernel_rfl) (by kernel_rfl) (fun _ _ _ h => h) (Or.inl ⟨by rfl, ?_⟩) (by assumption) ?_
      rotate_left
      · (intro w hSw; (try dsimp only at hSw); go_simp; try with_reducible rfl)
      simp only [Act.put, List.setIfInBounds_toArray, List.set_cons_zero, List.set_cons_succ]
      refine take_at (i := 8) (v := ?_) (some 51) rfl rfl (by kernel_rfl) (by kernel_rfl) (by kernel_rfl) (fun _ _ _ h => h) (Or.inl ⟨by rfl, ?_⟩) (by assumption) ?_
      rotate_left
      · (intro w hSw; (try dsimp only at hSw); go_simp; try with_reducible rfl)
      simp only [Act.put, List.setIfInBounds_toArray, List.set_cons_zero, List.set_cons_succ]
      refine take_at (i := 9) (v := ?_) (some 52) rfl rfl (by kernel_rfl) (by kernel_rfl) (by kernel_rfl) (fun _ _ _ h => h) (Or.inl ⟨by rfl, ?_⟩) (by assumption) ?_
      rotate_left
      · (intro w hSw; (try dsimp only at hSw); go_simp; try with_reducible rfl)
      simp only [Act.put, List.setIfInBounds_toArray, List.set_cons_zero, List.set_cons_succ]
      obtain ⟨Ve, hVe⟩ : ∃ Ve, Ve = Vb.alloc (.cells ([.slice none 0 0, .slice none 0 0, .bool false] : List Value).toArray 47) := ⟨_, rfl⟩
      have zVe : Below Vb.heap.size Vb Ve := by rw [hVe]; exact (Below.refl _ _).alloc (Nat.le_refl _) _
      have RVe : Rec19 Ve Vb.heap.size 0 [.slice none 0 0, .slice none 0 0, .bool false] := by rw [hVe]; exact Rec19.new Vb _ _
      have bVe : Below W1.heap.size W1 Ve := bVb.trans (zVe.mono bVb.size)
      refine step_at (i := 10) (some 7) rfl rfl (by rfl) (by kernel_rfl) (.pointer (some ⟨Vb.heap.size, 0, none⟩)) Ve (by rw [hVe]; exact pal_run rfl) (CE.out _ bVe) (fun hHeld => ?_)
      simp only [Act.put, List.setIfInBounds_toArray, List.set_cons_zero, List.set_cons_succ]
      obtain ⟨Vc, hrV, RVc, BVc⟩ := RVe.run_store 47 [y.k, y.v, .bool y.p.g] rfl pair_size (one_of (y_ok S1.out.ref hyo bVb))
      have yV : Below Vb.heap.size Vb Vc := zVe.trans (BVc.below (Nat.le_refl _) zVe.size)
      have xV : Below Uc.heap.size Uc Vc := (zVd.trans (zb.mono zVd.size)).trans (yV.mono (Nat.le_trans zVd.size zb.size))
      have bVc := hidIt (bUc.out.trans (xV.mono bUc.out.size))
      refine mute_at (i := 11) none rfl rfl (by rfl) (by kernel_rfl) Vc (put_mute 47 (.tmp 7) (.tmp 51) rfl _ _ rfl rfl hrV) (CE.out _ bVc.out) (fun hHeld => ?_)
      simp only [Act.put]
      refine take_at (i := 12) (v := ?_) (some 8) rfl rfl (by kernel_rfl) (by kernel_rfl) (by kernel_rfl) (fun _ _ _ h => h) (Or.inl ⟨by rfl, ?_⟩) (by assumption) ?_
      rotate_left
      · (intro w hSw; (try dsimp only at hSw); go_simp; try with_reducible rfl)
      simp only [Act.put, List.setIfInBounds_toArray, List.set_cons_zero, List.set_cons_succ]
      refine wpAnyH_done (by kernel_rfl) ?_ _
      refine NoPanic.normal ?_
      have XV := hidIt RVc
      have XBV : Hid (W1.heap.size ≤ Vb.heap.size) := hidIt bVb.size
      have F8 := hidIt (frp_below F7.out xV)
      have XX8 := hidIt (XU.out.below xV)
      have Y8 := hidIt (y_ok S1.out.ref hyo bVc.out)
      have YP := hidIt hyp
      have bZZ := bVc
      have x0 := (XX8.out.cel 0 _ rfl).1
      have x1 := (XX8.out.cel 1 _ rfl).1
      have x2 := (XX8.out.cel 2 _ rfl).1
      have y0 := (XV.out.cel 0 _ rfl).1
      have y1 := (XV.out.cel 1 _ rfl).1
      have y2 := (XV.out.cel 2 _ rfl).1
      clear hyo hyp xV
      clear hHeld hrV RVc BVc RVe zb zVe bVe bVb zVd bVd hVe yV
      go_wp2_with (first
        | (go_at_call 23; refine (samePair_any (x := PV.mk (.slice a6 n6 C6) (.slice b6 m6 D6) (gR (qs.map PV.p) (txtN n fk)).1) (y := y) (frp_pv F8.out) Y8.out).mono ?_; rintro e W9 ⟨h1, hb⟩; have h2 : e = .returned (.bool true) := (by rw [h1, decide_eq_true (show (gR (qs.map PV.p) (txtN n fk)).1 = y.p by rw [YP.out, HE.out])]); subst h2; clear h1 x0 x1 x2 y0 y1 y2; have F9 := hidIt (frp_below F8.out hb); have X9 := hidIt (XX8.out.below hb); have b9 := hidIt (bZZ.out.trans (hb.mono bZZ.out.size)); have x0 := (X9.out.cel 0 _ rfl).1; have x1 := (X9.out.cel 1 _ rfl).1; have x2 := (X9.out.cel 2 _ rfl).1; clear hb)
        | (refine wpList_run_w (by rfl) (.slice (some ⟨W9.heap.size, 0, none⟩) 1 1) (W9.alloc (.cells (PV.mk (.slice a6 n6 C6) (.slice b6 m6 D6) (gR (qs.map PV.p) (txtN n fk)).1).cs.toArray 47)) (bsl_run 27 47 1 _ rfl 3 56 _ _ _ under_pairs info_pair (by decide) (by decide) rfl (by kernel_rfl)) ?_; obtain ⟨W10, hW10⟩ : ∃ W10, W10 = W9.alloc (.cells (PV.mk (.slice a6 n6 C6) (.slice b6 m6 D6) (gR (qs.map PV.p) (txtN n fk)).1).cs.toArray 47) := ⟨_, rfl⟩; rw [← hW10]; have A10 := hidIt (show Below W9.heap.size W9 W10 by rw [hW10]; exact (Below.refl _ _).alloc (Nat.le_refl _) _); have R10 := hidIt (show Rec19 W10 W9.heap.size 0 (PV.mk (.slice a6 n6 C6) (.slice b6 m6 D6) (gR (qs.map PV.p) (txtN n fk)).1).cs by rw [hW10]; exact Rec19.new W9 _ _); clear hW10 x0 x1 x2)
        | (go_at_call 12; refine (overPairs_any (base := W1.heap.size) (os := [PV.mk (.slice a6 n6 C6) (.slice b6 m6 D6) (gR (qs.map PV.p) (txtN n fk)).1]) 1 1 rfl (by decide) (Nat.le_trans b9.out.size A10.out.size) (fun _ => ⟨W9.heap.size, rfl, b9.out.size, by rw [pcs_single]; exact R10.out, ovs_one F9.out A10.out⟩)).mono ?_; rintro e W11 ⟨rfl, hb⟩; have b11 := hidIt (b9.out.trans ((A10.out.mono b9.out.size).trans hb)); clear hb))
      exact bodyPost_ret (v := .bool true) (by simp [results, Try.results13, go_sem]) rfl ⟨rfl, t, r, v, qs, lv, rs, S1.out.more b11.out, HE.out, E1.out.trans (b11.out.mono S1.out.size)⟩
end Go.Proofs.Ytandkedipjmdbaa
