/-
  Walks, not a claim by itself: level's copied. By the verifier.
-/
import Derived.Test.YtelcijfcgflagaaLvFo
import Derived.Test.YtelcijfcgflagaaDuo
namespace Go.Proofs.Ytelcijfcgflagaa
open Go.RowKit Go.Shelf
attribute [local go_sem] Oper.semAt_some
attribute [-go_sem] Builtin.append_
theorem rkeeps_off {B : Nat} {W W' : World} {v : Value} {ps : List RV} (h : Off v.ownBlock.toList W W') (ho : OwnR W 0 v ps) : KeepsFrom B W W' := ⟨h.size, fun k o _ hk hc => (h.block k (Array.getElem?_eq_some_iff.1 hk).1 (fun q => by
  rcases ho.2 with ⟨hv, _⟩ | ⟨g, cap, cur, hv, _, hg, _⟩
  · rw [hv] at q; cases q
  · rw [hv] at q
    simp [Value.ownBlock] at q
    rw [q, hg] at hk
    injection hk with hk
    rw [← hk] at hc
    cases hc)).trans hk⟩
theorem flt_sz {ls : List LR} {k i : Nat} {y : RV} (hz : ∀ x ∈ ls, ∀ y ∈ x.rs, y.r.f.size ≤ 1000000 ∧ y.r.l.size ≤ 1000000) (e : (flt 0 ls)[k]? = some (i, y)) : y.r.f.size ≤ 1000000 ∧ y.r.l.size ≤ 1000000 := by
  obtain ⟨i', k', x, hi, hk, _, _⟩ := flt_has 0 ls k i y e
  exact hz x (List.mem_of_getElem? hi) y (List.mem_of_getElem? hk)
theorem flt_few {ls : List LR} (h : ∀ x ∈ ls, x.rs.length ≤ 1000) : ∀ {b : Nat}, (flt b ls).length ≤ ls.length * 1000 := by
  induction ls with
  | nil => intro b; simp [flt]
  | cons x r ih =>
    intro b
    have a := h x (by simp)
    have c := ih (fun y hy => h y (by simp [hy])) (b := b + 1)
    simp only [flt, List.length_append, List.length_map, List.length_cons]
    omega
theorem four_at (lv : Nat → Value) {i : Nat} (hi : i < 4) : [lv 0, lv 1, lv 2, lv 3][i]? = some (lv i) := by
  rcases (show i = 0 ∨ i = 1 ∨ i = 2 ∨ i = 3 by omega) with rfl | rfl | rfl | rfl <;> rfl
theorem fo_at {B1 : Nat} {W : World} {g i : Nat} {lv : Nat → Value} {os : Nat → List RV} (h : Fo B1 W g lv os) (hi : i < 4) : W.cell? ⟨g, i, none⟩ = some (lv i) := by
  exact (h.rc.cel i (lv i) (four_at lv hi)).1
theorem app_runv {a : Act} {w : World} {o : Oper} (d x : Operand) (dT sT : TypeId) (hop : o.op = Op.call { callee := Callee.builtin Builtin.append, args := #[d, x], argTypes := #[dT, sT] })
    (v u : Value) (hd : a.eval d = v) (hx : a.eval x = u) {v' : Value} {w' : World} (hr : (Builtin.append_ #[dT, sT] o.type #[v, u]).run Try.prog w = .ok v' w') : (execOp a.eval o).run Try.prog w = .ok (.value v') w' := by
  simp [execOp, hop, resolve, invoke, builtin, hd, hx, hr, Result.andThen]
/-- What copied's loop keeps. -/
structure CoI (W0 : World) (A : Option Addr) (L C : Nat) (ls : List LR) (k : Nat) (W : World) : Prop where
  fo : ∃ lv os, Fo (W0.heap.size + 3) W W0.heap.size lv os ∧ ∀ i, i < 4 → (os i).map RV.r = lvl ((flt 0 ls).take k) i
  old : Below W0.heap.size W0 W
  sz : W0.heap.size + 3 ≤ W.heap.size
  bx : Rec19 W (W0.heap.size + 1) 0 [.slice (some ⟨W0.heap.size, 0, none⟩) 4 4]
  tb : TbM (W0.heap.size + 2) A L C ls W
theorem CoI.up {W0 W W' : World} {A : Option Addr} {L C k : Nat} {ls : List LR} (h : CoI W0 A L C ls k W) (hB : Below W.heap.size W W') : CoI W0 A L C ls k W' :=
  ⟨by obtain ⟨lv, os, h1, h2⟩ := h.fo; exact ⟨lv, os, h1.below hB, h2⟩, h.old.trans (hB.mono h.old.size), Nat.le_trans h.sz hB.size, h.bx.below hB, h.tb.below hB⟩
theorem CoI.cks {W0 W W' : World} {A : Option Addr} {L C k : Nat} {ls : List LR} (h : CoI W0 A L C ls k W) (hk : Cks W W') (hB : Below W0.heap.size W W') : CoI W0 A L C ls k W' :=
  ⟨by obtain ⟨lv, os, h1, h2⟩ := h.fo; exact ⟨lv, os, h1.cks hk, h2⟩, h.old.trans hB, Nat.le_trans h.sz hk.size, h.bx.cks hk, h.tb.cks hk⟩
/-- One more table. -/
theorem CoI.step {W0 W W5 W6 : World} {A : Option Addr} {L C k i : Nat} {ls : List LR} {lv : Nat → Value} {os : Nat → List RV} {y z : RV} {v6 : Value} (h : CoI W0 A L C ls k W) (hf : Fo (W0.heap.size + 3) W W0.heap.size lv os) (hm : ∀ j, j < 4 → (os j).map RV.r = lvl ((flt 0 ls).take k) j) (hB : Below W.heap.size W W5) (hx : (flt 0 ls)[k]? = some (i, y)) (hi : i < 4) (hz : z.r = y.r) (hzk : OkT (W0.heap.size + 3) W5 (foN W0.heap.size lv) z) (hI : InsR W5 (lv i) (os i ++ [z]) v6 W6) (hl : Lvs W0 A ls) : CoI W0 A L C ls (k + 1) (W6.setCell ⟨W0.heap.size, i, none⟩ v6) := by
  have f5 := hf.below hB
  have i5 := h.up hB
  have fs := f5.set hi i5.sz hI (fun x hx => by
    rcases List.mem_append.1 hx with hx | hx
    · exact f5.oks i hi x hx
    · rcases List.mem_singleton.1 hx with rfl
      exact hzk)
  have BS := But.set (b := W0.heap.size) W6 i v6
  have nb : ∀ b, b ∈ (lv i).ownBlock.toList → W0.heap.size + 3 ≤ b := fun b hb => (hf.new i hi b (by simpa using hb)).1
  have o1 : Below W0.heap.size W0 (W6.setCell ⟨W0.heap.size, i, none⟩ v6) := (i5.old.trans (hI.off.below (fun b hb => by have := nb b hb; omega) i5.old.size)).trans (BS.below (Nat.le_refl _) (Nat.le_trans i5.old.size hI.off.size))
  refine ⟨⟨_, _, fs, fun j hj => ?_⟩, o1, Nat.le_trans i5.sz (Nat.le_trans hI.off.size BS.size), ((i5.bx.off hI.off (fun q => by have := nb _ q; omega)).but BS (by omega)), ⟨?_, hl.below o1⟩⟩
  · rw [lvl_snoc hx]
    by_cases e : j = i
    · subst e
      rw [upd4_at, if_pos rfl, List.map_append, hm j hj, List.map_cons, List.map_nil, hz]
    · rw [upd4_ne _ _ e, if_neg e, hm j hj]
  · have c1 := (hI.off.cell (p := ⟨W0.heap.size + 2, 0, none⟩) (by have := i5.sz; show W0.heap.size + 2 < _; omega) (fun q => by have := nb _ q; simp at this)).trans i5.tb.bx
    exact (BS.cell (p := ⟨W0.heap.size + 2, 0, none⟩) (by have := i5.sz; have := hI.off.size; show W0.heap.size + 2 < _; omega) (by show W0.heap.size + 2 ≠ _; omega)).trans c1
/-- What copied answers. -/
def CoPost (W : World) (ls : List (List Rn)) (e : Ending) (w' : World) : Prop := ∃ g lv os, e = .returned (.slice (some ⟨g, 0, none⟩) 4 4) ∧ Fo (W.heap.size + 3) w' g lv os ∧ (g = W.heap.size ∧ W.heap.size + 3 ≤ w'.heap.size) ∧ (∀ i, i < 4 → (os i).map RV.r = (ls[i]?).getD []) ∧ Below W.heap.size W w'
set_option maxRecDepth 100000 in
set_option maxHeartbeats 4000000 in
theorem lcopied_any {W0 : World} {A : Option Addr} {ls : List LR} (L C : Nat) (hL : ls.length = L) (h : Lvs W0 A ls) (h4 : L ≤ 4) (hs : ∀ x ∈ ls, x.rs.length ≤ 1000) (hz : ∀ x ∈ ls, ∀ y ∈ x.rs, y.r.f.size ≤ 1000000 ∧ y.r.l.size ≤ 1000000) : Calls Try.prog 29 #[.slice A L C] W0 (CoPost W0 (rns ls)) := by
  have HL := hidIt h
  have HN := hidIt (And.intro hL (And.intro h4 (And.intro hs hz)))
  have ST : Hid (∀ W, Below W0.heap.size W0 W → W.heap.size = W0.heap.size + 3 → Rec19 W W0.heap.size 0 [.slice none 0 0, .slice none 0 0, .slice none 0 0, .slice none 0 0] → Rec19 W (W0.heap.size + 1) 0 [.slice (some ⟨W0.heap.size, 0, none⟩) 4 4] → W.cell? ⟨W0.heap.size + 2, 0, none⟩ = some (.slice A L C) → CoI W0 A L C ls 0 W) := hidIt (fun W hB hz h1 h2 h3 => ⟨⟨_, _, Fo.nil h1, fun i hi => rfl⟩, hB, Nat.le_of_eq hz.symm, h2, ⟨h3, h.below hB⟩⟩)
  clear h hL hs h4 hz
  refine (callsIn_wide (n := 5)).1 ?_
  refine callsIn_of_wp_marks Try.func29 rfl trivial ?_ rfl
  simp only [Try.ntmps29, List.size_toArray, List.length_cons, List.length_nil, Nat.reduceAdd, Nat.reduceSub, Array.replicate_succ, Array.replicate_zero, List.push_toArray, List.append_toArray, List.nil_append, List.cons_append]
  obtain ⟨W1, hW1⟩ : ∃ W1, W1 = W0.alloc (.cells #[.slice none 0 0, .slice none 0 0, .slice none 0 0, .slice none 0 0] 23) := ⟨_, rfl⟩
  have hmk := make_four W0
  rw [← hW1] at hmk
  have M1 : Hid (Rec19 W1 W0.heap.size 0 [.slice none 0 0, .slice none 0 0, .slice none 0 0, .slice none 0 0] ∧ Below W0.heap.size W0 W1 ∧ W1.heap.size = W0.heap.size + 1) := hidIt (by rw [hW1]; exact ⟨Rec19.new W0 _ [.slice none 0 0, .slice none 0 0, .slice none 0 0, .slice none 0 0], (Below.refl _ _).alloc (Nat.le_refl _) _, by simp⟩)
  clear hW1
  have t1 : Hid True := trivial
  gi_wp2_with (have _q := t1; refine fen_run rfl (by intro c hc; cases hc) (by simp [Oper.about]) (.slice (some ⟨W0.heap.size, 0, none⟩) 4 4) (w' := W1) (by unfold execOp; simp [hmk, Result.andThen, Act.eval]) ?_; clear t1 _q hmk)
  refine ⟨trivial, ?_⟩
  refine CallsIn.mono (tables_in _ _ trivial rfl A L C _) ?_
  rintro e Ws ⟨rfl, hw⟩
  have I0 : CoI W0 A L C ls 0 Ws ∧ Ws.heap.size = W0.heap.size + 3 := by
    obtain ⟨r1, b1, s1⟩ := M1.out
    have z : Ws.heap.size = W0.heap.size + 3 := by rw [hw]; simp [s1]
    have b2 := (Below.refl W1.heap.size W1).alloc (Nat.le_refl _) (.cells #[.slice (some ⟨W0.heap.size, 0, none⟩) 4 4] 22)
    have b4 := b2.alloc b2.size (.cells #[.slice A L C] 22)
    have r2 : Rec19 _ W1.heap.size 0 [.slice (some ⟨W0.heap.size, 0, none⟩) 4 4] := Rec19.new W1 22 [.slice (some ⟨W0.heap.size, 0, none⟩) 4 4]
    have r4 := r2.below ((Below.refl _ _).alloc (Nat.le_refl _) (.cells #[.slice A L C] 22))
    have r5 := r1.below b4
    have r6 : Rec19 _ (W1.alloc (.cells #[.slice (some ⟨W0.heap.size, 0, none⟩) 4 4] 22)).heap.size 0 [.slice A L C] := Rec19.new (W1.alloc (.cells #[.slice (some ⟨W0.heap.size, 0, none⟩) 4 4] 22)) 22 [.slice A L C]
    rw [show (W1.alloc (.cells #[.slice (some ⟨W0.heap.size, 0, none⟩) 4 4] 22)).heap.size = W0.heap.size + 2 by simp [s1]] at r6
    rw [s1] at r4
    rw [← hw] at b4 r4 r5 r6
    exact ⟨ST.out Ws (b1.trans (b4.mono b1.size)) z r5 r4 (r6.cel 0 _ rfl).1, z⟩
  clear hw
  obtain ⟨I0, z1⟩ := I0
  rw [show (W1.alloc (.cells #[.slice (some ⟨W0.heap.size, 0, none⟩) 4 4] 22)).heap.size = W0.heap.size + 2 by simp [M1.out.2.2], M1.out.2.2]
  clear M1 ST
  gi_wp2
  refine range_tbl (m := 5) 9 10 (by omega) (W0.heap.size + 2) A L C ls HN.out.1 (by have := HN.out.2.1; omega) (fun x hx => by have := HN.out.2.2.1 x hx; omega) rfl (CoI W0 A L C ls) (fun _ _ => False) (fun s W W' row h hg hr => ?_) (fun s W W' row h hg hr => h) (fun k W W' h hB => h.up hB) (fun k W h => h.tb) I0 ?_ ?_ (fun _ _ _ _ h _ => h.elim)
  · exact h.cks (Cks.grown hg (fun r e => (hr r e).2)) ((Below.refl _ _).grown hg (by have := h.sz; omega) (fun r e => by have := (hr r e).1; omega))
  · intro l k i y X hx hI hl1 hl2 hlr
    have OK := hidIt (flt_ok hI.tb.lv hx)
    have SZ := hidIt (flt_sz HN.out.2.2.2 hx)
    have i4 : i < 4 := by have := OK.out.2; have := HN.out.1; have := HN.out.2.1; omega
    have FEW : Hid (∀ os : Nat → List RV, (∀ j, j < 4 → (os j).map RV.r = lvl ((flt 0 ls).take k) j) → (os i).length ≤ 10000) := hidIt (fun os h => by
      have := congrArg List.length (h i i4)
      rw [List.length_map] at this
      rw [this]
      unfold lvl
      rw [List.length_map]
      refine Nat.le_trans (List.length_filter_le _ _) ?_
      rw [List.length_take]
      have := flt_few HN.out.2.2.1 (b := 0)
      have := HN.out.1
      have := HN.out.2.1
      omega)
    have HX := hidIt hx
    have II := hidIt hI
    have LR := hidIt hlr
    have I4 := hidIt i4
    clear hI I0 hx hlr
    rw [z1] at hl1 ⊢
    simp only [List.setIfInBounds_toArray, List.set_cons_zero, List.set_cons_succ]
    gi_wp2_with (first
      | (refine fen_alloc rfl 45 rfl _ X.heap.size rfl run_zero ?_; intro Y1 R1 B1 y1; have P1 := hidIt R1; have E1 := hidIt (And.intro B1 y1); clear R1 B1 y1)
      | (refine fen_store rfl 45 (.tmp 5) (.tmp 10) rfl X.heap.size 0 _ y.cs rfl rfl P1.out rfl run_size OK.out.1.one ?_; intro Y2 R2 B2; have E2 := hidIt (E1.out.1.trans (B2.below (Nat.le_refl _) (by have := E1.out.2; omega))); have P2 := hidIt R2; clear R2 B2))
    refine ⟨keeps_below E2.out, fun X2 hB2 hz2 => ?_⟩
    have CK : Cks Y2 X2 := Cks.but hB2 (by obtain ⟨r, hr⟩ := LR.out; exact ⟨r, (E2.out.block l hl2).trans hr⟩)
    have hBl : Below W0.heap.size Y2 X2 := hB2.below (by omega) (by have := (II.out.up E2.out).sz; omega)
    obtain ⟨lv, os, hf, hm⟩ := II.out.fo
    have NB : Hid (∀ b, b ∈ (lv i).ownBlock.toList → W0.heap.size + 3 ≤ b ∧ b < X.heap.size) := hidIt (fun b hb => ⟨(hf.new i I4.out b (by simpa using hb)).1, (hf.own i I4.out).lt (by simpa using hb)⟩)
    have NA : Hid (∀ b, b ∈ foN W0.heap.size lv → b < X2.drew.heap.size) := hidIt (fun b hb => by
      have s1 := E2.out.size
      have s2 : Y2.heap.size ≤ X2.drew.heap.size := CK.size
      have s3 := II.out.sz
      rcases foN_of.1 hb with rfl | ⟨j, hj, hb⟩
      · omega
      · have := (hf.own j hj).lt hb; omega)
    have FD := hidIt (((hf.below E2.out).cks CK).below (Below.refl _ _).drew)
    have MD := hidIt hm
    have ID := hidIt (((II.out.up E2.out).cks CK hBl).up (Below.refl _ _).drew)
    have PD := hidIt ((P2.out.cks CK).below (Below.refl _ _).drew)
    have YD := hidIt (((OK.out.1.below E2.out).cks CK).below (Below.refl _ _).drew)
    have LN := hidIt (FEW.out os hm)
    have cl : X2.drew.cell? ⟨W0.heap.size, i, none⟩ = some (lv i) := fo_at FD.out I4.out
    have cb : X2.drew.cell? ⟨W0.heap.size + 1, 0, none⟩ = some (.slice (some ⟨W0.heap.size, 0, none⟩) 4 4) := (ID.out.bx.cel 0 _ rfl).1
    have XZ : Hid (W0.heap.size + 3 ≤ X.heap.size) := hidIt II.out.sz
    obtain ⟨Hb, hHb⟩ : ∃ Hb, Hb = X.heap.size := ⟨_, rfl⟩
    rw [← hHb] at PD NB XZ ⊢
    have g0 : (0 : Int) ≤ (i : Int) := by omega
    have g1 : (i : Int) < 4 := by omega
    clear CK hBl P2 E2 P1 E1 LR hB2 hl1 hl2 II hHb hf hm FEW z1 hz2
    gi_wp2
    refine region_in (S := fun w' => w'.cell? ⟨W0.heap.size + 1, 0, none⟩ = some (.slice (some ⟨W0.heap.size, 0, none⟩) 4 4) ∧ w'.rangeAt Hb 0 y.cs) (by kernel_rfl) (by kernel_rfl) ⟨cb, PD.out.1⟩ (fun hHeld => ?_)
    refine take_at (i := 0) (v := ?_) (some 11) rfl rfl (by kernel_rfl) (by kernel_rfl) (by kernel_rfl) (fun _ _ _ h => by cases h.1) (Or.inl ⟨by rfl, ?_⟩) (by assumption) ?_
    rotate_left
    · (intro w hSw; (try dsimp only at hSw); go_simp; try with_reducible rfl)
    simp only [Act.put, List.setIfInBounds_toArray, List.set_cons_zero, List.set_cons_succ]
    refine take_at (i := 1) (v := ?_) (some 12) rfl rfl (by kernel_rfl) (by kernel_rfl) (by kernel_rfl) (fun _ _ _ h => by cases h.1) (Or.inl ⟨by rfl, ?_⟩) (by assumption) ?_
    rotate_left
    · (intro w hSw; (try dsimp only at hSw); go_simp; try with_reducible rfl)
    simp only [Act.put, List.setIfInBounds_toArray, List.set_cons_zero, List.set_cons_succ]
    refine take_at (i := 2) (v := ?_) (some 13) rfl rfl (by kernel_rfl) (by kernel_rfl) (by kernel_rfl) (fun _ _ _ h => by cases h.1) (Or.inl ⟨by rfl, ?_⟩) (by assumption) ?_
    rotate_left
    · (intro w hSw; (try dsimp only at hSw); go_simp; try with_reducible rfl)
    simp only [Act.put, List.setIfInBounds_toArray, List.set_cons_zero, List.set_cons_succ]
    refine take_at (i := 3) (v := ?_) (some 14) rfl rfl (by kernel_rfl) (by kernel_rfl) (by kernel_rfl) (fun _ _ _ h => by cases h.1) (Or.inl ⟨by rfl, ?_⟩) (by assumption) ?_
    rotate_left
    · (intro w hSw; (try dsimp only at hSw); go_simp; try with_reducible rfl)
    simp only [Act.put, List.setIfInBounds_toArray, List.set_cons_zero, List.set_cons_succ]
    refine take_at (i := 4) (v := ?_) (some 15) rfl rfl (by kernel_rfl) (by kernel_rfl) (by kernel_rfl) (fun _ _ _ h => by cases h.1) (Or.inl ⟨by rfl, ?_⟩) (by assumption) ?_
    rotate_left
    · (intro w hSw; (try dsimp only at hSw); go_simp; try with_reducible rfl)
    simp only [Act.put, List.setIfInBounds_toArray, List.set_cons_zero, List.set_cons_succ]
    refine take_at (i := 6) (v := _) (some 17) rfl rfl (by kernel_rfl) (by kernel_rfl) (by kernel_rfl) (fun _ _ _ h => by cases h.1) (yieldsIf_load_mid (by rfl) _ _ rfl _ _ rfl _ _ (fun w h => h.2) Try.underlying45 rfl (by kernel_rfl)) (by assumption) ?_
    simp only [Act.put, List.setIfInBounds_toArray, List.set_cons_zero, List.set_cons_succ]
    refine duo2_at (i := 7) (j := 5) (some 18) (some 16) 52 #[.tmp 17] _ rfl rfl rfl rfl rfl (by rfl) (by rfl) (by kernel_rfl) (lv i) X2.drew (by go_simp) hHeld (fun hHeld => ?_) #[.agg y.cs.toArray] rfl Try.func52 (by kernel_rfl) (by kernel_rfl) ?_
    · simp only [Act.put, List.setIfInBounds_toArray, List.set_cons_zero, List.set_cons_succ]
      refine call_at (i := 7) (some 18) 52 _ _ rfl rfl rfl (by rfl) (by kernel_rfl) #[.agg y.cs.toArray] rfl Try.func52 (by kernel_rfl) (by kernel_rfl) ?_
      refine (copiedTable_any YD.out SZ.out).mono ?_
      rintro e W4 ⟨z, hz, rfl, Fz, Lz, B4⟩
      have HZ := hidIt hz
      have FZ : Hid (FrC W4 X2.drew.heap.size z.f z.r.f ∧ FrC W4 X2.drew.heap.size z.l z.r.l) := hidIt (by rw [hz]; exact ⟨Fz, Lz⟩)
      have D4 := hidIt B4
      have cl4 : W4.cell? ⟨W0.heap.size, i, none⟩ = some (lv i) := fo_at (FD.out.below B4) I4.out
      have S4 : W4.cell? ⟨W0.heap.size + 1, 0, none⟩ = some (.slice (some ⟨W0.heap.size, 0, none⟩) 4 4) ∧ W4.rangeAt Hb 0 y.cs := ⟨((ID.out.bx.below B4).cel 0 _ rfl).1, (PD.out.below B4).1⟩
      clear Fz Lz B4 hz cl cb
      refine ⟨_, rfl, S4, fun hHeld => ?_⟩
      simp only [Act.put, List.setIfInBounds_toArray, List.set_cons_zero, List.set_cons_succ]
      obtain ⟨W5, hW5⟩ : ∃ W5, W5 = W4.alloc (.cells z.cs.toArray 45) := ⟨_, rfl⟩
      have A5 : Below W4.heap.size W4 W5 := by rw [hW5]; exact (Below.refl _ _).alloc (Nat.le_refl _) _
      have E5 := hidIt (D4.out.trans (A5.mono D4.out.size))
      have R5 : Rec19 W5 W4.heap.size 0 (rcs [z]) := by rw [hW5, rcs_single]; exact Rec19.new W4 _ z.cs
      have OZ : Hid (OkT (W0.heap.size + 3) W5 (foN W0.heap.size lv) z) := hidIt (OkT.below ⟨⟨FZ.out.1.low ID.out.sz, FZ.out.2.low ID.out.sz⟩, FZ.out.1.txt NA.out, FZ.out.2.txt NA.out⟩ A5)
      have S5 : W5.cell? ⟨W0.heap.size + 1, 0, none⟩ = some (.slice (some ⟨W0.heap.size, 0, none⟩) 4 4) ∧ W5.rangeAt Hb 0 y.cs := ⟨((ID.out.bx.below E5.out).cel 0 _ rfl).1, (PD.out.below E5.out).1⟩
      refine step_at (i := 8) (some 19) rfl rfl (by rfl) (by kernel_rfl) (.slice (some ⟨W4.heap.size, 0, none⟩) 1 1) W5 (by rw [hW5]; exact bsl_run 23 45 1 _ rfl 5 72 _ _ _ under_runs info_run (by decide) (by decide) rfl (by kernel_rfl)) S5 (fun hHeld => ?_)
      simp only [Act.put, List.setIfInBounds_toArray, List.set_cons_zero, List.set_cons_succ]
      obtain ⟨v6, W6, hr6, I6⟩ := app_runs 23 W5 (lv i) (os i) [z] ⟨W4.heap.size, 0, none⟩ 1 ((FD.out.own i I4.out).below E5.out) (fun j u hj => by rw [Addr.add_mid]; exact R5.1 j u hj) (by rw [rcs_single]; exact OZ.out.2.one) (by simp) (by have := LN.out; simp; omega)
      simp only [List.length_singleton] at hr6
      have P6 := hidIt ((PD.out.below E5.out).off I6.off (fun q => by have := NB.out Hb q; omega))
      have X6 := hidIt ((ID.out.bx.below E5.out).off I6.off (fun q => by have := NB.out _ q; omega))
      have G6 := hidIt (((FD.out.below E5.out).rc).off I6.off (fun q => by have := NB.out _ q; omega))
      refine step_at (i := 9) (some 20) rfl rfl (by rfl) (by kernel_rfl) v6 W6 (app_runv (.tmp 16) (.tmp 19) 23 23 rfl _ _ rfl rfl hr6) ⟨(X6.out.cel 0 _ rfl).1, P6.out.1⟩ (fun hHeld => ?_)
      simp only [Act.put, List.setIfInBounds_toArray, List.set_cons_zero, List.set_cons_succ]
      refine take_at (i := 10) (v := ?_) (some 21) rfl rfl (by kernel_rfl) (by kernel_rfl) (by kernel_rfl) (fun _ _ _ h => by cases h.1) (Or.inl ⟨by rfl, ?_⟩) (by assumption) ?_
      rotate_left
      · (intro w hSw; (try dsimp only at hSw); go_simp; try with_reducible rfl)
      simp only [Act.put, List.setIfInBounds_toArray, List.set_cons_zero, List.set_cons_succ]
      obtain ⟨a6, cap6, hv6, _⟩ := I6.own.sl
      have hr7 := store_v 23 (by kernel_rfl) (v := v6) (by rw [hv6]; rfl) (by rw [hv6]; rfl) (G6.out.cel i (lv i) (four_at lv I4.out)).1 (G6.out.cel i (lv i) (four_at lv I4.out)).2
      have BS := But.set (b := W0.heap.size) W6 i v6
      have NX : Hid (CoI W0 A L C ls (k + 1) (W6.setCell ⟨W0.heap.size, i, none⟩ v6)) := hidIt (ID.out.step FD.out MD.out E5.out HX.out I4.out HZ.out OZ.out I6 HL.out)
      have KK := hidIt ((((keeps_below (B := W0.heap.size + 3) ((Below.refl X2.heap.size X2).drew.trans E5.out)).trans (rkeeps_off (B := W0.heap.size + 3) I6.off ((FD.out.own i I4.out).below E5.out))).trans (keeps_but (B := W0.heap.size + 3) BS (by omega))))
      have S7 : Hid ((W6.setCell ⟨W0.heap.size, i, none⟩ v6).cell? ⟨W0.heap.size + 1, 0, none⟩ = some (.slice (some ⟨W0.heap.size, 0, none⟩) 4 4) ∧ (W6.setCell ⟨W0.heap.size, i, none⟩ v6).rangeAt Hb 0 y.cs) := hidIt ⟨((X6.out.but BS (by omega)).cel 0 _ rfl).1, (P6.out.but BS (by have := XZ.out; omega)).1⟩
      generalize W6.setCell ⟨W0.heap.size, i, none⟩ v6 = W7 at *
      refine mute_at (i := 11) none rfl rfl (by rfl) (by kernel_rfl) W7 (put_mute 23 (.tmp 21) (.tmp 20) rfl _ _ rfl rfl hr7) S7.out (fun hHeld => ?_)
      simp only [Act.put]
      refine wpAnyH_done (by kernel_rfl) ?_ _
      exact ⟨rfl, KK.out, NX.out⟩
    · refine (copiedTable_any YD.out SZ.out).mono ?_
      rintro e W4 ⟨z, hz, rfl, Fz, Lz, B4⟩
      have HZ := hidIt hz
      have FZ : Hid (FrC W4 X2.drew.heap.size z.f z.r.f ∧ FrC W4 X2.drew.heap.size z.l z.r.l) := hidIt (by rw [hz]; exact ⟨Fz, Lz⟩)
      have D4 := hidIt B4
      have cl4 : W4.cell? ⟨W0.heap.size, i, none⟩ = some (lv i) := fo_at (FD.out.below B4) I4.out
      have S4 : W4.cell? ⟨W0.heap.size + 1, 0, none⟩ = some (.slice (some ⟨W0.heap.size, 0, none⟩) 4 4) ∧ W4.rangeAt Hb 0 y.cs := ⟨((ID.out.bx.below B4).cel 0 _ rfl).1, (PD.out.below B4).1⟩
      clear Fz Lz B4 hz cl cb
      refine ⟨_, rfl, S4, fun hHeld => ?_⟩
      simp only [Act.put, List.setIfInBounds_toArray, List.set_cons_zero, List.set_cons_succ]
      obtain ⟨W5, hW5⟩ : ∃ W5, W5 = W4.alloc (.cells z.cs.toArray 45) := ⟨_, rfl⟩
      have A5 : Below W4.heap.size W4 W5 := by rw [hW5]; exact (Below.refl _ _).alloc (Nat.le_refl _) _
      have E5 := hidIt (D4.out.trans (A5.mono D4.out.size))
      have R5 : Rec19 W5 W4.heap.size 0 (rcs [z]) := by rw [hW5, rcs_single]; exact Rec19.new W4 _ z.cs
      have OZ : Hid (OkT (W0.heap.size + 3) W5 (foN W0.heap.size lv) z) := hidIt (OkT.below ⟨⟨FZ.out.1.low ID.out.sz, FZ.out.2.low ID.out.sz⟩, FZ.out.1.txt NA.out, FZ.out.2.txt NA.out⟩ A5)
      have S5 : W5.cell? ⟨W0.heap.size + 1, 0, none⟩ = some (.slice (some ⟨W0.heap.size, 0, none⟩) 4 4) ∧ W5.rangeAt Hb 0 y.cs := ⟨((ID.out.bx.below E5.out).cel 0 _ rfl).1, (PD.out.below E5.out).1⟩
      refine pair_at (i := 5) (j := 8) (some 16) (some 19) rfl rfl rfl rfl (by kernel_rfl) (by rfl) (by rfl) (lv i) (.slice (some ⟨W4.heap.size, 0, none⟩) 1 1) W4 W5 (by go_simp) (by rw [hW5]; exact bsl_run 23 45 1 _ rfl 5 72 _ _ _ under_runs info_run (by decide) (by decide) rfl (by kernel_rfl)) ⟨hHeld, S5⟩ (fun hHeld => ?_) (fun hHeld => ?_)
      · simp only [Act.put, List.setIfInBounds_toArray, List.set_cons_zero, List.set_cons_succ]
        refine step_at (i := 8) (some 19) rfl rfl (by rfl) (by kernel_rfl) (.slice (some ⟨W4.heap.size, 0, none⟩) 1 1) W5 (by rw [hW5]; exact bsl_run 23 45 1 _ rfl 5 72 _ _ _ under_runs info_run (by decide) (by decide) rfl (by kernel_rfl)) S5 (fun hHeld => ?_)
        simp only [Act.put, List.setIfInBounds_toArray, List.set_cons_zero, List.set_cons_succ]
        obtain ⟨v6, W6, hr6, I6⟩ := app_runs 23 W5 (lv i) (os i) [z] ⟨W4.heap.size, 0, none⟩ 1 ((FD.out.own i I4.out).below E5.out) (fun j u hj => by rw [Addr.add_mid]; exact R5.1 j u hj) (by rw [rcs_single]; exact OZ.out.2.one) (by simp) (by have := LN.out; simp; omega)
        simp only [List.length_singleton] at hr6
        have P6 := hidIt ((PD.out.below E5.out).off I6.off (fun q => by have := NB.out Hb q; omega))
        have X6 := hidIt ((ID.out.bx.below E5.out).off I6.off (fun q => by have := NB.out _ q; omega))
        have G6 := hidIt (((FD.out.below E5.out).rc).off I6.off (fun q => by have := NB.out _ q; omega))
        refine step_at (i := 9) (some 20) rfl rfl (by rfl) (by kernel_rfl) v6 W6 (app_runv (.tmp 16) (.tmp 19) 23 23 rfl _ _ rfl rfl hr6) ⟨(X6.out.cel 0 _ rfl).1, P6.out.1⟩ (fun hHeld => ?_)
        simp only [Act.put, List.setIfInBounds_toArray, List.set_cons_zero, List.set_cons_succ]
        refine take_at (i := 10) (v := ?_) (some 21) rfl rfl (by kernel_rfl) (by kernel_rfl) (by kernel_rfl) (fun _ _ _ h => by cases h.1) (Or.inl ⟨by rfl, ?_⟩) (by assumption) ?_
        rotate_left
        · (intro w hSw; (try dsimp only at hSw); go_simp; try with_reducible rfl)
        simp only [Act.put, List.setIfInBounds_toArray, List.set_cons_zero, List.set_cons_succ]
        obtain ⟨a6, cap6, hv6, _⟩ := I6.own.sl
        have hr7 := store_v 23 (by kernel_rfl) (v := v6) (by rw [hv6]; rfl) (by rw [hv6]; rfl) (G6.out.cel i (lv i) (four_at lv I4.out)).1 (G6.out.cel i (lv i) (four_at lv I4.out)).2
        have BS := But.set (b := W0.heap.size) W6 i v6
        have NX : Hid (CoI W0 A L C ls (k + 1) (W6.setCell ⟨W0.heap.size, i, none⟩ v6)) := hidIt (ID.out.step FD.out MD.out E5.out HX.out I4.out HZ.out OZ.out I6 HL.out)
        have KK := hidIt ((((keeps_below (B := W0.heap.size + 3) ((Below.refl X2.heap.size X2).drew.trans E5.out)).trans (rkeeps_off (B := W0.heap.size + 3) I6.off ((FD.out.own i I4.out).below E5.out))).trans (keeps_but (B := W0.heap.size + 3) BS (by omega))))
        have S7 : Hid ((W6.setCell ⟨W0.heap.size, i, none⟩ v6).cell? ⟨W0.heap.size + 1, 0, none⟩ = some (.slice (some ⟨W0.heap.size, 0, none⟩) 4 4) ∧ (W6.setCell ⟨W0.heap.size, i, none⟩ v6).rangeAt Hb 0 y.cs) := hidIt ⟨((X6.out.but BS (by omega)).cel 0 _ rfl).1, (P6.out.but BS (by have := XZ.out; omega)).1⟩
        generalize W6.setCell ⟨W0.heap.size, i, none⟩ v6 = W7 at *
        refine mute_at (i := 11) none rfl rfl (by rfl) (by kernel_rfl) W7 (put_mute 23 (.tmp 21) (.tmp 20) rfl _ _ rfl rfl hr7) S7.out (fun hHeld => ?_)
        simp only [Act.put]
        refine wpAnyH_done (by kernel_rfl) ?_ _
        exact ⟨rfl, KK.out, NX.out⟩
      · simp only [Act.put, List.setIfInBounds_toArray, List.set_cons_zero, List.set_cons_succ]
        clear hW5
        have cl5 : W5.cell? ⟨W0.heap.size, i, none⟩ = some (lv i) := fo_at (FD.out.below E5.out) I4.out
        refine step_at (i := 5) (some 16) rfl rfl (by rfl) (by kernel_rfl) (lv i) W5 (by go_simp) hHeld (fun hHeld => ?_)
        simp only [Act.put, List.setIfInBounds_toArray, List.set_cons_zero, List.set_cons_succ]
        obtain ⟨v6, W6, hr6, I6⟩ := app_runs 23 W5 (lv i) (os i) [z] ⟨W4.heap.size, 0, none⟩ 1 ((FD.out.own i I4.out).below E5.out) (fun j u hj => by rw [Addr.add_mid]; exact R5.1 j u hj) (by rw [rcs_single]; exact OZ.out.2.one) (by simp) (by have := LN.out; simp; omega)
        simp only [List.length_singleton] at hr6
        have P6 := hidIt ((PD.out.below E5.out).off I6.off (fun q => by have := NB.out Hb q; omega))
        have X6 := hidIt ((ID.out.bx.below E5.out).off I6.off (fun q => by have := NB.out _ q; omega))
        have G6 := hidIt (((FD.out.below E5.out).rc).off I6.off (fun q => by have := NB.out _ q; omega))
        refine step_at (i := 9) (some 20) rfl rfl (by rfl) (by kernel_rfl) v6 W6 (app_runv (.tmp 16) (.tmp 19) 23 23 rfl _ _ rfl rfl hr6) ⟨(X6.out.cel 0 _ rfl).1, P6.out.1⟩ (fun hHeld => ?_)
        simp only [Act.put, List.setIfInBounds_toArray, List.set_cons_zero, List.set_cons_succ]
        refine take_at (i := 10) (v := ?_) (some 21) rfl rfl (by kernel_rfl) (by kernel_rfl) (by kernel_rfl) (fun _ _ _ h => by cases h.1) (Or.inl ⟨by rfl, ?_⟩) (by assumption) ?_
        rotate_left
        · (intro w hSw; (try dsimp only at hSw); go_simp; try with_reducible rfl)
        simp only [Act.put, List.setIfInBounds_toArray, List.set_cons_zero, List.set_cons_succ]
        obtain ⟨a6, cap6, hv6, _⟩ := I6.own.sl
        have hr7 := store_v 23 (by kernel_rfl) (v := v6) (by rw [hv6]; rfl) (by rw [hv6]; rfl) (G6.out.cel i (lv i) (four_at lv I4.out)).1 (G6.out.cel i (lv i) (four_at lv I4.out)).2
        have BS := But.set (b := W0.heap.size) W6 i v6
        have NX : Hid (CoI W0 A L C ls (k + 1) (W6.setCell ⟨W0.heap.size, i, none⟩ v6)) := hidIt (ID.out.step FD.out MD.out E5.out HX.out I4.out HZ.out OZ.out I6 HL.out)
        have KK := hidIt ((((keeps_below (B := W0.heap.size + 3) ((Below.refl X2.heap.size X2).drew.trans E5.out)).trans (rkeeps_off (B := W0.heap.size + 3) I6.off ((FD.out.own i I4.out).below E5.out))).trans (keeps_but (B := W0.heap.size + 3) BS (by omega))))
        have S7 : Hid ((W6.setCell ⟨W0.heap.size, i, none⟩ v6).cell? ⟨W0.heap.size + 1, 0, none⟩ = some (.slice (some ⟨W0.heap.size, 0, none⟩) 4 4) ∧ (W6.setCell ⟨W0.heap.size, i, none⟩ v6).rangeAt Hb 0 y.cs) := hidIt ⟨((X6.out.but BS (by omega)).cel 0 _ rfl).1, (P6.out.but BS (by have := XZ.out; omega)).1⟩
        generalize W6.setCell ⟨W0.heap.size, i, none⟩ v6 = W7 at *
        refine mute_at (i := 11) none rfl rfl (by rfl) (by kernel_rfl) W7 (put_mute 23 (.tmp 21) (.tmp 20) rfl _ _ rfl rfl hr7) S7.out (fun hHeld => ?_)
        simp only [Act.put]
        refine wpAnyH_done (by kernel_rfl) ?_ _
        exact ⟨rfl, KK.out, NX.out⟩
  · intro D X hD hX hd
    obtain ⟨lv, os, hf, hm⟩ := hX.fo
    have cb : X.cell? ⟨W0.heap.size + 1, 0, none⟩ = some (.slice (some ⟨W0.heap.size, 0, none⟩) 4 4) := (hX.bx.cel 0 _ rfl).1
    have E := hidIt hX
    have FF := hidIt (And.intro hf hm)
    have HD := hidIt hD
    clear hX I0 hf hm hD
    gi_wp2
    refine And.intro (by simp) (Or.inl ⟨_, _, rfl, run_takeDeferred hd, ?_⟩)
    have CK : Cks X (X.putObj D (.deferred none)) := Cks.butN (But.putO X D _) hd rfl
    have hB : Below W0.heap.size X (X.putObj D (.deferred none)) := (But.putO X D _).below (by have := HD.out; omega) (by have := E.out.sz; omega)
    refine ⟨.slice (some ⟨W0.heap.size, 0, none⟩) 4 4, by simp [results, Try.results29, go_sem], _, lv, os, rfl, FF.out.1.cks CK, ⟨rfl, Nat.le_trans E.out.sz CK.size⟩, fun i hi => ?_, E.out.old.trans hB⟩
    rw [FF.out.2 i hi, List.take_length, show i = 0 + i by omega, lvl_flt, Nat.zero_add]
    unfold rns
    rw [List.getElem?_map]
end Go.Proofs.Ytelcijfcgflagaa
