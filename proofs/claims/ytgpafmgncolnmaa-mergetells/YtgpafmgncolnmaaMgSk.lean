/-
  Walks, not a claim by itself: a place sinks. By the verifier.
-/
import Derived.Test.YtgpafmgncolnmaaMgAh
namespace Go.Proofs.Ytgpafmgncolnmaa
open Go.RowKit
/-- The keys that lists have next. -/
def kys (V : Nat → LV) (t : Nat) : ByteArray := (V t).k
/-- What a sinking place leaves. -/
def SnkPost (W0 W : World) (hb pb : Nat) (V : Nat → LV) (hs : List Nat) (k : Nat) (e : Ending) (w' : World) : Prop := (∃ v, e = .returned v) ∧ ∃ hs', hs'.Perm hs ∧ HpF (kys V) hs' k ∧ HS W0 w' hb pb V hs' ∧ Off [pb] W w'
/-- What holds at the head of the outer loop. -/
def skR (W0 W : World) (hb pb : Nat) (V : Nat → LV) (hs : List Nat) (k : Nat) (i : Value) (wr : World) : Prop := ∃ (a : Nat) (hs' : List Nat), i = .int .i64 (a : Int) ∧ k ≤ a ∧ a ≤ hs.length ∧ hs'.Perm hs ∧ Snk (kys V) hs' k a ∧ HS W0 wr hb pb V hs' ∧ Off [pb] W wr
/-- What holds at the head of the inner loop. -/
def inR (W : World) (K : Nat → ByteArray) (hs : List Nat) (a : Nat) (x4 x5 : Value) (wr : World) : Prop := ∃ f j : Nat, x4 = .int .i64 (f : Int) ∧ x5 = .int .i64 (j : Int) ∧ 2 * a + 1 ≤ j ∧ j ≤ 2 * a + 3 ∧ (f = a ∨ ((f = 2 * a + 1 ∨ f = 2 * a + 2) ∧ f < hs.length ∧ ∀ s t, hs[a]? = some s → hs[f]? = some t → ¬ ahd (K s) (K t) s t)) ∧
  (∀ c s t, (c = 2 * a + 1 ∨ c = 2 * a + 2) → c < j → hs[f]? = some s → hs[c]? = some t → ¬ ahd (K t) (K s) t s) ∧ Below W.heap.size W wr
theorem in_start (W : World) (K : Nat → ByteArray) (hs : List Nat) (a : Nat) (z : Int) (hz : z = 2 * (a : Int) + 1) : inR W K hs a (.int .i64 (a : Int)) (.int .i64 z) W :=
  ⟨a, 2 * a + 1, rfl, by rw [hz]; rfl, by omega, by omega, .inl rfl, fun c s t hc hj _ _ => by omega, Below.refl _ _⟩
/-- One more was looked at. -/
theorem in_next {W w1 : World} {K : Nat → ByteArray} {hs : List Nat} {a f j u t : Nat} {b : Bool} (z : Int) (hz : z = (j : Int) + 1) (h1 : 2 * a + 1 ≤ j) (h2 : j ≤ 2 * a + 2)
    (hf : f = a ∨ ((f = 2 * a + 1 ∨ f = 2 * a + 2) ∧ f < hs.length ∧ ∀ s t, hs[a]? = some s → hs[f]? = some t → ¬ ahd (K s) (K t) s t))
    (hm : ∀ c s t, (c = 2 * a + 1 ∨ c = 2 * a + 2) → c < j → hs[f]? = some s → hs[c]? = some t → ¬ ahd (K t) (K s) t s) (hu : hs[f]? = some u) (ht : hs[j]? = some t) (hb : b = decide (ahd (K t) (K u) t u)) (hB : Below W.heap.size W w1) :
    inR W K hs a (.int .i64 (if b then (j : Int) else (f : Int))) (.int .i64 z) w1 := by
  have lj := (List.getElem?_eq_some_iff.1 ht).1
  by_cases q : ahd (K t) (K u) t u
  · rw [hb, decide_eq_true q, if_pos rfl]
    refine ⟨j, j + 1, rfl, by rw [hz]; rfl, by omega, by omega, .inr ⟨by omega, lj, fun s t' e1 e2 => ?_⟩, fun c s t' hc hcj e1 e2 => ?_, hB⟩
    · rw [ht] at e2
      injection e2 with e2
      subst e2
      rcases hf with rfl | ⟨_, _, hf⟩
      · rw [hu] at e1
        injection e1 with e1
        subst e1
        exact nahd_of q
      · exact nahd_trans (hf s u e1 hu) (nahd_of q)
    · rw [ht] at e1
      injection e1 with e1
      subst e1
      by_cases e : c = j
      · subst e
        rw [ht] at e2
        injection e2 with e2
        subst e2
        exact ahd_irrefl _ _
      · exact nahd_trans (hm c u t' hc (by omega) hu e2) (nahd_of q)
  · rw [hb, decide_eq_false q, if_neg (by simp)]
    refine ⟨f, j + 1, rfl, by rw [hz]; rfl, by omega, by omega, hf, fun c s t' hc hcj e1 e2 => ?_, hB⟩
    by_cases e : c = j
    · subst e
      rw [ht] at e2
      injection e2 with e2
      subst e2
      rw [hu] at e1
      injection e1 with e1
      subst e1
      exact q
    · exact hm c s t' hc (by omega) e1 e2
theorem sk_ar (a n : Nat) (h : a ≤ n) (hn : n ≤ 32) : IntKind.i64.wrap (2 * (a : Int)) = 2 * (a : Int) ∧ wrap64 (2 * (a : Int)) = 2 * (a : Int) ∧ IntKind.i64.wrap (2 * (a : Int) + 1) = 2 * (a : Int) + 1 ∧ wrap64 (2 * (a : Int) + 1) = 2 * (a : Int) + 1 ∧ IntKind.i64.wrap (2 * (a : Int) + 2) = 2 * (a : Int) + 2 ∧ wrap64 (2 * (a : Int) + 2) = 2 * (a : Int) + 2 :=
  ⟨by rw [IntKind.wrap_i64]; omega, by unfold wrap64; omega, by rw [IntKind.wrap_i64]; omega, by unfold wrap64; omega, by rw [IntKind.wrap_i64]; omega, by unfold wrap64; omega⟩
theorem sj_ar (j : Nat) (h : j ≤ 100) : IntKind.i64.wrap ((j : Int) + 1) = (j : Int) + 1 ∧ wrap64 ((j : Int) + 1) = (j : Int) + 1 ∧ 100 - (RowKit.intOf (.int .i64 ((j : Int) + 1))).toNat < 100 - (RowKit.intOf (.int .i64 (j : Int))).toNat ∨ 100 ≤ j := by
  by_cases e : j = 100
  · right; omega
  · left
    refine ⟨by rw [IntKind.wrap_i64]; omega, by unfold wrap64; omega, ?_⟩
    simp only [RowKit.intOf]
    omega
theorem sk_me (a f : Nat) (h : a < f) (hf : a ≤ 32) : 100 - (RowKit.intOf (.int .i64 (f : Int))).toNat < 100 - (RowKit.intOf (.int .i64 (a : Int))).toNat := by
  simp only [RowKit.intOf]
  omega
/-- A part of a record is stored. -/
theorem Rec19.run_lay {W : World} {n : Nat} {cs : List Value} (h : Rec19 W n 0 cs) (o : Nat) (ty : TypeId) (vs : List Value) (ho : o + vs.length ≤ cs.length) (hi : (Try.prog.info? ty).map (·.size) = some vs.length) (h1 : ∀ v ∈ vs, v.oneCell' = true) :
    ∃ W2, (Instr.storeAt ty (.pointer (some ⟨n, o, none⟩)) (.agg vs.toArray)).run Try.prog W = .ok () W2 ∧ Rec19 W2 n 0 (laidL cs o vs) ∧ But n W W2 := by
  refine ⟨_, run_storeAt_mid (P := Try.prog) W n o ty vs.toArray ?_ ?_ (all_oneCell_toArray h1), ?_, ?_⟩
  · intro j hj
    have := h.2.1 (o + j) (by simp at hj; omega)
    rwa [Nat.zero_add] at this
  · simpa using hi
  · exact h.lay o vs ho
  · exact But.cells _ _ _
theorem HS.swap {W0 W W2 : World} {hb pb : Nat} {V : Nat → LV} {hs : List Nat} {a f s t : Nat} (h : HS W0 W hb pb V hs) (hs1 : hs[a]? = some s) (ht : hs[f]? = some t) (hR : Rec19 W2 pb 0 (laidL (laidL (plc V hs) (a * 2) (plV (V t) t)) (f * 2) (plV (V s) s))) (hB : But pb W W2) : HS W0 W2 hb pb V (swp hs a f s t) := by
  have la := (List.getElem?_eq_some_iff.1 hs1).1
  have lf := (List.getElem?_eq_some_iff.1 ht).1
  unfold plV at hR
  rw [plc_set V hs a t la, plc_set V _ f s (by simpa using lf)] at hR
  obtain ⟨ne, ⟨q, cap, bx, hc, ha⟩, rw⟩ := h.hp
  refine ⟨h.old.trans (hB.below h.lp h.old.size), ⟨ne, ⟨q, cap, ?_, ?_, ?_⟩, fun _ => hR⟩, h.lh, h.lp, fun u hu => h.oks u ((swp_perm hs1 ht).mem_iff.1 hu), ?_⟩
  · rw [swp_len]; exact bx.but hB (fun e => ne e.symm)
  · rw [swp_len]; exact hc
  · rw [swp_len]; exact ha
  · rw [swp_len]; exact h.few
theorem plV_one (x : LV) (t : Nat) : ∀ v ∈ plV x t, v.oneCell' = true := by
  intro v hv
  simp only [plV, List.mem_cons, List.not_mem_nil, or_false] at hv
  rcases hv with rfl | rfl <;> rfl
set_option maxRecDepth 100000 in
set_option maxHeartbeats 4000000 in
theorem sink_any {W0 W : World} {hb pb : Nat} {V : Nat → LV} {hs : List Nat} {k : Nat} (h : HS W0 W hb pb V hs) (hk : k ≤ hs.length) (hF : HpF (kys V) hs (k + 1)) : Calls Try.prog 53 #[.pointer (some ⟨hb, 0, none⟩), .int .i64 (k : Int)] W (SnkPost W0 W hb pb V hs k) := by
  have S0 : Hid (skR W0 W hb pb V hs k (.int .i64 (k : Int)) W) := hidIt ⟨k, hs, rfl, Nat.le_refl _, hk, List.Perm.refl _, Snk.start hF, h, Off.of (Below.refl _ _)⟩
  have N32 := hidIt h.few
  clear h hk hF
  go_enter Try.func53, Try.ntmps53
  go_wp2
  go_loopw [1] (fun i wr => skR W0 W hb pb V hs k i wr) (fun i _ => 100 - (RowKit.intOf i).toNat)
  case atStart => exact S0.out
  case round =>
    clear S0
    obtain ⟨a, hs', rfl, hka, han, hpm, hsn, hH, hO⟩ := hrel
    have HH := hidIt hH
    have LN : Hid (hs'.length = hs.length) := hidIt hpm.length_eq
    have SS := hidIt (And.intro hka (And.intro hpm (And.intro hsn hO)))
    have han' := hidIt han
    have a6 : (0 : Int) ≤ (a : Int) := by omega
    have AR := hidIt (sk_ar a hs.length han N32.out)
    clear hka hpm hsn hH hO han
    rename World => Wo
    have I0 : Hid (inR Wo (kys V) hs' a (.int .i64 (a : Int)) (.int .i64 (2 * (a : Int) + 1)) Wo) := hidIt (in_start Wo (kys V) hs' a _ rfl)
    obtain ⟨a0, a1, a2, a3, a4, a5⟩ := AR.out
    go_wp2
    clear a0 a1 a2 a3 a4 a5
    go_loopw [4, 5] (fun x4 x5 wr => inR Wo (kys V) hs' a x4 x5 wr) (fun _ x5 _ => 100 - (RowKit.intOf x5).toNat)
    case atStart => exact I0.out
    case round =>
      clear I0
      obtain ⟨f, j, rfl, rfl, hj1, hj2, hf, hm, hB⟩ := hrel
      rename World => Wi
      have HI := hidIt (HH.out.up hB)
      have IN := hidIt (And.intro hj1 (And.intro hj2 (And.intro hf (And.intro hm hB))))
      obtain ⟨q0, cap, c0, hcap, hq⟩ := HI.out.sl
      have PQ := hidIt hq
      have j0 : (0 : Int) ≤ (j : Int) := by omega
      have f0 : (0 : Int) ≤ (f : Int) := by omega
      obtain ⟨n, hn⟩ : ∃ n, n = hs'.length := ⟨_, rfl⟩
      rw [← hn] at c0
      have NN := hidIt hn
      have j3 : j < 100 := by have := han'.out; have := N32.out; omega
      have JR := hidIt ((sj_ar j (by omega)).resolve_right (by omega))
      clear hB hf hm hj1 hcap hq j3
      by_cases h1 : j ≤ 2 * a + 2
      · have e1 : ((j : Int) ≤ 2 * (a : Int) + 2) = True := eq_true (by omega)
        have H1 := hidIt h1
        clear h1 hj2
        by_cases h2 : j < n
        · have e2 : ((j : Int) < (n : Int)) = True := eq_true (by omega)
          have e2' : (j : Int) < (n : Int) := by omega
          have fl : f < n := by
            rcases IN.out.2.2.1 with q | q
            · have := IN.out.1; omega
            · rw [hn]; exact q.2.1
          have f1 : (f : Int) < (n : Int) := by omega
          obtain ⟨t, ht⟩ : ∃ t, hs'[j]? = some t := ⟨_, List.getElem?_eq_getElem (by omega)⟩
          obtain ⟨u, hu⟩ : ∃ u, hs'[f]? = some u := ⟨_, List.getElem?_eq_getElem (by omega)⟩
          obtain ⟨r1, l1, x, rx, ex⟩ := HI.out.pl ht
          obtain ⟨r2, l2, y, ry, ey⟩ := HI.out.pl hu
          obtain rfl := PQ.out (by omega)
          have L1 := hidIt (And.intro l1 (And.intro ex (And.intro l2 ey)))
          have K1 : Hid (kys V t = x.p.k ∧ kys V u = y.p.k) := hidIt ⟨by simp only [kys, LV.k, ex], by simp only [kys, LV.k, ey]⟩
          have TU := hidIt (And.intro ht hu)
          have R12 := hidIt (And.intro r1 r2)
          clear hn h2 fl ht hu r1 r2 l1 l2 ex ey PQ
          obtain ⟨a0, a1, a2, a3, a4, a5⟩ := AR.out
          obtain ⟨j4, j5, _⟩ := JR.out
          go_wp2_with fail
          refine wp_region_noPanic ?_
          refine wp_region_held_drew (S := fun w' => w'.cell? ⟨hb, 0, none⟩ = some (.slice (some ⟨pb, 0, none⟩) n cap) ∧ w'.rangeAt pb (j * 2) (plV (V t) t) ∧ w'.rangeAt pb (f * 2) (plV (V u) u)) (by kernel_rfl) ?_ (fun hHeld => ?_)
          · exact ⟨c0, R12.out.1, R12.out.2⟩
          refine take_at (i := 0) (v := ?_) (some 26) rfl rfl (by kernel_rfl) (by kernel_rfl) (by kernel_rfl) (fun _ _ _ h => h) (Or.inl ⟨by rfl, ?_⟩) (by assumption) ?_
          rotate_left
          · (intro w hSw; (try dsimp only at hSw); go_simp; try with_reducible rfl)
          simp only [Act.put, List.setIfInBounds_toArray, List.set_cons_zero, List.set_cons_succ]
          refine take_at (i := 1) (v := ?_) (some 27) rfl rfl (by kernel_rfl) (by kernel_rfl) (by kernel_rfl) (fun _ _ _ h => h) (Or.inl ⟨by rfl, ?_⟩) (by assumption) ?_
          rotate_left
          · (intro w hSw; (try dsimp only at hSw); go_simp; try with_reducible rfl)
          simp only [Act.put, List.setIfInBounds_toArray, List.set_cons_zero, List.set_cons_succ]
          refine take_at (i := 2) (v := ?_) (some 28) rfl rfl (by kernel_rfl) (by kernel_rfl) (by kernel_rfl) (fun _ _ _ h => h) (Or.inl ⟨by rfl, ?_⟩) (by assumption) ?_
          rotate_left
          · (intro w hSw; (try dsimp only at hSw); go_simp; try with_reducible rfl)
          simp only [Act.put, List.setIfInBounds_toArray, List.set_cons_zero, List.set_cons_succ]
          refine take_at (i := 3) (v := ?_) (some 29) rfl rfl (by kernel_rfl) (by kernel_rfl) (by kernel_rfl) (fun _ _ _ h => h) (Or.inl ⟨by rfl, ?_⟩) (by assumption) ?_
          rotate_left
          · (intro w hSw; (try dsimp only at hSw); go_simp; try with_reducible rfl)
          simp only [Act.put, List.setIfInBounds_toArray, List.set_cons_zero, List.set_cons_succ]
          refine take_at (i := 4) (v := ?_) (some 30) rfl rfl (by kernel_rfl) (by kernel_rfl) (by kernel_rfl) (fun _ _ _ h => h) (Or.inl ⟨by rfl, ?_⟩) (by assumption) ?_
          rotate_left
          · (intro w hSw; (try dsimp only at hSw); go_simp; try with_reducible rfl)
          simp only [Act.put, List.setIfInBounds_toArray, List.set_cons_zero, List.set_cons_succ]
          refine take_at (i := 5) (v := ?_) (some 31) rfl rfl (by kernel_rfl) (by kernel_rfl) (by kernel_rfl) (fun _ _ _ h => h) (Or.inl ⟨by rfl, ?_⟩) (by assumption) ?_
          rotate_left
          · (intro w hSw; (try dsimp only at hSw); go_simp; try with_reducible rfl)
          simp only [Act.put, List.setIfInBounds_toArray, List.set_cons_zero, List.set_cons_succ]
          refine take_at (i := 6) (v := _) (some 32) rfl rfl (by kernel_rfl) (by kernel_rfl) (by kernel_rfl) (fun _ _ _ h => h) (yieldsIf_load_mid (by rfl) _ _ rfl _ _ rfl _ _ (fun w h => h.2.1) Try.underlying72 rfl (by kernel_rfl)) (by assumption) ?_
          simp only [Act.put, List.setIfInBounds_toArray, List.set_cons_zero, List.set_cons_succ]
          refine take_at (i := 7) (v := ?_) (some 33) rfl rfl (by kernel_rfl) (by kernel_rfl) (by kernel_rfl) (fun _ _ _ h => h) (Or.inl ⟨by rfl, ?_⟩) (by assumption) ?_
          rotate_left
          · (intro w hSw; (try dsimp only at hSw); go_simp; try with_reducible rfl)
          simp only [Act.put, List.setIfInBounds_toArray, List.set_cons_zero, List.set_cons_succ]
          refine take_at (i := 8) (v := ?_) (some 34) rfl rfl (by kernel_rfl) (by kernel_rfl) (by kernel_rfl) (fun _ _ _ h => h) (Or.inl ⟨by rfl, ?_⟩) (by assumption) ?_
          rotate_left
          · (intro w hSw; (try dsimp only at hSw); go_simp; try with_reducible rfl)
          simp only [Act.put, List.setIfInBounds_toArray, List.set_cons_zero, List.set_cons_succ]
          refine take_at (i := 9) (v := ?_) (some 35) rfl rfl (by kernel_rfl) (by kernel_rfl) (by kernel_rfl) (fun _ _ _ h => h) (Or.inl ⟨by rfl, ?_⟩) (by assumption) ?_
          rotate_left
          · (intro w hSw; (try dsimp only at hSw); go_simp; try with_reducible rfl)
          simp only [Act.put, List.setIfInBounds_toArray, List.set_cons_zero, List.set_cons_succ]
          refine take_at (i := 10) (v := ?_) (some 36) rfl rfl (by kernel_rfl) (by kernel_rfl) (by kernel_rfl) (fun _ _ _ h => h) (Or.inl ⟨by rfl, ?_⟩) (by assumption) ?_
          rotate_left
          · (intro w hSw; (try dsimp only at hSw); go_simp; try with_reducible rfl)
          simp only [Act.put, List.setIfInBounds_toArray, List.set_cons_zero, List.set_cons_succ]
          refine take_at (i := 11) (v := ?_) (some 37) rfl rfl (by kernel_rfl) (by kernel_rfl) (by kernel_rfl) (fun _ _ _ h => h) (Or.inl ⟨by rfl, ?_⟩) (by assumption) ?_
          rotate_left
          · (intro w hSw; (try dsimp only at hSw); go_simp; try with_reducible rfl)
          simp only [Act.put, List.setIfInBounds_toArray, List.set_cons_zero, List.set_cons_succ]
          refine take_at (i := 12) (v := ?_) (some 38) rfl rfl (by kernel_rfl) (by kernel_rfl) (by kernel_rfl) (fun _ _ _ h => h) (Or.inl ⟨by rfl, ?_⟩) (by assumption) ?_
          rotate_left
          · (intro w hSw; (try dsimp only at hSw); go_simp; try with_reducible rfl)
          simp only [Act.put, List.setIfInBounds_toArray, List.set_cons_zero, List.set_cons_succ]
          refine take_at (i := 13) (v := _) (some 39) rfl rfl (by kernel_rfl) (by kernel_rfl) (by kernel_rfl) (fun _ _ _ h => h) (yieldsIf_load_mid (by rfl) _ _ rfl _ _ rfl _ _ (fun w h => h.2.2) Try.underlying72 rfl (by kernel_rfl)) (by assumption) ?_
          simp only [Act.put, List.setIfInBounds_toArray, List.set_cons_zero, List.set_cons_succ]
          refine call_at (i := 14) (some 40) 54 _ _ rfl rfl rfl (by rfl) (by kernel_rfl) #[.agg (plV (V t) t).toArray, .agg (plV (V u) u).toArray] rfl Try.func54 (by kernel_rfl) (by kernel_rfl) ?_
          refine (ahead_any (L1.out.1.below (Below.refl _ _).drew) L1.out.2.1 (L1.out.2.2.1.below (Below.refl _ _).drew) L1.out.2.2.2).mono ?_
          rintro e W3 ⟨rfl, B3⟩
          have B3' : Below Wo.heap.size Wo W3 := IN.out.2.2.2.2.trans (((Below.refl Wi.heap.size Wi).drew.trans B3).mono IN.out.2.2.2.2.size)
          obtain ⟨b, hb'⟩ : ∃ b, b = decide (ahd x.p.k y.p.k t u) := ⟨_, rfl⟩
          have NX : Hid (inR Wo (kys V) hs' a (.int .i64 (if b then (j : Int) else (f : Int))) (.int .i64 ((j : Int) + 1)) W3) := hidIt (in_next _ rfl IN.out.1 H1.out IN.out.2.2.1 IN.out.2.2.2.1 TU.out.2 TU.out.1 (by rw [K1.out.1, K1.out.2]; exact hb') B3')
          have H3 := hidIt ((HI.out.drew).up B3)
          have c3 : W3.cell? ⟨hb, 0, none⟩ = some (.slice (some ⟨pb, 0, none⟩) n cap) := (B3.cell (p := ⟨hb, 0, none⟩) (Nat.lt_of_lt_of_le (HI.out.drew.hp.bx.choose_spec.choose_spec.1.2.2) (Nat.le_refl _))).trans c0
          have r3 : W3.rangeAt pb (j * 2) (plV (V t) t) ∧ W3.rangeAt pb (f * 2) (plV (V u) u) := ⟨(H3.out.pl TU.out.1).1, (H3.out.pl TU.out.2).1⟩
          rw [← hb']
          clear B3 B3' hb' e2 e2'
          refine ⟨_, rfl, ⟨c3, r3.1, r3.2⟩, fun hHeld => ?_⟩
          simp only [Act.put, List.setIfInBounds_toArray, List.set_cons_zero, List.set_cons_succ]
          refine wpAnyH_done (by kernel_rfl) ?_ _
          refine NoPanic.normal ?_
          clear c3 r3 hHeld c0
          have J6 := hidIt JR.out.2.2
          cases b with
          | true =>
            as_aux_lemma =>
              go_wp2_with fail
              go_roundw
              case rel => exact NX.out
              case measure => exact J6.out
          | false =>
            as_aux_lemma =>
              go_wp2_with fail
              go_roundw
              case rel => exact NX.out
              case measure => exact J6.out
        · have e2 : ((j : Int) < (n : Int)) = False := eq_false (by omega)
          have ALL : Hid (∀ c s t, (c = 2 * a + 1 ∨ c = 2 * a + 2) → hs'[f]? = some s → hs'[c]? = some t → ¬ ahd (kys V t) (kys V s) t s) := hidIt (fun c s t hc e1 e2 => IN.out.2.2.2.1 c s t hc (by have := (List.getElem?_eq_some_iff.1 e2).1; have := NN.out; omega) e1 e2)
          clear h2 hn
          by_cases fa : f = a
          · subst fa
            have FIN : Hid (SnkPost W0 W hb pb V hs k (.returned (.tuple #[])) Wi) := hidIt ⟨⟨_, rfl⟩, hs', SS.out.2.1, SS.out.2.2.1.stop ALL.out, HI.out, SS.out.2.2.2.trans (Off.of IN.out.2.2.2.2)⟩
            obtain ⟨a0, a1, a2, a3, a4, a5⟩ := AR.out
            go_wp2_with fail
            exact bodyPost_ret (results_none rfl _ _ _) rfl FIN.out
          · have fe : ((f : Int) == (a : Int)) = false := by simp; omega
            have fe2 : ((f : Int) = (a : Int)) = False := eq_false (by omega)
            have FF := hidIt (IN.out.2.2.1.resolve_left fa)
            have lf : f < hs'.length := FF.out.2.1
            have la : a < hs'.length := by have := FF.out.1; omega
            obtain ⟨s, hs1⟩ : ∃ s, hs'[a]? = some s := ⟨_, List.getElem?_eq_getElem la⟩
            obtain ⟨t, ht⟩ : ∃ t, hs'[f]? = some t := ⟨_, List.getElem?_eq_getElem lf⟩
            have r1 := (HI.out.drew.pl hs1).1
            have r2 := (HI.out.drew.pl ht).1
            have ST := hidIt (And.intro hs1 ht)
            have RP := hidIt (HI.out.drew.hp.rw (by omega))
            have BX : Hid (hb < Wi.drew.heap.size ∧ pb ≠ hb) := hidIt ⟨HI.out.drew.hp.bx.choose_spec.choose_spec.1.2.2, HI.out.hp.ne⟩
            obtain rfl := PQ.out (by omega)
            have i1 : (f : Int) < (n : Int) := by rw [NN.out]; omega
            have i2 : (a : Int) < (n : Int) := by rw [NN.out]; omega
            clear hs1 ht fa
            obtain ⟨a0, a1, a2, a3, a4, a5⟩ := AR.out
            go_wp2_with fail
            clear a0 a1 a2 a3 a4 a5
            refine wp_region_noPanic ?_
            refine wp_region_held_drew (S := fun w' => w'.cell? ⟨hb, 0, none⟩ = some (.slice (some ⟨pb, 0, none⟩) n cap)) (by kernel_rfl) ?_ (fun hHeld => ?_)
            · exact c0
            refine take_at (i := 0) (v := ?_) (some 45) rfl rfl (by kernel_rfl) (by kernel_rfl) (by kernel_rfl) (fun _ _ _ h => h) (Or.inl ⟨by rfl, ?_⟩) (by assumption) ?_
            rotate_left
            · (intro w hSw; (try dsimp only at hSw); go_simp; try with_reducible rfl)
            simp only [Act.put, List.setIfInBounds_toArray, List.set_cons_zero, List.set_cons_succ]
            refine take_at (i := 1) (v := ?_) (some 46) rfl rfl (by kernel_rfl) (by kernel_rfl) (by kernel_rfl) (fun _ _ _ h => h) (Or.inl ⟨by rfl, ?_⟩) (by assumption) ?_
            rotate_left
            · (intro w hSw; (try dsimp only at hSw); go_simp; try with_reducible rfl)
            simp only [Act.put, List.setIfInBounds_toArray, List.set_cons_zero, List.set_cons_succ]
            refine take_at (i := 2) (v := ?_) (some 47) rfl rfl (by kernel_rfl) (by kernel_rfl) (by kernel_rfl) (fun _ _ _ h => h) (Or.inl ⟨by rfl, ?_⟩) (by assumption) ?_
            rotate_left
            · (intro w hSw; (try dsimp only at hSw); go_simp; try with_reducible rfl)
            simp only [Act.put, List.setIfInBounds_toArray, List.set_cons_zero, List.set_cons_succ]
            refine take_at (i := 3) (v := ?_) (some 48) rfl rfl (by kernel_rfl) (by kernel_rfl) (by kernel_rfl) (fun _ _ _ h => h) (Or.inl ⟨by rfl, ?_⟩) (by assumption) ?_
            rotate_left
            · (intro w hSw; (try dsimp only at hSw); go_simp; try with_reducible rfl)
            simp only [Act.put, List.setIfInBounds_toArray, List.set_cons_zero, List.set_cons_succ]
            refine take_at (i := 4) (v := ?_) (some 49) rfl rfl (by kernel_rfl) (by kernel_rfl) (by kernel_rfl) (fun _ _ _ h => h) (Or.inl ⟨by rfl, ?_⟩) (by assumption) ?_
            rotate_left
            · (intro w hSw; (try dsimp only at hSw); go_simp; try with_reducible rfl)
            simp only [Act.put, List.setIfInBounds_toArray, List.set_cons_zero, List.set_cons_succ]
            refine take_at (i := 5) (v := ?_) (some 50) rfl rfl (by kernel_rfl) (by kernel_rfl) (by kernel_rfl) (fun _ _ _ h => h) (Or.inl ⟨by rfl, ?_⟩) (by assumption) ?_
            rotate_left
            · (intro w hSw; (try dsimp only at hSw); go_simp; try with_reducible rfl)
            simp only [Act.put, List.setIfInBounds_toArray, List.set_cons_zero, List.set_cons_succ]
            refine take_at (i := 6) (v := ?_) (some 51) rfl rfl (by kernel_rfl) (by kernel_rfl) (by kernel_rfl) (fun _ _ _ h => h) (Or.inl ⟨by rfl, ?_⟩) (by assumption) ?_
            rotate_left
            · (intro w hSw; (try dsimp only at hSw); go_simp; try with_reducible rfl)
            simp only [Act.put, List.setIfInBounds_toArray, List.set_cons_zero, List.set_cons_succ]
            refine take_at (i := 7) (v := ?_) (some 52) rfl rfl (by kernel_rfl) (by kernel_rfl) (by kernel_rfl) (fun _ _ _ h => h) (Or.inl ⟨by rfl, ?_⟩) (by assumption) ?_
            rotate_left
            · (intro w hSw; (try dsimp only at hSw); go_simp; try with_reducible rfl)
            simp only [Act.put, List.setIfInBounds_toArray, List.set_cons_zero, List.set_cons_succ]
            refine take_at (i := 8) (v := ?_) (some 53) rfl rfl (by kernel_rfl) (by kernel_rfl) (by kernel_rfl) (fun _ _ _ h => h) (Or.inl ⟨by rfl, ?_⟩) (by assumption) ?_
            rotate_left
            · (intro w hSw; (try dsimp only at hSw); go_simp; try with_reducible rfl)
            simp only [Act.put, List.setIfInBounds_toArray, List.set_cons_zero, List.set_cons_succ]
            refine take_at (i := 9) (v := ?_) (some 54) rfl rfl (by kernel_rfl) (by kernel_rfl) (by kernel_rfl) (fun _ _ _ h => h) (Or.inl ⟨by rfl, ?_⟩) (by assumption) ?_
            rotate_left
            · (intro w hSw; (try dsimp only at hSw); go_simp; try with_reducible rfl)
            simp only [Act.put, List.setIfInBounds_toArray, List.set_cons_zero, List.set_cons_succ]
            refine take_at (i := 10) (v := ?_) (some 55) rfl rfl (by kernel_rfl) (by kernel_rfl) (by kernel_rfl) (fun _ _ _ h => h) (Or.inl ⟨by rfl, ?_⟩) (by assumption) ?_
            rotate_left
            · (intro w hSw; (try dsimp only at hSw); go_simp; try with_reducible rfl)
            simp only [Act.put, List.setIfInBounds_toArray, List.set_cons_zero, List.set_cons_succ]
            refine take_at (i := 11) (v := ?_) (some 56) rfl rfl (by kernel_rfl) (by kernel_rfl) (by kernel_rfl) (fun _ _ _ h => h) (Or.inl ⟨by rfl, ?_⟩) (by assumption) ?_
            rotate_left
            · (intro w hSw; (try dsimp only at hSw); go_simp; try with_reducible rfl)
            simp only [Act.put, List.setIfInBounds_toArray, List.set_cons_zero, List.set_cons_succ]
            refine take_at (i := 12) (v := ?_) (some 57) rfl rfl (by kernel_rfl) (by kernel_rfl) (by kernel_rfl) (fun _ _ _ h => h) (Or.inl ⟨by rfl, ?_⟩) (by assumption) ?_
            rotate_left
            · (intro w hSw; (try dsimp only at hSw); go_simp; try with_reducible rfl)
            simp only [Act.put, List.setIfInBounds_toArray, List.set_cons_zero, List.set_cons_succ]
            refine take_at (i := 13) (v := ?_) (some 58) rfl rfl (by kernel_rfl) (by kernel_rfl) (by kernel_rfl) (fun _ _ _ h => h) (Or.inl ⟨by rfl, ?_⟩) (by assumption) ?_
            rotate_left
            · (intro w hSw; (try dsimp only at hSw); go_simp; try with_reducible rfl)
            simp only [Act.put, List.setIfInBounds_toArray, List.set_cons_zero, List.set_cons_succ]
            refine take_at (i := 14) (v := ?_) (some 59) rfl rfl (by kernel_rfl) (by kernel_rfl) (by kernel_rfl) (fun _ _ _ h => h) (Or.inl ⟨by rfl, ?_⟩) (by assumption) ?_
            rotate_left
            · (intro w hSw; (try dsimp only at hSw); go_simp; try with_reducible rfl)
            simp only [Act.put, List.setIfInBounds_toArray, List.set_cons_zero, List.set_cons_succ]
            refine take_at (i := 15) (v := ?_) (some 60) rfl rfl (by kernel_rfl) (by kernel_rfl) (by kernel_rfl) (fun _ _ _ h => h) (Or.inl ⟨by rfl, ?_⟩) (by assumption) ?_
            rotate_left
            · (intro w hSw; (try dsimp only at hSw); go_simp; try with_reducible rfl)
            simp only [Act.put, List.setIfInBounds_toArray, List.set_cons_zero, List.set_cons_succ]
            refine take_at (i := 17) (v := ?_) (some 62) rfl rfl (by kernel_rfl) (by kernel_rfl) (by kernel_rfl) (fun _ _ _ h => h) (Or.inl ⟨by rfl, ?_⟩) (by assumption) ?_
            rotate_left
            · (intro w hSw; (try dsimp only at hSw); go_simp; try with_reducible rfl)
            simp only [Act.put, List.setIfInBounds_toArray, List.set_cons_zero, List.set_cons_succ]
            refine take_at (i := 18) (v := ?_) (some 63) rfl rfl (by kernel_rfl) (by kernel_rfl) (by kernel_rfl) (fun _ _ _ h => h) (Or.inl ⟨by rfl, ?_⟩) (by assumption) ?_
            rotate_left
            · (intro w hSw; (try dsimp only at hSw); go_simp; try with_reducible rfl)
            simp only [Act.put, List.setIfInBounds_toArray, List.set_cons_zero, List.set_cons_succ]
            refine take_at (i := 19) (v := ?_) (some 64) rfl rfl (by kernel_rfl) (by kernel_rfl) (by kernel_rfl) (fun _ _ _ h => h) (Or.inl ⟨by rfl, ?_⟩) (by assumption) ?_
            rotate_left
            · (intro w hSw; (try dsimp only at hSw); go_simp; try with_reducible rfl)
            simp only [Act.put, List.setIfInBounds_toArray, List.set_cons_zero, List.set_cons_succ]
            refine take_at (i := 20) (v := ?_) (some 65) rfl rfl (by kernel_rfl) (by kernel_rfl) (by kernel_rfl) (fun _ _ _ h => h) (Or.inl ⟨by rfl, ?_⟩) (by assumption) ?_
            rotate_left
            · (intro w hSw; (try dsimp only at hSw); go_simp; try with_reducible rfl)
            simp only [Act.put, List.setIfInBounds_toArray, List.set_cons_zero, List.set_cons_succ]
            refine take_at (i := 21) (v := ?_) (some 66) rfl rfl (by kernel_rfl) (by kernel_rfl) (by kernel_rfl) (fun _ _ _ h => h) (Or.inl ⟨by rfl, ?_⟩) (by assumption) ?_
            rotate_left
            · (intro w hSw; (try dsimp only at hSw); go_simp; try with_reducible rfl)
            simp only [Act.put, List.setIfInBounds_toArray, List.set_cons_zero, List.set_cons_succ]
            refine take_at (i := 22) (v := ?_) (some 67) rfl rfl (by kernel_rfl) (by kernel_rfl) (by kernel_rfl) (fun _ _ _ h => h) (Or.inl ⟨by rfl, ?_⟩) (by assumption) ?_
            rotate_left
            · (intro w hSw; (try dsimp only at hSw); go_simp; try with_reducible rfl)
            simp only [Act.put, List.setIfInBounds_toArray, List.set_cons_zero, List.set_cons_succ]
            refine pair_at (i := 16) (j := 23) (some 61) (some 68) rfl rfl rfl rfl (by kernel_rfl) (by rfl) (by rfl) (.agg (plV (V t) t).toArray) (.agg (plV (V s) s).toArray) Wi.drew Wi.drew (rowload_run 72 (.tmp 60) rfl pb (f * 2) (plV (V t) t) (by go_simp) _ r2 Try.underlying72 rfl (by kernel_rfl)) (rowload_run 72 (.tmp 67) rfl pb (a * 2) (plV (V s) s) (by go_simp) _ r1 Try.underlying72 rfl (by kernel_rfl)) ⟨hHeld, hHeld⟩ (fun hHeld => ?_) (fun hHeld => ?_)
            ·
              simp only [Act.put, List.setIfInBounds_toArray, List.set_cons_zero, List.set_cons_succ]
              refine step_at (i := 23) (some 68) rfl rfl (by rfl) (by kernel_rfl) (.agg (plV (V s) s).toArray) Wi.drew (rowload_run 72 (.tmp 67) rfl pb (a * 2) (plV (V s) s) (by go_simp) _ r1 Try.underlying72 rfl (by kernel_rfl)) hHeld (fun hHeld => ?_)
              simp only [Act.put, List.setIfInBounds_toArray, List.set_cons_zero, List.set_cons_succ]
              refine take_at (i := 24) (v := ?_) (some 69) rfl rfl (by kernel_rfl) (by kernel_rfl) (by kernel_rfl) (fun _ _ _ h => h) (Or.inl ⟨by rfl, ?_⟩) (by assumption) ?_
              rotate_left
              · (intro w hSw; (try dsimp only at hSw); go_simp; try with_reducible rfl)
              simp only [Act.put, List.setIfInBounds_toArray, List.set_cons_zero, List.set_cons_succ]
              obtain ⟨W2, hr2, R2, B2⟩ := RP.out.run_lay (a * 2) 72 (plV (V t) t) (by rw [plc_len]; show a * 2 + 2 ≤ _; omega) (by kernel_rfl) (plV_one _ _)
              have c2 : W2.cell? ⟨hb, 0, none⟩ = some (.slice (some ⟨pb, 0, none⟩) n cap) := (B2.cell (p := ⟨hb, 0, none⟩) BX.out.1 (fun q => BX.out.2 q.symm)).trans hHeld
              refine mute_at (i := 25) none rfl rfl (by rfl) (by kernel_rfl) W2 (put_mute 72 (.tmp 69) (.tmp 61) rfl _ _ rfl rfl hr2) c2 (fun hHeld => ?_)
              simp only [Act.put]
              refine take_at (i := 26) (v := ?_) (some 70) rfl rfl (by kernel_rfl) (by kernel_rfl) (by kernel_rfl) (fun _ _ _ h => h) (Or.inl ⟨by rfl, ?_⟩) (by assumption) ?_
              rotate_left
              · (intro w hSw; (try dsimp only at hSw); go_simp; try with_reducible rfl)
              simp only [Act.put, List.setIfInBounds_toArray, List.set_cons_zero, List.set_cons_succ]
              obtain ⟨W3, hr3, R3, B3⟩ := R2.run_lay (f * 2) 72 (plV (V s) s) (by rw [laidL_len _ _ _ (by rw [plc_len]; show a * 2 + 2 ≤ _; omega), plc_len]; show f * 2 + 2 ≤ _; omega) (by kernel_rfl) (plV_one _ _)
              have c3 : W3.cell? ⟨hb, 0, none⟩ = some (.slice (some ⟨pb, 0, none⟩) n cap) := (B3.cell (p := ⟨hb, 0, none⟩) (Nat.lt_of_lt_of_le BX.out.1 B2.size) (fun q => BX.out.2 q.symm)).trans c2
              have HW := hidIt (HI.out.drew.swap ST.out.1 ST.out.2 R3 (B2.trans B3))
              have OW : Hid (Off [pb] Wo W3) := hidIt ((Off.of (IN.out.2.2.2.2.trans ((Below.refl Wi.heap.size Wi).drew.mono IN.out.2.2.2.2.size))).trans (Off.but (B2.trans B3) (by simp)))
              refine mute_at (i := 27) none rfl rfl (by rfl) (by kernel_rfl) W3 (put_mute 72 (.tmp 70) (.tmp 68) rfl _ _ rfl rfl hr3) c3 (fun hHeld => ?_)
              simp only [Act.put]
              refine wpAnyH_done (by kernel_rfl) ?_ _
              refine NoPanic.normal ?_
              clear c2 c3 hr2 hr3 R2 R3 B2 B3 hHeld r1 r2 c0
              have SW := hidIt (SS.out.2.2.1.swap SS.out.1 FF.out.1 ST.out.1 ST.out.2 (FF.out.2.2 s t ST.out.1 ST.out.2) (fun c u hc hu => ALL.out c t u hc ST.out.2 hu))
              have PP := hidIt ((swp_perm ST.out.1 ST.out.2).trans SS.out.2.1)
              have ME := hidIt (sk_me a f (by have := FF.out.1; omega) (by have := han'.out; have := N32.out; omega))
              have FL := hidIt (show k ≤ f ∧ f ≤ hs.length from ⟨by have := FF.out.1; have := SS.out.1; omega, by have := FF.out.2.1; have := LN.out; omega⟩)
              clear i1 i2 la lf
              as_aux_lemma =>
                go_wp2_with fail
                go_roundw
                case rel => exact ⟨f, _, rfl, FL.out.1, FL.out.2, PP.out, SW.out, HW.out, SS.out.2.2.2.trans OW.out⟩
                case measure => exact ME.out
            ·
              simp only [Act.put, List.setIfInBounds_toArray, List.set_cons_zero, List.set_cons_succ]
              refine step_at (i := 16) (some 61) rfl rfl (by rfl) (by kernel_rfl) (.agg (plV (V t) t).toArray) Wi.drew (rowload_run 72 (.tmp 60) rfl pb (f * 2) (plV (V t) t) (by go_simp) _ r2 Try.underlying72 rfl (by kernel_rfl)) hHeld (fun hHeld => ?_)
              simp only [Act.put, List.setIfInBounds_toArray, List.set_cons_zero, List.set_cons_succ]
              refine take_at (i := 24) (v := ?_) (some 69) rfl rfl (by kernel_rfl) (by kernel_rfl) (by kernel_rfl) (fun _ _ _ h => h) (Or.inl ⟨by rfl, ?_⟩) (by assumption) ?_
              rotate_left
              · (intro w hSw; (try dsimp only at hSw); go_simp; try with_reducible rfl)
              simp only [Act.put, List.setIfInBounds_toArray, List.set_cons_zero, List.set_cons_succ]
              obtain ⟨W2, hr2, R2, B2⟩ := RP.out.run_lay (a * 2) 72 (plV (V t) t) (by rw [plc_len]; show a * 2 + 2 ≤ _; omega) (by kernel_rfl) (plV_one _ _)
              have c2 : W2.cell? ⟨hb, 0, none⟩ = some (.slice (some ⟨pb, 0, none⟩) n cap) := (B2.cell (p := ⟨hb, 0, none⟩) BX.out.1 (fun q => BX.out.2 q.symm)).trans hHeld
              refine mute_at (i := 25) none rfl rfl (by rfl) (by kernel_rfl) W2 (put_mute 72 (.tmp 69) (.tmp 61) rfl _ _ rfl rfl hr2) c2 (fun hHeld => ?_)
              simp only [Act.put]
              refine take_at (i := 26) (v := ?_) (some 70) rfl rfl (by kernel_rfl) (by kernel_rfl) (by kernel_rfl) (fun _ _ _ h => h) (Or.inl ⟨by rfl, ?_⟩) (by assumption) ?_
              rotate_left
              · (intro w hSw; (try dsimp only at hSw); go_simp; try with_reducible rfl)
              simp only [Act.put, List.setIfInBounds_toArray, List.set_cons_zero, List.set_cons_succ]
              obtain ⟨W3, hr3, R3, B3⟩ := R2.run_lay (f * 2) 72 (plV (V s) s) (by rw [laidL_len _ _ _ (by rw [plc_len]; show a * 2 + 2 ≤ _; omega), plc_len]; show f * 2 + 2 ≤ _; omega) (by kernel_rfl) (plV_one _ _)
              have c3 : W3.cell? ⟨hb, 0, none⟩ = some (.slice (some ⟨pb, 0, none⟩) n cap) := (B3.cell (p := ⟨hb, 0, none⟩) (Nat.lt_of_lt_of_le BX.out.1 B2.size) (fun q => BX.out.2 q.symm)).trans c2
              have HW := hidIt (HI.out.drew.swap ST.out.1 ST.out.2 R3 (B2.trans B3))
              have OW : Hid (Off [pb] Wo W3) := hidIt ((Off.of (IN.out.2.2.2.2.trans ((Below.refl Wi.heap.size Wi).drew.mono IN.out.2.2.2.2.size))).trans (Off.but (B2.trans B3) (by simp)))
              refine mute_at (i := 27) none rfl rfl (by rfl) (by kernel_rfl) W3 (put_mute 72 (.tmp 70) (.tmp 68) rfl _ _ rfl rfl hr3) c3 (fun hHeld => ?_)
              simp only [Act.put]
              refine wpAnyH_done (by kernel_rfl) ?_ _
              refine NoPanic.normal ?_
              clear c2 c3 hr2 hr3 R2 R3 B2 B3 hHeld r1 r2 c0
              have SW := hidIt (SS.out.2.2.1.swap SS.out.1 FF.out.1 ST.out.1 ST.out.2 (FF.out.2.2 s t ST.out.1 ST.out.2) (fun c u hc hu => ALL.out c t u hc ST.out.2 hu))
              have PP := hidIt ((swp_perm ST.out.1 ST.out.2).trans SS.out.2.1)
              have ME := hidIt (sk_me a f (by have := FF.out.1; omega) (by have := han'.out; have := N32.out; omega))
              have FL := hidIt (show k ≤ f ∧ f ≤ hs.length from ⟨by have := FF.out.1; have := SS.out.1; omega, by have := FF.out.2.1; have := LN.out; omega⟩)
              clear i1 i2 la lf
              as_aux_lemma =>
                go_wp2_with fail
                go_roundw
                case rel => exact ⟨f, _, rfl, FL.out.1, FL.out.2, PP.out, SW.out, HW.out, SS.out.2.2.2.trans OW.out⟩
                case measure => exact ME.out
      · have e1 : ((j : Int) ≤ 2 * (a : Int) + 2) = False := eq_false (by omega)
        have ALL : Hid (∀ c s t, (c = 2 * a + 1 ∨ c = 2 * a + 2) → hs'[f]? = some s → hs'[c]? = some t → ¬ ahd (kys V t) (kys V s) t s) := hidIt (fun c s t hc e1 e2 => IN.out.2.2.2.1 c s t hc (by omega) e1 e2)
        clear h1 hj2 hn
        by_cases fa : f = a
        · subst fa
          have FIN : Hid (SnkPost W0 W hb pb V hs k (.returned (.tuple #[])) Wi) := hidIt ⟨⟨_, rfl⟩, hs', SS.out.2.1, SS.out.2.2.1.stop ALL.out, HI.out, SS.out.2.2.2.trans (Off.of IN.out.2.2.2.2)⟩
          obtain ⟨a0, a1, a2, a3, a4, a5⟩ := AR.out
          go_wp2_with fail
          exact bodyPost_ret (results_none rfl _ _ _) rfl FIN.out
        · have fe : ((f : Int) == (a : Int)) = false := by simp; omega
          have fe2 : ((f : Int) = (a : Int)) = False := eq_false (by omega)
          have FF := hidIt (IN.out.2.2.1.resolve_left fa)
          have lf : f < hs'.length := FF.out.2.1
          have la : a < hs'.length := by have := FF.out.1; omega
          obtain ⟨s, hs1⟩ : ∃ s, hs'[a]? = some s := ⟨_, List.getElem?_eq_getElem la⟩
          obtain ⟨t, ht⟩ : ∃ t, hs'[f]? = some t := ⟨_, List.getElem?_eq_getElem lf⟩
          have r1 := (HI.out.drew.pl hs1).1
          have r2 := (HI.out.drew.pl ht).1
          have ST := hidIt (And.intro hs1 ht)
          have RP := hidIt (HI.out.drew.hp.rw (by omega))
          have BX : Hid (hb < Wi.drew.heap.size ∧ pb ≠ hb) := hidIt ⟨HI.out.drew.hp.bx.choose_spec.choose_spec.1.2.2, HI.out.hp.ne⟩
          obtain rfl := PQ.out (by omega)
          have i1 : (f : Int) < (n : Int) := by rw [NN.out]; omega
          have i2 : (a : Int) < (n : Int) := by rw [NN.out]; omega
          clear hs1 ht fa
          obtain ⟨a0, a1, a2, a3, a4, a5⟩ := AR.out
          go_wp2_with fail
          clear a0 a1 a2 a3 a4 a5
          refine wp_region_noPanic ?_
          refine wp_region_held_drew (S := fun w' => w'.cell? ⟨hb, 0, none⟩ = some (.slice (some ⟨pb, 0, none⟩) n cap)) (by kernel_rfl) ?_ (fun hHeld => ?_)
          · exact c0
          refine take_at (i := 0) (v := ?_) (some 45) rfl rfl (by kernel_rfl) (by kernel_rfl) (by kernel_rfl) (fun _ _ _ h => h) (Or.inl ⟨by rfl, ?_⟩) (by assumption) ?_
          rotate_left
          · (intro w hSw; (try dsimp only at hSw); go_simp; try with_reducible rfl)
          simp only [Act.put, List.setIfInBounds_toArray, List.set_cons_zero, List.set_cons_succ]
          refine take_at (i := 1) (v := ?_) (some 46) rfl rfl (by kernel_rfl) (by kernel_rfl) (by kernel_rfl) (fun _ _ _ h => h) (Or.inl ⟨by rfl, ?_⟩) (by assumption) ?_
          rotate_left
          · (intro w hSw; (try dsimp only at hSw); go_simp; try with_reducible rfl)
          simp only [Act.put, List.setIfInBounds_toArray, List.set_cons_zero, List.set_cons_succ]
          refine take_at (i := 2) (v := ?_) (some 47) rfl rfl (by kernel_rfl) (by kernel_rfl) (by kernel_rfl) (fun _ _ _ h => h) (Or.inl ⟨by rfl, ?_⟩) (by assumption) ?_
          rotate_left
          · (intro w hSw; (try dsimp only at hSw); go_simp; try with_reducible rfl)
          simp only [Act.put, List.setIfInBounds_toArray, List.set_cons_zero, List.set_cons_succ]
          refine take_at (i := 3) (v := ?_) (some 48) rfl rfl (by kernel_rfl) (by kernel_rfl) (by kernel_rfl) (fun _ _ _ h => h) (Or.inl ⟨by rfl, ?_⟩) (by assumption) ?_
          rotate_left
          · (intro w hSw; (try dsimp only at hSw); go_simp; try with_reducible rfl)
          simp only [Act.put, List.setIfInBounds_toArray, List.set_cons_zero, List.set_cons_succ]
          refine take_at (i := 4) (v := ?_) (some 49) rfl rfl (by kernel_rfl) (by kernel_rfl) (by kernel_rfl) (fun _ _ _ h => h) (Or.inl ⟨by rfl, ?_⟩) (by assumption) ?_
          rotate_left
          · (intro w hSw; (try dsimp only at hSw); go_simp; try with_reducible rfl)
          simp only [Act.put, List.setIfInBounds_toArray, List.set_cons_zero, List.set_cons_succ]
          refine take_at (i := 5) (v := ?_) (some 50) rfl rfl (by kernel_rfl) (by kernel_rfl) (by kernel_rfl) (fun _ _ _ h => h) (Or.inl ⟨by rfl, ?_⟩) (by assumption) ?_
          rotate_left
          · (intro w hSw; (try dsimp only at hSw); go_simp; try with_reducible rfl)
          simp only [Act.put, List.setIfInBounds_toArray, List.set_cons_zero, List.set_cons_succ]
          refine take_at (i := 6) (v := ?_) (some 51) rfl rfl (by kernel_rfl) (by kernel_rfl) (by kernel_rfl) (fun _ _ _ h => h) (Or.inl ⟨by rfl, ?_⟩) (by assumption) ?_
          rotate_left
          · (intro w hSw; (try dsimp only at hSw); go_simp; try with_reducible rfl)
          simp only [Act.put, List.setIfInBounds_toArray, List.set_cons_zero, List.set_cons_succ]
          refine take_at (i := 7) (v := ?_) (some 52) rfl rfl (by kernel_rfl) (by kernel_rfl) (by kernel_rfl) (fun _ _ _ h => h) (Or.inl ⟨by rfl, ?_⟩) (by assumption) ?_
          rotate_left
          · (intro w hSw; (try dsimp only at hSw); go_simp; try with_reducible rfl)
          simp only [Act.put, List.setIfInBounds_toArray, List.set_cons_zero, List.set_cons_succ]
          refine take_at (i := 8) (v := ?_) (some 53) rfl rfl (by kernel_rfl) (by kernel_rfl) (by kernel_rfl) (fun _ _ _ h => h) (Or.inl ⟨by rfl, ?_⟩) (by assumption) ?_
          rotate_left
          · (intro w hSw; (try dsimp only at hSw); go_simp; try with_reducible rfl)
          simp only [Act.put, List.setIfInBounds_toArray, List.set_cons_zero, List.set_cons_succ]
          refine take_at (i := 9) (v := ?_) (some 54) rfl rfl (by kernel_rfl) (by kernel_rfl) (by kernel_rfl) (fun _ _ _ h => h) (Or.inl ⟨by rfl, ?_⟩) (by assumption) ?_
          rotate_left
          · (intro w hSw; (try dsimp only at hSw); go_simp; try with_reducible rfl)
          simp only [Act.put, List.setIfInBounds_toArray, List.set_cons_zero, List.set_cons_succ]
          refine take_at (i := 10) (v := ?_) (some 55) rfl rfl (by kernel_rfl) (by kernel_rfl) (by kernel_rfl) (fun _ _ _ h => h) (Or.inl ⟨by rfl, ?_⟩) (by assumption) ?_
          rotate_left
          · (intro w hSw; (try dsimp only at hSw); go_simp; try with_reducible rfl)
          simp only [Act.put, List.setIfInBounds_toArray, List.set_cons_zero, List.set_cons_succ]
          refine take_at (i := 11) (v := ?_) (some 56) rfl rfl (by kernel_rfl) (by kernel_rfl) (by kernel_rfl) (fun _ _ _ h => h) (Or.inl ⟨by rfl, ?_⟩) (by assumption) ?_
          rotate_left
          · (intro w hSw; (try dsimp only at hSw); go_simp; try with_reducible rfl)
          simp only [Act.put, List.setIfInBounds_toArray, List.set_cons_zero, List.set_cons_succ]
          refine take_at (i := 12) (v := ?_) (some 57) rfl rfl (by kernel_rfl) (by kernel_rfl) (by kernel_rfl) (fun _ _ _ h => h) (Or.inl ⟨by rfl, ?_⟩) (by assumption) ?_
          rotate_left
          · (intro w hSw; (try dsimp only at hSw); go_simp; try with_reducible rfl)
          simp only [Act.put, List.setIfInBounds_toArray, List.set_cons_zero, List.set_cons_succ]
          refine take_at (i := 13) (v := ?_) (some 58) rfl rfl (by kernel_rfl) (by kernel_rfl) (by kernel_rfl) (fun _ _ _ h => h) (Or.inl ⟨by rfl, ?_⟩) (by assumption) ?_
          rotate_left
          · (intro w hSw; (try dsimp only at hSw); go_simp; try with_reducible rfl)
          simp only [Act.put, List.setIfInBounds_toArray, List.set_cons_zero, List.set_cons_succ]
          refine take_at (i := 14) (v := ?_) (some 59) rfl rfl (by kernel_rfl) (by kernel_rfl) (by kernel_rfl) (fun _ _ _ h => h) (Or.inl ⟨by rfl, ?_⟩) (by assumption) ?_
          rotate_left
          · (intro w hSw; (try dsimp only at hSw); go_simp; try with_reducible rfl)
          simp only [Act.put, List.setIfInBounds_toArray, List.set_cons_zero, List.set_cons_succ]
          refine take_at (i := 15) (v := ?_) (some 60) rfl rfl (by kernel_rfl) (by kernel_rfl) (by kernel_rfl) (fun _ _ _ h => h) (Or.inl ⟨by rfl, ?_⟩) (by assumption) ?_
          rotate_left
          · (intro w hSw; (try dsimp only at hSw); go_simp; try with_reducible rfl)
          simp only [Act.put, List.setIfInBounds_toArray, List.set_cons_zero, List.set_cons_succ]
          refine take_at (i := 17) (v := ?_) (some 62) rfl rfl (by kernel_rfl) (by kernel_rfl) (by kernel_rfl) (fun _ _ _ h => h) (Or.inl ⟨by rfl, ?_⟩) (by assumption) ?_
          rotate_left
          · (intro w hSw; (try dsimp only at hSw); go_simp; try with_reducible rfl)
          simp only [Act.put, List.setIfInBounds_toArray, List.set_cons_zero, List.set_cons_succ]
          refine take_at (i := 18) (v := ?_) (some 63) rfl rfl (by kernel_rfl) (by kernel_rfl) (by kernel_rfl) (fun _ _ _ h => h) (Or.inl ⟨by rfl, ?_⟩) (by assumption) ?_
          rotate_left
          · (intro w hSw; (try dsimp only at hSw); go_simp; try with_reducible rfl)
          simp only [Act.put, List.setIfInBounds_toArray, List.set_cons_zero, List.set_cons_succ]
          refine take_at (i := 19) (v := ?_) (some 64) rfl rfl (by kernel_rfl) (by kernel_rfl) (by kernel_rfl) (fun _ _ _ h => h) (Or.inl ⟨by rfl, ?_⟩) (by assumption) ?_
          rotate_left
          · (intro w hSw; (try dsimp only at hSw); go_simp; try with_reducible rfl)
          simp only [Act.put, List.setIfInBounds_toArray, List.set_cons_zero, List.set_cons_succ]
          refine take_at (i := 20) (v := ?_) (some 65) rfl rfl (by kernel_rfl) (by kernel_rfl) (by kernel_rfl) (fun _ _ _ h => h) (Or.inl ⟨by rfl, ?_⟩) (by assumption) ?_
          rotate_left
          · (intro w hSw; (try dsimp only at hSw); go_simp; try with_reducible rfl)
          simp only [Act.put, List.setIfInBounds_toArray, List.set_cons_zero, List.set_cons_succ]
          refine take_at (i := 21) (v := ?_) (some 66) rfl rfl (by kernel_rfl) (by kernel_rfl) (by kernel_rfl) (fun _ _ _ h => h) (Or.inl ⟨by rfl, ?_⟩) (by assumption) ?_
          rotate_left
          · (intro w hSw; (try dsimp only at hSw); go_simp; try with_reducible rfl)
          simp only [Act.put, List.setIfInBounds_toArray, List.set_cons_zero, List.set_cons_succ]
          refine take_at (i := 22) (v := ?_) (some 67) rfl rfl (by kernel_rfl) (by kernel_rfl) (by kernel_rfl) (fun _ _ _ h => h) (Or.inl ⟨by rfl, ?_⟩) (by assumption) ?_
          rotate_left
          · (intro w hSw; (try dsimp only at hSw); go_simp; try with_reducible rfl)
          simp only [Act.put, List.setIfInBounds_toArray, List.set_cons_zero, List.set_cons_succ]
          refine pair_at (i := 16) (j := 23) (some 61) (some 68) rfl rfl rfl rfl (by kernel_rfl) (by rfl) (by rfl) (.agg (plV (V t) t).toArray) (.agg (plV (V s) s).toArray) Wi.drew Wi.drew (rowload_run 72 (.tmp 60) rfl pb (f * 2) (plV (V t) t) (by go_simp) _ r2 Try.underlying72 rfl (by kernel_rfl)) (rowload_run 72 (.tmp 67) rfl pb (a * 2) (plV (V s) s) (by go_simp) _ r1 Try.underlying72 rfl (by kernel_rfl)) ⟨hHeld, hHeld⟩ (fun hHeld => ?_) (fun hHeld => ?_)
          ·
            simp only [Act.put, List.setIfInBounds_toArray, List.set_cons_zero, List.set_cons_succ]
            refine step_at (i := 23) (some 68) rfl rfl (by rfl) (by kernel_rfl) (.agg (plV (V s) s).toArray) Wi.drew (rowload_run 72 (.tmp 67) rfl pb (a * 2) (plV (V s) s) (by go_simp) _ r1 Try.underlying72 rfl (by kernel_rfl)) hHeld (fun hHeld => ?_)
            simp only [Act.put, List.setIfInBounds_toArray, List.set_cons_zero, List.set_cons_succ]
            refine take_at (i := 24) (v := ?_) (some 69) rfl rfl (by kernel_rfl) (by kernel_rfl) (by kernel_rfl) (fun _ _ _ h => h) (Or.inl ⟨by rfl, ?_⟩) (by assumption) ?_
            rotate_left
            · (intro w hSw; (try dsimp only at hSw); go_simp; try with_reducible rfl)
            simp only [Act.put, List.setIfInBounds_toArray, List.set_cons_zero, List.set_cons_succ]
            obtain ⟨W2, hr2, R2, B2⟩ := RP.out.run_lay (a * 2) 72 (plV (V t) t) (by rw [plc_len]; show a * 2 + 2 ≤ _; omega) (by kernel_rfl) (plV_one _ _)
            have c2 : W2.cell? ⟨hb, 0, none⟩ = some (.slice (some ⟨pb, 0, none⟩) n cap) := (B2.cell (p := ⟨hb, 0, none⟩) BX.out.1 (fun q => BX.out.2 q.symm)).trans hHeld
            refine mute_at (i := 25) none rfl rfl (by rfl) (by kernel_rfl) W2 (put_mute 72 (.tmp 69) (.tmp 61) rfl _ _ rfl rfl hr2) c2 (fun hHeld => ?_)
            simp only [Act.put]
            refine take_at (i := 26) (v := ?_) (some 70) rfl rfl (by kernel_rfl) (by kernel_rfl) (by kernel_rfl) (fun _ _ _ h => h) (Or.inl ⟨by rfl, ?_⟩) (by assumption) ?_
            rotate_left
            · (intro w hSw; (try dsimp only at hSw); go_simp; try with_reducible rfl)
            simp only [Act.put, List.setIfInBounds_toArray, List.set_cons_zero, List.set_cons_succ]
            obtain ⟨W3, hr3, R3, B3⟩ := R2.run_lay (f * 2) 72 (plV (V s) s) (by rw [laidL_len _ _ _ (by rw [plc_len]; show a * 2 + 2 ≤ _; omega), plc_len]; show f * 2 + 2 ≤ _; omega) (by kernel_rfl) (plV_one _ _)
            have c3 : W3.cell? ⟨hb, 0, none⟩ = some (.slice (some ⟨pb, 0, none⟩) n cap) := (B3.cell (p := ⟨hb, 0, none⟩) (Nat.lt_of_lt_of_le BX.out.1 B2.size) (fun q => BX.out.2 q.symm)).trans c2
            have HW := hidIt (HI.out.drew.swap ST.out.1 ST.out.2 R3 (B2.trans B3))
            have OW : Hid (Off [pb] Wo W3) := hidIt ((Off.of (IN.out.2.2.2.2.trans ((Below.refl Wi.heap.size Wi).drew.mono IN.out.2.2.2.2.size))).trans (Off.but (B2.trans B3) (by simp)))
            refine mute_at (i := 27) none rfl rfl (by rfl) (by kernel_rfl) W3 (put_mute 72 (.tmp 70) (.tmp 68) rfl _ _ rfl rfl hr3) c3 (fun hHeld => ?_)
            simp only [Act.put]
            refine wpAnyH_done (by kernel_rfl) ?_ _
            refine NoPanic.normal ?_
            clear c2 c3 hr2 hr3 R2 R3 B2 B3 hHeld r1 r2 c0
            have SW := hidIt (SS.out.2.2.1.swap SS.out.1 FF.out.1 ST.out.1 ST.out.2 (FF.out.2.2 s t ST.out.1 ST.out.2) (fun c u hc hu => ALL.out c t u hc ST.out.2 hu))
            have PP := hidIt ((swp_perm ST.out.1 ST.out.2).trans SS.out.2.1)
            have ME := hidIt (sk_me a f (by have := FF.out.1; omega) (by have := han'.out; have := N32.out; omega))
            have FL := hidIt (show k ≤ f ∧ f ≤ hs.length from ⟨by have := FF.out.1; have := SS.out.1; omega, by have := FF.out.2.1; have := LN.out; omega⟩)
            clear i1 i2 la lf
            as_aux_lemma =>
              go_wp2_with fail
              go_roundw
              case rel => exact ⟨f, _, rfl, FL.out.1, FL.out.2, PP.out, SW.out, HW.out, SS.out.2.2.2.trans OW.out⟩
              case measure => exact ME.out
          ·
            simp only [Act.put, List.setIfInBounds_toArray, List.set_cons_zero, List.set_cons_succ]
            refine step_at (i := 16) (some 61) rfl rfl (by rfl) (by kernel_rfl) (.agg (plV (V t) t).toArray) Wi.drew (rowload_run 72 (.tmp 60) rfl pb (f * 2) (plV (V t) t) (by go_simp) _ r2 Try.underlying72 rfl (by kernel_rfl)) hHeld (fun hHeld => ?_)
            simp only [Act.put, List.setIfInBounds_toArray, List.set_cons_zero, List.set_cons_succ]
            refine take_at (i := 24) (v := ?_) (some 69) rfl rfl (by kernel_rfl) (by kernel_rfl) (by kernel_rfl) (fun _ _ _ h => h) (Or.inl ⟨by rfl, ?_⟩) (by assumption) ?_
            rotate_left
            · (intro w hSw; (try dsimp only at hSw); go_simp; try with_reducible rfl)
            simp only [Act.put, List.setIfInBounds_toArray, List.set_cons_zero, List.set_cons_succ]
            obtain ⟨W2, hr2, R2, B2⟩ := RP.out.run_lay (a * 2) 72 (plV (V t) t) (by rw [plc_len]; show a * 2 + 2 ≤ _; omega) (by kernel_rfl) (plV_one _ _)
            have c2 : W2.cell? ⟨hb, 0, none⟩ = some (.slice (some ⟨pb, 0, none⟩) n cap) := (B2.cell (p := ⟨hb, 0, none⟩) BX.out.1 (fun q => BX.out.2 q.symm)).trans hHeld
            refine mute_at (i := 25) none rfl rfl (by rfl) (by kernel_rfl) W2 (put_mute 72 (.tmp 69) (.tmp 61) rfl _ _ rfl rfl hr2) c2 (fun hHeld => ?_)
            simp only [Act.put]
            refine take_at (i := 26) (v := ?_) (some 70) rfl rfl (by kernel_rfl) (by kernel_rfl) (by kernel_rfl) (fun _ _ _ h => h) (Or.inl ⟨by rfl, ?_⟩) (by assumption) ?_
            rotate_left
            · (intro w hSw; (try dsimp only at hSw); go_simp; try with_reducible rfl)
            simp only [Act.put, List.setIfInBounds_toArray, List.set_cons_zero, List.set_cons_succ]
            obtain ⟨W3, hr3, R3, B3⟩ := R2.run_lay (f * 2) 72 (plV (V s) s) (by rw [laidL_len _ _ _ (by rw [plc_len]; show a * 2 + 2 ≤ _; omega), plc_len]; show f * 2 + 2 ≤ _; omega) (by kernel_rfl) (plV_one _ _)
            have c3 : W3.cell? ⟨hb, 0, none⟩ = some (.slice (some ⟨pb, 0, none⟩) n cap) := (B3.cell (p := ⟨hb, 0, none⟩) (Nat.lt_of_lt_of_le BX.out.1 B2.size) (fun q => BX.out.2 q.symm)).trans c2
            have HW := hidIt (HI.out.drew.swap ST.out.1 ST.out.2 R3 (B2.trans B3))
            have OW : Hid (Off [pb] Wo W3) := hidIt ((Off.of (IN.out.2.2.2.2.trans ((Below.refl Wi.heap.size Wi).drew.mono IN.out.2.2.2.2.size))).trans (Off.but (B2.trans B3) (by simp)))
            refine mute_at (i := 27) none rfl rfl (by rfl) (by kernel_rfl) W3 (put_mute 72 (.tmp 70) (.tmp 68) rfl _ _ rfl rfl hr3) c3 (fun hHeld => ?_)
            simp only [Act.put]
            refine wpAnyH_done (by kernel_rfl) ?_ _
            refine NoPanic.normal ?_
            clear c2 c3 hr2 hr3 R2 R3 B2 B3 hHeld r1 r2 c0
            have SW := hidIt (SS.out.2.2.1.swap SS.out.1 FF.out.1 ST.out.1 ST.out.2 (FF.out.2.2 s t ST.out.1 ST.out.2) (fun c u hc hu => ALL.out c t u hc ST.out.2 hu))
            have PP := hidIt ((swp_perm ST.out.1 ST.out.2).trans SS.out.2.1)
            have ME := hidIt (sk_me a f (by have := FF.out.1; omega) (by have := han'.out; have := N32.out; omega))
            have FL := hidIt (show k ≤ f ∧ f ≤ hs.length from ⟨by have := FF.out.1; have := SS.out.1; omega, by have := FF.out.2.1; have := LN.out; omega⟩)
            clear i1 i2 la lf
            as_aux_lemma =>
              go_wp2_with fail
              go_roundw
              case rel => exact ⟨f, _, rfl, FL.out.1, FL.out.2, PP.out, SW.out, HW.out, SS.out.2.2.2.trans OW.out⟩
              case measure => exact ME.out
end Go.Proofs.Ytgpafmgncolnmaa
