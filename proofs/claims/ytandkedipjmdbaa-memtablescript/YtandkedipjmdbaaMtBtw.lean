/-
  Walks, not a claim by itself: the pairs between two keys, gone through. By the verifier.
-/
import Derived.Test.YtandkedipjmdbaaMtLay
import Derived.Test.YtandkedipjmdbaaMtIter
import Derived.Test.YtandkedipjmdbaaDRegW
namespace Go.Proofs.Ytandkedipjmdbaa
open Go.RowKit Go.Shelf
attribute [local go_sem] Oper.semAt_some
theorem Arg.cks {w w' : World} {a : Option Addr} {n : Nat} {f : Nat → Int} (h : Arg w a n f) (k : Cks w w') : Arg w' a n f := by
  rcases h with h | ⟨h0, b, off, rfl, hl⟩
  · exact .inl h
  · exact .inr ⟨h0, b, off, rfl, fun j hj => k.cell (hl.1 j hj), hl.2.1, Nat.lt_of_lt_of_le hl.2.2 k.size⟩
theorem Txt.cks {W W' : World} {N : List Nat} {s : Value} {t : ByteArray} (h : Txt W N s t) (k : Cks W W') : Txt W' N s t := by
  obtain ⟨a, C, f, hs, hA, ht, hn⟩ := h
  exact ⟨a, C, f, hs, hA.cks k, ht, hn⟩
theorem PVOk.cks {W W' : World} {N : List Nat} {x : PV} (h : PVOk W N x) (k : Cks W W') : PVOk W' N x := ⟨h.1.cks k, h.2.cks k⟩
theorem OwnP.cks {w u : World} {base : Nat} {v : Value} {ps : List PV} (h : OwnP w base v ps) (k : Cks w u) : OwnP u base v ps := by
  refine ⟨h.1, ?_⟩
  rcases h.2 with h0 | ⟨g, cap, cur, rfl, hb, hg, rest⟩
  · exact .inl h0
  · exact .inr ⟨g, cap, cur, rfl, hb, k.block g _ hg rfl, rest⟩
theorem Tab.cks {W W' : World} {t : Nat} {v : Value} {ps : List PV} (h : Tab W t v ps) (k : Cks W W') : Tab W' t v ps :=
  ⟨h.own.cks k, h.rc.cks k, h.apart, fun x hx => (h.ok x hx).cks k, h.mays, h.srt, h.few⟩
theorem Fr.cks {W W' : World} {base : Nat} {s : Value} {t : ByteArray} (h : Fr W base s t) (k : Cks W W') : Fr W' base s t := by
  rcases h with h | ⟨g, F, hs, hb, h0, h1, h2, hR, ht, hF⟩
  · exact .inl h
  · have c := hR.1 0 (by omega)
    obtain ⟨o, ho, hc⟩ := cell_cells c
    have e := hsz_eq ((k.block g o ho hc).trans ho.symm)
    refine .inr ⟨g, F, by rw [e]; exact hs, hb, h0, by rw [e]; exact h1, by rw [e]; exact h2, ⟨fun j hj => ?_, fun j => ?_, Nat.lt_of_lt_of_le hR.2.2 k.size⟩, ht, by rw [e]; exact hF⟩
    · rw [e] at hj; exact k.cell (hR.1 j hj)
    · have := hR.2.1 j
      exact (World.frozen?_of_block (w := W) (a := ⟨g, j, none⟩) ((k.block g o ho hc).trans ho.symm)).trans this
/-- The closure's boxes, and what they name. -/
structure BtwM (Bt Bf Bo t : Nat) (v fr to : Value) (f b : ByteArray) (ps : List PV) (W : World) : Prop where
  tab : Tab W t v ps
  ct : W.cell? ⟨Bt, 0, none⟩ = some (.pointer (some ⟨t, 0, none⟩))
  cf : W.cell? ⟨Bf, 0, none⟩ = some fr
  co : W.cell? ⟨Bo, 0, none⟩ = some to
  tf : Txt W [] fr f
  tt : Txt W [] to b
theorem BtwM.cks {Bt Bf Bo t : Nat} {v fr to : Value} {f b : ByteArray} {ps : List PV} {W W' : World} (h : BtwM Bt Bf Bo t v fr to f b ps W) (k : Cks W W') : BtwM Bt Bf Bo t v fr to f b ps W' :=
  ⟨h.tab.cks k, k.cell h.ct, k.cell h.cf, k.cell h.co, h.tf.cks k, h.tt.cks k⟩
/-- What is gone through. -/
def outP (ps : List PV) (f b : ByteArray) : List PV := (ps.drop (pos (ps.map PV.p) f)).takeWhile fun x => blw x.p.k b
theorem outP_map (ps : List PV) (f b : ByteArray) : (outP ps f b).map PV.p = btwL (ps.map PV.p) f b := by
  unfold outP btwL
  rw [← List.map_drop, List.takeWhile_map]
  rfl
theorem tw_lt : ∀ (l : List PV) (p : PV → Bool) (k : Nat) (x : PV), k ≤ (l.takeWhile p).length → l[k]? = some x → (if p x then k < (l.takeWhile p).length ∧ (l.takeWhile p)[k]? = some x else k = (l.takeWhile p).length)
  | [], _, _, _, _, h => by simp at h
  | a :: r, p, 0, x, _, h => by
    injection h with h
    subst h
    cases e : p a with
    | true => rw [if_pos rfl, List.takeWhile_cons_of_pos e]; simp
    | false => rw [if_neg (by simp), List.takeWhile_cons_of_neg (by simp [e])]; rfl
  | a :: r, p, k + 1, x, hk, h => by
    cases e : p a with
    | false => rw [List.takeWhile_cons_of_neg (by simp [e])] at hk; simp at hk
    | true =>
      rw [List.takeWhile_cons_of_pos e] at hk ⊢
      have := tw_lt r p k x (by simpa using hk) h
      split at this <;> rename_i c
      · rw [if_pos c]; simpa using this
      · rw [if_neg c]; simpa using this
theorem tw_end (l : List PV) (p : PV → Bool) (k : Nat) (hk : k ≤ (l.takeWhile p).length) (hl : l.length ≤ k) : k = (l.takeWhile p).length := by
  have : (l.takeWhile p).length ≤ l.length := (List.takeWhile_sublist p).length_le
  omega
theorem btw_ar (k q n : Nat) (h : k < n - q) (hn : n ≤ 64) : (k : Int) < ((n - q : Nat) : Int) ∧ (0 : Int) ≤ (k : Int) ∧ IntKind.i64.wrap ((k : Int) + 1) = (k : Int) + 1 ∧ wrap64 ((k : Int) + 1) = (k : Int) + 1 ∧ 70 - (RowKit.intOf (.int .i64 ((k : Int) + 1))).toNat < 70 - (RowKit.intOf (.int .i64 (k : Int))).toNat :=
  ⟨by omega, by omega, by rw [IntKind.wrap_i64]; omega, by unfold wrap64; omega, by simp only [RowKit.intOf]; omega⟩
theorem cells_at {W : World} {t g cap q k : Nat} {ps : List PV} {x : PV} (h : Tab W t (.slice (some ⟨g, 0, none⟩) ps.length cap) ps) (hx : ps[q + k]? = some x) : W.cell? ⟨g, q * 3 + k * 3, none⟩ = some x.k ∧ W.cell? ⟨g, q * 3 + k * 3 + 1, none⟩ = some x.v ∧ W.cell? ⟨g, q * 3 + k * 3 + 2, none⟩ = some (.bool x.p.g) := by
  obtain ⟨a, cap', hv, hL⟩ := h.lst
  injection hv with ha
  subst ha
  obtain ⟨b, off, ha, hr, _⟩ := hL.at (q + k) x hx
  injection ha with ha
  injection ha with h1 h2
  subst h1 h2
  rw [Nat.zero_add, Nat.add_mul] at hr
  exact three_cells hr
set_option maxRecDepth 100000 in
set_option maxHeartbeats 2000000 in
theorem between1_in (m : Nat) (hm : 1 ≤ m) (l Bt Bf Bo t : Nat) (v fr to : Value) (f b : ByteArray) (ps : List PV) (J : Nat → World → Prop) (Jx : World → Prop) (hM : ∀ k W, J k W → BtwM Bt Bf Bo t v fr to f b ps W) (hB : ∀ k W W', J k W → Below W.heap.size W W' → J k W')
    (hY : ∀ (k : Nat) (x : PV) (W : World), (outP ps f b)[k]? = some x → J k W → YieldAt Fence.wide (m - 1) Try.prog l #[.agg x.cs.toArray] W fun e W' => (e = .returned (.bool true) ∧ J (k + 1) W') ∨ (e = .returned (.bool false) ∧ Jx W'))
    (W : World) (h0 : J 0 W) :
    CallsIn Fence.wide m Try.prog 56 #[.func (.yield l) #[] #[], .pointer (some ⟨Bt, 0, none⟩), .pointer (some ⟨Bf, 0, none⟩), .pointer (some ⟨Bo, 0, none⟩)] W fun e W' => (∃ v, e = .returned v) ∧ (J (outP ps f b).length W' ∨ Jx W') := by
  have M0 := hM 0 W h0
  have SK := hidIt (seek_any M0.tab M0.tf)
  have c1 := M0.ct
  have c2 := M0.cf
  have H0 := hidIt h0
  have HB := hidIt hB
  have HM := hidIt hM
  have HY := hidIt hY
  clear M0 h0 hB hM hY
  refine callsIn_of_wp Try.func56 rfl trivial ?_ rfl
  simp only [Try.ntmps56, List.size_toArray, List.length_cons, List.length_nil, Nat.reduceAdd, Nat.reduceSub, Array.replicate_succ, Array.replicate_zero, List.push_toArray, List.append_toArray, List.nil_append, List.cons_append]
  gi_wp2
  refine ⟨trivial, ?_⟩
  refine CallsIn.mono ((callsIn_wide (n := _)).2 SK.out) ?_
  rintro e W1 ⟨rfl, B1⟩
  have J1 := hidIt (HB.out 0 W W1 H0.out B1)
  have M1 := HM.out 0 W1 J1.out
  obtain ⟨a, cap, rfl, hL⟩ := M1.tab.lst
  have d1 := M1.ct
  have d2 := (M1.tab.rc.cel 1 _ rfl).1
  have MM := hidIt M1
  clear SK c1 c2 H0 B1 M1 hL
  have hq := pos_le (ps.map PV.p) f
  obtain ⟨q, eq⟩ : ∃ q, q = pos (ps.map PV.p) f := ⟨_, rfl⟩
  have EQ := hidIt eq
  rw [← eq] at hq ⊢
  clear eq
  have hq' : q ≤ ps.length := by simpa using hq
  clear hq
  have FW := hidIt MM.out.tab.few
  rcases MM.out.tab.own.form with ⟨hv, hp⟩ | ⟨g, cap', hv, _, hcap, _⟩
  · injection hv with ha _ hc
    subst ha hc hp
    obtain rfl : q = 0 := by simpa using hq'
    clear MM hq' FW HM HY EQ
    have O0 : Hid (0 = (outP [] f b).length) := hidIt rfl
    gi_wp2
    gi_loopw [22] (fun i wr => i = .int .i64 0 ∧ wr = W1) (fun _ _ => 0)
    case atStart => exact ⟨rfl, rfl⟩
    case round =>
      obtain ⟨rfl, rfl⟩ := hrel
      gi_wp2
      go_end0
      exact ⟨⟨_, rfl⟩, .inl (O0.out ▸ J1.out)⟩
  · injection hv with ha _ hc
    subst ha hc
    by_cases hcq : cap = q
    · have O0 := hidIt (tw_end (ps.drop (pos (ps.map PV.p) f)) (fun x => blw x.p.k b) 0 (Nat.zero_le _) (by rw [← EQ.out, List.length_drop]; omega))
      have e1 : ps.length = cap := by omega
      subst hcq
      rw [e1] at d2
      have i0 : (0 : Int) ≤ (cap : Int) := by omega
      clear MM hq' FW HM HY EQ hcap e1
      gi_wp2
      gi_loopw [22] (fun i wr => i = .int .i64 0 ∧ wr = W1) (fun _ _ => 0)
      case atStart => exact ⟨rfl, rfl⟩
      case round =>
        obtain ⟨rfl, rfl⟩ := hrel
        gi_wp2
        go_end0
        exact ⟨⟨_, rfl⟩, .inl (O0.out ▸ J1.out)⟩
    · have k6 : (cap = q) = False := eq_false hcq
      have k7 : (q : Int) ≤ (ps.length : Int) := by omega
      have k8 : (0 : Int) ≤ (q : Int) := by omega
      have QQ := hidIt (And.intro hq' (And.intro hcap hcq))
      clear MM hq' hcap hcq
      gi_wp2
      gi_loopw [22] (fun i wr => ∃ k : Nat, k ≤ (outP ps f b).length ∧ i = .int .i64 (k : Int) ∧ J k wr) (fun i _ => 70 - (RowKit.intOf i).toNat)
      case atStart => exact ⟨0, Nat.zero_le _, rfl, J1.out⟩
      case round =>
        obtain ⟨k, hk, rfl, hJ⟩ := hrel
        clear J1
        have HK := hidIt hk
        clear hk
        by_cases hlt : k < ps.length - q
        · obtain ⟨x, hx⟩ : ∃ x, ps[q + k]? = some x := ⟨_, List.getElem?_eq_getElem (by omega)⟩
          have hx2 : (ps.drop (pos (ps.map PV.p) f))[k]? = some x := by rw [← EQ.out, List.getElem?_drop]; exact hx
          have TW := hidIt (tw_lt (ps.drop (pos (ps.map PV.p) f)) (fun x => blw x.p.k b) k x HK.out hx2)
          have M := HM.out k wr hJ
          have HJ := hidIt hJ
          obtain ⟨k0, k1, k2⟩ := cells_at M.tab hx
          have c3 := M.co
          have XO := hidIt (And.intro (M.tab.ok x (List.mem_of_getElem? hx)) M.tt)
          obtain ⟨i0, i1, i2, i3, i4⟩ := btw_ar k q ps.length hlt FW.out
          clear hJ hx hx2 M hlt
          cases hb : blw x.p.k b with
          | true =>
            have O1 : Hid (k < (outP ps f b).length ∧ (outP ps f b)[k]? = some x) := hidIt (by have := TW.out; rw [hb, if_pos rfl] at this; exact this)
            clear TW
            gi_wp2_with (first
              | (refine fen_alloc rfl 47 rfl _ wr.heap.size rfl pair_zero ?_; intro W2 R2 B2 z2; have P2 := hidIt R2; have E2 := hidIt (And.intro B2 z2); clear R2 B2 z2 k0 k1 k2 c3)
              | (refine fen_store rfl 47 (.tmp 8) (.tmp 25) rfl wr.heap.size 0 _ x.cs rfl rfl P2.out rfl pair_size XO.out.1.one ?_; intro W3 R3 B3; have E3 := hidIt (E2.out.1.trans (B3.below (Nat.le_refl _) (by have := E2.out.2; omega))); have P3 := hidIt R3; have e0 := (R3.cel 0 x.k rfl).1; have e1 := (R3.cel 1 x.v rfl).1; have e2 := (R3.cel 2 (.bool x.p.g) rfl).1; have e3 := (HM.out k W3 (HB.out k wr W3 HJ.out E3.out)).co; clear R3 B3))
            refine ⟨trivial, ?_⟩
            refine CallsIn.mono ((callsIn_wide (n := _)).2 (below_any (XO.out.1.1.below E3.out) (XO.out.2.below E3.out))) ?_
            rintro e W4 ⟨rfl, hw⟩
            rw [hw, hb]
            clear hw
            obtain ⟨fn, tmps, assign, body, hy, hR⟩ := HY.out k x W3 O1.out.2 (HB.out k wr W3 HJ.out E3.out)
            have hy' : (Instr.yield l #[.agg #[x.k, x.v, .bool x.p.g]]).run Try.prog W3 = .ok (.round l fn tmps assign body) W3 := hy
            clear hy
            gi_wp2
            refine hR.mono ?_
            rintro e W5 (⟨rfl, hJ5⟩ | ⟨rfl, hJx5⟩)
            · gi_wp2
              go_roundw
              case rel => exact ⟨k + 1, O1.out.1, rfl, hJ5⟩
              case measure => exact i4
            · gi_wp2
              refine bodyPost_ret (results_none rfl _ _ _) rfl ?_
              exact ⟨⟨_, rfl⟩, .inr hJx5⟩
          | false =>
            have O1 : Hid (k = (outP ps f b).length) := hidIt (by have := TW.out; rw [hb, if_neg (by simp)] at this; exact this)
            clear TW
            gi_wp2_with (first
              | (refine fen_alloc rfl 47 rfl _ wr.heap.size rfl pair_zero ?_; intro W2 R2 B2 z2; have P2 := hidIt R2; have E2 := hidIt (And.intro B2 z2); clear R2 B2 z2 k0 k1 k2 c3)
              | (refine fen_store rfl 47 (.tmp 8) (.tmp 25) rfl wr.heap.size 0 _ x.cs rfl rfl P2.out rfl pair_size XO.out.1.one ?_; intro W3 R3 B3; have E3 := hidIt (E2.out.1.trans (B3.below (Nat.le_refl _) (by have := E2.out.2; omega))); have P3 := hidIt R3; have e0 := (R3.cel 0 x.k rfl).1; have e1 := (R3.cel 1 x.v rfl).1; have e2 := (R3.cel 2 (.bool x.p.g) rfl).1; have e3 := (HM.out k W3 (HB.out k wr W3 HJ.out E3.out)).co; clear R3 B3))
            refine ⟨trivial, ?_⟩
            refine CallsIn.mono ((callsIn_wide (n := _)).2 (below_any (XO.out.1.1.below E3.out) (XO.out.2.below E3.out))) ?_
            rintro e W4 ⟨rfl, hw⟩
            rw [hw, hb]
            clear hw
            gi_wp2
            refine ⟨fun _ h => (by cases h), ?_⟩
            gi_wp2
            refine bodyPost_ret (results_none rfl _ _ _) rfl ?_
            exact ⟨⟨_, rfl⟩, .inl (O1.out ▸ HB.out k wr W3 HJ.out E3.out)⟩
        · have O1 := hidIt (tw_end (ps.drop (pos (ps.map PV.p) f)) (fun x => blw x.p.k b) k HK.out (by rw [← EQ.out, List.length_drop]; omega))
          have HJ := hidIt hJ
          have i0 : ((k : Int) < ((ps.length - q : Nat) : Int)) = False := eq_false (by omega)
          clear hJ hlt
          gi_wp2
          go_end0
          exact ⟨⟨_, rfl⟩, .inl (O1.out ▸ HJ.out)⟩
end Go.Proofs.Ytandkedipjmdbaa
