/-
  Walks, not a claim by itself: the reference's Merge. By the verifier.
-/
import Derived.Test.YtgpafmgncolnmaaMgLe
namespace Go.Proofs.Ytgpafmgncolnmaa
open Go.RowKit
attribute [-go_sem] Builtin.append_
theorem txt_uniq {W : World} {N M : List Nat} {s : Value} {t t' : ByteArray} (h : Txt W N s t) (h' : Txt W M s t') : t = t' := by
  have a := conv_of' h
  have b := conv_of' h'
  rw [a] at b
  injection b with b
  injection b
/-- The key that is at hand is the n-th one's. -/
structure KeyAt (M l : List PV) (n : Nat) (key : Value) (ok : Bool) : Prop where
  le : n ≤ M.length
  is : ok = decide (n < M.length)
  at_ : ∀ x, M[n]? = some x → ∃ y ∈ l, key = y.k ∧ y.p.k = x.p.k
theorem KeyAt.uniq {W : World} {M l : List PV} {n m : Nat} {key : Value} {ok : Bool} (hs : SrtV M) (hl : ∀ y ∈ l, PVOk W [] y) (h : KeyAt M l n key ok) (k : KeyAt M l m key ok) : n = m := by
  have a := h.is
  have b := k.is
  have c := h.le
  have d := k.le
  by_cases q : n < M.length
  · have q2 : m < M.length := by
      rw [a, decide_eq_true q] at b
      exact of_decide_eq_true b.symm
    obtain ⟨y, hy, e1, e2⟩ := h.at_ _ (List.getElem?_eq_getElem q)
    obtain ⟨z, hz, e3, e4⟩ := k.at_ _ (List.getElem?_eq_getElem q2)
    have ty := (hl y hy).1
    have tz := (hl z hz).1
    rw [← e1] at ty
    rw [← e3] at tz
    have e := txt_uniq ty tz
    rw [e2, e4] at e
    rcases Nat.lt_trichotomy n m with r | r | r
    · have := List.pairwise_iff_getElem.1 hs n m q q2 r
      rw [e, c_self] at this; omega
    · exact r
    · have := List.pairwise_iff_getElem.1 hs m n q2 q r
      rw [e, c_self] at this; omega
  · have q2 : ¬ m < M.length := by
      rw [a, decide_eq_false q] at b
      exact of_decide_eq_false b.symm
    omega
/-- How many are left. -/
noncomputable def msr (M l : List PV) (kv ov : Value) : Nat := lst fun m => ∃ n b, ov = .bool b ∧ KeyAt M l n kv b ∧ m = M.length - n
theorem msr_is {W : World} {M l : List PV} {n : Nat} {key : Value} {ok : Bool} (hs : SrtV M) (hl : ∀ y ∈ l, PVOk W [] y) (h : KeyAt M l n key ok) : msr M l key (.bool ok) = M.length - n := by
  obtain ⟨⟨m, b, hb, hk, e⟩, _⟩ := lst_spec (P := fun m => ∃ n b, Value.bool ok = .bool b ∧ KeyAt M l n key b ∧ m = M.length - n) ⟨_, n, ok, rfl, h, rfl⟩
  injection hb with hb
  subst hb
  rw [KeyAt.uniq hs hl h hk]
  exact e
theorem msr_lt {W : World} {M l : List PV} {n : Nat} {key key' : Value} {ok ok' : Bool} (hs : SrtV M) (hl : ∀ y ∈ l, PVOk W [] y) (hn : n < M.length) (h : KeyAt M l n key ok) (h' : KeyAt M l (n + 1) key' ok') : msr M l key' (.bool ok') < msr M l key (.bool ok) := by
  rw [msr_is hs hl h, msr_is hs hl h']
  omega
theorem KeyAt.of {M l : List PV} {n : Nat} {P : ByteArray → Prop} {out : Value} {met : Bool} (hn : n ≤ M.length) (hs : SrtV M) (hm : (∀ x ∈ M, x ∈ l) ∧ ∀ x ∈ l, ∃ y ∈ M, y.p.k = x.p.k) (hP : ∀ j x, M[j]? = some x → (P x.p.k ↔ n ≤ j)) (h : LsQ P l out met) : KeyAt M l n out met := ⟨hn, (h.at n hn hs hm.1 hm.2 hP).1, (h.at n hn hs hm.1 hm.2 hP).2⟩
/-- What is merged so far. -/
structure UmI (W : World) (M : List PV) (drop : Bool) (n : Nat) (wr : World) (lv : Value) (os : List PV) : Prop where
  own : OwnP wr 0 lv os
  new : ∀ g, lv.ownBlock = some g → W.heap.size ≤ g
  oks : ∀ x ∈ os, PVOk W [] x
  eq : os = (M.take n).filter (keepP drop)
  below : Below W.heap.size W wr
theorem UmI.skip {W wr w' : World} {M : List PV} {drop : Bool} {n : Nat} {lv : Value} {os : List PV} {x : PV} (h : UmI W M drop n wr lv os) (hB : Below wr.heap.size wr w') (hx : M[n]? = some x) (hk : keepP drop x = false) : UmI W M drop (n + 1) w' lv os := by
  obtain ⟨hn, rfl⟩ := List.getElem?_eq_some_iff.1 hx
  refine ⟨h.own.below hB, h.new, h.oks, ?_, h.below.trans (hB.mono h.below.size)⟩
  rw [List.take_succ_eq_append_getElem hn, List.filter_append, ← h.eq, List.filter_cons_of_neg (by rw [hk]; exact Bool.false_ne_true)]
  simp
theorem UmI.keep {W wr w5 w' : World} {M : List PV} {drop : Bool} {n : Nat} {lv v6 : Value} {os : List PV} {x : PV} (h : UmI W M drop n wr lv os) (hB : Below wr.heap.size wr w5) (hI : Insd w5 lv (os ++ [x]) v6 w') (hP : PVOk W [] x) (hx : M[n]? = some x) (hk : keepP drop x = true) : UmI W M drop (n + 1) w' v6 (os ++ [x]) := by
  have s5 := Nat.le_trans h.below.size hB.size
  refine ⟨hI.own, fun g hg => ?_, fun y hy => ?_, ?_, (h.below.trans (hB.mono h.below.size)).trans (hI.off.below (fun b hb => ?_) s5)⟩
  · rcases hI.blk g hg with q | q
    · exact h.new g q
    · omega
  · rcases List.mem_append.1 hy with hy | hy
    · exact h.oks y hy
    · rcases List.mem_singleton.1 hy with rfl
      exact hP
  · obtain ⟨hn, rfl⟩ := List.getElem?_eq_some_iff.1 hx
    rw [List.take_succ_eq_append_getElem hn, List.filter_append, ← h.eq, List.filter_cons_of_pos hk]
    simp
  · cases e : lv.ownBlock with
    | none => rw [e] at hb; cases hb
    | some q => rw [e] at hb; simp at hb; subst hb; exact h.new _ e
/-- What the reference's Merge answers. -/
def UmPost (W : World) (ls : List LV) (drop : Bool) (e : Ending) (w' : World) : Prop := Below W.heap.size W w' ∧ ((chkC ls ≠ 0 ∧ e = .returned (.tuple #[.slice none 0 0, .int .i64 (chkC ls)])) ∨ (chkC ls = 0 ∧ ∃ a c qs, e = .returned (.tuple #[.slice a (qs : List PV).length c, .int .i64 0]) ∧ Lst w' a qs ∧ qs.map PV.p = mrgR ls drop))
set_option maxRecDepth 100000 in
set_option maxHeartbeats 2000000 in
theorem umerge_any {W : World} {A : Option Addr} {ls : List LV} {drop : Bool} (L C : Nat) (hL : ls.length = L) (h : Lsts W A ls) (hf : L ≤ 1000) (hs : ∀ x ∈ ls, x.ps.length ≤ 10000) : Calls Try.prog 13 #[.slice A L C, .bool drop] W (UmPost W ls drop) := by
  have HL := hidIt h
  have HN := hidIt (And.intro hL (And.intro hf hs))
  clear h hf hs hL
  go_enter Try.func13, Try.ntmps13
  go_wp2_with fail
  go_loopw [6, 7] (fun s i wr => ∃ k : Nat, k ≤ L ∧ i = .int .i64 (k : Int) ∧ s = .int .i64 ((tot (ls.take k) : Nat) : Int) ∧ wr = W) (fun _ i _ => L - (RowKit.intOf i).toNat)
  case atStart => exact ⟨0, Nat.zero_le _, rfl, rfl, rfl⟩
  case round =>
    obtain ⟨k, hk, rfl, rfl, rfl⟩ := hrel
    by_cases hlt : k < L
    · obtain ⟨x, hx⟩ : ∃ x, ls[k]? = some x := ⟨_, List.getElem?_eq_getElem (by have := HN.out.1; omega)⟩
      obtain ⟨b, o, ha, hc, hb⟩ := HL.out.at k x hx
      subst ha
      have LT := hidIt hlt
      have AR := hidIt (k_ar k L hlt (by have := HN.out.2.1; omega))
      have MK := hidIt (meas_k L k _ rfl hlt)
      have TT := tot_succ hx
      obtain ⟨u, hu⟩ : ∃ u, u = tot (ls.take k) + x.ps.length := ⟨_, rfl⟩
      rw [← hu] at TT
      have AC := hidIt (ck_ar (tot (ls.take k)) x.ps.length u (by have := tot_le HN.out.2.2 k; have := HN.out.2.1; omega) (HN.out.2.2 x (List.mem_of_getElem? hx)) hu)
      clear hu
      unfold LV.v at hc
      generalize x.ps.length = m at *
      generalize tot (ls.take k) = t at *
      clear hb hx hlt hk
      obtain ⟨i0, i1, i2, i3⟩ := AR.out
      obtain ⟨c1, c2⟩ := AC.out
      have TH := hidIt TT
      clear TT
      as_aux_lemma =>
        go_wp2_with fail
        go_roundw
        case rel => exact ⟨k + 1, LT.out, rfl, by rw [TH.out], trivial⟩
        case measure => exact MK.out
    · obtain rfl : k = L := by omega
      have i0 : ((k : Int) < (k : Int)) = False := eq_false (by omega)
      have TE : Hid (tot (ls.take k) = tot ls) := hidIt (by rw [List.take_of_length_le (by have := HN.out.1; omega)])
      rw [TE.out]
      by_cases h1 : 32 < k
      · have CC := hidIt (chk_long (ls := ls) (.inl (by have := HN.out.1; omega)))
        have e1 : (32 < (k : Int)) = True := eq_true (by omega)
        have e1' : (32 < k) = True := eq_true h1
        clear hk hlt h1
        generalize tot ls = t at *
        as_aux_lemma =>
          go_wp2_with fail
          exact bodyPost_ret (v := .tuple #[.slice none 0 0, .int .i64 3]) (by simp [results, Try.results13, go_sem]) rfl ⟨Below.refl _ _, .inl ⟨by rw [CC.out]; decide, by rw [CC.out]⟩⟩
      · have e1 : (32 < (k : Int)) = False := eq_false (by omega)
        have e1' : (32 < k) = False := eq_false h1
        by_cases h2 : 4096 < tot ls
        · have CC := hidIt (chk_long (ls := ls) (.inr h2))
          have e2 : (4096 < ((tot ls : Nat) : Int)) = True := eq_true (by omega)
          have e2' : (4096 < tot ls) = True := eq_true h2
          clear hk hlt h2 h1
          generalize tot ls = t at *
          as_aux_lemma =>
            go_wp2_with fail
            exact bodyPost_ret (v := .tuple #[.slice none 0 0, .int .i64 3]) (by simp [results, Try.results13, go_sem]) rfl ⟨Below.refl _ _, .inl ⟨by rw [CC.out]; decide, by rw [CC.out]⟩⟩
        · have e2 : (4096 < ((tot ls : Nat) : Int)) = False := eq_false (by omega)
          have e2' : (4096 < tot ls) = False := eq_false h2
          have NO : Hid (¬ (32 < ls.length ∨ 4096 < tot ls)) := hidIt (by have := HN.out.1; omega)
          clear hk hlt h2 h1 TE
          obtain ⟨t, ht⟩ : ∃ t, t = tot ls := ⟨_, rfl⟩
          rw [← ht] at e2 e2' ⊢
          clear ht
          go_wp2_with fail
          clear e1 e1' e2 e2'
          go_loopw [8] (fun i w5 => ∃ j : Nat, j ≤ k ∧ i = .int .i64 (j : Int) ∧ Below wr.heap.size wr w5 ∧ ∀ t x, t < j → ls[t]? = some x → Chn (x.ps.map PV.p)) (fun i _ => k - (RowKit.intOf i).toNat)
          case atStart => exact ⟨0, Nat.zero_le _, rfl, Below.refl _ _, fun t x h => by omega⟩
          case round =>
            rename World => Wi
            obtain ⟨j, hj, rfl, hB, hC⟩ := hrel
            have HB := hidIt hB
            have HC := hidIt hC
            by_cases hlt : j < k
            · obtain ⟨x, hx⟩ : ∃ x, ls[j]? = some x := ⟨_, List.getElem?_eq_getElem (by have := HN.out.1; omega)⟩
              obtain ⟨b, o, ha, hc, hb⟩ := (HL.out.below hB).at j x hx
              subst ha
              have LT := hidIt hlt
              have HX := hidIt hx
              have AR := hidIt (k_ar j k hlt (by have := HN.out.2.1; omega))
              have MK := hidIt (meas_k k j _ rfl hlt)
              have KS := hidIt (rsorted_any x.ps.length x.c rfl ((HL.out.below hB).1 x (List.mem_of_getElem? hx)).1 (by have := HN.out.2.2 x (List.mem_of_getElem? hx); omega))
              unfold LV.v at hc
              clear hb hx hlt hj hB hC
              obtain ⟨i0, i1, i2, i3⟩ := AR.out
              generalize x.ps.length = m at *
              go_wp2_with (go_at_call 35; refine KS.out.mono ?_; rintro e W5 ⟨bb, rfl, hbb, B5⟩; have BB := hidIt hbb; have E5 := hidIt (HB.out.trans (B5.mono HB.out.size)); clear hbb B5; refine Held.out ?_)
              cases bb with
              | false =>
                have CC := hidIt (chk_bad NO.out (List.mem_of_getElem? HX.out) (fun q => by have := BB.out.2 q; cases this))
                as_aux_lemma =>
                  refine Held.mk ?_
                  go_wp2_with fail
                  exact bodyPost_ret (v := .tuple #[.slice none 0 0, .int .i64 2]) (by simp [results, Try.results13, go_sem]) rfl ⟨E5.out, .inl ⟨by rw [CC.out]; decide, by rw [CC.out]⟩⟩
              | true =>
                have NX : Hid (∀ t y, t < j + 1 → ls[t]? = some y → Chn (y.ps.map PV.p)) := hidIt (fun t y ht hy => by
                  by_cases e : t = j
                  · subst e
                    rw [HX.out] at hy
                    injection hy with hy
                    subst hy
                    exact BB.out.1 rfl
                  · exact HC.out t y (by omega) hy)
                as_aux_lemma =>
                  refine Held.mk ?_
                  go_wp2_with fail
                  go_roundw
                  case rel => exact ⟨j + 1, LT.out, rfl, E5.out, NX.out⟩
                  case measure => exact MK.out
            · obtain rfl : j = k := by omega
              have i0 : ((j : Int) < (j : Int)) = False := eq_false (by omega)
              have CC := hidIt (chk_ok NO.out (fun x hx => by
                obtain ⟨t, ht⟩ := List.getElem?_of_mem hx
                exact hC t x (by have := (List.getElem?_eq_some_iff.1 ht).1; have := HN.out.1; omega) ht))
              have PL : Hid (∀ y ∈ allP ls, PVOk wr [] y) := hidIt (fun y hy => by
                obtain ⟨x, hx, hy⟩ := List.mem_flatMap.1 hy
                exact (HL.out.1 x hx).1.1 y hy)
              obtain ⟨M, hM⟩ : ∃ M, M = mrgP (allP ls) := ⟨_, rfl⟩
              have HM := hidIt hM
              have MS : Hid (SrtV M) := hidIt (by rw [hM]; exact srt_mrgP _)
              have MI : Hid ((∀ x ∈ M, x ∈ allP ls) ∧ ∀ x ∈ allP ls, ∃ y ∈ M, y.p.k = x.p.k) := hidIt (by rw [hM]; exact mrg_in _)
              have ML : Hid (M.length ≤ 4096) := hidIt (by have a := len_mrgP (allP ls); rw [tot_all] at a; have := NO.out; rw [hM]; omega)
              clear hj hlt hB hC hM
              have U1 := hidIt (uleast_any (f := true) j C HN.out.1 (HL.out.below HB.out) HN.out.2.1 HN.out.2.2 (Txt.nil _ [] 0))
              go_wp2_with (go_at_call 36; refine U1.out.mono ?_; rintro e W2 ⟨kv, ok, rfl, hq, hw⟩; rw [hw]; have K0 := hidIt (KeyAt.of (Nat.zero_le _) MS.out MI.out (bhk_first M _) hq); clear hq hw)
              have st : Hid (UmI wr M drop 0 Wi (.slice none 0 0) []) := hidIt ⟨OwnP.nil _ _, fun g hg => (by cases hg), fun x hx => (by cases hx), rfl, HB.out⟩
              clear i0 U1
              go_loopw [9, 10, 11] (fun lv kv ov w5 => ∃ (n : Nat) (os : List PV) (b : Bool), ov = .bool b ∧ Hid (KeyAt M (allP ls) n kv b) ∧ Hid (UmI wr M drop n w5 lv os)) (fun _ kv ov _ => msr M (allP ls) kv ov)
              case atStart => exact ⟨0, [], ok, rfl, K0, st⟩
              case round =>
                clear K0 st
                rename World => Wq
                obtain ⟨n, os, b, rfl, KK, UU⟩ := hrel
                have UB := hidIt UU.out.below
                by_cases hlt : n < M.length
                · obtain ⟨x, hx⟩ : ∃ x, M[n]? = some x := ⟨_, List.getElem?_eq_getElem hlt⟩
                  obtain rfl : b = true := by rw [KK.out.is, decide_eq_true hlt]
                  obtain ⟨y, hy, hkv, hyk⟩ := KK.out.at_ x hx
                  have KT : Hid (Txt wr [] u10 x.p.k) := hidIt (by rw [hkv, ← hyk]; exact (PL.out y hy).1)
                  have HX := hidIt hx
                  have XM := hidIt (MI.out.1 x (List.mem_of_getElem? hx))
                  have XO := hidIt (PL.out x XM.out)
                  have FX : Hid (fv (allP ls) x.p.k = some x) := hidIt (by rw [← fv_mrgP, ← HM.out]; exact fv_at MS.out hx)
                  have LT := hidIt hlt
                  have OL : Hid (os.length ≤ 4096) := hidIt (by rw [UU.out.eq]; have := List.length_filter_le (keepP drop) (M.take n); rw [List.length_take] at this; have := ML.out; omega)
                  have F1 : Hid (Calls Try.prog 15 #[.slice A j C, u10] Wq fun e w' => Below Wq.heap.size Wq w' ∧ e = .returned (.tuple #[.agg x.cs.toArray, .bool true])) := hidIt ((ufind_any j C HN.out.1 (HL.out.below UB.out) HN.out.2.1 HN.out.2.2 (KT.out.below UB.out)).mono (by
                    rintro e w' ⟨hb, (⟨x', h1, rfl⟩ | ⟨h1, _⟩)⟩
                    · rw [FX.out] at h1; injection h1 with h1; subst h1; exact ⟨hb, rfl⟩
                    · rw [FX.out] at h1; cases h1))
                  clear hx hlt hkv hyk hy
                  go_wp2_with (first
                    | (go_at_call 15; refine F1.out.mono ?_; rintro e W3 ⟨hb, rfl⟩; have U3 := hidIt hb; clear hb)
                    | (refine wpList_alloc_rec rfl 32 rfl _ W3.heap.size rfl pair_zero ?_; intro W4 R4 B4 z4; have E4 := hidIt (And.intro B4 z4); have P4 := hidIt R4; clear R4 B4 z4)
                    | (refine wpList_store_rec rfl 32 (.tmp 12) (.tmp 56) rfl W3.heap.size 0 _ x.cs rfl rfl P4.out rfl pair_size XO.out.one ?_; intro W5 R5 B5; have E5 := hidIt (U3.out.trans ((E4.out.1.trans (B5.below (Nat.le_refl _) (by have := E4.out.2; omega))).mono U3.out.size)); have P5 := hidIt R5; clear R5 B5; refine Held.out ?_))
                  obtain ⟨Hb, hHb⟩ : ∃ Hb, Hb = W3.heap.size := ⟨_, rfl⟩
                  rw [← hHb] at P5 ⊢
                  have e2 : W5.cell? ⟨Hb, 2, none⟩ = some (.bool x.p.g) := (P5.out.cel 2 _ rfl).1
                  clear hHb P4 E4 F1
                  cases drop with
                  | false =>
                    obtain ⟨W6, hW6⟩ : ∃ W6, W6 = W5.alloc (.cells x.cs.toArray 32) := ⟨_, rfl⟩
                    have B6 : Below W5.heap.size W5 W6 := by rw [hW6]; exact (Below.refl _ _).alloc (Nat.le_refl _) _
                    have E6 := hidIt (E5.out.trans (B6.mono E5.out.size))
                    have R6 : Rec19 W6 W5.heap.size 0 (pcs [x]) := by rw [hW6, show pcs [x] = x.cs from by simp [pcs]]; exact Rec19.new W5 _ x.cs
                    obtain ⟨v7, W7, hr7, I7⟩ := app_pairs 27 W6 u9 os [x] ⟨W5.heap.size, 0, none⟩ 1 (UU.out.own.below E6.out) (fun j u hj => by rw [Addr.add_mid]; exact R6.1 j u hj) (by rw [show pcs [x] = x.cs from by simp [pcs]]; exact XO.out.one) (by simp) (by have := OL.out; simp; omega)
                    simp only [List.length_singleton] at hr7
                    have U6 := hidIt (UU.out.keep E6.out I7 XO.out HX.out (by unfold keepP; rfl))
                    have HW6 := hidIt hW6
                    have U9 := hidIt (uleast_any (f := false) j C HN.out.1 (HL.out.below U6.out.below) HN.out.2.1 HN.out.2.2 (KT.out.below U6.out.below))
                    clear hW6 B6 R6 I7
                    skip
                    refine Held.mk ?_
                    go_wp2_with (first
                      | (refine wpList_load_rec rfl 32 (.tmp 12) rfl Hb 0 x.cs rfl _ Try.underlying32 rfl pair_size P5.out ?_)
                      | (refine wpList_run_w (by rfl) (.slice (some ⟨W5.heap.size, 0, none⟩) 1 1) W6 (by rw [HW6.out]; exact bsl_run 27 32 1 _ rfl 3 56 _ _ _ under_pairs info_pair (by decide) (by decide) rfl (by kernel_rfl)) ?_)
                      | (at_builtin; refine wpList_append_go rfl (.tmp 65) (.tmp 67) 27 27 rfl _ _ rfl rfl hr7 ?_; clear hr7)
                      | (go_at_call 36; refine U9.out.mono ?_; rintro e W2 ⟨kv, ok, rfl, hq, hw⟩; rw [hw]; have K2 := hidIt (KeyAt.of (n := n + 1) LT.out MS.out MI.out (bhk_next MS.out HX.out) hq); clear hq hw))
                    exact ⟨⟨n + 1, os ++ [x], ok, rfl, K2, U6⟩, msr_lt MS.out PL.out LT.out KK.out K2.out⟩
                  | true =>
                    cases hg : x.p.g with
                    | true =>
                      rw [hg] at e2
                      have U6 := hidIt (UU.out.skip E5.out HX.out (by unfold keepP; rw [hg]; rfl))
                      have U9 := hidIt (uleast_any (f := false) j C HN.out.1 (HL.out.below U6.out.below) HN.out.2.1 HN.out.2.2 (KT.out.below U6.out.below))
                      clear hg
                      refine Held.mk ?_
                      go_wp2_with (go_at_call 36; refine U9.out.mono ?_; rintro e W2 ⟨kv, ok, rfl, hq, hw⟩; rw [hw]; have K2 := hidIt (KeyAt.of (n := n + 1) LT.out MS.out MI.out (bhk_next MS.out HX.out) hq); clear hq hw)
                      exact ⟨⟨n + 1, os, ok, rfl, K2, U6⟩, msr_lt MS.out PL.out LT.out KK.out K2.out⟩
                    | false =>
                      rw [hg] at e2
                      obtain ⟨W6, hW6⟩ : ∃ W6, W6 = W5.alloc (.cells x.cs.toArray 32) := ⟨_, rfl⟩
                      have B6 : Below W5.heap.size W5 W6 := by rw [hW6]; exact (Below.refl _ _).alloc (Nat.le_refl _) _
                      have E6 := hidIt (E5.out.trans (B6.mono E5.out.size))
                      have R6 : Rec19 W6 W5.heap.size 0 (pcs [x]) := by rw [hW6, show pcs [x] = x.cs from by simp [pcs]]; exact Rec19.new W5 _ x.cs
                      obtain ⟨v7, W7, hr7, I7⟩ := app_pairs 27 W6 u9 os [x] ⟨W5.heap.size, 0, none⟩ 1 (UU.out.own.below E6.out) (fun j u hj => by rw [Addr.add_mid]; exact R6.1 j u hj) (by rw [show pcs [x] = x.cs from by simp [pcs]]; exact XO.out.one) (by simp) (by have := OL.out; simp; omega)
                      simp only [List.length_singleton] at hr7
                      have U6 := hidIt (UU.out.keep E6.out I7 XO.out HX.out (by unfold keepP; rw [hg]; rfl))
                      have HW6 := hidIt hW6
                      have U9 := hidIt (uleast_any (f := false) j C HN.out.1 (HL.out.below U6.out.below) HN.out.2.1 HN.out.2.2 (KT.out.below U6.out.below))
                      clear hW6 B6 R6 I7
                      clear hg
                      refine Held.mk ?_
                      go_wp2_with (first
                        | (refine wpList_load_rec rfl 32 (.tmp 12) rfl Hb 0 x.cs rfl _ Try.underlying32 rfl pair_size P5.out ?_)
                        | (refine wpList_run_w (by rfl) (.slice (some ⟨W5.heap.size, 0, none⟩) 1 1) W6 (by rw [HW6.out]; exact bsl_run 27 32 1 _ rfl 3 56 _ _ _ under_pairs info_pair (by decide) (by decide) rfl (by kernel_rfl)) ?_)
                        | (at_builtin; refine wpList_append_go rfl (.tmp 65) (.tmp 67) 27 27 rfl _ _ rfl rfl hr7 ?_; clear hr7)
                        | (go_at_call 36; refine U9.out.mono ?_; rintro e W2 ⟨kv, ok, rfl, hq, hw⟩; rw [hw]; have K2 := hidIt (KeyAt.of (n := n + 1) LT.out MS.out MI.out (bhk_next MS.out HX.out) hq); clear hq hw))
                      exact ⟨⟨n + 1, os ++ [x], ok, rfl, K2, U6⟩, msr_lt MS.out PL.out LT.out KK.out K2.out⟩
                · obtain rfl : b = false := by rw [KK.out.is, decide_eq_false hlt]
                  have FU : Hid (UmPost wr ls drop (.returned (.tuple #[u9, .int .i64 0])) Wq) := hidIt (by
                    have hn : n = M.length := by have := KK.out.le; omega
                    have ho := UU.out
                    obtain ⟨a, c, hv, hl⟩ := own_lst ho.own (fun x hx => ((ho.oks x hx).mono (M := u9.ownBlock.toList) (fun b hb => .inr (by
                      cases e : u9.ownBlock with
                      | none => rw [e] at hb; cases hb
                      | some q => rw [e] at hb; simp at hb; subst hb; exact ho.new _ e))).below ho.below)
                    refine ⟨ho.below, .inr ⟨CC.out, a, c, os, by rw [hv], hl, ?_⟩⟩
                    rw [ho.eq, hn, List.take_length, HM.out]
                    rfl)
                  clear hlt
                  go_wp2_with fail
                  exact bodyPost_ret (v := .tuple #[u9, .int .i64 0]) (by simp [results, Try.results13, go_sem]) rfl FU.out
end Go.Proofs.Ytgpafmgncolnmaa
