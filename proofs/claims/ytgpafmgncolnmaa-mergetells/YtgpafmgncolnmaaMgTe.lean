/-
  Walks, not a claim by itself: the law of lists as one, and of what is told of a key: the walk. By the verifier.
-/
import Derived.Test.YtgpafmgncolnmaaMgLt
namespace Go.Proofs.Ytgpafmgncolnmaa
open Go.RowKit
theorem same_sm {os ls : List LV} (h : prs os = prs ls) (k : (∀ x ∈ allP ls, x.p.k.size ≤ 1000000 ∧ x.p.v.size ≤ 1000000) ∧ ∀ x ∈ ls, x.ps.length ≤ 10000) : (∀ x ∈ allP os, x.p.k.size ≤ 1000000 ∧ x.p.v.size ≤ 1000000) ∧ ∀ x ∈ os, x.ps.length ≤ 10000 := by
  refine small_prs h (fun p hp => ?_) (fun l hl => ?_)
  · rw [prs_flat] at hp
    obtain ⟨y, hy, rfl⟩ := List.mem_map.1 hp
    exact k.1 y hy
  · obtain ⟨y, hy, rfl⟩ := List.mem_map.1 hl
    rw [List.length_map]
    exact k.2 y hy
set_option maxRecDepth 100000 in
set_option maxHeartbeats 1000000 in
theorem mtells_any {W : World} {A ka : Option Addr} {ls : List LV} {drop : Bool} {t : ByteArray} (L C kn kc : Nat) (hL : ls.length = L) (h : Lsts W A ls) (hf : L ≤ 1152921504606846976) (hk : Txt W [] (.slice ka kn kc) t) : Calls Try.prog 3 #[.slice A L C, .bool drop, .slice ka kn kc] W fun e w' => e = .returned (.bool true) ∧ Below W.heap.size W w' := by
  have HL := hidIt h
  have HN := hidIt (And.intro hL hf)
  have KT := hidIt hk
  clear h hL hk hf
  by_cases hkn : 200 < kn
  · have c1 : (200 < (kn : Int)) = True := eq_true (by omega)
    have c1' : (200 < kn) = True := eq_true hkn
    clear hkn
    go_enter Try.func3, Try.ntmps3
    go_wp2_with fail
    exact bodyPost_ret (v := .bool true) (by simp [results, Try.results3, go_sem]) rfl ⟨rfl, Below.refl _ _⟩
  · have c1 : (200 < (kn : Int)) = False := eq_false (by omega)
    have c1' : (200 < kn) = False := eq_false hkn
    clear hkn
    have t0 : Hid True := trivial
    go_enter Try.func3, Try.ntmps3
    go_wp2_with (go_at_call 9; refine (largeLists_any L C 32 40 32 40 rfl rfl (by decide) (by decide) HN.out.1 HL.out).mono ?_; rintro e w2 ⟨b1, rfl, hw, hbb⟩; rw [hw]; clear hw w2; have BB := hidIt hbb; clear hbb; refine Held.out ?_)
    cases b1 with
    | false =>
      obtain ⟨n32, hsm⟩ := BB.out rfl
      have SM := hidIt (sm_all hsm (by decide))
      have SS : Hid (∀ x ∈ ls, x.ps.length ≤ 10000 ∧ ∀ y ∈ x.ps, Sm y) := hidIt (fun x hx => ⟨Nat.le_trans (hsm x hx).1 (by decide), (hsm x hx).2⟩)
      have L40 := hidIt (show L ≤ 40 by have := HN.out.1; omega)
      clear n32 hsm BB
      have LK := hidIt (show L ≤ 1000 by have := L40.out; omega)
      obtain ⟨c, hcc⟩ : ∃ c, c = chkD (prs ls) := ⟨_, rfl⟩
      have CE := hidIt hcc
      have ce : (c != c) = false := by simp
      clear hcc
      have t1 : Hid True := trivial
      have t2 : Hid True := trivial
      have t3 : Hid True := trivial
      refine Held.mk ?_
      go_wp2_with (first
        | (go_at_call 11; refine (copyLists_any (N := []) L C HN.out.1 HL.out LK.out SS.out (fun b hb => (by cases hb))).mono ?_; rintro e W2 ⟨ya, yc, os, rfl, hn, hp, hl, hb⟩; have Y2 := hidIt hl; have P2 := hidIt hp; have B2 := hidIt hb; have ZO := hidIt (same_sm hp SM.out); obtain ⟨yn, hyn⟩ : ∃ yn, os.length = yn := ⟨_, rfl⟩; rw [hyn]; have YN := hidIt hyn; have YL : Hid (yn ≤ 1000) := hidIt (by have := HN.out.1; have := LK.out; omega); clear hn hp hl hb hyn)
        | (go_at_call 12; refine (merge_one yn yc YN.out Y2.out YL.out ZO.out.1 ZO.out.2).mono ?_; rintro e W3 ⟨xa, xc, xs, rfl, hO, hn, hq, hm, hl, hb⟩; rw [P2.out] at hm ⊢; rw [← CE.out]; have X3 : Hid (OvP W3 W2.heap.size W3.heap.size ⟨xa, xc, xs⟩) := hidIt (told_over (S := Seg W2.heap.size W3.heap.size) hO hn (fun x hx => (hq x hx).2) (fun x hx => (hq x hx).1) (fun b h1 h2 => ⟨h1, h2⟩)); have K3 : Hid (Lst W3 xa xs) := hidIt (OwnP.lst hO (fun x hx => (hq x hx).2.mono (fun b hb => by cases hb))); have M3 := hidIt hm; have D3 := hidIt hb; have B3 := hidIt (B2.out.trans (hb.mono B2.out.size)); have XL : Hid (xs.length ≤ 5000) := hidIt hl; obtain ⟨xn, hxn⟩ : ∃ xn, xs.length = xn := ⟨_, rfl⟩; rw [hxn]; have XN := hidIt hxn; clear hO hn hq hm hl hb hxn)
        | (go_at_call 13; refine (umerge_one L C HN.out.1 (HL.out.below B3.out) LK.out SM.out.2).mono ?_; rintro e W4 ⟨va, vc, vs, rfl, hl, hm, hb⟩; rw [← CE.out]; have V4 := hidIt hl; have M4 := hidIt hm; have K4 := hidIt (K3.out.below hb); have D4 := hidIt (D3.out.trans (hb.mono D3.out.size)); have G4 := hidIt hb; have B4 := hidIt (B3.out.trans (hb.mono B3.out.size)); obtain ⟨vn, hvn⟩ : ∃ vn, vs.length = vn := ⟨_, rfl⟩; rw [hvn]; have VN := hidIt hvn; clear hl hm hb hvn)
        | (go_at_call 14; refine (find_one yn yc YN.out (Y2.out.below D4.out) YL.out ZO.out.1 ZO.out.2 (KT.out.below B4.out)).mono ?_; rintro e W5 ⟨x, bx, rfl, hx, hb, hf, hfr⟩; rw [P2.out] at hf; have X5 := hidIt hx; have F5 := hidIt hf; have R5 := hidIt hfr; have G5 := hidIt hb; have D5 := hidIt (D4.out.trans (hb.mono D4.out.size)); have B5 := hidIt (B4.out.trans (hb.mono B4.out.size)); clear hx hb hf hfr)
        | (have _q := t1; have _p := X5; refine wpList_alloc_rec rfl 32 rfl _ W5.heap.size rfl pair_zero ?_; clear t1 _q _p; intro W6 R6 B6 z6; have E6 := hidIt (And.intro B6 z6); have P6 := hidIt R6; clear R6 B6 z6)
        | (have _q := t2; refine wpList_store_rec rfl 32 (.tmp 12) (.tmp 50) rfl W5.heap.size 0 _ x.cs rfl rfl P6.out rfl pair_size X5.out.one ?_; clear t2 _q; intro W7 R7 B7; have E7 := hidIt (E6.out.1.trans (B7.below (Nat.le_refl _) (by have := E6.out.2; omega))); have P7 := hidIt R7; have B7 := hidIt (B5.out.trans (E7.out.mono B5.out.size)); have Z7 := hidIt (show W5.heap.size < W7.heap.size from R7.2.2); clear R7)
        | (go_at_call 15; refine (ufind_one L C HN.out.1 (HL.out.below B7.out) LK.out SM.out.2 (KT.out.below B7.out)).mono ?_; rintro e W8 ⟨y, by', rfl, hy, hb, hf⟩; obtain ⟨xp, hbb⟩ := FnS.same F5.out hf; subst hbb; have XP := hidIt xp; have Y8 := hidIt hy; have E8 := hidIt (E7.out.trans (hb.mono E7.out.size)); have P8 := hidIt (P7.out.below hb); have bb : (bx != bx) = false := (by simp); clear hy hb hf xp)
        | (have _q := Y8; have _p := t3; refine wpList_alloc_rec rfl 32 rfl _ W8.heap.size rfl pair_zero ?_; clear t3 _q _p; intro W9 R9 B9 z9; have E9 := hidIt (And.intro B9 z9); have P9 := hidIt R9; clear R9 B9 z9)
        | (refine wpList_store_rec rfl 32 (.tmp 14) (.tmp 56) rfl W8.heap.size 0 _ y.cs rfl rfl P9.out rfl pair_size Y8.out.one ?_; intro W10 R10 BB; have bb8 := (E9.out.1.trans (BB.below (Nat.le_refl _) (by have := E9.out.2; omega))); have E10 := hidIt (E8.out.trans (bb8.mono E8.out.size)); have Q10 := hidIt R10; have P10 := hidIt (P8.out.below bb8); have Y10 := hidIt (Y8.out.below bb8); clear R10 BB bb8; have D10 := hidIt (D5.out.trans (E10.out.mono D5.out.size)); have G10 := hidIt (G4.out.trans ((G5.out.trans (E10.out.mono G5.out.size)).mono G4.out.size)); have B10 := hidIt (B5.out.trans (E10.out.mono B5.out.size)))
        | (go_at_call 16; refine (samePairs_any xn vn xc vc XN.out VN.out (K3.out.below G10.out) (V4.out.below (G5.out.trans (E10.out.mono G5.out.size))) (by have := XN.out; have := XL.out; omega)).mono ?_; rintro e W11 ⟨h1, hb⟩; have h2 : e = .returned (.bool true) := (by rw [h1, M3.out, M4.out]; simp); subst h2; clear h1; have E11 := hidIt hb; have P11 := hidIt (P10.out.below hb); have Q11 := hidIt (Q10.out.below hb); have p0 := (P11.out.cel 0 _ rfl).1; have p1 := (P11.out.cel 1 _ rfl).1; have p2 := (P11.out.cel 2 _ rfl).1; have q0 := (Q11.out.cel 0 _ rfl).1; have q1 := (Q11.out.cel 1 _ rfl).1; have q2 := (Q11.out.cel 2 _ rfl).1; clear hb)
        | (go_at_call 17; refine (samePair_any (x := x) (y := y) (X5.out.below (E10.out.trans (E11.out.mono E10.out.size))) (Y10.out.below E11.out)).mono ?_; rintro e W12 ⟨h1, hb⟩; have h2 : e = .returned (.bool true) := (by rw [h1, decide_eq_true XP.out]); subst h2; clear h1 p0 p1 p2 q0 q1 q2; have E12 := hidIt (E11.out.trans (hb.mono E11.out.size)); clear hb)
        | (go_at_call 18; refine (sameLists_any yn L yc C YN.out HN.out.1 (Y2.out.below (D10.out.trans (E12.out.mono D10.out.size))) (HL.out.below (B10.out.trans (E12.out.mono B10.out.size))) YL.out ZO.out.2).mono ?_; rintro e W13 ⟨h1, hb⟩; have h2 : e = .returned (.bool true) := (by rw [h1, P2.out]; simp); subst h2; clear h1; have E13 := hidIt (E12.out.trans (hb.mono E12.out.size)); clear hb; refine Held.out ?_))
      have D13 := hidIt (D10.out.trans (E13.out.mono D10.out.size))
      have G13 := hidIt (G10.out.trans (E13.out.mono G10.out.size))
      have B13 := hidIt (B10.out.trans (E13.out.mono B10.out.size))
      have X13 : Hid (OvP W13 W2.heap.size W3.heap.size ⟨xa, xc, xs⟩) := hidIt (X3.out.same (fun g h1 h2 => G13.out.block g h2) G13.out.size)
      have P13 := hidIt (P10.out.below E13.out)
      have E5t := hidIt (E10.out.trans (E13.out.mono E10.out.size))
      have S23 : Hid (W2.heap.size ≤ W3.heap.size ∧ W3.heap.size ≤ W4.heap.size ∧ W4.heap.size ≤ W5.heap.size) := hidIt ⟨D3.out.size, G4.out.size, G5.out.size⟩
      have OX : Hid (OvS W5 (Seg W4.heap.size W5.heap.size) W5.heap.size x.k ∧ OvS W5 (Seg W4.heap.size W5.heap.size) W5.heap.size x.v) := hidIt ⟨OvS.of (N := [W5.heap.size]) R5.out.1 (X5.out.1.mono (fun b hb => by rcases List.mem_singleton.1 hb with rfl; exact .inr (Nat.le_refl _))) (by simp) (fun b h1 h2 => ⟨h1, h2⟩), OvS.of (N := [W5.heap.size]) R5.out.2 (X5.out.2.mono (fun b hb => by rcases List.mem_singleton.1 hb with rfl; exact .inr (Nat.le_refl _))) (by simp) (fun b h1 h2 => ⟨h1, h2⟩)⟩
      clear ce bb
      have t4 : Hid True := trivial
      have t5 : Hid True := trivial
      refine Held.mk ?_
      go_wp2_with (first
        | (go_at_call 19; refine (overPairs_any (S := Seg W2.heap.size W3.heap.size) (os := xs) xn xc XN.out (by have := XN.out; have := XL.out; omega) X13.out).mono ?_; rintro e W14 ⟨rfl, h14⟩; have O14 := hidIt h14; have P14 := hidIt (P13.out.same (h14.block _ P13.out.2.2 (fun q => by have := q.2; have := S23.out; omega)) h14.size); have OK14 : Hid (OvS W14 (Seg W4.heap.size W5.heap.size) W5.heap.size x.k ∧ OvS W14 (Seg W4.heap.size W5.heap.size) W5.heap.size x.v) := hidIt ⟨OX.out.1.same (fun g h1 h2 => (h14.block g (Nat.lt_of_lt_of_le h2 E5t.out.size) (fun q => by have := q.2; have := h1.1; have := S23.out; omega)).trans (E5t.out.block g h2)) (Nat.le_trans E5t.out.size h14.size), OX.out.2.same (fun g h1 h2 => (h14.block g (Nat.lt_of_lt_of_le h2 E5t.out.size) (fun q => by have := q.2; have := h1.1; have := S23.out; omega)).trans (E5t.out.block g h2)) (Nat.le_trans E5t.out.size h14.size)⟩; have p0 := (P14.out.cel 0 _ rfl).1; clear h14)
        | (go_at_call 20; have _q := t4; clear t4 _q; refine (over_s OK14.out.1).mono ?_; rintro e W15 ⟨rfl, hr⟩; have P15 := hidIt (hr.rec P14.out); have OV15 := hidIt (OK14.out.2.keep hr); have O15 := hidIt hr.ofs; clear hr p0; have p1 := (P15.out.cel 1 _ rfl).1)
        | (go_at_call 20; have _q := t5; clear t5 _q; refine (over_s OV15.out).mono ?_; rintro e W16 ⟨rfl, hr⟩; have O16 := hidIt (O15.out.trans hr.ofs); clear hr p1; have DB : Hid (Below W2.heap.size W2 W16) := hidIt ((D13.out.trans ((O14.out.below (fun b hb => hb.1) D13.out.size))).trans (O16.out.below (fun b hb => by have := hb.1; have := S23.out; omega) (Nat.le_trans D13.out.size O14.out.size))); have QB := hidIt (B2.out.trans (DB.out.mono B2.out.size)))
        | (go_at_call 18; refine (sameLists_any yn L yc C YN.out HN.out.1 (Y2.out.below DB.out) (HL.out.below QB.out) YL.out ZO.out.2).mono ?_; rintro e W17 ⟨h1, hb⟩; have h2 : e = .returned (.bool true) := (by rw [h1, P2.out]; simp); subst h2; clear h1; have B17 := hidIt (QB.out.trans (hb.mono QB.out.size)); clear hb)
        | (go_at_call 21; refine (lawake_any W17).mono ?_; rintro e W18 ⟨rfl, hb⟩; have B18 := hidIt (B17.out.trans (hb.mono B17.out.size)); clear hb))
      exact bodyPost_ret (v := .bool true) (by simp [results, Try.results3, go_sem]) rfl ⟨rfl, B18.out⟩
    | true =>
      refine Held.mk ?_
      go_wp2_with (go_at_call 10; refine (llong_any L C HN.out.1 HL.out HN.out.2).mono ?_; rintro e w2 ⟨⟨b2, rfl⟩, hw⟩; rw [hw]; clear hw w2; refine Held.out ?_)
      cases b2 with
      | false =>
        refine Held.mk ?_
        go_wp2_with fail
        exact bodyPost_ret (v := .bool true) (by simp [results, Try.results3, go_sem]) rfl ⟨rfl, Below.refl _ _⟩
      | true =>
        clear BB
        refine Held.mk ?_
        go_wp2_with (go_at_call 9; refine (largeLists_any L C 40 4200 40 4200 rfl rfl (by decide) (by decide) HN.out.1 HL.out).mono ?_; rintro e w2 ⟨b3, rfl, hw, hbb⟩; rw [hw]; clear hw w2; have BB := hidIt hbb; clear hbb; refine Held.out ?_)
        cases b3 with
        | true =>
          refine Held.mk ?_
          go_wp2_with fail
          exact bodyPost_ret (v := .bool true) (by simp [results, Try.results3, go_sem]) rfl ⟨rfl, Below.refl _ _⟩
        | false =>
          obtain ⟨n40, hsm⟩ := BB.out rfl
          have SM := hidIt (sm_all hsm (by decide))
          have SS : Hid (∀ x ∈ ls, x.ps.length ≤ 10000 ∧ ∀ y ∈ x.ps, Sm y) := hidIt (fun x hx => ⟨Nat.le_trans (hsm x hx).1 (by decide), (hsm x hx).2⟩)
          have L40 := hidIt (show L ≤ 40 by have := HN.out.1; omega)
          clear n40 hsm BB
          have LK := hidIt (show L ≤ 1000 by have := L40.out; omega)
          obtain ⟨c, hcc⟩ : ∃ c, c = chkD (prs ls) := ⟨_, rfl⟩
          have CE := hidIt hcc
          have ce : (c != c) = false := by simp
          clear hcc
          have t1 : Hid True := trivial
          have t2 : Hid True := trivial
          have t3 : Hid True := trivial
          refine Held.mk ?_
          go_wp2_with (first
            | (go_at_call 11; refine (copyLists_any (N := []) L C HN.out.1 HL.out LK.out SS.out (fun b hb => (by cases hb))).mono ?_; rintro e W2 ⟨ya, yc, os, rfl, hn, hp, hl, hb⟩; have Y2 := hidIt hl; have P2 := hidIt hp; have B2 := hidIt hb; have ZO := hidIt (same_sm hp SM.out); obtain ⟨yn, hyn⟩ : ∃ yn, os.length = yn := ⟨_, rfl⟩; rw [hyn]; have YN := hidIt hyn; have YL : Hid (yn ≤ 1000) := hidIt (by have := HN.out.1; have := LK.out; omega); clear hn hp hl hb hyn)
            | (go_at_call 12; refine (merge_one yn yc YN.out Y2.out YL.out ZO.out.1 ZO.out.2).mono ?_; rintro e W3 ⟨xa, xc, xs, rfl, hO, hn, hq, hm, hl, hb⟩; rw [P2.out] at hm ⊢; rw [← CE.out]; have X3 : Hid (OvP W3 W2.heap.size W3.heap.size ⟨xa, xc, xs⟩) := hidIt (told_over (S := Seg W2.heap.size W3.heap.size) hO hn (fun x hx => (hq x hx).2) (fun x hx => (hq x hx).1) (fun b h1 h2 => ⟨h1, h2⟩)); have K3 : Hid (Lst W3 xa xs) := hidIt (OwnP.lst hO (fun x hx => (hq x hx).2.mono (fun b hb => by cases hb))); have M3 := hidIt hm; have D3 := hidIt hb; have B3 := hidIt (B2.out.trans (hb.mono B2.out.size)); have XL : Hid (xs.length ≤ 5000) := hidIt hl; obtain ⟨xn, hxn⟩ : ∃ xn, xs.length = xn := ⟨_, rfl⟩; rw [hxn]; have XN := hidIt hxn; clear hO hn hq hm hl hb hxn)
            | (go_at_call 13; refine (umerge_one L C HN.out.1 (HL.out.below B3.out) LK.out SM.out.2).mono ?_; rintro e W4 ⟨va, vc, vs, rfl, hl, hm, hb⟩; rw [← CE.out]; have V4 := hidIt hl; have M4 := hidIt hm; have K4 := hidIt (K3.out.below hb); have D4 := hidIt (D3.out.trans (hb.mono D3.out.size)); have G4 := hidIt hb; have B4 := hidIt (B3.out.trans (hb.mono B3.out.size)); obtain ⟨vn, hvn⟩ : ∃ vn, vs.length = vn := ⟨_, rfl⟩; rw [hvn]; have VN := hidIt hvn; clear hl hm hb hvn)
            | (go_at_call 14; refine (find_one yn yc YN.out (Y2.out.below D4.out) YL.out ZO.out.1 ZO.out.2 (KT.out.below B4.out)).mono ?_; rintro e W5 ⟨x, bx, rfl, hx, hb, hf, hfr⟩; rw [P2.out] at hf; have X5 := hidIt hx; have F5 := hidIt hf; have R5 := hidIt hfr; have G5 := hidIt hb; have D5 := hidIt (D4.out.trans (hb.mono D4.out.size)); have B5 := hidIt (B4.out.trans (hb.mono B4.out.size)); clear hx hb hf hfr)
            | (have _q := t1; have _p := X5; refine wpList_alloc_rec rfl 32 rfl _ W5.heap.size rfl pair_zero ?_; clear t1 _q _p; intro W6 R6 B6 z6; have E6 := hidIt (And.intro B6 z6); have P6 := hidIt R6; clear R6 B6 z6)
            | (have _q := t2; refine wpList_store_rec rfl 32 (.tmp 12) (.tmp 50) rfl W5.heap.size 0 _ x.cs rfl rfl P6.out rfl pair_size X5.out.one ?_; clear t2 _q; intro W7 R7 B7; have E7 := hidIt (E6.out.1.trans (B7.below (Nat.le_refl _) (by have := E6.out.2; omega))); have P7 := hidIt R7; have B7 := hidIt (B5.out.trans (E7.out.mono B5.out.size)); have Z7 := hidIt (show W5.heap.size < W7.heap.size from R7.2.2); clear R7)
            | (go_at_call 15; refine (ufind_one L C HN.out.1 (HL.out.below B7.out) LK.out SM.out.2 (KT.out.below B7.out)).mono ?_; rintro e W8 ⟨y, by', rfl, hy, hb, hf⟩; obtain ⟨xp, hbb⟩ := FnS.same F5.out hf; subst hbb; have XP := hidIt xp; have Y8 := hidIt hy; have E8 := hidIt (E7.out.trans (hb.mono E7.out.size)); have P8 := hidIt (P7.out.below hb); have bb : (bx != bx) = false := (by simp); clear hy hb hf xp)
            | (have _q := Y8; have _p := t3; refine wpList_alloc_rec rfl 32 rfl _ W8.heap.size rfl pair_zero ?_; clear t3 _q _p; intro W9 R9 B9 z9; have E9 := hidIt (And.intro B9 z9); have P9 := hidIt R9; clear R9 B9 z9)
            | (refine wpList_store_rec rfl 32 (.tmp 14) (.tmp 56) rfl W8.heap.size 0 _ y.cs rfl rfl P9.out rfl pair_size Y8.out.one ?_; intro W10 R10 BB; have bb8 := (E9.out.1.trans (BB.below (Nat.le_refl _) (by have := E9.out.2; omega))); have E10 := hidIt (E8.out.trans (bb8.mono E8.out.size)); have Q10 := hidIt R10; have P10 := hidIt (P8.out.below bb8); have Y10 := hidIt (Y8.out.below bb8); clear R10 BB bb8; have D10 := hidIt (D5.out.trans (E10.out.mono D5.out.size)); have G10 := hidIt (G4.out.trans ((G5.out.trans (E10.out.mono G5.out.size)).mono G4.out.size)); have B10 := hidIt (B5.out.trans (E10.out.mono B5.out.size)))
            | (go_at_call 16; refine (samePairs_any xn vn xc vc XN.out VN.out (K3.out.below G10.out) (V4.out.below (G5.out.trans (E10.out.mono G5.out.size))) (by have := XN.out; have := XL.out; omega)).mono ?_; rintro e W11 ⟨h1, hb⟩; have h2 : e = .returned (.bool true) := (by rw [h1, M3.out, M4.out]; simp); subst h2; clear h1; have E11 := hidIt hb; have P11 := hidIt (P10.out.below hb); have Q11 := hidIt (Q10.out.below hb); have p0 := (P11.out.cel 0 _ rfl).1; have p1 := (P11.out.cel 1 _ rfl).1; have p2 := (P11.out.cel 2 _ rfl).1; have q0 := (Q11.out.cel 0 _ rfl).1; have q1 := (Q11.out.cel 1 _ rfl).1; have q2 := (Q11.out.cel 2 _ rfl).1; clear hb)
            | (go_at_call 17; refine (samePair_any (x := x) (y := y) (X5.out.below (E10.out.trans (E11.out.mono E10.out.size))) (Y10.out.below E11.out)).mono ?_; rintro e W12 ⟨h1, hb⟩; have h2 : e = .returned (.bool true) := (by rw [h1, decide_eq_true XP.out]); subst h2; clear h1 p0 p1 p2 q0 q1 q2; have E12 := hidIt (E11.out.trans (hb.mono E11.out.size)); clear hb)
            | (go_at_call 18; refine (sameLists_any yn L yc C YN.out HN.out.1 (Y2.out.below (D10.out.trans (E12.out.mono D10.out.size))) (HL.out.below (B10.out.trans (E12.out.mono B10.out.size))) YL.out ZO.out.2).mono ?_; rintro e W13 ⟨h1, hb⟩; have h2 : e = .returned (.bool true) := (by rw [h1, P2.out]; simp); subst h2; clear h1; have E13 := hidIt (E12.out.trans (hb.mono E12.out.size)); clear hb; refine Held.out ?_))
          have D13 := hidIt (D10.out.trans (E13.out.mono D10.out.size))
          have G13 := hidIt (G10.out.trans (E13.out.mono G10.out.size))
          have B13 := hidIt (B10.out.trans (E13.out.mono B10.out.size))
          have X13 : Hid (OvP W13 W2.heap.size W3.heap.size ⟨xa, xc, xs⟩) := hidIt (X3.out.same (fun g h1 h2 => G13.out.block g h2) G13.out.size)
          have P13 := hidIt (P10.out.below E13.out)
          have E5t := hidIt (E10.out.trans (E13.out.mono E10.out.size))
          have S23 : Hid (W2.heap.size ≤ W3.heap.size ∧ W3.heap.size ≤ W4.heap.size ∧ W4.heap.size ≤ W5.heap.size) := hidIt ⟨D3.out.size, G4.out.size, G5.out.size⟩
          have OX : Hid (OvS W5 (Seg W4.heap.size W5.heap.size) W5.heap.size x.k ∧ OvS W5 (Seg W4.heap.size W5.heap.size) W5.heap.size x.v) := hidIt ⟨OvS.of (N := [W5.heap.size]) R5.out.1 (X5.out.1.mono (fun b hb => by rcases List.mem_singleton.1 hb with rfl; exact .inr (Nat.le_refl _))) (by simp) (fun b h1 h2 => ⟨h1, h2⟩), OvS.of (N := [W5.heap.size]) R5.out.2 (X5.out.2.mono (fun b hb => by rcases List.mem_singleton.1 hb with rfl; exact .inr (Nat.le_refl _))) (by simp) (fun b h1 h2 => ⟨h1, h2⟩)⟩
          clear ce bb
          have t4 : Hid True := trivial
          have t5 : Hid True := trivial
          refine Held.mk ?_
          go_wp2_with (first
            | (go_at_call 19; refine (overPairs_any (S := Seg W2.heap.size W3.heap.size) (os := xs) xn xc XN.out (by have := XN.out; have := XL.out; omega) X13.out).mono ?_; rintro e W14 ⟨rfl, h14⟩; have O14 := hidIt h14; have P14 := hidIt (P13.out.same (h14.block _ P13.out.2.2 (fun q => by have := q.2; have := S23.out; omega)) h14.size); have OK14 : Hid (OvS W14 (Seg W4.heap.size W5.heap.size) W5.heap.size x.k ∧ OvS W14 (Seg W4.heap.size W5.heap.size) W5.heap.size x.v) := hidIt ⟨OX.out.1.same (fun g h1 h2 => (h14.block g (Nat.lt_of_lt_of_le h2 E5t.out.size) (fun q => by have := q.2; have := h1.1; have := S23.out; omega)).trans (E5t.out.block g h2)) (Nat.le_trans E5t.out.size h14.size), OX.out.2.same (fun g h1 h2 => (h14.block g (Nat.lt_of_lt_of_le h2 E5t.out.size) (fun q => by have := q.2; have := h1.1; have := S23.out; omega)).trans (E5t.out.block g h2)) (Nat.le_trans E5t.out.size h14.size)⟩; have p0 := (P14.out.cel 0 _ rfl).1; clear h14)
            | (go_at_call 20; have _q := t4; clear t4 _q; refine (over_s OK14.out.1).mono ?_; rintro e W15 ⟨rfl, hr⟩; have P15 := hidIt (hr.rec P14.out); have OV15 := hidIt (OK14.out.2.keep hr); have O15 := hidIt hr.ofs; clear hr p0; have p1 := (P15.out.cel 1 _ rfl).1)
            | (go_at_call 20; have _q := t5; clear t5 _q; refine (over_s OV15.out).mono ?_; rintro e W16 ⟨rfl, hr⟩; have O16 := hidIt (O15.out.trans hr.ofs); clear hr p1; have DB : Hid (Below W2.heap.size W2 W16) := hidIt ((D13.out.trans ((O14.out.below (fun b hb => hb.1) D13.out.size))).trans (O16.out.below (fun b hb => by have := hb.1; have := S23.out; omega) (Nat.le_trans D13.out.size O14.out.size))); have QB := hidIt (B2.out.trans (DB.out.mono B2.out.size)))
            | (go_at_call 18; refine (sameLists_any yn L yc C YN.out HN.out.1 (Y2.out.below DB.out) (HL.out.below QB.out) YL.out ZO.out.2).mono ?_; rintro e W17 ⟨h1, hb⟩; have h2 : e = .returned (.bool true) := (by rw [h1, P2.out]; simp); subst h2; clear h1; have B17 := hidIt (QB.out.trans (hb.mono QB.out.size)); clear hb)
            | (go_at_call 21; refine (lawake_any W17).mono ?_; rintro e W18 ⟨rfl, hb⟩; have B18 := hidIt (B17.out.trans (hb.mono B17.out.size)); clear hb))
          exact bodyPost_ret (v := .bool true) (by simp [results, Try.results3, go_sem]) rfl ⟨rfl, B18.out⟩
end Go.Proofs.Ytgpafmgncolnmaa
