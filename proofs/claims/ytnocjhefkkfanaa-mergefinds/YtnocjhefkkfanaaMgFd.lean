/-
  Walks, not a claim by itself: the law of what is found behind a merge. By the verifier.
-/
import Derived.Test.YtnocjhefkkfanaaMgFp
namespace Go.Proofs.Ytnocjhefkkfanaa
open Go.RowKit
set_option maxRecDepth 100000 in
set_option maxHeartbeats 400000 in
theorem mfinds_any {W : World} {A ka : Option Addr} {ls : List LV} {drop : Bool} {t : ByteArray} (L C kn kc : Nat) (hL : ls.length = L) (h : Lsts W A ls) (hk : Txt W [] (.slice ka kn kc) t) : Calls Try.prog 6 #[.slice A L C, .bool drop, .slice ka kn kc] W fun e w' => e = .returned (.bool true) ∧ Below W.heap.size W w' := by
  have HL := hidIt h
  have HN := hidIt hL
  have KT := hidIt hk
  clear h hL hk
  go_enter Try.func6, Try.ntmps6
  go_wp2_with (first
    | (go_at_call 5; refine (known_any W).mono ?_; rintro e W1 ⟨rfl, hb⟩; have B1 := hidIt hb; clear hb)
    | (go_at_call 9; refine (largeLists_any L C 32 40 32 40 rfl rfl (by decide) (by decide) HN.out (HL.out.below B1.out)).mono ?_; rintro e w2 ⟨bb, rfl, hw, hbb⟩; rw [hw]; clear hw w2; have BB := hidIt hbb; clear hbb; refine Held.out ?_))
  cases bb with
  | true =>
    refine Held.mk ?_
    go_wp2_with fail
    exact bodyPost_ret (v := .bool true) (by simp [results, Try.results6, go_sem]) rfl ⟨rfl, B1.out⟩
  | false =>
    by_cases hkn : 200 < kn
    · have c1 : (200 < (kn : Int)) = True := eq_true (by omega)
      have c1' : (200 < kn) = True := eq_true hkn
      clear hkn
      refine Held.mk ?_
      go_wp2_with fail
      exact bodyPost_ret (v := .bool true) (by simp [results, Try.results6, go_sem]) rfl ⟨rfl, B1.out⟩
    · have c1 : (200 < (kn : Int)) = False := eq_false (by omega)
      have c1' : (200 < kn) = False := eq_false hkn
      obtain ⟨n32, hsm⟩ := BB.out rfl
      have SM := hidIt (sm_all hsm (by decide))
      have SL : Hid (∀ x ∈ ls, x.ps.length ≤ 40) := hidIt (fun x hx => (hsm x hx).1)
      have L32 := hidIt (show L ≤ 32 by have := HN.out; omega)
      clear n32 hsm BB hkn
      by_cases hc : chkD (prs ls) = 0
      · have CC := hidIt hc
        have SR : Hid (∀ x ∈ ls, Srt (x.ps.map PV.p)) := hidIt (fun x hx => (chkD_zero hc).2.2 _ (List.mem_map.2 ⟨x, hx, rfl⟩))
        have w1 : wrap64 ((L : Int) - 1) = (L : Int) - 1 ∧ IntKind.i64.wrap ((L : Int) - 1) = (L : Int) - 1 := by have := L32.out; exact ⟨by unfold wrap64; omega, by rw [IntKind.wrap_i64]; omega⟩
        obtain ⟨w1, w2⟩ := w1
        clear hc
        refine Held.mk ?_
        go_wp2_with (first
          | (go_at_call 12; refine (merge_yes L C HN.out (HL.out.below B1.out) SM.out.1 SM.out.2 CC.out rfl).mono ?_; rintro e Z ⟨hb, qa, qc, qs, rfl, hk, hm, hn⟩; have Q2 := hidIt (And.intro hk (And.intro hm hn)); have HZ := hidIt ((HL.out.below B1.out).below hb); have G := hidIt (B1.out.trans (hb.mono B1.out.size)); obtain ⟨qn, hqn⟩ : ∃ qn, qs.length = qn := ⟨_, rfl⟩; rw [hqn]; have QN := hidIt hqn; clear hb hk hm hn hqn)
          | (refine wpList_alloc_rec rfl 32 rfl _ Z.heap.size rfl pair_zero ?_; intro W3 R3 B3 z3; have E3 := hidIt B3; have P3 := hidIt R3; clear R3 B3 z3)
          | (refine wpList_store_rec rfl 32 (.tmp 10) (.tmp 38) rfl Z.heap.size 0 _ [.slice none 0 0, .slice none 0 0, .bool false] rfl rfl P3.out rfl pair_size (by intro u hu; simp only [List.mem_cons, List.not_mem_nil, or_false] at hu; rcases hu with rfl | rfl | rfl <;> rfl) ?_; intro W4 R4 B4; have S4 : Hid (FiI Z (fnd (prs (ls.drop L)).flatten t) W4 zeroP false) := hidIt ⟨E3.out.trans (B4.below (Nat.le_refl _) E3.out.size), R4, zero_ok _ _, .inr ⟨by rw [List.drop_eq_nil_of_le (by have := HN.out; omega)]; rfl, rfl, rfl⟩⟩; clear R4 B4))
        clear w1 w2 c1 c1'
        go_loopw [11, 12, 13] (fun b i _ wr => ∃ (r : Nat) (y : PV) (bb : Bool), r ≤ L ∧ i = .int .i64 ((r : Int) - 1) ∧ b = .bool bb ∧ Hid (FiI Z (fnd (prs (ls.drop r)).flatten t) wr y bb)) (fun _ i _ _ => (RowKit.intOf i + 1).toNat)
        case atStart => exact ⟨L, zeroP, false, Nat.le_refl _, rfl, rfl, S4⟩
        case round =>
          clear S4 P3 E3
          obtain ⟨r, y, bb, hr, hi, rfl, hI⟩ := hrel
          cases r with
          | succ s =>
            rw [show (((s + 1 : Nat) : Int) - 1) = (s : Int) by omega] at hi
            subst hi
            have hlt : s < L := hr
            obtain ⟨x, hx⟩ : ∃ x, ls[s]? = some x := ⟨_, List.getElem?_eq_getElem (by have := HN.out; omega)⟩
            obtain ⟨b, o, ha, hc, hb⟩ := HZ.out.at s x hx
            subst ha
            have lx : LOk Z x := HZ.out.1 x (List.mem_of_getElem? hx)
            have FE := hidIt (fi_end ls s x t hx)
            have sx := SR.out x (List.mem_of_getElem? hx)
            have s40 := SL.out x (List.mem_of_getElem? hx)
            obtain ⟨xa, xc, ps⟩ := x
            unfold LV.v at hc
            simp only at sx s40 FE hc
            obtain ⟨n, hn⟩ : ∃ n, n = ps.length := ⟨_, rfl⟩
            rw [← hn] at hc s40
            have PN := hidIt hn
            have N40 := hidIt s40
            have LX := hidIt lx.1
            have SX := hidIt sx
            have CX : Hid (∀ U, Below Z.heap.size Z U → U.cell? ⟨b, o + s, none⟩ = some (.slice xa n xc)) := hidIt (fun U hU => (hU.cell (p := ⟨b, o + s, none⟩) hb).trans hc)
            have SLT := hidIt hlt
            have k0 : (s : Int) < (L : Int) := by omega
            have k1 : (0 : Int) ≤ (s : Int) := by omega
            have k2 : wrap64 ((s : Int) - 1) = (s : Int) - 1 := by have := L32.out; unfold wrap64; omega
            have k3 : IntKind.i64.wrap ((s : Int) - 1) = (s : Int) - 1 := by have := L32.out; rw [IntKind.wrap_i64]; omega
            have S5 : Hid (FiI Z ((fnd ((ps.map PV.p).take 0) t).or (fnd (prs (ls.drop (s + 1))).flatten t)) wr y bb) := hidIt (by simpa [fnd] using hI.out)
            have hc := CX.out _ hI.out.below
            clear hr hx hb lx sx s40 hn hlt hI
            go_wp2_with fail
            clear hc
            go_loopw [11, 13] (fun b2 i2 w5 => ∃ (j : Nat) (y : PV) (bb : Bool), j ≤ n ∧ i2 = .int .i64 (j : Int) ∧ b2 = .bool bb ∧ Hid (FiI Z ((fnd ((ps.map PV.p).take j) t).or (fnd (prs (ls.drop (s + 1))).flatten t)) w5 y bb)) (fun _ i2 _ => n - (RowKit.intOf i2).toNat)
            case atStart => exact ⟨0, y, bb, Nat.zero_le _, rfl, rfl, S5⟩
            case round =>
              clear S5
              obtain ⟨j, y, bb, hj, rfl, rfl, hI⟩ := hrel
              have hc := CX.out _ hI.out.below
              by_cases hlt : j < n
              · obtain ⟨x, hx⟩ : ∃ x, ps[j]? = some x := ⟨_, List.getElem?_eq_getElem (by have := PN.out; omega)⟩
                obtain ⟨bl, o1, ha, hr1, l1⟩ := LX.out.at j x hx
                subst ha
                have CE : Hid (∀ U, Below Z.heap.size Z U → U.cell? ⟨bl, o1 + j * 3, none⟩ = some x.k ∧ U.cell? ⟨bl, o1 + j * 3 + 1, none⟩ = some x.v ∧ U.cell? ⟨bl, o1 + j * 3 + 2, none⟩ = some (.bool x.p.g)) := hidIt (fun U hU => ⟨(hU.cell (p := ⟨bl, o1 + j * 3, none⟩) l1).trans (three_cells hr1).1, (hU.cell (p := ⟨bl, o1 + j * 3 + 1, none⟩) l1).trans (three_cells hr1).2.1, (hU.cell (p := ⟨bl, o1 + j * 3 + 2, none⟩) l1).trans (three_cells hr1).2.2⟩)
                have XO := hidIt (LX.out.1 x (List.mem_of_getElem? hx))
                have LT := hidIt hlt
                have FG := hidIt (fi_go (ps.map PV.p) j x.p t (fnd (prs (ls.drop (s + 1))).flatten t) SX.out (by rw [List.getElem?_map, hx]; rfl))
                obtain ⟨i0, i1, i2, i3⟩ := k_ar j n hlt (by have := N40.out; omega)
                obtain ⟨c0, c1, c2⟩ := CE.out _ hI.out.below
                clear hx hr1 l1 hlt hj
                by_cases he : x.p.k = t
                · have dk : decide (x.p.k = t) = true := decide_eq_true he
                  have HE := hidIt he
                  clear he
                  go_wp2_with (first
                    | (go_at_call 29; refine (same_txt (XO.out.1.below hI.out.below) ((KT.out.below G.out).below hI.out.below)).mono ?_; rintro e W4 ⟨rfl, hw⟩; rw [hw, dk]; clear hw)
                    | (refine wpList_store_rec rfl 32 (.tmp 10) (.tmp 71) rfl Z.heap.size 0 _ [x.k, x.v, .bool x.p.g] rfl rfl hI.out.rc rfl pair_size (cs3 XO.out) ?_; intro W5 Q5 B5; clear c0 c1 c2 hc; have NX : Hid (FiI Z ((fnd ((ps.map PV.p).take (j + 1)) t).or (fnd (prs (ls.drop (s + 1))).flatten t)) W5 x true) := hidIt ⟨hI.out.below.trans (B5.below (Nat.le_refl _) hI.out.below.size), Q5, XO.out, .inl ⟨by rw [FG.out, if_pos HE.out], rfl⟩⟩; clear Q5 B5))
                  exact ⟨⟨j + 1, x, true, LT.out, rfl, rfl, NX⟩, meas_k n j _ rfl LT.out⟩
                · have dk : decide (x.p.k = t) = false := decide_eq_false he
                  have NX : Hid (FiI Z ((fnd ((ps.map PV.p).take (j + 1)) t).or (fnd (prs (ls.drop (s + 1))).flatten t)) wr y bb) := hidIt ⟨hI.out.below, hI.out.rc, hI.out.ok, by rw [FG.out, if_neg he]; exact hI.out.is⟩
                  clear he
                  go_wp2_with (first
                    | (go_at_call 29; refine (same_txt (XO.out.1.below hI.out.below) ((KT.out.below G.out).below hI.out.below)).mono ?_; rintro e W4 ⟨rfl, hw⟩; rw [hw, dk]; clear hw))
                  exact ⟨⟨j + 1, y, bb, LT.out, rfl, rfl, NX⟩, meas_k n j _ rfl LT.out⟩
              · obtain rfl : j = n := by omega
                have i0 : ((j : Int) < (j : Int)) = False := eq_false (by omega)
                have NX : Hid (FiI Z (fnd (prs (ls.drop s)).flatten t) wr y bb) := hidIt ⟨hI.out.below, hI.out.rc, hI.out.ok, by have e := hI.out.is; rw [List.take_of_length_le (by rw [List.length_map]; have := PN.out; omega), FE.out] at e; exact e⟩
                clear hlt hj hI
                go_wp2_with fail
                exact ⟨⟨s, y, bb, Nat.le_of_lt SLT.out, rfl, rfl, NX⟩, meas_d s _ rfl⟩
          | zero =>
            rw [show (((0 : Nat) : Int) - 1) = -1 from rfl] at hi
            subst hi
            have O0 : Hid (FiI Z (fnd (prs ls).flatten t) wr y bb) := hidIt (by simpa using hI.out)
            clear hr hI
            obtain ⟨U, hU⟩ : ∃ U, U = wr := ⟨_, rfl⟩
            subst hU
            have y2 := (O0.out.rc.cel 2 _ rfl).1
            cases drop with
            | false =>
              have T : Hid (FiI Z (fnd (mrgD (prs ls) false) t) U y bb) := hidIt ⟨O0.out.below, O0.out.rc, O0.out.ok, by
                rw [fnd_mrg]
                rcases O0.out.is with ⟨e1, e2⟩ | ⟨e1, e2, e3⟩
                · exact .inl ⟨by rw [e1]; simp, e2⟩
                · exact .inr ⟨by rw [e1]; rfl, e2, e3⟩⟩
              clear y2
              obtain ⟨W3, hW3, hl3, hb3⟩ := bs_lists U [⟨qa, qc, qs⟩] (by intro x hx; rcases List.mem_singleton.1 hx with rfl; exact Q2.out.1.below T.out.below)
              have HW3 : Hid (W3 = U.alloc (.cells #[.slice qa qn qc] 27)) := hidIt (by rw [hW3, ← QN.out]; rfl)
              have S3 := hidIt hl3
              have E3 := hidIt (T.out.below.trans (hb3.mono T.out.below.size))
              have R3 := hidIt (T.out.rc.below hb3)
              have z3 := hidIt (Nat.lt_of_lt_of_le T.out.rc.2.2 hb3.size)
              have be : (bb == bb) = true := by simp
              clear hW3 hl3 hb3
              go_wp2_with (first
                | (refine wpList_run_w (by rfl) (.slice (some ⟨U.heap.size, 0, none⟩) 1 1) W3 (by rw [HW3.out]; exact bsl_run 22 27 1 _ rfl 1 24 _ _ _ under_lists info_list (by decide) (by decide) rfl (by kernel_rfl)) ?_)
                | (go_at_call 14; refine (find_one (ls := [⟨qa, qc, qs⟩]) 1 1 rfl S3.out (by decide) (by intro x hx; simp [allP] at hx; exact mrg_sz2 Q2.out.2.1 SM.out.1 x hx) (by intro x hx; rcases List.mem_singleton.1 hx with rfl; exact Nat.le_trans Q2.out.2.2 (by decide)) (KT.out.below (G.out.trans (E3.out.mono G.out.size)))).mono ?_; rintro e W5 ⟨x, b', rfl, hx, hb, hf, _⟩; rw [show (prs [⟨qa, qc, qs⟩]).flatten = mrgD (prs ls) false by rw [← Q2.out.2.1]; simp [prs]] at hf; obtain ⟨xp, rfl⟩ := FnS.same hf T.out.is; have XP := hidIt xp; have X5 := hidIt hx; have E5 := hidIt (E3.out.trans (hb.mono E3.out.size)); have R5 := hidIt (R3.out.below hb); have z5 := hidIt (Nat.lt_of_lt_of_le z3.out hb.size); have b5 := hidIt hb; clear hx hb hf xp)
                | (refine wpList_alloc_rec rfl 32 rfl _ W5.heap.size rfl pair_zero ?_; intro W6 R6' B6 z6; have E6 := hidIt (E5.out.trans (B6.mono E5.out.size)); have P6 := hidIt R6'; have R6 := hidIt (R5.out.below B6); have X6 := hidIt (X5.out.below B6); have b6 := hidIt (And.intro B6 z6); clear R6' B6 z6)
                | (refine wpList_store_rec rfl 32 (.tmp 14) (.tmp 83) rfl W5.heap.size 0 _ [x.k, x.v, .bool x.p.g] rfl rfl P6.out rfl pair_size (cs3 X5.out) ?_; intro W7 R7' B7; have E7 := hidIt (E6.out.trans (B7.below E5.out.size E6.out.size)); have P7 := hidIt R7'; have R7 := hidIt (R6.out.but B7 (Nat.ne_of_lt z5.out)); have X7 := hidIt (X5.out.below (b6.out.1.trans (B7.below (Nat.le_refl _) b6.out.1.size))); clear R7' B7)
                | (go_at_call 30; refine (tsorted_any qn qc QN.out (Q2.out.1.below E7.out).1 (by have := QN.out; have := Q2.out.2.2; omega)).mono ?_; rintro e W8 ⟨sb, rfl, hsb, hb⟩; obtain rfl : sb = true := hsb.2 (by rw [Q2.out.2.1]; exact chn_of (mrgD_srt _ _)); have E8 := hidIt (E7.out.trans (hb.mono E7.out.size)); have X8 := hidIt (X7.out.below hb); have q0 := ((P7.out.below hb).cel 0 _ rfl).1; have q1 := ((P7.out.below hb).cel 1 _ rfl).1; have q2 := ((P7.out.below hb).cel 2 _ rfl).1; have y0 := ((R7.out.below hb).cel 0 _ rfl).1; have y1 := ((R7.out.below hb).cel 1 _ rfl).1; have y2 := ((R7.out.below hb).cel 2 _ rfl).1; clear hsb hb)
                | (go_at_call 17; refine (samePair_any (x := x) (y := y) X8.out (T.out.ok.below E8.out)).mono ?_; rintro e W9 ⟨h1, hb⟩; have h2 : e = .returned (.bool true) := (by rw [h1, decide_eq_true XP.out]); subst h2; clear h1; have E9 := hidIt (E8.out.trans (hb.mono E8.out.size)); clear hb))
              exact bodyPost_ret (v := .bool true) (by simp [results, Try.results6, go_sem]) rfl ⟨rfl, G.out.trans (E9.out.mono G.out.size)⟩
            | true =>
              obtain ⟨g, hg⟩ : ∃ g, y.p.g = g := ⟨_, rfl⟩
              cases g with
              | false =>
                have T : Hid (FiI Z (fnd (mrgD (prs ls) true) t) U y bb) := hidIt ⟨O0.out.below, O0.out.rc, O0.out.ok, by
                  rw [fnd_mrg]
                  rcases O0.out.is with ⟨e1, e2⟩ | ⟨e1, e2, e3⟩
                  · exact .inl ⟨by rw [e1]; simp [hg], e2⟩
                  · exact .inr ⟨by rw [e1]; rfl, e2, e3⟩⟩
                rw [hg] at y2
                clear hg
                obtain ⟨W3, hW3, hl3, hb3⟩ := bs_lists U [⟨qa, qc, qs⟩] (by intro x hx; rcases List.mem_singleton.1 hx with rfl; exact Q2.out.1.below T.out.below)
                have HW3 : Hid (W3 = U.alloc (.cells #[.slice qa qn qc] 27)) := hidIt (by rw [hW3, ← QN.out]; rfl)
                have S3 := hidIt hl3
                have E3 := hidIt (T.out.below.trans (hb3.mono T.out.below.size))
                have R3 := hidIt (T.out.rc.below hb3)
                have z3 := hidIt (Nat.lt_of_lt_of_le T.out.rc.2.2 hb3.size)
                have be : (bb == bb) = true := by simp
                clear hW3 hl3 hb3
                go_wp2_with (first
                  | (refine wpList_run_w (by rfl) (.slice (some ⟨U.heap.size, 0, none⟩) 1 1) W3 (by rw [HW3.out]; exact bsl_run 22 27 1 _ rfl 1 24 _ _ _ under_lists info_list (by decide) (by decide) rfl (by kernel_rfl)) ?_)
                  | (go_at_call 14; refine (find_one (ls := [⟨qa, qc, qs⟩]) 1 1 rfl S3.out (by decide) (by intro x hx; simp [allP] at hx; exact mrg_sz2 Q2.out.2.1 SM.out.1 x hx) (by intro x hx; rcases List.mem_singleton.1 hx with rfl; exact Nat.le_trans Q2.out.2.2 (by decide)) (KT.out.below (G.out.trans (E3.out.mono G.out.size)))).mono ?_; rintro e W5 ⟨x, b', rfl, hx, hb, hf, _⟩; rw [show (prs [⟨qa, qc, qs⟩]).flatten = mrgD (prs ls) true by rw [← Q2.out.2.1]; simp [prs]] at hf; obtain ⟨xp, rfl⟩ := FnS.same hf T.out.is; have XP := hidIt xp; have X5 := hidIt hx; have E5 := hidIt (E3.out.trans (hb.mono E3.out.size)); have R5 := hidIt (R3.out.below hb); have z5 := hidIt (Nat.lt_of_lt_of_le z3.out hb.size); have b5 := hidIt hb; clear hx hb hf xp)
                  | (refine wpList_alloc_rec rfl 32 rfl _ W5.heap.size rfl pair_zero ?_; intro W6 R6' B6 z6; have E6 := hidIt (E5.out.trans (B6.mono E5.out.size)); have P6 := hidIt R6'; have R6 := hidIt (R5.out.below B6); have X6 := hidIt (X5.out.below B6); have b6 := hidIt (And.intro B6 z6); clear R6' B6 z6)
                  | (refine wpList_store_rec rfl 32 (.tmp 14) (.tmp 83) rfl W5.heap.size 0 _ [x.k, x.v, .bool x.p.g] rfl rfl P6.out rfl pair_size (cs3 X5.out) ?_; intro W7 R7' B7; have E7 := hidIt (E6.out.trans (B7.below E5.out.size E6.out.size)); have P7 := hidIt R7'; have R7 := hidIt (R6.out.but B7 (Nat.ne_of_lt z5.out)); have X7 := hidIt (X5.out.below (b6.out.1.trans (B7.below (Nat.le_refl _) b6.out.1.size))); clear R7' B7)
                  | (go_at_call 30; refine (tsorted_any qn qc QN.out (Q2.out.1.below E7.out).1 (by have := QN.out; have := Q2.out.2.2; omega)).mono ?_; rintro e W8 ⟨sb, rfl, hsb, hb⟩; obtain rfl : sb = true := hsb.2 (by rw [Q2.out.2.1]; exact chn_of (mrgD_srt _ _)); have E8 := hidIt (E7.out.trans (hb.mono E7.out.size)); have X8 := hidIt (X7.out.below hb); have q0 := ((P7.out.below hb).cel 0 _ rfl).1; have q1 := ((P7.out.below hb).cel 1 _ rfl).1; have q2 := ((P7.out.below hb).cel 2 _ rfl).1; have y0 := ((R7.out.below hb).cel 0 _ rfl).1; have y1 := ((R7.out.below hb).cel 1 _ rfl).1; have y2 := ((R7.out.below hb).cel 2 _ rfl).1; clear hsb hb)
                  | (go_at_call 17; refine (samePair_any (x := x) (y := y) X8.out (T.out.ok.below E8.out)).mono ?_; rintro e W9 ⟨h1, hb⟩; have h2 : e = .returned (.bool true) := (by rw [h1, decide_eq_true XP.out]); subst h2; clear h1; have E9 := hidIt (E8.out.trans (hb.mono E8.out.size)); clear hb))
                exact bodyPost_ret (v := .bool true) (by simp [results, Try.results6, go_sem]) rfl ⟨rfl, G.out.trans (E9.out.mono G.out.size)⟩
              | true =>
                have o1 : fnd (mrgD (prs ls) true) t = none := by
                  rw [fnd_mrg]
                  rcases O0.out.is with ⟨e1, e2⟩ | ⟨e1, e2, e3⟩
                  · rw [e1]; simp [hg]
                  · rw [e1]; rfl
                have HO := hidIt o1
                rw [hg] at y2
                clear hg o1
                go_wp2_with (refine wpList_store_rec rfl 32 (.tmp 10) (.tmp 77) rfl Z.heap.size 0 _ [.slice none 0 0, .slice none 0 0, .bool false] rfl rfl O0.out.rc rfl pair_size (by intro u hu; simp only [List.mem_cons, List.not_mem_nil, or_false] at hu; rcases hu with rfl | rfl | rfl <;> rfl) ?_; intro U2 R4 B4; have T : Hid (FiI Z (fnd (mrgD (prs ls) true) t) U2 zeroP false) := hidIt ⟨O0.out.below.trans (B4.below (Nat.le_refl _) O0.out.below.size), R4, zero_ok _ _, .inr ⟨HO.out, rfl, rfl⟩⟩; clear R4 B4 y2; refine Held.out ?_)
                obtain ⟨W3, hW3, hl3, hb3⟩ := bs_lists U2 [⟨qa, qc, qs⟩] (by intro x hx; rcases List.mem_singleton.1 hx with rfl; exact Q2.out.1.below T.out.below)
                have HW3 : Hid (W3 = U2.alloc (.cells #[.slice qa qn qc] 27)) := hidIt (by rw [hW3, ← QN.out]; rfl)
                have S3 := hidIt hl3
                have E3 := hidIt (T.out.below.trans (hb3.mono T.out.below.size))
                have R3 := hidIt (T.out.rc.below hb3)
                have z3 := hidIt (Nat.lt_of_lt_of_le T.out.rc.2.2 hb3.size)
                have be : (false == false) = true := by simp
                clear hW3 hl3 hb3
                refine Held.mk ?_
                go_wp2_with (first
                  | (refine wpList_run_w (by rfl) (.slice (some ⟨U2.heap.size, 0, none⟩) 1 1) W3 (by rw [HW3.out]; exact bsl_run 22 27 1 _ rfl 1 24 _ _ _ under_lists info_list (by decide) (by decide) rfl (by kernel_rfl)) ?_)
                  | (go_at_call 14; refine (find_one (ls := [⟨qa, qc, qs⟩]) 1 1 rfl S3.out (by decide) (by intro x hx; simp [allP] at hx; exact mrg_sz2 Q2.out.2.1 SM.out.1 x hx) (by intro x hx; rcases List.mem_singleton.1 hx with rfl; exact Nat.le_trans Q2.out.2.2 (by decide)) (KT.out.below (G.out.trans (E3.out.mono G.out.size)))).mono ?_; rintro e W5 ⟨x, b', rfl, hx, hb, hf, _⟩; rw [show (prs [⟨qa, qc, qs⟩]).flatten = mrgD (prs ls) true by rw [← Q2.out.2.1]; simp [prs]] at hf; obtain ⟨xp, rfl⟩ := FnS.same hf T.out.is; have XP := hidIt xp; have X5 := hidIt hx; have E5 := hidIt (E3.out.trans (hb.mono E3.out.size)); have R5 := hidIt (R3.out.below hb); have z5 := hidIt (Nat.lt_of_lt_of_le z3.out hb.size); have b5 := hidIt hb; clear hx hb hf xp)
                  | (refine wpList_alloc_rec rfl 32 rfl _ W5.heap.size rfl pair_zero ?_; intro W6 R6' B6 z6; have E6 := hidIt (E5.out.trans (B6.mono E5.out.size)); have P6 := hidIt R6'; have R6 := hidIt (R5.out.below B6); have X6 := hidIt (X5.out.below B6); have b6 := hidIt (And.intro B6 z6); clear R6' B6 z6)
                  | (refine wpList_store_rec rfl 32 (.tmp 14) (.tmp 83) rfl W5.heap.size 0 _ [x.k, x.v, .bool x.p.g] rfl rfl P6.out rfl pair_size (cs3 X5.out) ?_; intro W7 R7' B7; have E7 := hidIt (E6.out.trans (B7.below E5.out.size E6.out.size)); have P7 := hidIt R7'; have R7 := hidIt (R6.out.but B7 (Nat.ne_of_lt z5.out)); have X7 := hidIt (X5.out.below (b6.out.1.trans (B7.below (Nat.le_refl _) b6.out.1.size))); clear R7' B7)
                  | (go_at_call 30; refine (tsorted_any qn qc QN.out (Q2.out.1.below E7.out).1 (by have := QN.out; have := Q2.out.2.2; omega)).mono ?_; rintro e W8 ⟨sb, rfl, hsb, hb⟩; obtain rfl : sb = true := hsb.2 (by rw [Q2.out.2.1]; exact chn_of (mrgD_srt _ _)); have E8 := hidIt (E7.out.trans (hb.mono E7.out.size)); have X8 := hidIt (X7.out.below hb); have q0 := ((P7.out.below hb).cel 0 _ rfl).1; have q1 := ((P7.out.below hb).cel 1 _ rfl).1; have q2 := ((P7.out.below hb).cel 2 _ rfl).1; have y0 := ((R7.out.below hb).cel 0 _ rfl).1; have y1 := ((R7.out.below hb).cel 1 _ rfl).1; have y2 := ((R7.out.below hb).cel 2 _ rfl).1; clear hsb hb)
                  | (go_at_call 17; refine (samePair_any (x := x) (y := zeroP) X8.out (T.out.ok.below E8.out)).mono ?_; rintro e W9 ⟨h1, hb⟩; have h2 : e = .returned (.bool true) := (by rw [h1, decide_eq_true XP.out]); subst h2; clear h1; have E9 := hidIt (E8.out.trans (hb.mono E8.out.size)); clear hb))
                exact bodyPost_ret (v := .bool true) (by simp [results, Try.results6, go_sem]) rfl ⟨rfl, G.out.trans (E9.out.mono G.out.size)⟩
      · have CC := hidIt hc
        have C2 := hidIt (chkD_two (m := prs ls) (by have := L32.out; have := HN.out; simp [prs]; omega) (fun l hl => by obtain ⟨x, hx, rfl⟩ := List.mem_map.1 hl; rw [List.length_map]; exact SL.out x hx) hc)
        clear hc
        refine Held.mk ?_
        go_wp2_with (go_at_call 12; refine (merge_bad L C HN.out (HL.out.below B1.out) (by have := L32.out; omega) SM.out.2 CC.out).mono ?_; rintro e W2 ⟨⟨c, _, hc, rfl⟩, hb⟩; rw [C2.out] at hc; subst hc; have B2 := hidIt (B1.out.trans (hb.mono B1.out.size)); clear hb)
        exact bodyPost_ret (v := .bool true) (by simp [results, Try.results6, go_sem]) rfl ⟨rfl, B2.out⟩
end Go.Proofs.Ytnocjhefkkfanaa
