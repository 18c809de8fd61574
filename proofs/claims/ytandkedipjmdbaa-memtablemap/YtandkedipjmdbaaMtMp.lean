/-
  Walks, not a claim by itself: MemtableMap's function. By the verifier.
-/
import Derived.Test.YtandkedipjmdbaaMtMp1
namespace Go.Proofs.Ytandkedipjmdbaa
open Go.RowKit
attribute [-go_sem] Builtin.append_
theorem cs_one {W : World} {N : List Nat} {x : PV} (h : PVOk W N x) : ∀ u ∈ ([x.k, x.v, .bool x.p.g] : List Value), u.oneCell' = true := h.one
set_option maxRecDepth 100000 in
set_option maxHeartbeats 8000000 in
theorem map_any (W : World) (a : Option Addr) (ps : List PV) (n C : Nat) (hn : ps.length = n) (hL : Lst W a ps) (ka : Option Addr) (n1 kC : Nat) (key : ByteArray) (hz : n1 = key.size) (hk : Txt W [] (.slice ka n1 kC) key) :
    Calls Try.prog 7 #[.slice a n C, .slice ka n1 kC] W fun e w' => e = .returned (.bool true) ∧ Below W.heap.size W w' := by
  have HL := hidIt hL
  have HN := hidIt hn
  have HK := hidIt hk
  have SZ := hidIt hz
  clear hL hn hk hz
  go_enter Try.func7, Try.ntmps7
  go_wp2_with (first
    | (go_at_call 6; refine (known_any W).mono ?_; rintro e W1 ⟨rfl, hb⟩; have G1 := hidIt hb; clear hb)
    | (go_at_call 16; refine (large_any n C HN.out (HL.out.below G1.out)).mono ?_; rintro e w2 ⟨lb, rfl, hw, hI⟩; rw [hw]; have LB := hidIt hI; clear hw hI; refine Held.out ?_))
  refine Held.mk ?_
  cases lb with
  | true =>
    go_wp2_with fail
    exact bodyPost_ret (v := .bool true) (by simp [results, Try.results7, go_sem]) rfl ⟨rfl, G1.out⟩
  | false =>
    by_cases h0 : 300 < (n1 : Int)
    · have c0 : (300 < (n1 : Int)) = True := eq_true h0
      clear h0
      go_wp2_with fail
      exact bodyPost_ret (v := .bool true) (by simp [results, Try.results7, go_sem]) rfl ⟨rfl, G1.out⟩
    · have c0 : (300 < (n1 : Int)) = False := eq_false h0
      clear h0
      go_wp2_with (go_at_call 9; refine (tnew_any W1).mono ?_; rintro e W2 ⟨rfl, h1, h2⟩; have T2 := hidIt h1; have B2 := hidIt h2; clear h1 h2)
      have st : Hid (MpM W1 W1.heap.size W2 (.slice none 0 0) [] (.slice none 0 0) []) := hidIt ⟨T2.out, OwnP.nil _ _, fun g hg => (by cases hg), Nat.le_refl _, fun b hb => (by cases hb), fun x hx => (by cases hx), fun x hx => (by cases hx), B2.out⟩
      have N100 := hidIt (LB.out trivial)
      clear c0 T2 B2 LB
      go_loopw [7, 8] (fun lv i wr => ∃ (k : Nat) (v : Value) (qs ls : List PV), k ≤ n ∧ i = .int .i64 (k : Int) ∧ Hid (MpM W1 W1.heap.size wr v qs lv ls) ∧ Hid (MapI (ls.map PV.p) (qs.map PV.p)) ∧ Hid (ls.length ≤ k)) (fun _ i _ => n - (RowKit.intOf i).toNat)
      case atStart => exact ⟨0, _, _, _, Nat.zero_le _, rfl, st, hidIt MapI.nil, hidIt (Nat.le_refl _)⟩
      case round =>
        clear st
        obtain ⟨k, v, qs, ls, hk, rfl, hM, hP, hS⟩ := hrel
        by_cases hlt : k < n
        · obtain ⟨x, hx⟩ : ∃ x, ps[k]? = some x := ⟨_, List.getElem?_eq_getElem (by have := HN.out; omega)⟩
          obtain ⟨bl, o1, ha, hr1, l1⟩ := (HL.out.below G1.out).at k x hx
          subst ha
          have CE : Hid (∀ U, Below W1.heap.size W1 U → U.cell? ⟨bl, o1 + k * 3, none⟩ = some x.k ∧ U.cell? ⟨bl, o1 + k * 3 + 1, none⟩ = some x.v ∧ U.cell? ⟨bl, o1 + k * 3 + 2, none⟩ = some (.bool x.p.g)) := hidIt (fun U hU => ⟨(hU.cell (p := ⟨bl, o1 + k * 3, none⟩) l1).trans (three_cells hr1).1, (hU.cell (p := ⟨bl, o1 + k * 3 + 1, none⟩) l1).trans (three_cells hr1).2.1, (hU.cell (p := ⟨bl, o1 + k * 3 + 2, none⟩) l1).trans (three_cells hr1).2.2⟩)
          have OK := hidIt ((HL.out.1 x (List.mem_of_getElem? hx)).below G1.out)
          have LT := hidIt hlt
          obtain ⟨i0, i1, i2, i3⟩ := k_ar k n hlt (by have := N100.out.1; have := HN.out; omega)
          obtain ⟨c0, c1, c2⟩ := CE.out _ hM.out.below
          clear hx hr1 l1 hlt hk
          go_wp2_with (first
            | (refine wpList_alloc_rec rfl 47 rfl _ wr.heap.size rfl pair_zero ?_; intro W3 R3 B3 z3; have E3 := hidIt (And.intro B3 z3); have P3 := hidIt R3; clear R3 B3 z3)
            | (refine wpList_store_rec rfl 47 (.tmp 10) (.tmp 38) rfl wr.heap.size 0 _ [x.k, x.v, .bool x.p.g] rfl rfl P3.out rfl pair_size (cs_one OK.out) ?_; intro W4 R4 B4; have P4 := hidIt R4; have E4 := hidIt B4; clear R4 B4; refine Held.out ?_))
          rcases (show x.p.g = true ∨ x.p.g = false by cases x.p.g <;> simp) with hg | hg
          · have hG : x.p.g = true := hg
            have d0 := (P4.out.cel 0 _ rfl).1
            have d1 := (P4.out.cel 1 _ rfl).1
            have d2 := (P4.out.cel 2 _ rfl).1
            rw [hG] at d2
            clear d0 d1
            have P4' := hidIt (show Rec19 W4 wr.heap.size 0 [x.k, x.v, .bool true] by have := P4.out; rwa [hG] at this)
            have B4 := hidIt (E3.out.1.trans (E4.out.below (Nat.le_refl _) E3.out.1.size))
            obtain ⟨cc, hcc⟩ : ∃ cc, cc = layC (qs.map PV.p) ⟨x.p.k, .empty, true⟩ := ⟨_, rfl⟩
            have CC := hidIt hcc
            by_cases hz : cc = 0
            · have z0 : (cc == 0) = true := by simpa using hz
              have ZZ := hidIt hz
              have z1 : cc = 0 := hz
              clear hz hg hcc
              refine Held.mk ?_
              go_wp2_with (first
                | (refine wpList_put_rec rfl 33 (.tmp 41) _ rfl wr.heap.size 1 _ [.slice none 0 0] [x.k, .slice none 0 0, .bool true] _ rfl rfl rfl P4'.out (Nat.le_of_ble_eq_true rfl) rfl (by kernel_rfl) (by intro u hu; simp only [List.mem_singleton] at hu; subst hu; rfl) ?_; intro W5 R5 B5 z5; clear d2; have P5 := hidIt R5; have BB := hidIt (B4.out.trans (B5.below (Nat.le_refl _) B4.out.size)); have M5 := hidIt (hM.out.more BB.out); have LP := hidIt (tremove_ok M5.out.tab (OK.out.1.below M5.out.below)); have NB : Hid (wr.heap.size ∉ W1.heap.size :: v.ownBlock.toList) := hidIt (fun q => Nat.lt_irrefl _ (hM.out.tab.lt _ q)); have d0 := (R5.cel 0 _ rfl).1; clear R5 B5 z5)
                | (go_at_call 25; refine LP.out.mono ?_; rintro e W6 ⟨v', qs', rfl, h1, h2, h3, h4, h5⟩; rw [← CC.out, z1]; have M6 := hidIt (M5.out.lay h1 h3 h4 h5); have P6 := hidIt (P5.out.off h3 NB.out); have Q6 := hidIt (show MapI (ls.map PV.p ++ [⟨x.p.k, .empty, true⟩]) (qs'.map PV.p) by rw [h2]; exact hP.out.lay _ (by rw [← CC.out]; exact ZZ.out)); clear h1 h2 h3 h4 h5; have f0 := (P6.out.cel 0 _ rfl).1; have f1 := (P6.out.cel 1 _ rfl).1; have f2 := (P6.out.cel 2 _ rfl).1; refine Held.out ?_))
              have YO : PVOk W1 [] (PV.mk x.k (.slice none 0 0) ⟨x.p.k, .empty, true⟩) := ⟨OK.out.1, Txt.nil _ _ _⟩
              have A7 : Below W6.heap.size W6 (W6.alloc (.cells (PV.mk x.k (.slice none 0 0) ⟨x.p.k, .empty, true⟩).cs.toArray 47)) := (Below.refl _ _).alloc (Nat.le_refl _) _
              have L7 : Lone (W6.alloc (.cells (PV.mk x.k (.slice none 0 0) ⟨x.p.k, .empty, true⟩).cs.toArray 47)) W6.heap.size (PV.mk x.k (.slice none 0 0) ⟨x.p.k, .empty, true⟩) := ⟨heap_alloc_new W6 _, YO.one⟩
              obtain ⟨W7, hW7⟩ : ∃ W7, W7 = W6.alloc (.cells (PV.mk x.k (.slice none 0 0) ⟨x.p.k, .empty, true⟩).cs.toArray 47) := ⟨_, rfl⟩
              rw [← hW7] at A7 L7
              have M7 := M6.out.more A7
              obtain ⟨v8, W8, hr8, I8⟩ := app_pairs 27 W7 u7 ls [PV.mk x.k (.slice none 0 0) ⟨x.p.k, .empty, true⟩] ⟨W6.heap.size, 0, none⟩ 1 M7.own (fun j u hj => by rw [pcs_single] at hj; rw [Addr.add_mid, Nat.zero_add]; exact L7.cell j u hj) (by rw [pcs_single]; exact L7.2) (by simp) (by have := hS.out; have := LT.out; have := N100.out.1; have := HN.out; simp; omega)
              simp only [List.length_singleton] at hr8
              have NX := hidIt (M7.app I8 YO)
              have NM := hidIt (show MapI ((ls ++ [PV.mk x.k (.slice none 0 0) ⟨x.p.k, .empty, true⟩]).map PV.p) (qs'.map PV.p) by rw [List.map_append]; exact Q6.out)
              have NS : Hid ((ls ++ [PV.mk x.k (.slice none 0 0) ⟨x.p.k, .empty, true⟩]).length ≤ k + 1) := hidIt (by have := hS.out; simp; omega)
              clear A7 L7 M7 I8 YO
              refine Held.mk ?_
              go_wp2_with (first
                | (refine wpList_run_w (by rfl) (.slice (some ⟨W6.heap.size, 0, none⟩) 1 1) W7 (by rw [hW7]; exact bsl_run 27 47 1 _ rfl 3 56 _ _ _ under_pairs info_pair (by decide) (by decide) rfl (by kernel_rfl)) ?_)
                | (refine wpList_run_w (by rfl) v8 W8 (app_run (.tmp 54) (.tmp 56) 27 27 rfl _ _ rfl rfl hr8) ?_))
              exact ⟨⟨k + 1, _, _, _, LT.out, rfl, NX, NM, NS⟩, meas_k n k _ rfl LT.out⟩
            · have z0 : (cc == 0) = false := by simpa using hz
              have ZZ := hidIt hz
              clear hz hg hcc
              refine Held.mk ?_
              go_wp2_with (first
                | (refine wpList_put_rec rfl 33 (.tmp 41) _ rfl wr.heap.size 1 _ [.slice none 0 0] [x.k, .slice none 0 0, .bool true] _ rfl rfl rfl P4'.out (Nat.le_of_ble_eq_true rfl) rfl (by kernel_rfl) (by intro u hu; simp only [List.mem_singleton] at hu; subst hu; rfl) ?_; intro W5 R5 B5 z5; clear d2; have P5 := hidIt R5; have BB := hidIt (B4.out.trans (B5.below (Nat.le_refl _) B4.out.size)); have M5 := hidIt (hM.out.more BB.out); have LP := hidIt (tremove_ok M5.out.tab (OK.out.1.below M5.out.below)); have NB : Hid (wr.heap.size ∉ W1.heap.size :: v.ownBlock.toList) := hidIt (fun q => Nat.lt_irrefl _ (hM.out.tab.lt _ q)); have d0 := (R5.cel 0 _ rfl).1; clear R5 B5 z5)
                | (go_at_call 25; refine LP.out.mono ?_; rintro e W6 ⟨v', qs', rfl, h1, h2, h3, h4, h5⟩; rw [← CC.out]; have M6 := hidIt (M5.out.lay h1 h3 h4 h5); have Q6 := hidIt (show MapI (ls.map PV.p) (qs'.map PV.p) by rw [h2]; exact hP.out.not _ (by rw [← CC.out]; exact ZZ.out)); clear h1 h2 h3 h4 h5))
              exact ⟨⟨k + 1, _, _, _, LT.out, rfl, M6, Q6, hidIt (Nat.le_succ_of_le hS.out)⟩, meas_k n k _ rfl LT.out⟩
          · have hG : x.p.g = false := hg
            have d0 := (P4.out.cel 0 _ rfl).1
            have d1 := (P4.out.cel 1 _ rfl).1
            have d2 := (P4.out.cel 2 _ rfl).1
            rw [hG] at d2
            have P5 := hidIt (show Rec19 W4 wr.heap.size 0 [x.k, x.v, .bool false] by have := P4.out; rwa [hG] at this)
            have B4 := hidIt (E3.out.1.trans (E4.out.below (Nat.le_refl _) E3.out.1.size))
            have M5 := hidIt (hM.out.more B4.out)
            have LP := hidIt (tput_ok M5.out.tab (OK.out.1.below M5.out.below) (OK.out.2.below M5.out.below))
            have NB : Hid (wr.heap.size ∉ W1.heap.size :: v.ownBlock.toList) := hidIt (fun q => Nat.lt_irrefl _ (hM.out.tab.lt _ q))
            obtain ⟨cc, hcc⟩ : ∃ cc, cc = layC (qs.map PV.p) ⟨x.p.k, x.p.v, false⟩ := ⟨_, rfl⟩
            have CC := hidIt hcc
            by_cases hz : cc = 0
            · have z0 : (cc == 0) = true := by simpa using hz
              have ZZ := hidIt hz
              have z1 : cc = 0 := hz
              clear hz hg hcc
              refine Held.mk ?_
              go_wp2_with (first
                | fail
                | (go_at_call 24; refine LP.out.mono ?_; rintro e W6 ⟨v', qs', rfl, h1, h2, h3, h4, h5⟩; rw [← CC.out, z1]; have M6 := hidIt (M5.out.lay h1 h3 h4 h5); have P6 := hidIt (P5.out.off h3 NB.out); have Q6 := hidIt (show MapI (ls.map PV.p ++ [⟨x.p.k, x.p.v, false⟩]) (qs'.map PV.p) by rw [h2]; exact hP.out.lay _ (by rw [← CC.out]; exact ZZ.out)); clear h1 h2 h3 h4 h5; have f0 := (P6.out.cel 0 _ rfl).1; have f1 := (P6.out.cel 1 _ rfl).1; have f2 := (P6.out.cel 2 _ rfl).1; refine Held.out ?_))
              have YO : PVOk W1 [] (PV.mk x.k x.v ⟨x.p.k, x.p.v, false⟩) := ⟨OK.out.1, OK.out.2⟩
              have A7 : Below W6.heap.size W6 (W6.alloc (.cells (PV.mk x.k x.v ⟨x.p.k, x.p.v, false⟩).cs.toArray 47)) := (Below.refl _ _).alloc (Nat.le_refl _) _
              have L7 : Lone (W6.alloc (.cells (PV.mk x.k x.v ⟨x.p.k, x.p.v, false⟩).cs.toArray 47)) W6.heap.size (PV.mk x.k x.v ⟨x.p.k, x.p.v, false⟩) := ⟨heap_alloc_new W6 _, YO.one⟩
              obtain ⟨W7, hW7⟩ : ∃ W7, W7 = W6.alloc (.cells (PV.mk x.k x.v ⟨x.p.k, x.p.v, false⟩).cs.toArray 47) := ⟨_, rfl⟩
              rw [← hW7] at A7 L7
              have M7 := M6.out.more A7
              obtain ⟨v8, W8, hr8, I8⟩ := app_pairs 27 W7 u7 ls [PV.mk x.k x.v ⟨x.p.k, x.p.v, false⟩] ⟨W6.heap.size, 0, none⟩ 1 M7.own (fun j u hj => by rw [pcs_single] at hj; rw [Addr.add_mid, Nat.zero_add]; exact L7.cell j u hj) (by rw [pcs_single]; exact L7.2) (by simp) (by have := hS.out; have := LT.out; have := N100.out.1; have := HN.out; simp; omega)
              simp only [List.length_singleton] at hr8
              have NX := hidIt (M7.app I8 YO)
              have NM := hidIt (show MapI ((ls ++ [PV.mk x.k x.v ⟨x.p.k, x.p.v, false⟩]).map PV.p) (qs'.map PV.p) by rw [List.map_append]; exact Q6.out)
              have NS : Hid ((ls ++ [PV.mk x.k x.v ⟨x.p.k, x.p.v, false⟩]).length ≤ k + 1) := hidIt (by have := hS.out; simp; omega)
              clear A7 L7 M7 I8 YO
              refine Held.mk ?_
              go_wp2_with (first
                | (refine wpList_run_w (by rfl) (.slice (some ⟨W6.heap.size, 0, none⟩) 1 1) W7 (by rw [hW7]; exact bsl_run 27 47 1 _ rfl 3 56 _ _ _ under_pairs info_pair (by decide) (by decide) rfl (by kernel_rfl)) ?_)
                | (refine wpList_run_w (by rfl) v8 W8 (app_run (.tmp 54) (.tmp 56) 27 27 rfl _ _ rfl rfl hr8) ?_))
              exact ⟨⟨k + 1, _, _, _, LT.out, rfl, NX, NM, NS⟩, meas_k n k _ rfl LT.out⟩
            · have z0 : (cc == 0) = false := by simpa using hz
              have ZZ := hidIt hz
              clear hz hg hcc
              refine Held.mk ?_
              go_wp2_with (first
                | fail
                | (go_at_call 24; refine LP.out.mono ?_; rintro e W6 ⟨v', qs', rfl, h1, h2, h3, h4, h5⟩; rw [← CC.out]; have M6 := hidIt (M5.out.lay h1 h3 h4 h5); have Q6 := hidIt (show MapI (ls.map PV.p) (qs'.map PV.p) by rw [h2]; exact hP.out.not _ (by rw [← CC.out]; exact ZZ.out)); clear h1 h2 h3 h4 h5))
              exact ⟨⟨k + 1, _, _, _, LT.out, rfl, M6, Q6, hidIt (Nat.le_succ_of_le hS.out)⟩, meas_k n k _ rfl LT.out⟩
        · have i0 : ((k : Int) < (n : Int)) = False := eq_false (by omega)
          obtain ⟨la, lC, hlv, hLs⟩ := hM.out.lst
          subst hlv
          obtain ⟨Z, hZ⟩ : ∃ Z, Z = wr := ⟨_, rfl⟩
          subst hZ
          have TT := hidIt hM.out.tab
          have G := hidIt (G1.out.trans (hM.out.below.mono G1.out.size))
          have HKZ := hidIt (HK.out.below G.out)
          have LS := hidIt hLs
          obtain ⟨m, hm⟩ : ∃ m, m = ls.length := ⟨_, rfl⟩
          have HM := hidIt hm
          have FW := hidIt (show m ≤ 100 by have := hS.out; have := N100.out.1; have := HN.out; omega)
          rw [← hm]
          clear hlt hk hM hLs hm
          go_wp2_with (first
            | (refine wpList_alloc_rec rfl 47 rfl _ Z.heap.size rfl pair_zero ?_; intro W3 R3 B3 z3; have E3 := hidIt B3; have P3 := hidIt R3; clear R3 B3 z3)
            | (refine wpList_store_rec rfl 47 (.tmp 11) (.tmp 58) rfl Z.heap.size 0 _ [.slice none 0 0, .slice none 0 0, .bool false] rfl rfl P3.out rfl pair_size (by intro u hu; simp only [List.mem_cons, List.not_mem_nil, or_false] at hu; rcases hu with rfl | rfl | rfl <;> rfl) ?_; intro W4 R4 B4; have S4 : Hid (MpS Z ls key 0 W4 [.slice none 0 0, .slice none 0 0, .bool false]) := hidIt ⟨E3.out.trans (B4.below (Nat.le_refl _) E3.out.size), R4, rfl, rfl⟩; clear R4 B4))
          go_loopw [12, 13] (fun b i w5 => ∃ (j : Nat) (cs : List Value), j ≤ m ∧ i = .int .i64 (j : Int) ∧ b = .bool (scn (ls.map PV.p) key j).isSome ∧ Hid (MpS Z ls key j w5 cs)) (fun _ i _ => m - (RowKit.intOf i).toNat)
          case atStart => exact ⟨0, _, Nat.zero_le _, rfl, rfl, S4⟩
          case round =>
            clear S4 P3 E3
            obtain ⟨j, cs, hj, rfl, rfl, hI⟩ := hrel
            by_cases hlt : j < m
            · obtain ⟨x, hx⟩ : ∃ x, ls[j]? = some x := ⟨_, List.getElem?_eq_getElem (by have := HM.out; omega)⟩
              obtain ⟨bl, o1, ha, hr1, l1⟩ := LS.out.at j x hx
              subst ha
              have CE : Hid (∀ U, Below Z.heap.size Z U → U.cell? ⟨bl, o1 + j * 3, none⟩ = some x.k ∧ U.cell? ⟨bl, o1 + j * 3 + 1, none⟩ = some x.v ∧ U.cell? ⟨bl, o1 + j * 3 + 2, none⟩ = some (.bool x.p.g)) := hidIt (fun U hU => ⟨(hU.cell (p := ⟨bl, o1 + j * 3, none⟩) l1).trans (three_cells hr1).1, (hU.cell (p := ⟨bl, o1 + j * 3 + 1, none⟩) l1).trans (three_cells hr1).2.1, (hU.cell (p := ⟨bl, o1 + j * 3 + 2, none⟩) l1).trans (three_cells hr1).2.2⟩)
              have XO := hidIt (LS.out.1 x (List.mem_of_getElem? hx))
              have LT := hidIt hlt
              have HX : Hid ((ls.map PV.p)[j]? = some x.p) := hidIt (by rw [List.getElem?_map, hx]; rfl)
              obtain ⟨pf, hpf⟩ : ∃ pf, fnd (qs.map PV.p) x.p.k = some pf := Option.isSome_iff_exists.1 (by rw [← has_fnd _ _ TT.out.srt]; exact hP.out.has (List.mem_of_getElem? HX.out))
              have FN := hidIt hpf
              obtain ⟨i0, i1, i2, i3⟩ := k_ar j m hlt (by have := FW.out; omega)
              obtain ⟨c0, c1, c2⟩ := CE.out _ hI.out.below
              clear hx hr1 l1 hlt hj hpf
              by_cases he : x.p.k = key
              · have dk : decide (x.p.k = key) = true := decide_eq_true he
                have HE := hidIt he
                clear he
                go_wp2_with (first
                | (go_at_call 31; refine (same_txt (XO.out.1.below hI.out.below) (HKZ.out.below hI.out.below)).mono ?_; rintro e W4 ⟨rfl, hw⟩; rw [hw, dk]; clear hw)
                | (refine wpList_store_rec rfl 47 (.tmp 11) (.tmp 75) rfl Z.heap.size 0 _ [x.k, x.v, .bool x.p.g] rfl rfl hI.out.rc hI.out.len pair_size (cs_one XO.out) ?_; intro W5 Q5 B5; clear c0 c1 c2; have E5 := hidIt (hI.out.below.trans (B5.below (Nat.le_refl _) hI.out.below.size)); have R5 := hidIt Q5; obtain ⟨c0, c1, c2⟩ := CE.out _ E5.out; clear Q5 B5)
                | (go_at_call 22; refine (tget_ok (TT.out.below E5.out) (XO.out.1.below E5.out)).mono ?_; intro e W6 hGp; obtain ⟨a6, n6, C6, b6, m6, D6, rfl, _, _, hb⟩ := hGp.yes pf FN.out; have E6 := hidIt (E5.out.trans (hb.mono E5.out.size)); have R6 := hidIt (R5.out.below hb); have z6 := hidIt (Nat.lt_of_lt_of_le R5.out.2.2 hb.size); clear hb hGp c0 c1 c2)
                | (refine wpList_alloc_rec rfl 47 rfl _ W6.heap.size rfl pair_zero ?_; intro W7 R7 B7 z7; have E7 := hidIt (E6.out.trans (B7.mono E6.out.size)); have P7 := hidIt R7; have R8 := hidIt (R6.out.below B7); clear R7 B7 z7)
                | (refine wpList_store_rec rfl 47 (.tmp 14) (.tmp 84) rfl W6.heap.size 0 _ [.slice a6 n6 C6, .slice b6 m6 D6, .bool pf.g] rfl rfl P7.out rfl pair_size (by intro u hu; simp only [List.mem_cons, List.not_mem_nil, or_false] at hu; rcases hu with rfl | rfl | rfl <;> rfl) ?_; intro W8 R9 B8; have E8 := hidIt (E7.out.trans (B8.below E6.out.size E7.out.size)); have R8 := hidIt (R8.out.but B8 (Nat.ne_of_lt z6.out)); clear R9 B8))
                exact ⟨⟨j + 1, _, LT.out, rfl, by rw [scn_next key HX.out, if_pos HE.out]; rfl, hidIt ⟨E8.out, R8.out, rfl, by rw [scn_next key HX.out, if_pos HE.out]; exact ⟨x, rfl, rfl, XO.out⟩⟩⟩, meas_k m j _ rfl LT.out⟩
              · have dk : decide (x.p.k = key) = false := decide_eq_false he
                have HE := hidIt he
                have E5 := hidIt hI.out.below
                have R5 := hidIt hI.out.rc
                clear he
                go_wp2_with (first
                | (go_at_call 31; refine (same_txt (XO.out.1.below hI.out.below) (HKZ.out.below hI.out.below)).mono ?_; rintro e W4 ⟨rfl, hw⟩; rw [hw, dk]; clear hw)
                | (go_at_call 22; refine (tget_ok (TT.out.below E5.out) (XO.out.1.below E5.out)).mono ?_; intro e W6 hGp; obtain ⟨a6, n6, C6, b6, m6, D6, rfl, _, _, hb⟩ := hGp.yes pf FN.out; have E6 := hidIt (E5.out.trans (hb.mono E5.out.size)); have R6 := hidIt (R5.out.below hb); have z6 := hidIt (Nat.lt_of_lt_of_le R5.out.2.2 hb.size); clear hb hGp c0 c1 c2)
                | (refine wpList_alloc_rec rfl 47 rfl _ W6.heap.size rfl pair_zero ?_; intro W7 R7 B7 z7; have E7 := hidIt (E6.out.trans (B7.mono E6.out.size)); have P7 := hidIt R7; have R8 := hidIt (R6.out.below B7); clear R7 B7 z7)
                | (refine wpList_store_rec rfl 47 (.tmp 14) (.tmp 84) rfl W6.heap.size 0 _ [.slice a6 n6 C6, .slice b6 m6 D6, .bool pf.g] rfl rfl P7.out rfl pair_size (by intro u hu; simp only [List.mem_cons, List.not_mem_nil, or_false] at hu; rcases hu with rfl | rfl | rfl <;> rfl) ?_; intro W8 R9 B8; have E8 := hidIt (E7.out.trans (B8.below E6.out.size E7.out.size)); have R8 := hidIt (R8.out.but B8 (Nat.ne_of_lt z6.out)); clear R9 B8))
                exact ⟨⟨j + 1, _, LT.out, rfl, by rw [scn_next key HX.out, if_neg HE.out], hidIt ⟨E8.out, R8.out, hI.out.len, by rw [scn_next key HX.out, if_neg HE.out]; exact hI.out.is⟩⟩, meas_k m j _ rfl LT.out⟩
            · obtain rfl : j = m := by omega
              have i0 : ((j : Int) < (j : Int)) = False := eq_false (by omega)
              have SE : scn (ls.map PV.p) key j = fnd (qs.map PV.p) key := by have := hP.out.end key; rw [List.length_map] at this; rw [HM.out]; exact this
              have le : (qs.length : Int) ≤ (j : Int) := by have := hP.out.len; rw [List.length_map, List.length_map] at this; rw [HM.out]; omega
              have qe : ((qs.length : Int) == (qs.length : Int)) = true := by simp
              have is := hI.out.is
              clear hlt hj
              obtain ⟨so, hsc⟩ : ∃ so, scn (ls.map PV.p) key j = so := ⟨_, rfl⟩
              cases so with
              | none =>
                have sb : (scn (ls.map PV.p) key j).isSome = false := by rw [hsc]; rfl
                have FN := hidIt (SE.symm.trans hsc)
                have E5 := hidIt hI.out.below
                clear SE hsc is
                rw [sb]
                go_wp2_with (first
                | (go_at_call 22; refine (tget_ok (TT.out.below E5.out) (HKZ.out.below E5.out)).mono ?_; intro e W6 hGp; obtain ⟨rfl, hb⟩ := hGp.not FN.out; have E6 := hidIt (E5.out.trans (hb.mono E5.out.size)); clear hb hGp)
                | (refine wpList_alloc_rec rfl 47 rfl _ W6.heap.size rfl pair_zero ?_; intro W7 R7 B7 z7; have E7 := hidIt (E6.out.trans (B7.mono E6.out.size)); have P7 := hidIt R7; clear R7 B7 z7)
                | (refine wpList_store_rec rfl 47 (.tmp 16) (.tmp 92) rfl W6.heap.size 0 _ [.slice none 0 0, .slice none 0 0, .bool false] rfl rfl P7.out rfl pair_size (by intro u hu; simp only [List.mem_cons, List.not_mem_nil, or_false] at hu; rcases hu with rfl | rfl | rfl <;> rfl) ?_; intro W8 R9 B8; have E8 := hidIt (E7.out.trans (B8.below E6.out.size E7.out.size)); clear R9 B8)
                | (go_at_call 11; refine (tall_ok (TT.out.below E8.out)).mono ?_; rintro e W9 ⟨lv, os, rfl, h1, h2, h3, h4, hb⟩; obtain ⟨la9, lc9, rfl, hL9⟩ := BtwPost.lst h1 (fun x hx => (h3 x hx).2); have OM : os.map PV.p = qs.map PV.p := (by rw [h4, btw_eq _ _ _ TT.out.srt, btw_all _ _ _ rfl rfl]); have ol : os.length = qs.length := (by simpa using congrArg List.length OM); have OC := hidIt (show Chn (os.map PV.p) by rw [OM]; exact chn_of TT.out.srt); have OL := hidIt ol; have LA := hidIt hL9; rw [ol]; have E9 := hidIt (E8.out.trans (hb.mono E8.out.size)); clear h1 h2 h3 h4 hb hL9 OM ol)
                | (go_at_call 20; refine (tsorted_any qs.length lc9 OL.out LA.out (by have := TT.out.few; omega)).mono ?_; rintro e WA ⟨bb, rfl, hbb, hb⟩; obtain rfl : bb = true := hbb.2 OC.out; have EA := hidIt (E9.out.trans (hb.mono E9.out.size)); clear hbb hb)
                | (go_at_call 15; refine (tsize_ok (TT.out.below EA.out)).mono ?_; rintro e WB ⟨rfl, hw⟩; rw [hw]; clear hw))
                exact bodyPost_ret (v := .bool true) (by simp [results, Try.results7, go_sem]) rfl ⟨rfl, G.out.trans (EA.out.mono G.out.size)⟩
              | some p0 =>
                rw [hsc] at is
                obtain ⟨y, hcs, hyp, hyo⟩ := is
                have sb : (scn (ls.map PV.p) key j).isSome = true := by rw [hsc]; rfl
                have FN := hidIt (SE.symm.trans hsc)
                have E5 := hidIt hI.out.below
                have R5 := hidIt (show Rec19 wr Z.heap.size 0 [y.k, y.v, .bool y.p.g] by have := hI.out.rc; rw [hcs] at this; exact this)
                have YO := hidIt hyo
                have YP := hidIt hyp
                clear SE hsc hcs hyp hyo
                rw [sb]
                go_wp2_with (first
                | (go_at_call 22; refine (tget_ok (TT.out.below E5.out) (HKZ.out.below E5.out)).mono ?_; intro e W6 hGp; obtain ⟨a6, n6, C6, b6, m6, D6, rfl, PK, _, hb⟩ := hGp.yes p0 FN.out; have E6 := hidIt (E5.out.trans (hb.mono E5.out.size)); have R6 := hidIt (R5.out.below hb); have K6 := hidIt PK; have z6 := hidIt (Nat.lt_of_lt_of_le R5.out.2.2 hb.size); clear hb hGp PK)
                | (refine wpList_alloc_rec rfl 47 rfl _ W6.heap.size rfl pair_zero ?_; intro W7 R7 B7 z7; have E7 := hidIt (E6.out.trans (B7.mono E6.out.size)); have P7 := hidIt R7; have R8 := hidIt (R6.out.below B7); have K7 := hidIt (K6.out.below B7); have b7 := hidIt B7; clear R7 B7 z7)
                | (refine wpList_store_rec rfl 47 (.tmp 16) (.tmp 92) rfl W6.heap.size 0 _ [.slice a6 n6 C6, .slice b6 m6 D6, .bool p0.g] rfl rfl P7.out rfl pair_size (by intro u hu; simp only [List.mem_cons, List.not_mem_nil, or_false] at hu; rcases hu with rfl | rfl | rfl <;> rfl) ?_; intro W8 R9 B8; have E8 := hidIt (E7.out.trans (B8.below E6.out.size E7.out.size)); have K8 := hidIt (K6.out.below (b7.out.trans (B8.below (Nat.le_refl _) b7.out.size))); have q0 := (R9.cel 0 _ rfl).1; have q1 := (R9.cel 1 _ rfl).1; have q2 := (R9.cel 2 _ rfl).1; have R8 := hidIt (R8.out.but B8 (Nat.ne_of_lt z6.out)); have y0 := (R8.out.cel 0 _ rfl).1; have y1 := (R8.out.cel 1 _ rfl).1; have y2 := (R8.out.cel 2 _ rfl).1; clear R9 B8)
                | (go_at_call 23; refine (samePair_any (x := PV.mk (.slice a6 n6 C6) (.slice b6 m6 D6) p0) (y := y) K8.out (YO.out.below E8.out)).mono ?_; rintro e W8 ⟨h1, hb⟩; have h2 : e = .returned (.bool true) := (by rw [h1, decide_eq_true (show p0 = y.p from YP.out.symm)]); subst h2; clear h1; replace E8 := hidIt (E8.out.trans (hb.mono E8.out.size)); clear hb q0 q1 q2 y0 y1 y2)
                | (go_at_call 11; refine (tall_ok (TT.out.below E8.out)).mono ?_; rintro e W9 ⟨lv, os, rfl, h1, h2, h3, h4, hb⟩; obtain ⟨la9, lc9, rfl, hL9⟩ := BtwPost.lst h1 (fun x hx => (h3 x hx).2); have OM : os.map PV.p = qs.map PV.p := (by rw [h4, btw_eq _ _ _ TT.out.srt, btw_all _ _ _ rfl rfl]); have ol : os.length = qs.length := (by simpa using congrArg List.length OM); have OC := hidIt (show Chn (os.map PV.p) by rw [OM]; exact chn_of TT.out.srt); have OL := hidIt ol; have LA := hidIt hL9; rw [ol]; have E9 := hidIt (E8.out.trans (hb.mono E8.out.size)); clear h1 h2 h3 h4 hb hL9 OM ol)
                | (go_at_call 20; refine (tsorted_any qs.length lc9 OL.out LA.out (by have := TT.out.few; omega)).mono ?_; rintro e WA ⟨bb, rfl, hbb, hb⟩; obtain rfl : bb = true := hbb.2 OC.out; have EA := hidIt (E9.out.trans (hb.mono E9.out.size)); clear hbb hb)
                | (go_at_call 15; refine (tsize_ok (TT.out.below EA.out)).mono ?_; rintro e WB ⟨rfl, hw⟩; rw [hw]; clear hw))
                exact bodyPost_ret (v := .bool true) (by simp [results, Try.results7, go_sem]) rfl ⟨rfl, G.out.trans (EA.out.mono G.out.size)⟩
end Go.Proofs.Ytandkedipjmdbaa
