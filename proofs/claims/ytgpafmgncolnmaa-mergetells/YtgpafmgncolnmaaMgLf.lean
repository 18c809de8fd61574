/-
  Walks, not a claim by itself: the reference's Find, and its least key. By the verifier.
-/
import Derived.Test.YtgpafmgncolnmaaMgLs
namespace Go.Proofs.Ytgpafmgncolnmaa
open Go.RowKit
theorem conv_of' {W : World} {N : List Nat} {s : Value} {t : ByteArray} (h : Txt W N s t) : (convert 23 9 s).run Try.prog W = .ok (.string t) W := by
  obtain ⟨a', C', f, rfl, hA, ht, _⟩ := h
  have := conv_arg W a' t.size C' f hA
  rwa [ht] at this
/-- What the reference's Find answers: a pair of the lists' own. -/
def RfPost (W : World) (l : List PV) (k : ByteArray) (e : Ending) (w' : World) : Prop := Below W.heap.size W w' ∧ ((∃ x, fv l k = some x ∧ e = .returned (.tuple #[.agg x.cs.toArray, .bool true])) ∨ (fv l k = none ∧ e = .returned (.tuple #[.agg zeroP.cs.toArray, .bool false])))
set_option maxRecDepth 100000 in
set_option maxHeartbeats 2000000 in
theorem ufind_any {W : World} {A : Option Addr} {ls : List LV} {N : List Nat} {key : Value} {k : ByteArray} (L C : Nat) (hL : ls.length = L) (h : Lsts W A ls) (hf : L ≤ 1000) (hs : ∀ x ∈ ls, x.ps.length ≤ 10000) (hk : Txt W N key k) : Calls Try.prog 15 #[.slice A L C, key] W (RfPost W (allP ls) k) := by
  have HL := hidIt h
  have HN := hidIt (And.intro hL (And.intro hf hs))
  have HK := hidIt hk
  obtain ⟨ka, kC, kf, hkv, _⟩ := hk
  subst hkv
  clear h hL hf hs
  go_enter Try.func15, Try.ntmps15
  go_wp2_with (refine wpList_alloc_rec rfl 32 rfl _ W.heap.size rfl pair_zero ?_; intro W1 R1 B1 z1; have S1 : Hid (fiR W ls k L (.int .i64 0) W1) := hidIt ⟨0, Nat.zero_le _, rfl, B1, R1, rfl⟩; clear R1 B1 z1)
  go_loopw [6] (fun i wr => fiR W ls k L i wr) (fun i _ => L - (RowKit.intOf i).toNat)
  case atStart => exact S1.out
  case round =>
    clear S1
    obtain ⟨n, hn, rfl, hB, hR, hv⟩ := hrel
    have HB := hidIt hB
    have HR := hidIt hR
    have HV := hidIt hv
    by_cases hlt : n < L
    · obtain ⟨x, hx⟩ : ∃ x, ls[n]? = some x := ⟨_, List.getElem?_eq_getElem (by have := HN.out.1; omega)⟩
      have HXC : Hid (∃ b o, A = some ⟨b, o, none⟩ ∧ ∀ w', Below wr.heap.size wr w' → w'.cell? ⟨b, o + n, none⟩ = some x.v) := hidIt (by
        obtain ⟨b, o, ha, hc, hb⟩ := (HL.out.below hB).at n x hx
        exact ⟨b, o, ha, fun w' hw => (hw.cell (p := ⟨b, o + n, none⟩) hb).trans hc⟩)
      obtain ⟨b, o, ha, hxc⟩ := HXC.out
      subst ha
      have HC := hidIt hxc
      have hc := hxc wr (Below.refl _ _)
      clear hxc HXC
      have LT := hidIt hlt
      have AR := hidIt (k_ar n L hlt (by have := HN.out.2.1; omega))
      have MK := hidIt (meas_k L n _ rfl hlt)
      have S2 : Hid (Below wr.heap.size wr wr ∧ fiI W x.ps k x.ps.length (.int .i64 0) wr) := hidIt ⟨Below.refl _ _, 0, Nat.zero_le _, rfl, hB, hR, rfl⟩
      have OX := hidIt (HL.out.1 x (List.mem_of_getElem? hx))
      have NX := hidIt (HN.out.2.2 x (List.mem_of_getElem? hx))
      have AX := hidIt (allP_succ hx)
      have AS := hidIt (allP_split hx)
      unfold LV.v at hc HC
      clear hx hlt hn hB hR hv
      obtain ⟨xa, xc, xps⟩ := x
      simp only at hc S2 OX NX AX AS HC
      obtain ⟨m, hm⟩ : ∃ m, m = xps.length := ⟨_, rfl⟩
      rw [← hm] at hc S2 NX HC
      have HM := hidIt hm
      clear hm
      obtain ⟨i0, i1, i2, i3⟩ := AR.out
      have I13 := hidIt (And.intro i0 i1)
      go_wp2
      clear i0 i1 i2 i3 hc
      go_loopw [7] (fun i w5 => Below wr.heap.size wr w5 ∧ fiI W xps k m i w5) (fun i _ => m - (RowKit.intOf i).toNat)
      case atStart => exact S2.out
      case round =>
        clear S2
        rename World => Wi
        obtain ⟨hB0, j, hj, rfl, hB, hR, hv⟩ := hrel
        have IB := hidIt hB
        have IR := hidIt hR
        have IV := hidIt hv
        have I0 := hidIt hB0
        have hc := HC.out Wi hB0
        by_cases hlt : j < m
        · obtain ⟨y, hy⟩ : ∃ y, xps[j]? = some y := ⟨_, List.getElem?_eq_getElem (by have := HM.out; omega)⟩
          obtain ⟨b2, o2, ha, hr, hb⟩ := ((OX.out.below hB).1).at j y hy
          have OY := hidIt ((OX.out.1.1 y (List.mem_of_getElem? hy)))
          have JT := hidIt hlt
          have YX := hidIt hy
          have JR := hidIt (k_ar j m hlt (by have := NX.out; omega))
          have JK := hidIt (meas_k m j _ rfl hlt)
          have q1 := key_cell hr
          have OKX : Hid ((convert 23 9 y.k).run Try.prog Wi.drew = .ok (.string y.p.k) Wi.drew ∧ (convert 23 9 (.slice ka k.size kC)).run Try.prog Wi.drew = .ok (.string k) Wi.drew) := hidIt ⟨conv_of' (OY.out.below hB.drew).1, conv_of' (HK.out.below hB.drew)⟩
          have RR : Hid (Wi.drew.rangeAt b2 (o2 + j * 3) y.cs) := hidIt (fun t v ht => hr t v ht)
          simp only at ha
          subst ha
          clear hb hy hlt hj hB hB0 hR hv hr
          obtain ⟨i0, i1, i2, i3⟩ := JR.out
          obtain ⟨n0, n1⟩ := I13.out
          go_wp2_with fail
          refine wp_region_noPanic ?_
          refine wp_region_held_drew (S := fun w' => w'.cell? ⟨b, o + n, none⟩ = some (.slice (some ⟨b2, o2, none⟩) m xc) ∧ w'.cell? ⟨b2, o2 + j * 3, none⟩ = some y.k ∧ (convert 23 9 y.k).run Try.prog w' = .ok (.string y.p.k) w' ∧ (convert 23 9 (.slice ka k.size kC)).run Try.prog w' = .ok (.string k) w') (by kernel_rfl) ?_ (fun hHeld => ?_)
          · exact ⟨hc, q1, OKX.out.1, OKX.out.2⟩
          refine take_at (i := 0) (v := ?_) (some 23) rfl rfl (by kernel_rfl) (by kernel_rfl) (by kernel_rfl) (fun _ _ _ h => h) (Or.inl ⟨by rfl, ?_⟩) (by assumption) ?_
          rotate_left
          · (intro w hSw; (try dsimp only at hSw); go_simp; try with_reducible rfl)
          simp only [Act.put, List.setIfInBounds_toArray, List.set_cons_zero, List.set_cons_succ]
          refine take_at (i := 1) (v := ?_) (some 24) rfl rfl (by kernel_rfl) (by kernel_rfl) (by kernel_rfl) (fun _ _ _ h => h) (Or.inl ⟨by rfl, ?_⟩) (by assumption) ?_
          rotate_left
          · (intro w hSw; (try dsimp only at hSw); go_simp; try with_reducible rfl)
          simp only [Act.put, List.setIfInBounds_toArray, List.set_cons_zero, List.set_cons_succ]
          refine take_at (i := 2) (v := ?_) (some 25) rfl rfl (by kernel_rfl) (by kernel_rfl) (by kernel_rfl) (fun _ _ _ h => h) (Or.inl ⟨by rfl, ?_⟩) (by assumption) ?_
          rotate_left
          · (intro w hSw; (try dsimp only at hSw); go_simp; try with_reducible rfl)
          simp only [Act.put, List.setIfInBounds_toArray, List.set_cons_zero, List.set_cons_succ]
          refine take_at (i := 3) (v := ?_) (some 26) rfl rfl (by kernel_rfl) (by kernel_rfl) (by kernel_rfl) (fun _ _ _ h => h) (Or.inl ⟨by rfl, ?_⟩) (by assumption) ?_
          rotate_left
          · (intro w hSw; (try dsimp only at hSw); go_simp; try with_reducible rfl)
          simp only [Act.put, List.setIfInBounds_toArray, List.set_cons_zero, List.set_cons_succ]
          refine take_at (i := 4) (v := ?_) (some 27) rfl rfl (by kernel_rfl) (by kernel_rfl) (by kernel_rfl) (fun _ _ _ h => h) (Or.inl ⟨by rfl, ?_⟩) (by assumption) ?_
          rotate_left
          · (intro w hSw; (try dsimp only at hSw); go_simp; try with_reducible rfl)
          simp only [Act.put, List.setIfInBounds_toArray, List.set_cons_zero, List.set_cons_succ]
          refine take_at (i := 5) (v := ?_) (some 28) rfl rfl (by kernel_rfl) (by kernel_rfl) (by kernel_rfl) (fun _ _ _ h => h) (Or.inl ⟨by rfl, ?_⟩) (by assumption) ?_
          rotate_left
          · (intro w hSw; (try dsimp only at hSw); go_simp; try with_reducible rfl)
          simp only [Act.put, List.setIfInBounds_toArray, List.set_cons_zero, List.set_cons_succ]
          refine take_at (i := 6) (v := ?_) (some 29) rfl rfl (by kernel_rfl) (by kernel_rfl) (by kernel_rfl) (fun _ _ _ h => h) (Or.inl ⟨by rfl, ?_⟩) (by assumption) ?_
          rotate_left
          · (intro w hSw; (try dsimp only at hSw); go_simp; try with_reducible rfl)
          simp only [Act.put, List.setIfInBounds_toArray, List.set_cons_zero, List.set_cons_succ]
          refine take_at (i := 7) (v := ?_) (some 30) rfl rfl (by kernel_rfl) (by kernel_rfl) (by kernel_rfl) (fun _ _ _ h => h) (Or.inl ⟨by rfl, ?_⟩) (by assumption) ?_
          rotate_left
          · (intro w hSw; (try dsimp only at hSw); go_simp; try with_reducible rfl)
          simp only [Act.put, List.setIfInBounds_toArray, List.set_cons_zero, List.set_cons_succ]
          refine take_at (i := 8) (v := ?_) (some 31) rfl rfl (by kernel_rfl) (by kernel_rfl) (by kernel_rfl) (fun _ _ _ h => h) (Or.inl ⟨by rfl, ?_⟩) (by assumption) ?_
          rotate_left
          · (intro w hSw; (try dsimp only at hSw); go_simp; try with_reducible rfl)
          simp only [Act.put, List.setIfInBounds_toArray, List.set_cons_zero, List.set_cons_succ]
          refine take_at (i := 9) (v := ?_) (some 32) rfl rfl (by kernel_rfl) (by kernel_rfl) (by kernel_rfl) (fun _ _ _ h => h) (Or.inl ⟨by rfl, ?_⟩) (by assumption) ?_
          rotate_left
          · (intro w hSw; (try dsimp only at hSw); go_simp; try with_reducible rfl)
          simp only [Act.put, List.setIfInBounds_toArray, List.set_cons_zero, List.set_cons_succ]
          refine take_at (i := 10) (v := ?_) (some 33) rfl rfl (by kernel_rfl) (by kernel_rfl) (by kernel_rfl) (fun _ _ _ h => h) (Or.inl ⟨by rfl, ?_⟩) (by assumption) ?_
          rotate_left
          · (intro w hSw; (try dsimp only at hSw); go_simp; try with_reducible rfl)
          simp only [Act.put, List.setIfInBounds_toArray, List.set_cons_zero, List.set_cons_succ]
          refine take_at (i := 11) (v := ?_) (some 34) rfl rfl (by kernel_rfl) (by kernel_rfl) (by kernel_rfl) (fun _ _ _ h => h) (Or.inl ⟨by rfl, ?_⟩) (by assumption) ?_
          rotate_left
          · (intro w hSw; (try dsimp only at hSw); go_simp; try with_reducible rfl)
          simp only [Act.put, List.setIfInBounds_toArray, List.set_cons_zero, List.set_cons_succ]
          refine wpAnyH_done (by kernel_rfl) ?_ _
          refine NoPanic.normal ?_
          clear hHeld OKX q1
          have ID := hidIt IB.out.drew
          have RD := hidIt (IR.out.below (Below.refl _ _).drew)
          have ZD := hidIt I0.out.drew
          have hcD := HC.out Wi.drew I0.out.drew
          clear hc
          generalize Wi.drew = Wd at *
          rw [bytes_beq]
          by_cases ek : y.p.k = k
          · rw [decide_eq_true ek]
            have FH : Hid (fv (allP ls) k = some y) := hidIt (by rw [AS.out, fv_app, HV.out, fv_app, fv_hit YX.out IV.out ek]; rfl)
            clear ek
            have hr := RR.out
            go_wp2_with (first
              | (refine wpList_load_mid rfl 32 (.tmp 40) rfl b2 (o2 + j * 3) rfl y.cs _ hr Try.underlying32 rfl pair_size ?_; clear hr)
              | (refine wpList_store_rec rfl 32 (.tmp 4) (.tmp 41) rfl W.heap.size 0 _ y.cs rfl rfl RD.out rfl pair_size OY.out.one ?_; intro W5 R5 B5; have P5 := hidIt R5; have FIN : Hid (RfPost W (allP ls) k (.returned (.tuple #[.agg y.cs.toArray, .bool true])) W5) := hidIt ⟨ID.out.trans (B5.below (Nat.le_refl _) ID.out.size), .inl ⟨y, FH.out, rfl⟩⟩; clear R5 B5))
            have hl := P5.out.run_load 32 _ Try.underlying32 rfl pair_size
            exact bodyPost_ret (v := .tuple #[.agg y.cs.toArray, .bool true]) (by simp [results, Try.results15, asAddr, hl]) rfl FIN.out
          · rw [decide_eq_false ek]
            have NX2 : Hid (Below wr.heap.size wr Wd ∧ fiI W xps k m (.int .i64 ((j : Int) + 1)) Wd) := hidIt ⟨ZD.out, j + 1, JT.out, rfl, ID.out, RD.out, fv_take_succ YX.out IV.out ek⟩
            clear ek hcD
            as_aux_lemma =>
              go_wp2_with fail
              go_roundw
              case rel => exact NX2.out
              case measure => exact JK.out
        · obtain rfl : j = m := by omega
          have i0 : ((j : Int) < (j : Int)) = False := eq_false (by omega)
          have NX2 : Hid (fiR W ls k L (.int .i64 ((n : Int) + 1)) Wi) := hidIt ⟨n + 1, LT.out, rfl, hB, hR, by rw [AX.out, fv_app, HV.out]; rw [List.take_of_length_le (by have := HM.out; omega)] at hv; rw [hv]; rfl⟩
          obtain ⟨_, _, i2, i3⟩ := AR.out
          obtain ⟨n0, n1⟩ := I13.out
          clear hj hlt hB hR hv
          as_aux_lemma =>
            go_wp2_with fail
            go_roundw
            case rel => exact NX2.out
            case measure => exact MK.out
    · obtain rfl : n = L := by omega
      have i0 : ((n : Int) < (n : Int)) = False := eq_false (by omega)
      have FN : Hid (fv (allP ls) k = none) := hidIt (by rw [List.take_of_length_le (by have := HN.out.1; omega)] at hv; exact hv)
      clear hn hlt hB hR hv
      go_wp2_with (refine wpList_store_rec rfl 32 (.tmp 4) (.tmp 42) rfl W.heap.size 0 _ [.slice none 0 0, .slice none 0 0, .bool false] rfl rfl HR.out rfl pair_size (by intro u hu; simp only [List.mem_cons, List.not_mem_nil, or_false] at hu; rcases hu with rfl | rfl | rfl <;> rfl) ?_; intro W5 R5 B5; have P5 := hidIt R5; have E5 := hidIt (HB.out.trans (B5.below (Nat.le_refl _) HB.out.size)); clear R5 B5)
      have hl := P5.out.run_load 32 _ Try.underlying32 rfl pair_size
      exact bodyPost_ret (v := .tuple #[.agg #[.slice none 0 0, .slice none 0 0, .bool false], .bool false]) (by simp [results, Try.results15, asAddr, hl]) rfl ⟨E5.out, .inr ⟨FN.out, rfl⟩⟩
end Go.Proofs.Ytgpafmgncolnmaa
