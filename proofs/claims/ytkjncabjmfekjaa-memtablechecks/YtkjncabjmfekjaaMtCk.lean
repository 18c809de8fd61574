/-
  Walks, not a claim by itself: the statement's function MemtableChecks. By the verifier.
-/
import Derived.Test.YtkjncabjmfekjaaMtCpy
import Derived.Test.YtkjncabjmfekjaaMtAw2
namespace Go.Proofs.Ytkjncabjmfekjaa
open Go.RowKit
attribute [-go_sem] Builtin.append_
set_option maxRecDepth 100000 in
set_option maxHeartbeats 2000000 in
theorem checks_any (W : World) (a : Option Addr) (ps : List PV) (n C : Nat) (hn : ps.length = n) (hL : Lst W a ps) : Calls Try.prog 4 #[.slice a n C] W fun e w' => e = .returned (.bool true) ∧ Below W.heap.size W w' := by
  have HL := hidIt hL
  have HN := hidIt hn
  clear hL hn
  go_enter Try.func4, Try.ntmps4
  go_wp2_with (go_at_call 16; refine (large_any n C HN.out HL.out).mono ?_; rintro e w2 ⟨lb, rfl, hw, hI⟩; rw [hw]; have LB := hidIt hI; clear hw hI; refine Held.out ?_)
  refine Held.mk ?_
  cases lb
  · have N1 := hidIt (LB.out rfl)
    clear LB
    go_wp2_with (go_at_call 17; refine (copyPairs_any n C HN.out HL.out (by have := N1.out.1; have := HN.out; omega) N1.out.2).mono ?_; rintro e W1 ⟨ca, cC, os, rfl, h1, h2, h3, h4⟩; have G1 := hidIt h4; have OL := hidIt (h1.trans HN.out); have OM := hidIt h2; have LO := hidIt h3; have LP := hidIt (HL.out.below h4); clear h1 h2 h3 h4; refine Held.out ?_)
    refine Held.mk ?_
    have HF : Hid (n ≤ 100) := hidIt (by have := N1.out.1; have := HN.out; omega)
    clear N1 HL
    obtain ⟨m, hm⟩ : ∃ m, m = os.length := ⟨_, rfl⟩
    obtain rfl : m = n := hm.trans OL.out
    rw [← hm]
    clear hm
    go_wp2_with fail
    go_loopw [4] (fun i wr => ∃ k : Nat, k ≤ m ∧ i = .int .i64 (k : Int) ∧ Hid (Below W1.heap.size W1 wr)) (fun i _ => m - (RowKit.intOf i).toNat)
    case atStart => exact ⟨0, Nat.zero_le _, rfl, hidIt (Below.refl _ _)⟩
    case round =>
      obtain ⟨k, hk, rfl, BB⟩ := hrel
      by_cases hlt : k < m
      · obtain ⟨x, hx⟩ : ∃ x, os[k]? = some x := ⟨_, List.getElem?_eq_getElem (by have := OL.out; omega)⟩
        obtain ⟨y, hy⟩ : ∃ y, ps[k]? = some y := ⟨_, List.getElem?_eq_getElem (by have := HN.out; omega)⟩
        obtain ⟨b1, o1, ha, hr1, l1⟩ := (LO.out.below BB.out).at k x hx
        obtain ⟨b2, o2, hb, hr2, l2⟩ := (LP.out.below BB.out).at k y hy
        subst ha hb
        have PE : Hid (x.p = y.p) := hidIt (by
          have := congrArg (fun l : List Pr => l[k]?) OM.out
          simp only [List.getElem?_map, hx, hy, Option.map_some] at this
          exact Option.some.inj this)
        have CX := hidIt (fun (U : World) (hU : Below wr.heap.size wr U) => check_any (((LO.out.1 x (List.mem_of_getElem? hx)).below BB.out).below hU))
        have CY := hidIt (fun (U : World) (hU : Below wr.heap.size wr U) => rcheck_any (((LP.out.1 y (List.mem_of_getElem? hy)).below BB.out).below hU))
        have CE : Hid (∀ U, Below wr.heap.size wr U → U.rangeAt b1 (o1 + k * 3) x.cs ∧ U.rangeAt b2 (o2 + k * 3) y.cs) := hidIt (fun U hU => ⟨fun j u hj => (hU.cell (p := ⟨b1, o1 + k * 3 + j, none⟩) l1).trans (hr1 j u hj), fun j u hj => (hU.cell (p := ⟨b2, o2 + k * 3 + j, none⟩) l2).trans (hr2 j u hj)⟩)
        have LT := hidIt hlt
        obtain ⟨i0, i1, i2, i3⟩ := k_ar k m hlt (by have := HF.out; omega)
        clear hx hy hlt hk hr1 hr2 l1 l2
        go_wp2_with fail
        refine wp_region_noPanic ?_
        refine wp_region_held_drew (S := fun w' => w'.rangeAt b1 (o1 + k * 3) x.cs ∧ w'.rangeAt b2 (o2 + k * 3) y.cs) (by kernel_rfl) ?_ (fun hHeld => ?_)
        · exact CE.out _ (Below.refl _ _).drew
        refine take_at (i := 0) (v := ?_) (some 15) rfl rfl (by kernel_rfl) (by kernel_rfl) (by kernel_rfl) (fun _ _ _ h => h) (Or.inl ⟨by rfl, ?_⟩) (by assumption) ?_
        rotate_left
        · (intro w hSw; (try dsimp only at hSw); go_simp; try with_reducible rfl)
        simp only [Act.put, List.setIfInBounds_toArray, List.set_cons_zero, List.set_cons_succ]
        refine take_at (i := 1) (v := ?_) (some 16) rfl rfl (by kernel_rfl) (by kernel_rfl) (by kernel_rfl) (fun _ _ _ h => h) (Or.inl ⟨by rfl, ?_⟩) (by assumption) ?_
        rotate_left
        · (intro w hSw; (try dsimp only at hSw); go_simp; try with_reducible rfl)
        simp only [Act.put, List.setIfInBounds_toArray, List.set_cons_zero, List.set_cons_succ]
        refine take_at (i := 2) (v := ?_) (some 17) rfl rfl (by kernel_rfl) (by kernel_rfl) (by kernel_rfl) (fun _ _ _ h => h) (Or.inl ⟨by rfl, ?_⟩) (by assumption) ?_
        rotate_left
        · (intro w hSw; (try dsimp only at hSw); go_simp; try with_reducible rfl)
        simp only [Act.put, List.setIfInBounds_toArray, List.set_cons_zero, List.set_cons_succ]
        refine take_at (i := 3) (v := _) (some 18) rfl rfl (by kernel_rfl) (by kernel_rfl) (by kernel_rfl) (fun _ _ _ h => h) (yieldsIf_load_mid (by rfl) _ _ rfl _ _ rfl _ _ (fun w h => h.1) Try.underlying47 rfl pair_size) (by assumption) ?_
        simp only [Act.put, List.setIfInBounds_toArray, List.set_cons_zero, List.set_cons_succ]
        refine take_at (i := 5) (v := ?_) (some 20) rfl rfl (by kernel_rfl) (by kernel_rfl) (by kernel_rfl) (fun _ _ _ h => h) (Or.inl ⟨by rfl, ?_⟩) (by assumption) ?_
        rotate_left
        · (intro w hSw; (try dsimp only at hSw); go_simp; try with_reducible rfl)
        simp only [Act.put, List.setIfInBounds_toArray, List.set_cons_zero, List.set_cons_succ]
        refine take_at (i := 6) (v := ?_) (some 21) rfl rfl (by kernel_rfl) (by kernel_rfl) (by kernel_rfl) (fun _ _ _ h => h) (Or.inl ⟨by rfl, ?_⟩) (by assumption) ?_
        rotate_left
        · (intro w hSw; (try dsimp only at hSw); go_simp; try with_reducible rfl)
        simp only [Act.put, List.setIfInBounds_toArray, List.set_cons_zero, List.set_cons_succ]
        refine take_at (i := 7) (v := ?_) (some 22) rfl rfl (by kernel_rfl) (by kernel_rfl) (by kernel_rfl) (fun _ _ _ h => h) (Or.inl ⟨by rfl, ?_⟩) (by assumption) ?_
        rotate_left
        · (intro w hSw; (try dsimp only at hSw); go_simp; try with_reducible rfl)
        simp only [Act.put, List.setIfInBounds_toArray, List.set_cons_zero, List.set_cons_succ]
        refine take_at (i := 8) (v := _) (some 23) rfl rfl (by kernel_rfl) (by kernel_rfl) (by kernel_rfl) (fun _ _ _ h => h) (yieldsIf_load_mid (by rfl) _ _ rfl _ _ rfl _ _ (fun w h => h.2) Try.underlying47 rfl pair_size) (by assumption) ?_
        simp only [Act.put, List.setIfInBounds_toArray, List.set_cons_zero, List.set_cons_succ]
        refine call_at (i := 4) (some 19) 18 _ _ rfl rfl rfl (by rfl) (by kernel_rfl) #[.agg x.cs.toArray] rfl Try.func18 (by kernel_rfl) (by kernel_rfl) ?_
        refine (CX.out _ (Below.refl _ _).drew).mono ?_
        rintro e W2 ⟨rfl, hb2⟩
        have E2 : Hid (Below wr.heap.size wr W2) := hidIt ((Below.refl _ _).drew.trans hb2)
        refine ⟨_, rfl, CE.out W2 E2.out, fun hHeld => ?_⟩
        simp only [Act.put, List.setIfInBounds_toArray, List.set_cons_zero, List.set_cons_succ]
        clear hb2
        refine call_at (i := 9) (some 24) 19 _ _ rfl rfl rfl (by rfl) (by kernel_rfl) #[.agg y.cs.toArray] rfl Try.func19 (by kernel_rfl) (by kernel_rfl) ?_
        refine (CY.out _ E2.out).mono ?_
        rintro e W3 ⟨rfl, hb3⟩
        have E3 : Hid (Below wr.heap.size wr W3) := hidIt (E2.out.trans (hb3.mono E2.out.size))
        refine ⟨_, rfl, CE.out W3 E3.out, fun hHeld => ?_⟩
        simp only [Act.put, List.setIfInBounds_toArray, List.set_cons_zero, List.set_cons_succ]
        rw [PE.out]
        generalize mayE y.p = E at *
        have q0 : (E == E) = true := by simp
        clear hb3 CX CY E2 PE
        refine take_at (i := 10) (v := ?_) (some 25) rfl rfl (by kernel_rfl) (by kernel_rfl) (by kernel_rfl) (fun _ _ _ h => h) (Or.inl ⟨by rfl, ?_⟩) (by assumption) ?_
        rotate_left
        · (intro w hSw; (try dsimp only at hSw); go_simp; try with_reducible rfl)
        simp only [Act.put, List.setIfInBounds_toArray, List.set_cons_zero, List.set_cons_succ]
        refine wpAnyH_done (by kernel_rfl) ?_ _
        refine NoPanic.normal ?_
        have NX : Hid (Below W1.heap.size W1 W3) := hidIt (BB.out.trans (E3.out.mono BB.out.size))
        clear hHeld CE E3 BB
        go_wp2_with fail
        exact ⟨⟨k + 1, LT.out, rfl, NX⟩, meas_k m k _ rfl LT.out⟩
      · have i0 : ((k : Int) < (m : Int)) = False := eq_false (by omega)
        have G := hidIt (G1.out.trans (BB.out.mono G1.out.size))
        replace LO := hidIt (LO.out.below BB.out)
        replace LP := hidIt (LP.out.below BB.out)
        clear BB hk hlt G1
        obtain ⟨Z, hZ⟩ : ∃ Z, Z = wr := ⟨_, rfl⟩
        subst hZ
        go_wp2_with (first
          | (go_at_call 20; refine (tsorted_any m cC OL.out LO.out (by have := HF.out; omega)).mono ?_; rintro e Z ⟨sb, rfl, h1, hb⟩; have SB := hidIt h1; replace G := hidIt (G.out.trans (hb.mono G.out.size)); replace LO := hidIt (LO.out.below hb); replace LP := hidIt (LP.out.below hb); clear h1 hb)
          | (go_at_call 21; refine (rsorted_any m C HN.out LP.out (by have := HF.out; omega)).mono ?_; rintro e Z ⟨rb, h0, h1, hb⟩; have h2 : rb = sb := (by have q := h1.trans (OM.out ▸ SB.out.symm); cases rb <;> cases sb <;> simp at q ⊢); subst h2; subst h0; have q1 : (rb == rb) = true := (by simp); replace G := hidIt (G.out.trans (hb.mono G.out.size)); replace LO := hidIt (LO.out.below hb); replace LP := hidIt (LP.out.below hb); clear h1 hb)
          | (go_at_call 14; refine (samePairs_any m m cC C OL.out HN.out LO.out LP.out (by have := HF.out; omega)).mono ?_; rintro e Z ⟨h1, hb⟩; have h2 : e = .returned (.bool true) := (by rw [h1, decide_eq_true OM.out]); subst h2; clear h1; replace G := hidIt (G.out.trans (hb.mono G.out.size)); clear hb)
          | (go_at_call 10; refine (awake_any _).mono ?_; rintro e Z ⟨rfl, hb⟩; replace G := hidIt (G.out.trans (hb.mono G.out.size)); clear hb))
        exact bodyPost_ret (v := .bool true) (by simp [results, Try.results4, go_sem]) rfl ⟨rfl, G.out⟩
  · clear LB
    go_wp2_with fail
    exact bodyPost_ret (v := .bool true) (by simp [results, Try.results4, go_sem]) rfl ⟨rfl, Below.refl _ _⟩
end Go.Proofs.Ytkjncabjmfekjaa
