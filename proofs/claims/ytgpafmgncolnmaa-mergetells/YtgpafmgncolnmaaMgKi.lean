/-
  Walks, not a claim by itself: the kit's functions of lists. By the verifier.
-/
import Derived.Test.YtgpafmgncolnmaaMgLi
import Derived.Test.YtgpafmgncolnmaaMgA
namespace Go.Proofs.Ytgpafmgncolnmaa
open Go.RowKit
attribute [-go_sem] Builtin.append_
/-- What LargePairs answers. -/
def LgP (W : World) (ps : List PV) (m : Nat) (e : Ending) (w' : World) : Prop := ∃ b : Bool, e = .returned (.bool b) ∧ w' = W ∧ (b = false → ps.length ≤ m ∧ ∀ x ∈ ps, Sm x)
set_option maxRecDepth 100000 in
set_option maxHeartbeats 1000000 in
theorem large_gen {W : World} {a : Option Addr} {ps : List PV} (n C m : Nat) (z : Int) (hz : z = (m : Int)) (hm : m ≤ 10000) (hn : ps.length = n) (hL : Lst W a ps) : Calls Try.prog 22 #[.slice a n C, .int .i64 z] W (LgP W ps m) := by
  subst hz
  by_cases hbig : m < n
  · have e1 : ((m : Int) < (n : Int)) = True := eq_true (by omega)
    have e1' : (m < n) = True := eq_true hbig
    clear hbig hL hn hm
    go_enter Try.func22, Try.ntmps22
    go_wp2_with fail
    exact bodyPost_ret (v := .bool true) (by simp [results, Try.results22, go_sem]) rfl ⟨true, rfl, rfl, fun h => by cases h⟩
  · have e1 : ((m : Int) < (n : Int)) = False := eq_false (by omega)
    have e1' : (m < n) = False := eq_false hbig
    have HB := hidIt (show n ≤ m ∧ m ≤ 10000 by omega)
    have HL := hidIt hL
    have HN := hidIt hn
    clear hbig hL hn hm
    go_enter Try.func22, Try.ntmps22
    go_wp2_with fail
    clear e1 e1'
    go_loopw [5] (fun i wr => ∃ k : Nat, k ≤ n ∧ i = .int .i64 (k : Int) ∧ wr = W ∧ Hid (∀ j x, j < k → ps[j]? = some x → Sm x)) (fun i _ => n - (RowKit.intOf i).toNat)
    case atStart => exact ⟨0, Nat.zero_le _, rfl, rfl, hidIt (fun j x hj => by omega)⟩
    case round =>
      obtain ⟨k, hk, rfl, hw, hI⟩ := hrel
      subst hw
      by_cases hlt : k < n
      · obtain ⟨x, hx⟩ : ∃ x, ps[k]? = some x := ⟨_, List.getElem?_eq_getElem (by have := HN.out; omega)⟩
        obtain ⟨b1, o1, ha, hr1, _⟩ := HL.out.at k x hx
        have ok := HL.out.1 x (List.mem_of_getElem? hx)
        have HX := hidIt hx
        obtain ⟨xk, xv, xp⟩ := x
        obtain ⟨⟨a1, C1, f1, hxk, _⟩, a2, C2, f2, hxv, _⟩ := ok
        simp only at hxk hxv
        subst ha hxk hxv
        obtain ⟨q1, q2, _⟩ := three_cells hr1
        have SM : Hid (Sm ⟨.slice a1 xp.k.size C1, .slice a2 xp.v.size C2, xp⟩ ↔ xp.k.size ≤ 200 ∧ xp.v.size ≤ 200) := hidIt Iff.rfl
        have LT := hidIt hlt
        obtain ⟨i0, i1, i2, i3⟩ := k_ar k n hlt (by have := HB.out; omega)
        clear hr1 hx hlt hk
        simp only at q1 q2
        generalize xp.k.size = kn at *
        generalize xp.v.size = vn at *
        by_cases h1 : 200 < (kn : Int)
        · have c1 : (200 < (kn : Int)) = True := eq_true h1
          clear h1
          go_wp2_with fail
          exact bodyPost_ret (v := .bool true) (by simp [results, Try.results22, go_sem]) rfl ⟨true, rfl, rfl, fun h => by cases h⟩
        · have c1 : (200 < (kn : Int)) = False := eq_false h1
          by_cases h2 : 200 < (vn : Int)
          · have c2 : (200 < (vn : Int)) = True := eq_true h2
            clear h1 h2
            go_wp2_with fail
            exact bodyPost_ret (v := .bool true) (by simp [results, Try.results22, go_sem]) rfl ⟨true, rfl, rfl, fun h => by cases h⟩
          · have c2 : (200 < (vn : Int)) = False := eq_false h2
            have NX := hidIt (SM.out.2 ⟨by omega, by omega⟩)
            clear h1 h2
            go_wp2_with fail
            refine ⟨⟨k + 1, LT.out, rfl, trivial, hidIt (fun j y hj hy => ?_)⟩, meas_k n k _ rfl LT.out⟩
            by_cases e : j = k
            · subst e
              rw [HX.out] at hy
              injection hy with hy
              rw [← hy]
              exact NX.out
            · exact hI.out j y (by omega) hy
      · have i0 : ((k : Int) < (n : Int)) = False := eq_false (by omega)
        have AL : Hid (ps.length ≤ m ∧ ∀ x ∈ ps, Sm x) := hidIt ⟨by have := HN.out; have := HB.out; omega, fun x hx => by
          obtain ⟨j, hj, rfl⟩ := List.getElem_of_mem hx
          exact hI.out j _ (by have := HN.out; omega) (List.getElem?_eq_getElem hj)⟩
        clear hlt hk
        go_wp2_with fail
        exact bodyPost_ret (v := .bool false) (by simp [results, Try.results22, go_sem]) rfl ⟨false, rfl, rfl, fun _ => AL.out⟩
/-- What holds at the head of CopyPairs' loop: and the texts lie apart from N. -/
structure CpJ (N : List Nat) (W : World) (ps : List PV) (k : Nat) (wr : World) (lv : Value) (os : List PV) : Prop where
  ci : CpI W ps k wr lv os
  apt : ∀ x ∈ os, PVOk wr N x
theorem CpJ.step {N : List Nat} {W W4 W5 W6 : World} {ps os : List PV} {k : Nat} {lv v6 : Value} {x y : PV} (h : CpJ N W ps k W4 lv os) (hB : Below W4.heap.size W4 W5) (hy : PVOk W5 (lv.ownBlock.toList ++ N) y) (hI : Insd W5 lv (os ++ [y]) v6 W6) (hx : ps[k]? = some x) (hp : y.p = x.p) (_hN : ∀ b ∈ N, b < W4.heap.size) : CpJ N W ps (k + 1) W6 v6 (os ++ [y]) := by
  have h1 : PVOk W5 lv.ownBlock.toList y := hy.mono (fun b hb => .inl (List.mem_append_left _ hb))
  have h2 : PVOk W5 N y := hy.mono (fun b hb => .inl (List.mem_append_right _ hb))
  refine ⟨h.ci.step hB h1 hI hx hp, fun z hz => ?_⟩
  rcases List.mem_append.1 hz with hz | hz
  · exact ((h.apt z hz).below hB).both ((h.ci.oks z hz).below hB) hI.off
  · rcases List.mem_singleton.1 hz with rfl
    exact h2.both h1 hI.off
/-- What CopyPairs answers. -/
def CpnPost (W : World) (N : List Nat) (ps : List PV) (e : Ending) (w' : World) : Prop := ∃ a C os, e = .returned (.slice a os.length C) ∧ os.length = ps.length ∧ os.map PV.p = ps.map PV.p ∧ LokN w' N ⟨a, C, os⟩ ∧ Below W.heap.size W w'
set_option maxRecDepth 100000 in
set_option maxHeartbeats 2000000 in
theorem copyPairs_gen {W : World} {N : List Nat} {a : Option Addr} {ps : List PV} (n C : Nat) (hn : ps.length = n) (hL : Lst W a ps) (hf : n ≤ 10000) (hs : ∀ x ∈ ps, Sm x) (hN : ∀ b ∈ N, b < W.heap.size) : Calls Try.prog 23 #[.slice a n C] W (CpnPost W N ps) := by
  have HL := hidIt hL
  have HN := hidIt hn
  have HF := hidIt hf
  have HS := hidIt hs
  have HNN := hidIt hN
  have st : Hid (CpJ N W ps 0 W (.slice none 0 0) []) := hidIt ⟨⟨OwnP.nil _ _, fun g hg => (by cases hg), fun x hx => (by cases hx), rfl, rfl, Below.refl _ _⟩, fun x hx => (by cases hx)⟩
  clear hL hn hf hs hN
  go_enter Try.func23, Try.ntmps23
  go_wp2_with fail
  go_loopw [3, 4] (fun lv i wr => ∃ (k : Nat) (os : List PV), k ≤ n ∧ i = .int .i64 (k : Int) ∧ Hid (CpJ N W ps k wr lv os)) (fun _ i _ => n - (RowKit.intOf i).toNat)
  case atStart => exact ⟨0, _, Nat.zero_le _, rfl, st⟩
  case round =>
    clear st
    obtain ⟨k, os, hk, rfl, hI⟩ := hrel
    by_cases hlt : k < n
    · obtain ⟨x, hx⟩ : ∃ x, ps[k]? = some x := ⟨_, List.getElem?_eq_getElem (by have := HN.out; omega)⟩
      obtain ⟨bl, o1, ha, hr1, l1⟩ := HL.out.at k x hx
      subst ha
      have ok := HL.out.1 x (List.mem_of_getElem? hx)
      have CE : Hid (∀ U, Below W.heap.size W U → U.cell? ⟨bl, o1 + k * 3, none⟩ = some x.k ∧ U.cell? ⟨bl, o1 + k * 3 + 1, none⟩ = some x.v ∧ U.cell? ⟨bl, o1 + k * 3 + 2, none⟩ = some (.bool x.p.g)) := hidIt (fun U hU => ⟨(hU.cell (p := ⟨bl, o1 + k * 3, none⟩) l1).trans (three_cells hr1).1, (hU.cell (p := ⟨bl, o1 + k * 3 + 1, none⟩) l1).trans (three_cells hr1).2.1, (hU.cell (p := ⟨bl, o1 + k * 3 + 2, none⟩) l1).trans (three_cells hr1).2.2⟩)
      have OK := hidIt ok
      have SM := hidIt (HS.out x (List.mem_of_getElem? hx))
      have HX := hidIt hx
      have LT := hidIt hlt
      obtain ⟨i0, i1, i2, i3⟩ := k_ar k n hlt (by have := HF.out; omega)
      clear hx hr1 l1 hlt hk ok
      go_wp2_with fail
      refine wp_region_noPanic ?_
      refine wp_region_held_drew (S := fun w' => w'.cell? ⟨bl, o1 + k * 3, none⟩ = some x.k ∧ w'.cell? ⟨bl, o1 + k * 3 + 1, none⟩ = some x.v ∧ w'.cell? ⟨bl, o1 + k * 3 + 2, none⟩ = some (.bool x.p.g)) (by kernel_rfl) ?_ (fun hHeld => ?_)
      · exact CE.out _ hI.out.ci.below.drew
      refine take_at (i := 0) (v := ?_) (some 11) rfl rfl (by kernel_rfl) (by kernel_rfl) (by kernel_rfl) (fun _ _ _ h => h) (Or.inl ⟨by rfl, ?_⟩) (by assumption) ?_
      rotate_left
      · (intro w hSw; (try dsimp only at hSw); go_simp; try with_reducible rfl)
      simp only [Act.put, List.setIfInBounds_toArray, List.set_cons_zero, List.set_cons_succ]
      refine take_at (i := 1) (v := ?_) (some 12) rfl rfl (by kernel_rfl) (by kernel_rfl) (by kernel_rfl) (fun _ _ _ h => h) (Or.inl ⟨by rfl, ?_⟩) (by assumption) ?_
      rotate_left
      · (intro w hSw; (try dsimp only at hSw); go_simp; try with_reducible rfl)
      simp only [Act.put, List.setIfInBounds_toArray, List.set_cons_zero, List.set_cons_succ]
      refine take_at (i := 2) (v := ?_) (some 13) rfl rfl (by kernel_rfl) (by kernel_rfl) (by kernel_rfl) (fun _ _ _ h => h) (Or.inl ⟨by rfl, ?_⟩) (by assumption) ?_
      rotate_left
      · (intro w hSw; (try dsimp only at hSw); go_simp; try with_reducible rfl)
      simp only [Act.put, List.setIfInBounds_toArray, List.set_cons_zero, List.set_cons_succ]
      refine take_at (i := 3) (v := ?_) (some 14) rfl rfl (by kernel_rfl) (by kernel_rfl) (by kernel_rfl) (fun _ _ _ h => h) (Or.inl ⟨by rfl, ?_⟩) (by assumption) ?_
      rotate_left
      · (intro w hSw; (try dsimp only at hSw); go_simp; try with_reducible rfl)
      simp only [Act.put, List.setIfInBounds_toArray, List.set_cons_zero, List.set_cons_succ]
      refine take_at (i := 4) (v := ?_) (some 15) rfl rfl (by kernel_rfl) (by kernel_rfl) (by kernel_rfl) (fun _ _ _ h => h) (Or.inl ⟨by rfl, ?_⟩) (by assumption) ?_
      rotate_left
      · (intro w hSw; (try dsimp only at hSw); go_simp; try with_reducible rfl)
      simp only [Act.put, List.setIfInBounds_toArray, List.set_cons_zero, List.set_cons_succ]
      refine take_at (i := 5) (v := ?_) (some 16) rfl rfl (by kernel_rfl) (by kernel_rfl) (by kernel_rfl) (fun _ _ _ h => h) (Or.inl ⟨by rfl, ?_⟩) (by assumption) ?_
      rotate_left
      · (intro w hSw; (try dsimp only at hSw); go_simp; try with_reducible rfl)
      simp only [Act.put, List.setIfInBounds_toArray, List.set_cons_zero, List.set_cons_succ]
      refine take_at (i := 7) (v := ?_) (some 18) rfl rfl (by kernel_rfl) (by kernel_rfl) (by kernel_rfl) (fun _ _ _ h => h) (Or.inl ⟨by rfl, ?_⟩) (by assumption) ?_
      rotate_left
      · (intro w hSw; (try dsimp only at hSw); go_simp; try with_reducible rfl)
      simp only [Act.put, List.setIfInBounds_toArray, List.set_cons_zero, List.set_cons_succ]
      refine take_at (i := 8) (v := ?_) (some 19) rfl rfl (by kernel_rfl) (by kernel_rfl) (by kernel_rfl) (fun _ _ _ h => h) (Or.inl ⟨by rfl, ?_⟩) (by assumption) ?_
      rotate_left
      · (intro w hSw; (try dsimp only at hSw); go_simp; try with_reducible rfl)
      simp only [Act.put, List.setIfInBounds_toArray, List.set_cons_zero, List.set_cons_succ]
      refine take_at (i := 9) (v := ?_) (some 20) rfl rfl (by kernel_rfl) (by kernel_rfl) (by kernel_rfl) (fun _ _ _ h => h) (Or.inl ⟨by rfl, ?_⟩) (by assumption) ?_
      rotate_left
      · (intro w hSw; (try dsimp only at hSw); go_simp; try with_reducible rfl)
      simp only [Act.put, List.setIfInBounds_toArray, List.set_cons_zero, List.set_cons_succ]
      refine take_at (i := 10) (v := ?_) (some 21) rfl rfl (by kernel_rfl) (by kernel_rfl) (by kernel_rfl) (fun _ _ _ h => h) (Or.inl ⟨by rfl, ?_⟩) (by assumption) ?_
      rotate_left
      · (intro w hSw; (try dsimp only at hSw); go_simp; try with_reducible rfl)
      simp only [Act.put, List.setIfInBounds_toArray, List.set_cons_zero, List.set_cons_succ]
      refine take_at (i := 11) (v := ?_) (some 22) rfl rfl (by kernel_rfl) (by kernel_rfl) (by kernel_rfl) (fun _ _ _ h => h) (Or.inl ⟨by rfl, ?_⟩) (by assumption) ?_
      rotate_left
      · (intro w hSw; (try dsimp only at hSw); go_simp; try with_reducible rfl)
      simp only [Act.put, List.setIfInBounds_toArray, List.set_cons_zero, List.set_cons_succ]
      refine take_at (i := 13) (v := ?_) (some 24) rfl rfl (by kernel_rfl) (by kernel_rfl) (by kernel_rfl) (fun _ _ _ h => h) (Or.inl ⟨by rfl, ?_⟩) (by assumption) ?_
      rotate_left
      · (intro w hSw; (try dsimp only at hSw); go_simp; try with_reducible rfl)
      simp only [Act.put, List.setIfInBounds_toArray, List.set_cons_zero, List.set_cons_succ]
      refine take_at (i := 14) (v := ?_) (some 25) rfl rfl (by kernel_rfl) (by kernel_rfl) (by kernel_rfl) (fun _ _ _ h => h) (Or.inl ⟨by rfl, ?_⟩) (by assumption) ?_
      rotate_left
      · (intro w hSw; (try dsimp only at hSw); go_simp; try with_reducible rfl)
      simp only [Act.put, List.setIfInBounds_toArray, List.set_cons_zero, List.set_cons_succ]
      refine take_at (i := 15) (v := ?_) (some 26) rfl rfl (by kernel_rfl) (by kernel_rfl) (by kernel_rfl) (fun _ _ _ h => h) (Or.inl ⟨by rfl, ?_⟩) (by assumption) ?_
      rotate_left
      · (intro w hSw; (try dsimp only at hSw); go_simp; try with_reducible rfl)
      simp only [Act.put, List.setIfInBounds_toArray, List.set_cons_zero, List.set_cons_succ]
      refine take_at (i := 16) (v := ?_) (some 27) rfl rfl (by kernel_rfl) (by kernel_rfl) (by kernel_rfl) (fun _ _ _ h => h) (Or.inl ⟨by rfl, ?_⟩) (by assumption) ?_
      rotate_left
      · (intro w hSw; (try dsimp only at hSw); go_simp; try with_reducible rfl)
      simp only [Act.put, List.setIfInBounds_toArray, List.set_cons_zero, List.set_cons_succ]
      refine take_at (i := 17) (v := ?_) (some 28) rfl rfl (by kernel_rfl) (by kernel_rfl) (by kernel_rfl) (fun _ _ _ h => h) (Or.inl ⟨by rfl, ?_⟩) (by assumption) ?_
      rotate_left
      · (intro w hSw; (try dsimp only at hSw); go_simp; try with_reducible rfl)
      simp only [Act.put, List.setIfInBounds_toArray, List.set_cons_zero, List.set_cons_succ]
      have bd : Below W.heap.size W wr.drew := hI.out.ci.below.drew
      have ow : ∀ g, g ∈ u3.ownBlock.toList → g < wr.drew.heap.size := fun g hg => by
        cases e : u3.ownBlock with
        | none => rw [e] at hg; cases hg
        | some q => rw [e] at hg; simp at hg; subst hg; exact (World.ownsRow.lt hI.out.ci.own _ e).2
      have ow2 : ∀ g, g ∈ u3.ownBlock.toList ++ N → g < wr.drew.heap.size := fun g hg => (List.mem_append.1 hg).elim (ow g) (fun q => Nat.lt_of_lt_of_le (HNN.out g q) bd.size)
      refine call_at (i := 6) (some 17) 40 _ _ rfl rfl rfl (by rfl) (by kernel_rfl) #[x.k] rfl Try.func40 (by kernel_rfl) (by kernel_rfl) ?_
      refine (copy_txt (M := u3.ownBlock.toList ++ N) (OK.out.1.below bd) (by have := SM.out.1; omega) ow2).mono ?_
      rintro e W2 ⟨ka, kn, kC, rfl, X2, b2⟩
      have E2 := hidIt (bd.trans (b2.mono bd.size))
      refine ⟨_, rfl, CE.out W2 E2.out, fun hHeld => ?_⟩
      simp only [Act.put, List.setIfInBounds_toArray, List.set_cons_zero, List.set_cons_succ]
      refine call_at (i := 12) (some 23) 40 _ _ rfl rfl rfl (by rfl) (by kernel_rfl) #[x.v] rfl Try.func40 (by kernel_rfl) (by kernel_rfl) ?_
      refine (copy_txt (M := u3.ownBlock.toList ++ N) (OK.out.2.below E2.out) (by have := SM.out.2; omega) (fun g hg => Nat.lt_of_lt_of_le (ow2 g hg) b2.size)).mono ?_
      rintro e W3 ⟨va, vn, vC, rfl, X3, b3⟩
      have E3 := hidIt (E2.out.trans (b3.mono E2.out.size))
      have A5 : Below W3.heap.size W3 (W3.alloc (.cells (PV.mk (.slice ka kn kC) (.slice va vn vC) x.p).cs.toArray 32)) := (Below.refl _ _).alloc (Nat.le_refl _) _
      have PO : PVOk W3 (u3.ownBlock.toList ++ N) (PV.mk (.slice ka kn kC) (.slice va vn vC) x.p) := ⟨X2.below b3, X3⟩
      have L5 : Lone (W3.alloc (.cells (PV.mk (.slice ka kn kC) (.slice va vn vC) x.p).cs.toArray 32)) W3.heap.size (PV.mk (.slice ka kn kC) (.slice va vn vC) x.p) := ⟨heap_alloc_new W3 _, PO.one⟩
      obtain ⟨W5, hW5⟩ : ∃ W5, W5 = W3.alloc (.cells (PV.mk (.slice ka kn kC) (.slice va vn vC) x.p).cs.toArray 32) := ⟨_, rfl⟩
      rw [← hW5] at A5 L5
      have dB : Below wr.heap.size wr W5 := ((Below.refl wr.heap.size wr).drew.trans b2).trans ((b3.trans (A5.mono b3.size)).mono b2.size)
      have O5 : OwnP W5 0 u3 os := hI.out.ci.own.below dB
      obtain ⟨v6, W6, hr6, I6⟩ := app_pairs 27 W5 u3 os [PV.mk (.slice ka kn kC) (.slice va vn vC) x.p] ⟨W3.heap.size, 0, none⟩ 1 O5 (fun j u hj => by rw [pcs_single] at hj; rw [Addr.add_mid, Nat.zero_add]; exact L5.cell j u hj) (by rw [pcs_single]; exact L5.2) (by simp) (by have := hI.out.ci.len; have := LT.out; have := HF.out; simp; omega)
      simp only [List.length_singleton] at hr6
      have NX : Hid (CpJ N W ps (k + 1) W6 v6 (os ++ [PV.mk (.slice ka kn kC) (.slice va vn vC) x.p])) := hidIt (hI.out.step dB (PO.below A5) I6 HX.out rfl (fun b hb => Nat.lt_of_lt_of_le (HNN.out b hb) hI.out.ci.below.size))
      have E5 : Below W.heap.size W W5 := E3.out.trans (A5.mono E3.out.size)
      refine ⟨_, rfl, CE.out W3 E3.out, fun hHeld => ?_⟩
      simp only [Act.put, List.setIfInBounds_toArray, List.set_cons_zero, List.set_cons_succ]
      refine take_at (i := 18) (v := .agg (PV.mk (.slice ka kn kC) (.slice va vn vC) x.p).cs.toArray) (some 29) rfl rfl (by kernel_rfl) (by kernel_rfl) (by kernel_rfl) (fun _ _ _ h => h) (Or.inl ⟨by rfl, fun w hSw => bld_run 32 _ rfl _ (by kernel_rfl)⟩) (by assumption) ?_
      simp only [Act.put, List.setIfInBounds_toArray, List.set_cons_zero, List.set_cons_succ]
      refine step_at (i := 19) (some 30) rfl rfl (by rfl) (by kernel_rfl) (.slice (some ⟨W3.heap.size, 0, none⟩) 1 1) W5 (by rw [hW5]; exact bsl_run 27 32 1 _ rfl 3 56 _ _ _ under_pairs info_pair (by decide) (by decide) rfl (by kernel_rfl)) (CE.out W5 E5) (fun hHeld => ?_)
      simp only [Act.put, List.setIfInBounds_toArray, List.set_cons_zero, List.set_cons_succ]
      refine step_at (i := 20) (some 31) rfl rfl (by rfl) (by kernel_rfl) v6 W6 (app_run (.tmp 11) (.tmp 30) 27 27 rfl _ _ rfl rfl hr6) (CE.out W6 NX.out.ci.below) (fun hHeld => ?_)
      simp only [Act.put, List.setIfInBounds_toArray, List.set_cons_zero, List.set_cons_succ]
      clear hr6 I6 O5 dB L5 PO A5 hW5 X2 X3 b2 b3 ow ow2 bd
      refine take_at (i := 21) (v := ?_) (some 3) rfl rfl (by kernel_rfl) (by kernel_rfl) (by kernel_rfl) (fun _ _ _ h => h) (Or.inl ⟨by rfl, ?_⟩) (by assumption) ?_
      rotate_left
      · (intro w hSw; (try dsimp only at hSw); go_simp; try with_reducible rfl)
      simp only [Act.put, List.setIfInBounds_toArray, List.set_cons_zero, List.set_cons_succ]
      refine wpAnyH_done (by kernel_rfl) ?_ _
      refine NoPanic.normal ?_
      clear hHeld CE
      go_wp2_with fail
      exact ⟨⟨k + 1, _, LT.out, rfl, NX⟩, meas_k n k _ rfl LT.out⟩
    · obtain rfl : k = n := by omega
      have i0 : ((k : Int) < (k : Int)) = False := eq_false (by omega)
      obtain ⟨ua, uc, hu, _⟩ := hI.out.ci.own.slice
      have FIN : Hid (CpnPost W N ps (.returned u3) wr) := hidIt ⟨ua, uc, os, by rw [hu], by rw [hI.out.ci.len, HN.out], by rw [hI.out.ci.map, List.take_of_length_le (by have := HN.out; omega)], own_lok (hu ▸ hI.out.ci.own) rfl hI.out.apt (fun g hg q => by have := hI.out.ci.new g (by rw [hu]; exact hg); have := HNN.out g q; omega), hI.out.ci.below⟩
      clear hlt hk hu
      go_wp2_with fail
      exact bodyPost_ret (v := u3) (by simp [results, Try.results23, go_sem]) rfl FIN.out
/-- What LargePairLists answers. -/
def LgL (W : World) (ls : List LV) (K m : Nat) (e : Ending) (w' : World) : Prop := ∃ b : Bool, e = .returned (.bool b) ∧ w' = W ∧ (b = false → ls.length ≤ K ∧ ∀ x ∈ ls, x.ps.length ≤ m ∧ ∀ y ∈ x.ps, Sm y)
set_option maxRecDepth 100000 in
set_option maxHeartbeats 1000000 in
theorem largeLists_any {W : World} {A : Option Addr} {ls : List LV} (L C K m : Nat) (z1 z2 : Int) (hz1 : z1 = (K : Int)) (hz2 : z2 = (m : Int)) (hK : K ≤ 1000) (hm : m ≤ 10000) (hL : ls.length = L) (h : Lsts W A ls) : Calls Try.prog 9 #[.slice A L C, .int .i64 z1, .int .i64 z2] W (LgL W ls K m) := by
  subst hz1 hz2
  by_cases hbig : K < L
  · have e1 : ((K : Int) < (L : Int)) = True := eq_true (by omega)
    have e1' : (K < L) = True := eq_true hbig
    clear hbig hL h hK hm
    go_enter Try.func9, Try.ntmps9
    go_wp2_with fail
    exact bodyPost_ret (v := .bool true) (by simp [results, Try.results9, go_sem]) rfl ⟨true, rfl, rfl, fun h => by cases h⟩
  · have e1 : ((K : Int) < (L : Int)) = False := eq_false (by omega)
    have e1' : (K < L) = False := eq_false hbig
    have HB := hidIt (show L ≤ K ∧ K ≤ 1000 ∧ m ≤ 10000 by omega)
    have HL := hidIt h
    have HN := hidIt hL
    clear hbig hL h hK hm
    go_enter Try.func9, Try.ntmps9
    go_wp2_with fail
    clear e1 e1'
    go_loopw [7] (fun i wr => ∃ k : Nat, k ≤ L ∧ i = .int .i64 (k : Int) ∧ wr = W ∧ Hid (∀ j x, j < k → ls[j]? = some x → x.ps.length ≤ m ∧ ∀ y ∈ x.ps, Sm y)) (fun i _ => L - (RowKit.intOf i).toNat)
    case atStart => exact ⟨0, Nat.zero_le _, rfl, rfl, hidIt (fun j x hj => by omega)⟩
    case round =>
      obtain ⟨k, hk, rfl, hw, hI⟩ := hrel
      subst hw
      by_cases hlt : k < L
      · obtain ⟨x, hx⟩ : ∃ x, ls[k]? = some x := ⟨_, List.getElem?_eq_getElem (by have := HN.out; omega)⟩
        obtain ⟨b, o, ha, hc, hb⟩ := HL.out.at k x hx
        subst ha
        have HX := hidIt hx
        have LT := hidIt hlt
        have G := hidIt (large_gen x.ps.length x.c m _ rfl HB.out.2.2 rfl (HL.out.1 x (List.mem_of_getElem? hx)).1)
        obtain ⟨i0, i1, i2, i3⟩ := k_ar k L hlt (by have := HB.out; omega)
        unfold LV.v at hc
        clear hb hx hlt hk
        obtain ⟨mm, hmm⟩ : ∃ mm, mm = x.ps.length := ⟨_, rfl⟩
        rw [← hmm] at G hc
        clear hmm
        go_wp2_with (go_at_call 22; refine G.out.mono ?_; rintro e W5 ⟨bb, rfl, hw, hbb⟩; subst hw; have BB := hidIt hbb; clear hbb; refine Held.out ?_)
        cases bb with
        | true =>
          refine Held.mk ?_
          go_wp2_with fail
          exact bodyPost_ret (v := .bool true) (by simp [results, Try.results9, go_sem]) rfl ⟨true, rfl, rfl, fun h => by cases h⟩
        | false =>
          refine Held.mk ?_
          go_wp2_with fail
          refine ⟨⟨k + 1, LT.out, rfl, trivial, hidIt (fun j y hj hy => ?_)⟩, meas_k L k _ rfl LT.out⟩
          by_cases e : j = k
          · subst e
            rw [HX.out] at hy
            injection hy with hy
            rw [← hy]
            exact BB.out rfl
          · exact hI.out j y (by omega) hy
      · have i0 : ((k : Int) < (L : Int)) = False := eq_false (by omega)
        have AL : Hid (ls.length ≤ K ∧ ∀ x ∈ ls, x.ps.length ≤ m ∧ ∀ y ∈ x.ps, Sm y) := hidIt ⟨by have := HN.out; have := HB.out; omega, fun x hx => by
          obtain ⟨j, hj, rfl⟩ := List.getElem_of_mem hx
          exact hI.out j _ (by have := HN.out; omega) (List.getElem?_eq_getElem hj)⟩
        clear hlt hk
        go_wp2_with fail
        exact bodyPost_ret (v := .bool false) (by simp [results, Try.results9, go_sem]) rfl ⟨false, rfl, rfl, fun _ => AL.out⟩
end Go.Proofs.Ytgpafmgncolnmaa
