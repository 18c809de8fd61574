/-
  Walks, not a claim by itself: the law of the cuts. By the verifier.
-/
import Derived.Test.YtnocjhefkkfanaaMgRc
namespace Go.Proofs.Ytnocjhefkkfanaa
open Go.RowKit
def cutZ (l : List Pr) (z : Int) : List (List Pr) := if 1 ≤ z ∧ z ≤ 64 then cutD l z.toNat else []
def cz (z : Int) : Int := if 1 ≤ z ∧ z ≤ 64 then 0 else 2
theorem cutZ_few {l : List Pr} {z : Int} (hl : l.length ≤ 300) : (cutZ l z).length ≤ 300 ∧ ∀ y ∈ cutZ l z, y.length ≤ 64 := by
  unfold cutZ
  split
  · rename_i h
    refine ⟨?_, fun y hy => ?_⟩
    · rcases Nat.eq_zero_or_pos (cutD l z.toNat).length with q | q
      · omega
      · have a := cut_lt (l := l) (m := z.toNat) (k := (cutD l z.toNat).length - 1) (by omega) (by omega)
        have b := Nat.le_mul_of_pos_right ((cutD l z.toNat).length - 1) (show 0 < z.toNat by omega)
        omega
    · obtain ⟨k, hk⟩ := List.mem_iff_getElem?.1 hy
      have := (cut_len (by omega) hk).2.1
      omega
  · exact ⟨by simp, fun y hy => by cases hy⟩
def CfPost (W : World) (l : List Pr) (z : Int) (e : Ending) (w' : World) : Prop := ∃ A C os, e = .returned (.tuple #[.slice A (os : List LV).length C, .int .i64 (cz z)]) ∧ OwnLs w' 0 (.slice A os.length C) os ∧ (∀ x ∈ os, LOk w' x) ∧ prs os = cutZ l z ∧ Ivs W.heap.size (.slice A os.length C) os w' ∧ Below W.heap.size W w'
theorem cut_full {W : World} {a : Option Addr} {ps : List PV} (N C : Nat) (z : Int) (hn : ps.length = N) (hL : Lst W a ps) (hf : N ≤ 10000) (hc : N ≤ C) (hs : ∀ x ∈ ps, x.p.k.size ≤ 1000000 ∧ x.p.v.size ≤ 1000000) : Calls Try.prog 24 #[.slice a N C, .int .i64 z] W (CfPost W (ps.map PV.p) z) := by
  by_cases h : 1 ≤ z ∧ z ≤ 64
  · obtain ⟨m, rfl⟩ : ∃ m : Nat, z = (m : Int) := ⟨z.toNat, by omega⟩
    refine (cut_ok N C m hn hL hf hc hs (by omega) (by omega)).mono ?_
    rintro e w' ⟨hB, (⟨q, _⟩ | ⟨_, _, A, C', os, rfl, hO, hok, hp, hi, _⟩)⟩
    · exact absurd h q
    · exact ⟨A, C', os, by unfold cz; rw [if_pos h], hO, hok, by unfold cutZ; rw [if_pos h]; exact hp, hi, hB⟩
  · refine (cut_bad N C z h).mono ?_
    rintro e w' ⟨rfl, hB⟩
    exact ⟨none, 0, [], by unfold cz; rw [if_neg h]; rfl, OwnLs.nil _ _, fun x hx => (by cases hx), by unfold cutZ; rw [if_neg h]; rfl, Ivs.nil _ _ _, hB⟩
def UfPost (W : World) (l : List Pr) (z : Int) (e : Ending) (w' : World) : Prop := ∃ A C os, e = .returned (.tuple #[.slice A (os : List LV).length C, .int .i64 (cz z)]) ∧ Lsts w' A os ∧ prs os = cutZ l z ∧ Below W.heap.size W w'
theorem ucut_full {W : World} {a : Option Addr} {ps : List PV} (N C : Nat) (z : Int) (hn : ps.length = N) (hL : Lst W a ps) (hf : N ≤ 10000) (hc : N ≤ C) : Calls Try.prog 25 #[.slice a N C, .int .i64 z] W (UfPost W (ps.map PV.p) z) := by
  by_cases h : 1 ≤ z ∧ z ≤ 64
  · obtain ⟨m, rfl⟩ : ∃ m : Nat, z = (m : Int) := ⟨z.toNat, by omega⟩
    refine (ucut_any N C m hn hL hf hc (by omega) (by omega)).mono ?_
    rintro e w' ⟨A, C', os, rfl, hl, hp, hB⟩
    exact ⟨A, C', os, by unfold cz; rw [if_pos h], hl, by unfold cutZ; rw [if_pos h]; exact hp, hB⟩
  · refine (ucut_bad N C z h).mono ?_
    rintro e w' ⟨rfl, hB⟩
    exact ⟨none, 0, [], by unfold cz; rw [if_neg h]; rfl, ⟨fun x hx => (by cases hx), fun q => absurd rfl q⟩, by unfold cutZ; rw [if_neg h]; rfl, hB⟩
/-- The blocks that the first k parts hold. -/
def SgK (lo hi : Nat → Nat) (k : Nat) (g : Nat) : Prop := ∃ i, i < k ∧ Seg (lo i) (hi i) g
/-- What the loop may hold to: Z's lists lie apart. -/
structure CcP (B1 : Nat) (Z : World) (g0 : Nat) (os : List LV) (lo hi : Nat → Nat) : Prop where
  cel : ∀ i x, os[i]? = some x → Z.cell? ⟨g0, i, none⟩ = some x.v
  lt : os ≠ [] → g0 < Z.heap.size
  ov : ∀ i x, os[i]? = some x → OvP Z (lo i) (hi i) x ∧ B1 ≤ lo i ∧ hi i ≤ Z.heap.size
  dis : ∀ i j, i < j → j < os.length → hi i ≤ lo j
  out : ∀ i, i < os.length → ¬ Seg (lo i) (hi i) g0
theorem CcP.of {B1 : Nat} {Z Z2 : World} {A : Option Addr} {C : Nat} {os : List LV} (hO : OwnLs Z 0 (.slice A os.length C) os) (hI : Ivs B1 (.slice A os.length C) os Z) (hB : Below Z.heap.size Z Z2) : ∃ g0 lo hi, CcP B1 Z2 g0 os lo hi ∧ (os ≠ [] → A = some ⟨g0, 0, none⟩) := by
  obtain ⟨lo, hi, h1, h2, h3⟩ := hI.same (W' := Z2) (fun g _ hg _ => hB.block g hg) hB.size
  rcases hO.form with ⟨_, h0⟩ | ⟨g, cap, hv, _, _, hg, hR⟩
  · subst h0
    exact ⟨0, lo, hi, ⟨fun i x h => (by cases h), fun q => absurd rfl q, fun i x h => (by cases h), h2, fun i h => (by cases h)⟩, fun q => absurd rfl q⟩
  · injection hv with ha _ _
    subst ha
    refine ⟨g, lo, hi, ⟨fun i x hx => ?_, fun _ => Nat.lt_of_lt_of_le hg hB.size, h1, h2, fun i hi2 => h3 g (by simp [Value.ownBlock]) i hi2⟩, fun _ => rfl⟩
    have := hR.1 i x.v (by unfold lcs; rw [List.getElem?_map, hx]; rfl)
    rw [Nat.zero_add] at this
    exact (hB.cell (p := ⟨g, i, none⟩) hg).trans this
theorem CcP.next {B1 : Nat} {Z wr : World} {g0 k : Nat} {os : List LV} {lo hi : Nat → Nat} {x : LV} (h : CcP B1 Z g0 os lo hi) (hO : OfS (SgK lo hi k) Z wr) (hx : os[k]? = some x) : wr.cell? ⟨g0, k, none⟩ = some x.v ∧ OvP wr (lo k) (hi k) x := by
  have hk := (List.getElem?_eq_some_iff.1 hx).1
  constructor
  · have e := hO.block g0 (h.lt (fun q => by rw [q] at hk; cases hk)) (fun ⟨i, hi2, hs⟩ => h.out i (by omega) hs)
    exact (World.cell?_of_block (w := Z) (a := ⟨g0, k, none⟩) e).trans (h.cel k x hx)
  · refine (h.ov k x hx).1.same (fun g hg hl => hO.block g hl (fun ⟨i, hi2, hs⟩ => ?_)) hO.size
    have := h.dis i k hi2 hk
    have a := hs.2
    have b := hg.1
    omega
theorem CcP.step {Z wr w' : World} {k : Nat} {lo hi : Nat → Nat} (hO : OfS (SgK lo hi k) Z wr) (h : OfS (Seg (lo k) (hi k)) wr w') : OfS (SgK lo hi (k + 1)) Z w' := (hO.mono (fun b ⟨i, hi2, hs⟩ => ⟨i, by omega, hs⟩)).trans (h.mono (fun b hs => ⟨k, by omega, hs⟩))
set_option maxRecDepth 100000 in
set_option maxHeartbeats 400000 in
theorem mcuts_any {W : World} {A : Option Addr} {ps : List PV} (N C : Nat) (z : Int) (hn : ps.length = N) (hL : Lst W A ps) (hC : N ≤ C) : Calls Try.prog 4 #[.slice A N C, .int .i64 z] W fun e w' => e = .returned (.bool true) ∧ Below W.heap.size W w' := by
  have HL := hidIt hL
  have HN := hidIt (And.intro hn hC)
  clear hL hn hC
  go_enter Try.func4, Try.ntmps4
  go_wp2_with (go_at_call 22; refine (large_gen N C 300 300 rfl (by decide) HN.out.1 HL.out).mono ?_; rintro e w2 ⟨bb, rfl, hw, hbb⟩; rw [hw]; clear hw w2; have BB := hidIt hbb; clear hbb; refine Held.out ?_)
  cases bb with
  | true =>
    refine Held.mk ?_
    go_wp2_with fail
    exact bodyPost_ret (v := .bool true) (by simp [results, Try.results4, go_sem]) rfl ⟨rfl, Below.refl _ _⟩
  | false =>
    obtain ⟨n300, hsm⟩ := BB.out rfl
    have SM := hidIt hsm
    have L3 := hidIt (show N ≤ 300 by have := HN.out.1; omega)
    have FW := hidIt (cutZ_few (l := ps.map PV.p) (z := z) (by rw [List.length_map]; exact n300))
    clear n300 hsm BB
    have t1 : Hid True := trivial
    refine Held.mk ?_
    obtain ⟨c, hc⟩ : ∃ c, c = cz z := ⟨_, rfl⟩
    have CE := hidIt hc
    have ce : (c != c) = false := by simp
    clear hc
    go_wp2_with (first
      | (go_at_call 23; refine (copyPairs_gen (N := []) N C HN.out.1 HL.out (by have := L3.out; omega) SM.out (fun b hb => (by cases hb))).mono ?_; rintro e W2 ⟨ya, yc, yps, rfl, hq, hp, hl, b2⟩; clear hq; have Y2 := hidIt hl.ok; have P2 := hidIt hp; have B2 := hidIt b2; obtain ⟨yn, hyn⟩ : ∃ yn, yps.length = yn := ⟨_, rfl⟩; rw [hyn]; have YN := hidIt hyn; have YL : Hid (yn = N) := hidIt (by rw [← hyn, ← HN.out.1]; simpa using congrArg List.length hp); clear hl hp b2 hyn)
      | (go_at_call 24; refine (cut_full yn yc z YN.out Y2.out.1 (by have := L3.out; have := YL.out; omega) (by have := Y2.out.2; have := YN.out; simp at *; omega) (fun x hx => by have hm : x.p ∈ ps.map PV.p := (by rw [← P2.out]; exact List.mem_map.2 ⟨x, hx, rfl⟩); obtain ⟨y, hy, e⟩ := List.mem_map.1 hm; have := SM.out y hy; unfold Sm at this; rw [← e]; omega)).mono ?_; rintro e W3 ⟨oa, oc, os, rfl, hO, hok, hp, hi, b3⟩; rw [P2.out] at hp; rw [← CE.out]; have O3 := hidIt (And.intro hO hi); have K3 := hidIt (hO.lsts hok); have PO := hidIt hp; have B3 := hidIt (B2.out.trans (b3.mono B2.out.size)); have Y3 := hidIt (Y2.out.below b3); have D3 := hidIt b3; obtain ⟨on, hon⟩ : ∃ on, os.length = on := ⟨_, rfl⟩; rw [hon]; have ON := hidIt hon; have O300 : Hid (on ≤ 300) := hidIt (by have := FW.out.1; rw [← hp] at this; simp [prs] at this; omega); clear hO hok hp hi b3 hon)
      | (go_at_call 25; refine (ucut_full N C z HN.out.1 (HL.out.below B3.out) (by have := L3.out; omega) HN.out.2).mono ?_; rintro e W4 ⟨va, vc, vs, rfl, hl, hp, b4⟩; rw [← CE.out]; have V4 := hidIt hl; have PV4 := hidIt hp; have K4 := hidIt (K3.out.below b4); have B4 := hidIt (B3.out.trans (b4.mono B3.out.size)); have Y4 := hidIt (Y3.out.below b4); have D4 := hidIt b4; obtain ⟨vn, hvn⟩ : ∃ vn, vs.length = vn := ⟨_, rfl⟩; rw [hvn]; have VN := hidIt hvn; clear hl hp b4 hvn)
      | (go_at_call 18; refine (sameLists_any on vn oc vc ON.out VN.out K4.out V4.out (by have := O300.out; omega) (fun x hx => by have := FW.out.2 (x.ps.map PV.p) (by rw [← PO.out]; exact List.mem_map.2 ⟨x, hx, rfl⟩); rw [List.length_map] at this; omega)).mono ?_; rintro e W5 ⟨h1, b5⟩; have h2 : e = .returned (.bool true) := (by rw [h1, PO.out, PV4.out]; simp); subst h2; clear h1; have B5 := hidIt (B4.out.trans (b5.mono B4.out.size)); have Y5 := hidIt (Y4.out.below b5); have D5 := hidIt (D4.out.trans (b5.mono D4.out.size)); clear b5)
      | (go_at_call 16; have _q := t1; clear t1 _q; refine (samePairs_any yn N yc C YN.out HN.out.1 Y5.out.1 (HL.out.below B5.out) (by have := YL.out; have := L3.out; omega)).mono ?_; rintro e W6 ⟨h1, b6⟩; have h2 : e = .returned (.bool true) := (by rw [h1, P2.out]; simp); subst h2; clear h1; have B6 := hidIt (B5.out.trans (b6.mono B5.out.size)); have D6 := hidIt (D5.out.trans (b6.mono D5.out.size)); clear b6))
    obtain ⟨g0, lo, hi, hcc, hoa⟩ := CcP.of (Z2 := W6) O3.out.1 O3.out.2 D6.out
    have CP := hidIt hcc
    have OA := hidIt hoa
    have st : Hid (OfS (SgK lo hi 0) W6 W6) := hidIt (OfS.refl _ _)
    clear hcc hoa ce
    go_loopw [10] (fun i wr => ∃ k : Nat, k ≤ on ∧ i = .int .i64 (k : Int) ∧ Hid (OfS (SgK lo hi k) W6 wr)) (fun i _ => on - (RowKit.intOf i).toNat)
    case atStart => exact ⟨0, Nat.zero_le _, rfl, st⟩
    case round =>
      clear st
      obtain ⟨k, hk, rfl, hI⟩ := hrel
      by_cases hlt : k < on
      · obtain ⟨x, hx⟩ : ∃ x, os[k]? = some x := ⟨_, List.getElem?_eq_getElem (by have := ON.out; omega)⟩
        obtain ⟨hc, hov⟩ := CP.out.next hI.out hx
        have ha := OA.out (fun q => by rw [q] at hx; cases hx)
        subst ha
        have OV := hidIt hov
        have xl : x.ps.length ≤ 64 := by
          have := FW.out.2 (x.ps.map PV.p) (by rw [← PO.out]; exact List.mem_map.2 ⟨x, List.mem_of_getElem? hx, rfl⟩)
          rwa [List.length_map] at this
        have XL := hidIt xl
        have LT := hidIt hlt
        obtain ⟨i0, i1, i2, i3⟩ := k_ar k on hlt (by have := O300.out; omega)
        unfold LV.v at hc
        obtain ⟨xn, hxn⟩ : ∃ xn, x.ps.length = xn := ⟨_, rfl⟩
        rw [hxn] at hc
        have XN := hidIt hxn
        clear hx hov xl hlt hk hxn
        go_wp2_with (go_at_call 19; refine (overPairs_any (S := Seg (lo k) (hi k)) (os := x.ps) xn x.c XN.out (by have := XN.out; have := XL.out; omega) OV.out).mono ?_; rintro e w7 ⟨rfl, h7⟩; have NX := hidIt (CcP.step hI.out h7); clear h7 hc)
        exact ⟨⟨k + 1, LT.out, rfl, NX⟩, meas_k on k _ rfl LT.out⟩
      · obtain rfl : k = on := by omega
        have i0 : ((k : Int) < (k : Int)) = False := eq_false (by omega)
        have DB : Hid (Below W2.heap.size W2 wr) := hidIt (by
          have b26 : Below W2.heap.size W2 W6 := D3.out.trans (D6.out.mono D3.out.size)
          refine b26.trans (hI.out.below (fun b ⟨i, hi2, hs⟩ => ?_) b26.size)
          obtain ⟨y, hy⟩ : ∃ y, os[i]? = some y := ⟨_, List.getElem?_eq_getElem (by have := ON.out; omega)⟩
          have := (CP.out.ov i y hy).2.1
          have := hs.1
          omega)
        have QB := hidIt (B2.out.trans (DB.out.mono B2.out.size))
        clear hlt hk hI
        go_wp2_with (first
          | (go_at_call 16; refine (samePairs_any yn N yc C YN.out HN.out.1 (Y2.out.below DB.out).1 (HL.out.below QB.out) (by have := YL.out; have := L3.out; omega)).mono ?_; rintro e W8 ⟨h1, hb⟩; have h2 : e = .returned (.bool true) := (by rw [h1, P2.out]; simp); subst h2; clear h1; have B8 := hidIt (QB.out.trans (hb.mono QB.out.size)); clear hb)
          | (go_at_call 21; refine (lawake_any W8).mono ?_; rintro e W9 ⟨rfl, hb⟩; have B9 := hidIt (B8.out.trans (hb.mono B8.out.size)); clear hb))
        exact bodyPost_ret (v := .bool true) (by simp [results, Try.results4, go_sem]) rfl ⟨rfl, B9.out⟩
end Go.Proofs.Ytnocjhefkkfanaa
