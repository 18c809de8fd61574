/-
  Walks, not a claim by itself: level's Spans. By the verifier.
-/
import Derived.Test.YtelcijfcgflagaaLvSg
namespace Go.Proofs.Ytelcijfcgflagaa
open Go.RowKit
attribute [-go_sem] Builtin.append_
/-- The tables that span a key between two, of levels. -/
def spD (m : List (List Rn)) (f t : ByteArray) : List Rn := if mayB m then m.flatten.filter (inB f t) else []
theorem flt_rns : ∀ (b : Nat) (ls : List LR), (flt b ls).map (fun q => q.2.r) = (rns ls).flatten
  | _, [] => rfl
  | b, x :: r => by
    have ih := flt_rns (b + 1) r
    simp only [flt, List.map_append, ih, List.map_map]
    rfl
theorem sgL_spD {ls : List LR} (f t : ByteArray) : (sgL (flt 0 ls) f t).map RV.r = (rns ls).flatten.filter (inB f t) := by
  unfold sgL
  rw [← flt_rns 0 ls, List.filter_map, List.filter_map, List.map_map]
  rfl
set_option maxRecDepth 100000 in
set_option maxHeartbeats 1000000 in
theorem lspans_any {W : World} {A : Option Addr} {ls : List LR} {N M : List Nat} {fv tv : Value} {ft tt : ByteArray} (L C : Nat) (hL : ls.length = L) (h : Lvs W A ls) (hs : ∀ x ∈ ls, x.rs.length ≤ 1000) (hz : ∀ x ∈ ls, ∀ y ∈ x.rs, y.r.f.size ≤ 1000000 ∧ y.r.l.size ≤ 1000000) (hf : Txt W N fv ft) (ht : Txt W M tv tt) : Calls Try.prog 43 #[.slice A L C, fv, tv] W (CsPost W (spD (rns ls) ft tt)) := by
  have HL := hidIt h
  have HN := hidIt (And.intro hL (And.intro hs hz))
  have HF := hidIt hf
  have HT := hidIt ht
  clear h hL hs hz hf ht
  by_cases hm : mayB (rns ls) = true
  · have MI : Hid (mayI (rns ls) = 0) := hidIt (by unfold mayI; rw [if_pos hm])
    have L4 : Hid (L ≤ 4) := hidIt (by have := ((mayB_at _).1 hm).1; have := HN.out.1; simp [rns] at *; omega)
    have SD : Hid (spD (rns ls) ft tt = (sgL (flt 0 ls) ft tt).map RV.r) := hidIt (by unfold spD; rw [if_pos hm, sgL_spD])
    have FEW : Hid ((sgL (flt 0 ls) ft tt).length ≤ 50000 ∧ ∀ y ∈ sgL (flt 0 ls) ft tt, y.r.f.size ≤ 1000000 ∧ y.r.l.size ≤ 1000000) := hidIt (by
      unfold sgL
      refine ⟨Nat.le_trans (List.length_filter_le _ _) ?_, fun y hy => ?_⟩
      · rw [List.length_map]
        have := flt_few HN.out.2.1 (b := 0)
        have := HN.out.1
        have := L4.out
        omega
      · obtain ⟨q, hq, rfl⟩ := List.mem_map.1 (List.mem_filter.1 hy).1
        obtain ⟨k, hk⟩ := List.mem_iff_getElem?.1 hq
        exact flt_sz HN.out.2.2 (i := q.1) (y := q.2) hk)
    clear hm
    go_enter Try.func43, Try.ntmps43
    go_wp2_with (first
      | (go_at_call 17; refine (lcheck_any L C HN.out.1 HL.out (fun x hx => by have := HN.out.2.1 x hx; omega)).mono ?_; rw [MI.out]; rintro e W2 ⟨rfl, hb⟩; have E2 := hidIt hb; clear hb)
      | (go_at_call 60; refine (spanning_any L C HN.out.1 (HL.out.below E2.out) L4.out HN.out.2.1 (HF.out.below E2.out) (HT.out.below E2.out)).mono ?_; rintro e W3 ⟨a, c, rfl, hl, hb⟩; have K3 := hidIt hl; have E3 := hidIt (E2.out.trans (hb.mono E2.out.size)); obtain ⟨sn, hsn⟩ : ∃ sn, (sgL (flt 0 ls) ft tt).length = sn := ⟨_, rfl⟩; rw [hsn]; have SN := hidIt hsn; clear hl hb hsn)
      | (go_at_call 32; refine (copiedTables_any sn c SN.out K3.out (by have := FEW.out.1; have := SN.out; omega) FEW.out.2).mono ?_; rintro e W4 ⟨a4, c4, os, rfl, h1, h2, h3, h5, hb⟩; have FIN : Hid (CsPost W (spD (rns ls) ft tt) (.returned (.slice a4 os.length c4)) W4) := hidIt ⟨a4, c4, os, rfl, h1, fun b hb => Nat.le_trans E3.out.size (h2 b hb), fun x hx => ⟨⟨(h3 x hx).1.1.low E3.out.size, (h3 x hx).1.2.low E3.out.size⟩, (h3 x hx).2⟩, by rw [SD.out]; exact h5, E3.out.trans (hb.mono E3.out.size)⟩; clear h1 h2 h3 h5 hb))
    exact bodyPost_ret (v := .slice a4 os.length c4) (by simp [results, Try.results43, go_sem]) rfl FIN.out
  · have MI : Hid (mayI (rns ls) = 2) := hidIt (by unfold mayI; rw [if_neg hm])
    have SD : Hid (spD (rns ls) ft tt = []) := hidIt (by unfold spD; rw [if_neg hm])
    clear hm
    go_enter Try.func43, Try.ntmps43
    go_wp2_with (go_at_call 17; refine (lcheck_any L C HN.out.1 HL.out (fun x hx => by have := HN.out.2.1 x hx; omega)).mono ?_; rw [MI.out]; rintro e W2 ⟨rfl, hb⟩; have E2 := hidIt hb; clear hb)
    exact bodyPost_ret (v := .slice none 0 0) (by simp [results, Try.results43, go_sem]) rfl ⟨none, 0, [], rfl, OwnR.nil _ _, fun b hb => (by cases hb), fun x hx => (by cases hx), SD.out.symm, E2.out⟩
end Go.Proofs.Ytelcijfcgflagaa
