/-
  Walks, not a claim by itself: the law of lists as one, and of what is told of a key. By the verifier.
-/
import Derived.Test.YtgpafmgncolnmaaMgLm
namespace Go.Proofs.Ytgpafmgncolnmaa
open Go.RowKit
theorem k_big (k n : Nat) (h : k < n) (hn : n ≤ 1152921504606846976) : (k : Int) < (n : Int) ∧ (0 : Int) ≤ (k : Int) ∧ wrap64 ((k : Int) + 1) = (k : Int) + 1 ∧ IntKind.i64.wrap ((k : Int) + 1) = (k : Int) + 1 := ⟨by omega, by omega, by unfold wrap64; omega, by rw [IntKind.wrap_i64]; omega⟩
set_option maxRecDepth 100000 in
set_option maxHeartbeats 1000000 in
theorem llong_any {W : World} {A : Option Addr} {ls : List LV} (L C : Nat) (hL : ls.length = L) (h : Lsts W A ls) (hf : L ≤ 1152921504606846976) : Calls Try.prog 10 #[.slice A L C] W fun e w' => (∃ b, e = .returned (.bool b)) ∧ w' = W := by
  have HL := hidIt h
  have HN := hidIt (And.intro hL hf)
  clear h hL hf
  go_enter Try.func10, Try.ntmps10
  go_wp2_with fail
  go_loopw [3, 4] (fun s i wr => ∃ (k : Nat) (z : Int), k ≤ L ∧ i = .int .i64 (k : Int) ∧ s = .int .i64 z ∧ wr = W) (fun _ i _ => L - (RowKit.intOf i).toNat)
  case atStart => exact ⟨0, 0, Nat.zero_le _, rfl, rfl, rfl⟩
  case round =>
    obtain ⟨k, z, hk, rfl, rfl, rfl⟩ := hrel
    by_cases hlt : k < L
    · obtain ⟨x, hx⟩ : ∃ x, ls[k]? = some x := ⟨_, List.getElem?_eq_getElem (by have := HN.out.1; omega)⟩
      obtain ⟨b, o, ha, hc, hb⟩ := HL.out.at k x hx
      subst ha
      have LT := hidIt hlt
      have MK := hidIt (meas_k L k _ rfl hlt)
      obtain ⟨i0, i1, i2, i3⟩ := k_big k L hlt HN.out.2
      unfold LV.v at hc
      generalize x.ps.length = m at *
      clear hb hx hlt hk
      as_aux_lemma =>
        go_wp2_with fail
        go_roundw
        case rel => exact ⟨k + 1, _, LT.out, rfl, rfl, trivial⟩
        case measure => exact MK.out
    · obtain rfl : k = L := by omega
      have i0 : ((k : Int) < (k : Int)) = False := eq_false (by omega)
      clear hk hlt
      by_cases h1 : k ≤ 40
      · have e1 : ((k : Int) ≤ 40) = True := eq_true (by omega)
        have e1' : (k ≤ 40) = True := eq_true h1
        by_cases h2 : z ≤ 4200
        · have e2 : (z ≤ 4200) = True := eq_true h2
          by_cases h3 : 32 < k
          · have e3 : (32 < (k : Int)) = True := eq_true (by omega)
            have e3' : (32 < k) = True := eq_true h3
            clear h1 h2 h3
            as_aux_lemma =>
              go_wp2_with fail
              exact bodyPost_ret (v := .bool true) (by simp [results, Try.results10, go_sem]) rfl ⟨⟨_, rfl⟩, rfl⟩
          · have e3 : (32 < (k : Int)) = False := eq_false (by omega)
            have e3' : (32 < k) = False := eq_false h3
            by_cases h4 : 4096 < z
            · have e4 : (4096 < z) = True := eq_true h4
              clear h1 h2 h3 h4
              as_aux_lemma =>
                go_wp2_with fail
                exact bodyPost_ret (v := .bool true) (by simp [results, Try.results10, go_sem]) rfl ⟨⟨_, rfl⟩, rfl⟩
            · have e4 : (4096 < z) = False := eq_false h4
              clear h1 h2 h3 h4
              as_aux_lemma =>
                go_wp2_with fail
                exact bodyPost_ret (v := .bool false) (by simp [results, Try.results10, go_sem]) rfl ⟨⟨_, rfl⟩, rfl⟩
        · have e2 : (z ≤ 4200) = False := eq_false h2
          clear h1 h2
          as_aux_lemma =>
            go_wp2_with fail
            exact bodyPost_ret (v := .bool false) (by simp [results, Try.results10, go_sem]) rfl ⟨⟨_, rfl⟩, rfl⟩
      · have e1 : ((k : Int) ≤ 40) = False := eq_false (by omega)
        have e1' : (k ≤ 40) = False := eq_false h1
        clear h1
        as_aux_lemma =>
          go_wp2_with fail
          exact bodyPost_ret (v := .bool false) (by simp [results, Try.results10, go_sem]) rfl ⟨⟨_, rfl⟩, rfl⟩
/-- What is merged, or nothing. -/
def mrgZ (m : List (List Pr)) (drop : Bool) : List Pr := if chkD m = 0 then mrgD m drop else []
/-- Merge's answer in one form. -/
def M1Post (W : World) (m : List (List Pr)) (drop : Bool) (e : Ending) (w' : World) : Prop := ∃ a c qs, e = .returned (.tuple #[.slice a (qs : List PV).length c, .int .i64 (chkD m)]) ∧ OwnP w' 0 (.slice a qs.length c) qs ∧ (∀ g, (Value.slice a qs.length c).ownBlock = some g → W.heap.size ≤ g) ∧ (∀ x ∈ qs, (FrC w' W.heap.size x.k x.p.k ∧ FrC w' W.heap.size x.v x.p.v) ∧ PVOk w' (Value.slice a qs.length c).ownBlock.toList x) ∧ qs.map PV.p = mrgZ m drop ∧ qs.length ≤ 5000 ∧ Below W.heap.size W w'
theorem merge_one {W : World} {A : Option Addr} {ls : List LV} {drop : Bool} (L C : Nat) (hL : ls.length = L) (h : Lsts W A ls) (hf : L ≤ 1000) (hz : ∀ x ∈ allP ls, x.p.k.size ≤ 1000000 ∧ x.p.v.size ≤ 1000000) (hs : ∀ x ∈ ls, x.ps.length ≤ 10000) : Calls Try.prog 12 #[.slice A L C, .bool drop] W (M1Post W (prs ls) drop) := by
  refine (merge_any L C hL h hf hz hs).mono ?_
  rintro e w' ⟨hB, (⟨h0, rfl⟩ | ⟨h0, lv, qs, rfl, hO, hn, hq, hm, hl⟩)⟩
  · rw [chkC_eq] at h0 ⊢
    exact ⟨none, 0, [], rfl, OwnP.nil _ _, fun g hg => (by cases hg), fun x hx => (by cases hx), by unfold mrgZ; rw [if_neg h0]; rfl, Nat.zero_le _, hB⟩
  · rw [chkC_eq] at h0
    obtain ⟨a, c, rfl, _⟩ := own_lst hO (fun x hx => (hq x hx).2)
    exact ⟨a, c, qs, by rw [h0], hO, hn, hq, by unfold mrgZ; rw [if_pos h0, hm, mrgR_eq], hl, hB⟩
/-- The reference's in one form. -/
def U1Post (W : World) (m : List (List Pr)) (drop : Bool) (e : Ending) (w' : World) : Prop := ∃ a c qs, e = .returned (.tuple #[.slice a (qs : List PV).length c, .int .i64 (chkD m)]) ∧ Lst w' a qs ∧ qs.map PV.p = mrgZ m drop ∧ Below W.heap.size W w'
theorem umerge_one {W : World} {A : Option Addr} {ls : List LV} {drop : Bool} (L C : Nat) (hL : ls.length = L) (h : Lsts W A ls) (hf : L ≤ 1000) (hs : ∀ x ∈ ls, x.ps.length ≤ 10000) : Calls Try.prog 13 #[.slice A L C, .bool drop] W (U1Post W (prs ls) drop) := by
  refine (umerge_any L C hL h hf hs).mono ?_
  rintro e w' ⟨hB, (⟨h0, rfl⟩ | ⟨h0, a, c, qs, rfl, hl, hm⟩)⟩
  · rw [chkC_eq] at h0 ⊢
    exact ⟨none, 0, [], rfl, ⟨fun x hx => (by cases hx), fun q => absurd rfl q⟩, by unfold mrgZ; rw [if_neg h0]; rfl, hB⟩
  · rw [chkC_eq] at h0
    exact ⟨a, c, qs, by rw [h0], hl, by unfold mrgZ; rw [if_pos h0, hm, mrgR_eq], hB⟩
/-- The reference's Find in one form. -/
def F1Post (W : World) (l : List Pr) (k : ByteArray) (e : Ending) (w' : World) : Prop := ∃ (x : PV) (b : Bool), e = .returned (.tuple #[.agg x.cs.toArray, .bool b]) ∧ PVOk w' [] x ∧ Below W.heap.size W w' ∧ FnS (fnd l k) x b
theorem ufind_one {W : World} {A : Option Addr} {ls : List LV} {N : List Nat} {key : Value} {k : ByteArray} (L C : Nat) (hL : ls.length = L) (h : Lsts W A ls) (hf : L ≤ 1000) (hs : ∀ x ∈ ls, x.ps.length ≤ 10000) (hk : Txt W N key k) : Calls Try.prog 15 #[.slice A L C, key] W (F1Post W (prs ls).flatten k) := by
  refine (ufind_any L C hL h hf hs hk).mono ?_
  rintro e w' ⟨hB, (⟨x, hx, rfl⟩ | ⟨hx, rfl⟩)⟩
  · refine ⟨x, true, rfl, ?_, hB, .inl ⟨by rw [prs_flat, fnd_fv, hx]; rfl, rfl⟩⟩
    obtain ⟨y, hy, hm⟩ := List.mem_flatMap.1 (fv_mem hx).1
    exact ((h.1 y hy).1.1 x hm).below hB
  · exact ⟨zeroP, false, rfl, zero_ok _ _, hB, .inr ⟨by rw [prs_flat, fnd_fv, hx]; rfl, rfl, rfl⟩⟩
end Go.Proofs.Ytgpafmgncolnmaa
