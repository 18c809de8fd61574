/-
  Walks, not a claim by itself: what is found behind a merge, plain. By the verifier.
-/
import Derived.Test.YtgpafmgncolnmaaMgTx
namespace Go.Proofs.Ytgpafmgncolnmaa
open Go.RowKit
theorem fnd_filter (f : Pr → Bool) (k : ByteArray) : ∀ l : List Pr, Srt l → fnd (l.filter f) k = (fnd l k).filter f
  | [], _ => by simp [fnd]
  | a :: r, h => by
    obtain ⟨h1, h2⟩ := List.pairwise_cons.1 h
    rw [fnd_cons]
    by_cases e : a.k = k
    · rw [if_pos e]
      have no : fnd (r.filter f) k = none := fnd_none_of_lt fun y hy => by rw [← e]; exact h1 y (List.mem_filter.1 hy).1
      cases hf : f a with
      | true => rw [List.filter_cons_of_pos hf, fnd_cons, if_pos e, Option.filter_some, if_pos hf]
      | false => rw [List.filter_cons_of_neg (by simp [hf]), no, Option.filter_some, if_neg (by simp [hf])]
    · rw [if_neg e, ← fnd_filter f k r h2]
      cases hf : f a with
      | true => rw [List.filter_cons_of_pos hf, fnd_cons, if_neg e]
      | false => rw [List.filter_cons_of_neg (by simp [hf])]
theorem fnd_mrg (m : List (List Pr)) (drop : Bool) (k : ByteArray) : fnd (mrgD m drop) k = (fnd m.flatten k).filter fun p => !(drop && p.g) := by
  rw [mrgD_one, fnd_filter _ _ _ (oneD_srt _), oneD_fnd]
theorem mrgD_srt (m : List (List Pr)) (drop : Bool) : Srt (mrgD m drop) := by rw [mrgD_one]; exact (oneD_srt _).filter _
theorem fnd_more {l : List Pr} {j : Nat} {p : Pr} (k : ByteArray) (hs : Srt l) (h : l[j]? = some p) : fnd (l.take (j + 1)) k = if p.k = k then some p else fnd (l.take j) k := by
  obtain ⟨hj, rfl⟩ := List.getElem?_eq_some_iff.1 h
  rw [List.take_succ_eq_append_getElem hj, fnd_append]
  by_cases e : (l[j]).k = k
  · rw [if_pos e]
    have no : fnd (l.take j) k = none := by
      unfold fnd
      rw [List.find?_eq_none]
      intro q hq
      obtain ⟨i, hi, rfl⟩ := List.getElem_of_mem hq
      rw [List.length_take] at hi
      rw [List.getElem_take]
      have g := List.pairwise_iff_getElem.1 hs i j (by omega) hj (by omega)
      have ne : (l[i]'(by omega)).k ≠ k := fun q => by
        rw [q, ← e, c_self] at g
        omega
      simpa using ne
    rw [no, fnd_cons, if_pos e]
    rfl
  · rw [if_neg e, fnd_cons, if_neg e]
    simp [fnd]
theorem sum_le (m : List (List Pr)) (n : Nat) (h : ∀ l ∈ m, l.length ≤ n) : (m.map List.length).sum ≤ m.length * n := by
  induction m with
  | nil => simp
  | cons a r ih =>
    have h1 := h a (by simp)
    have h2 := ih fun l hl => h l (by simp [hl])
    rw [List.map_cons, List.sum_cons, List.length_cons, Nat.succ_mul]
    omega
theorem chkD_two {m : List (List Pr)} (h1 : m.length ≤ 32) (h2 : ∀ l ∈ m, l.length ≤ 40) (h : chkD m ≠ 0) : chkD m = 2 := by
  have h3 := sum_le m 40 h2
  have h4 : m.length * 40 ≤ 1280 := Nat.mul_le_mul_right 40 h1
  unfold chkD at h ⊢
  rw [if_neg (by omega)] at h ⊢
  split at h
  · exact absurd rfl h
  · rename_i q
    rw [if_neg q]
theorem mrg_sz2 {xs : List PV} {ls : List LV} {drop : Bool} (h : xs.map PV.p = mrgD (prs ls) drop) (z : ∀ x ∈ allP ls, x.p.k.size ≤ 1000000 ∧ x.p.v.size ≤ 1000000) : ∀ x ∈ xs, x.p.k.size ≤ 1000000 ∧ x.p.v.size ≤ 1000000 := fun x hx => by
  have hm : x.p ∈ mrgD (prs ls) drop := by rw [← h]; exact List.mem_map.2 ⟨x, hx, rfl⟩
  rw [mrgD_one] at hm
  have := (oneD_mem _ [] _ (List.mem_filter.1 hm).1).resolve_left (by simp)
  rw [prs_flat] at this
  obtain ⟨y, hy, e⟩ := List.mem_map.1 this
  rw [← e]
  exact z y hy
/-- What was found, and what is told of it. -/
def FnS (o : Option Pr) (y : PV) (b : Bool) : Prop := (o = some y.p ∧ b = true) ∨ (o = none ∧ y.p = zeroP.p ∧ b = false)
theorem FnS.same {o : Option Pr} {x y : PV} {b c : Bool} (h : FnS o x b) (k : FnS o y c) : x.p = y.p ∧ b = c := by
  rcases h with ⟨h1, h2⟩ | ⟨h1, h2, h3⟩ <;> rcases k with ⟨k1, k2⟩ | ⟨k1, k2, k3⟩
  · rw [h1] at k1
    injection k1 with k1
    exact ⟨k1, h2.trans k2.symm⟩
  · rw [h1] at k1; cases k1
  · rw [h1] at k1; cases k1
  · exact ⟨h2.trans k2.symm, h3.trans k3.symm⟩
/-- What holds while the newest pair is looked up. -/
structure FiI (Z : World) (o : Option Pr) (wr : World) (y : PV) (b : Bool) : Prop where
  below : Below Z.heap.size Z wr
  rc : Rec19 wr Z.heap.size 0 [y.k, y.v, .bool y.p.g]
  ok : PVOk Z [] y
  is : FnS o y b
theorem cs3 {w : World} {N : List Nat} {x : PV} (h : PVOk w N x) : ∀ u ∈ ([x.k, x.v, .bool x.p.g] : List Value), u.oneCell' = true := h.one
theorem fi_go (l : List Pr) (j : Nat) (p : Pr) (k : ByteArray) (rest : Option Pr) (hs : Srt l) (h : l[j]? = some p) : (fnd (l.take (j + 1)) k).or rest = if p.k = k then some p else (fnd (l.take j) k).or rest := by
  rw [fnd_more k hs h]
  by_cases e : p.k = k
  · rw [if_pos e, if_pos e]; rfl
  · rw [if_neg e, if_neg e]
theorem fi_end (ls : List LV) (s : Nat) (x : LV) (k : ByteArray) (h : ls[s]? = some x) : (fnd (x.ps.map PV.p) k).or (fnd (prs (ls.drop (s + 1))).flatten k) = fnd (prs (ls.drop s)).flatten k := by
  obtain ⟨hs, rfl⟩ := List.getElem?_eq_some_iff.1 h
  have e : prs (ls.drop s) = ((ls[s]).ps.map PV.p) :: prs (ls.drop (s + 1)) := by
    rw [List.drop_eq_getElem_cons hs]
    rfl
  rw [e, List.flatten_cons, fnd_append]
theorem meas_d (s : Nat) (z : Int) (hz : z = (s : Int) - 1) : (RowKit.intOf (.int .i64 z) + 1).toNat < (RowKit.intOf (.int .i64 (s : Int)) + 1).toNat := by
  simp only [RowKit.intOf]
  omega
end Go.Proofs.Ytgpafmgncolnmaa
