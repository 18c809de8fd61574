/-
  Plain facts, not a claim by itself: the records that readBatch's answer owns. By the verifier.
-/
import Derived.Test.YtlcnhmlcmedonaaXReadT
import Derived.Test.YtlcnhmlcmedonaaLead
namespace Go.Proofs.Ytlcnhmlcmedonaa
open Go.RowKit
theorem recCells_len {c : Nat} (f : Nat → Int) : ∀ l : List (Fin c), (recCells f l).length = l.length * 19
  | [] => rfl
  | x :: l => by
    have := recCells_len f l
    unfold recCells at this ⊢
    rw [List.flatMap_cons, List.length_append, this, List.length_cons, Fld.cells_len]
    omega
theorem recCells_at (c : Nat) (f : Nat → Int) : ∀ k, k ≤ c → ∀ i j, i < k → j < 19 → (recCells f (upTo c k))[i * 19 + j]? = (recOf fun t => f (i * 128 + t)).cells[j]?
  | 0, _, i, j, hi, _ => absurd hi (by omega)
  | k + 1, hk, i, j, hi, hj => by
    have hl : (recCells f (upTo c k)).length = k * 19 := by rw [recCells_len, upTo_length c k (by omega)]
    rw [upTo_succ c k (by omega), recCells_snoc]
    by_cases e : i < k
    · rw [List.getElem?_append_left (by rw [hl]; omega)]
      exact recCells_at c f k (by omega) i j e hj
    · obtain rfl : i = k := by omega
      rw [List.getElem?_append_right (by rw [hl]; omega), hl]
      congr 1
      omega
theorem recs_of_own {T : TypeId} {W : World} {base n : Nat} {v : Value} {f : Nat → Int} (h : W.ownsRow base T 19 v n (recCells f (upTo n n))) (hw : ∀ i, i < n → (recOf fun t => f (i * 128 + t)).wf) : ∃ a cap, v = .slice a n cap ∧ RArg W a n (fun i => recOf fun t => f (i * 128 + t)) := by
  rcases h.2 with ⟨rfl, h0⟩ | ⟨g, cap, cur, rfl, hbg, hg, hnc, _, hsz, htake⟩
  · subst h0
    exact ⟨none, 0, rfl, .inl rfl⟩
  · refine ⟨_, cap, rfl, .inr ⟨g, 0, rfl, fun i hi j u hj => ?_, hw, (Array.getElem?_eq_some_iff.1 hg).1⟩⟩
    have hj' : j < 19 := by
      rcases Nat.lt_or_ge j 19 with q | q
      · exact q
      · rw [List.getElem?_eq_none (by rw [Fld.cells_len]; omega)] at hj; cases hj
    have e := recCells_at n f n (Nat.le_refl _) i j hi hj'
    rw [← htake, List.getElem?_take, if_pos (by have : (i + 1) * 19 ≤ n * 19 := Nat.mul_le_mul_right 19 hi; omega)] at e
    have hc : W.cell? ⟨g, 0 + i * 19 + j, none⟩ = cur[i * 19 + j]? := by
      rw [Nat.zero_add]
      simp [World.cell?, hg]
    rw [hc, ← Array.getElem?_toList, e]
    exact hj
end Go.Proofs.Ytlcnhmlcmedonaa
