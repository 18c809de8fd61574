/-
  Plain facts, not a claim by itself: what MemtableMap's loops keep. By the verifier.
-/
import Derived.Test.YtandkedipjmdbaaMtLay
namespace Go.Proofs.Ytandkedipjmdbaa
theorem fnd_cons (p : Pr) (r : List Pr) (k : ByteArray) : fnd (p :: r) k = if p.k = k then some p else fnd r k := by
  unfold fnd
  rw [List.find?_cons]
  by_cases h : p.k = k
  · rw [if_pos h, decide_eq_true h]
  · rw [if_neg h, decide_eq_false h]
/-- What a table has after the pairs that were laid: under each key the last one. -/
structure MapI (ls l : List Pr) : Prop where
  srt : Srt l
  fnd : ∀ k, fnd l k = fnd ls.reverse k
  len : l.length ≤ ls.length
theorem MapI.nil : MapI [] [] := ⟨List.Pairwise.nil, fun _ => rfl, Nat.le_refl _⟩
theorem MapI.put {ls l : List Pr} (h : MapI ls l) (p : Pr) : MapI (ls ++ [p]) (layL l p) := by
  refine ⟨srt_layL l p h.srt, fun k => ?_, ?_⟩
  · rw [fnd_layL l p k h.srt, List.reverse_append, h.fnd k]
    exact (fnd_cons p ls.reverse k).symm
  · rw [layL_len, List.length_append]
    have := h.len
    split <;> simp <;> omega
theorem MapI.lay {ls l : List Pr} (h : MapI ls l) (p : Pr) (h0 : layC l p = 0) : MapI (ls ++ [p]) (layR l p) := by
  have e : layR l p = layL l p := by
    unfold layC at h0
    unfold layR
    split at h0
    · rename_i hm
      rw [if_pos hm]
      split at h0
      · rename_i hh; rw [if_pos hh]
      · rename_i hh
        rw [if_neg hh]
        split at h0
        · omega
        · rename_i hn; rw [if_neg hn]
    · omega
  rw [e]
  exact h.put p
theorem MapI.not {ls l : List Pr} (h : MapI ls l) (p : Pr) (h0 : layC l p ≠ 0) : MapI ls (layR l p) := by
  have e : layR l p = l := by
    unfold layC at h0
    unfold layR
    split at h0
    · rename_i hm
      rw [if_pos hm]
      split at h0
      · exact absurd rfl h0
      · rename_i hh
        rw [if_neg hh]
        split at h0
        · rename_i hn; rw [if_pos hn]
        · exact absurd rfl h0
    · rename_i hm; rw [if_neg hm]
  rw [e]
  exact h
theorem MapI.has {ls l : List Pr} (h : MapI ls l) {q : Pr} (hq : q ∈ ls) : has l q.k = true := by
  rw [has_fnd l q.k h.srt, h.fnd]
  unfold Go.Proofs.Ytandkedipjmdbaa.fnd
  rw [List.find?_isSome]
  exact ⟨q, List.mem_reverse.2 hq, decide_eq_true rfl⟩
/-- What the second loop has met under the key. -/
def scn (ls : List Pr) (k : ByteArray) (j : Nat) : Option Pr := fnd (ls.take j).reverse k
theorem scn_zero (ls : List Pr) (k : ByteArray) : scn ls k 0 = none := rfl
theorem scn_next {ls : List Pr} (k : ByteArray) {j : Nat} {x : Pr} (hx : ls[j]? = some x) : scn ls k (j + 1) = if x.k = k then some x else scn ls k j := by
  unfold scn
  rw [List.take_add_one, hx, List.reverse_append]
  exact fnd_cons x _ k
theorem MapI.end {ls l : List Pr} (h : MapI ls l) (k : ByteArray) : scn ls k ls.length = Go.Proofs.Ytandkedipjmdbaa.fnd l k := by
  unfold scn
  rw [List.take_length, h.fnd]
end Go.Proofs.Ytandkedipjmdbaa
