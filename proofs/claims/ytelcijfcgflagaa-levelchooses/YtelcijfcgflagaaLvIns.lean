/-
  Laws and walks, not a claim by itself: pairs that are appended and put in. By the verifier.
-/
import Derived.Test.YtelcijfcgflagaaLvMem
import Derived.Test.YtelcijfcgflagaaCut
import Derived.Lib.AppendZerosOnto
import Derived.Lib.Overlaps
import Derived.Stop.Walk2
namespace Go.Proofs.Ytelcijfcgflagaa
open Go.RowKit
/-- What becomes of a slice of pairs: it is where it was, or lies in a new block. -/
structure InsR (W : World) (v : Value) (ps' : List RV) (v' : Value) (W' : World) : Prop where
  own : OwnR W' 0 v' ps'
  off : Off v.ownBlock.toList W W'
  blk : ∀ g, v'.ownBlock = some g → v.ownBlock = some g ∨ W.heap.size ≤ g
theorem setRow_butR (W : World) (g : Nat) (cs : Array Value) : But g W (W.setRow g cs) := ⟨rfl, rfl, rfl, by simp, fun k _ hk => setRow_other W g k _ (fun e => hk e)⟩
/-- copy of pairs into a block of pairs. -/
theorem copy5 (W : World) (g o dLen dCap sLen sCap m : Nat) (cur : Array Value) (a : Addr) (cs : List Value) (hg : W.heap[g]? = some (.cells cur 45 (0, 0))) (hm : Nat.min sLen dLen = m) (hn : cs.length = m * 5) (hsrc : ∀ j v, cs[j]? = some v → W.cell? (a.add j) = some v) (hfit : o + cs.length ≤ cur.size) (h1 : ∀ v ∈ cs, v.oneCell' = true) (ty : TypeId) :
    (Builtin.copy_ #[23, 23] ty #[.slice (some ⟨g, o, none⟩) dLen dCap, .slice (some a) sLen sCap]).run Try.prog W = .ok (goInt m) (W.setRow g (cur.toList.take o ++ cs ++ cur.toList.drop (o + cs.length)).toArray) := by
  have hl := run_loadCells_list (P := Try.prog) W a cs hsrc
  have hst := run_storeCells_at Try.prog g o 45 cs 0 cur W hg (by simpa using hfit) h1
  obtain ⟨i, hi, _, hz1, _⟩ := info_parts info_run
  rw [hn] at hl
  simp only [Nat.add_zero] at hst
  simp [Builtin.copy_, run_underlying under_runs, Builtin.lenOf, Builtin.firstCells, sizeOf, typeInfo, hi, hz1, hm, hl, hst]
theorem len_appR (ps qs : List RV) : (rcs ps ++ rcs qs).length = (ps.length + qs.length) * 5 := by rw [List.length_append, rcs_len, rcs_len]; omega
/-- append of pairs onto a slice of its own. -/
theorem app_runs (ty : TypeId) (W : World) (v : Value) (ps qs : List RV) (ad : Addr) (C : Nat) (ho : OwnR W 0 v ps) (hA : ∀ j u, (rcs qs)[j]? = some u → W.cell? (ad.add j) = some u) (h1 : ∀ u ∈ rcs qs, u.oneCell' = true) (hq : 0 < qs.length) (hm : ps.length + qs.length ≤ 100000) :
    ∃ v' W', (Builtin.append_ #[23, 23] ty #[v, .slice (some ad) qs.length C]).run Try.prog W = .ok v' W' ∧ InsR W v (ps ++ qs) v' W' := by
  obtain ⟨i0, hi, hz0, hz1, hz2⟩ := info_parts info_run
  have hl : (rcs qs).length = qs.length * i0.size := by rw [rcs_len, hz1]
  have fin : ∀ C1, ps.length + qs.length ≤ C1 → C1 ≤ maxLen → InsR W v (ps ++ qs) (.slice (some ⟨W.heap.size, 0, none⟩) (ps.length + qs.length) C1) (W.drew.alloc (.cells ((rcs ps).toArray ++ (rcs qs).toArray ++ Builtin.zeroCells (Value.agg #[.int .i64 0, .int .i64 0, .int .i64 0, .slice none 0 0, .slice none 0 0]).cells (C1 - (ps.length + qs.length))) 45)) := by
    intro C1 h2 h3
    refine ⟨⟨by rw [rcs_len], .inr ⟨W.heap.size, C1, _, by rw [List.length_append], Nat.zero_le _, heap_alloc_new W.drew _, by rw [List.length_append]; exact h2, h3, ?_, ?_⟩⟩, Off.of ((Below.refl W.heap.size W).drew.alloc (Nat.le_refl _) _), fun g hg => .inr ?_⟩
    · simp only [Array.size_append, List.size_toArray, size_zeroCells, rcs_len]
      show ps.length * 5 + qs.length * 5 + (C1 - (ps.length + qs.length)) * 5 = _
      omega
    · simp only [Array.toList_append]
      rw [List.length_append, rcs_app, ← len_appR]
      exact List.take_left
    · injection hg with hg
      exact Nat.le_of_eq hg
  rcases ho.2 with ⟨rfl, h0⟩ | ⟨x, cap, cur, rfl, hbg, hg, hnc, hcm, hcs, htake⟩
  · obtain rfl : ps = [] := List.eq_nil_of_length_eq_zero h0
    have hr := run_append_nil (P := Try.prog) W 23 ty 45 i0 (.agg #[.int .i64 0, .int .i64 0, .int .i64 0, .slice none 0 0, .slice none 0 0]) under_runs hi hz0 ad qs.length C (rcs qs) hl hA hq (by simp at hm; omega) (by rw [hz2]; simp at hm; omega)
    have f := fin (grownCap W qs.length 0 45) (by simp; exact grownCap_ge W qs.length 0 _) (grownCap_le_maxLen W qs.length 0 _ (by unfold maxLen; simp at hm; omega))
    simp only [List.length_nil, Nat.zero_add] at f
    refine ⟨_, _, hr, ?_⟩
    simpa [rcs] using f
  · by_cases hroom : ps.length + qs.length ≤ cap
    · have hr := run_append_room (P := Try.prog) W 23 ty 45 i0 under_runs hi x ps.length cap cur hg ad qs.length C (rcs qs) hl hA h1 hroom (by rw [rcs_len, hcs, hz1]; omega)
      refine ⟨_, _, hr, ⟨⟨by rw [rcs_len], .inr ⟨x, cap, _, by rw [List.length_append], Nat.zero_le _, setRow_heap W x cur _ _ _ hg, by rw [List.length_append]; exact hroom, hcm, ?_, ?_⟩⟩, Off.but (setRow_butR W x _) (by simp [Value.ownBlock]), fun g hg => .inl hg⟩⟩
      · simp only [List.size_toArray, List.length_append, List.length_take, List.length_drop, Array.length_toList, rcs_len, hz1]
        omega
      · rw [hz1, htake, List.length_append, rcs_app, ← len_appR]
        exact List.take_left
    · have holds : ∀ j u, (rcs ps)[j]? = some u → W.cell? ((⟨x, 0, none⟩ : Addr).add j) = some u := World.ownsRow.cells (g := x) ho rfl
      have hfit : Builtin.nextslicecap (ps.length + qs.length) cap * i0.bytes ≤ 281474976710656 := growslice_fits (by omega) (by rw [hz2]; omega)
      have hr := run_append_grow (P := Try.prog) W 23 ty 45 i0 (.agg #[.int .i64 0, .int .i64 0, .int .i64 0, .slice none 0 0, .slice none 0 0]) under_runs hi hz0 ⟨x, 0, none⟩ ps.length cap (rcs ps) (by rw [rcs_len, hz1]) holds ad qs.length C (rcs qs) hl hA (by omega) (by omega) hfit
      exact ⟨_, _, hr, fin _ (grownCap_ge W _ cap _) (grownCap_le_maxLen W _ cap _ (by unfold maxLen; omega))⟩
end Go.Proofs.Ytelcijfcgflagaa
