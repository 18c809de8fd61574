/-
  Walks, not a claim by itself: slices.Insert of a pair at the end. By the verifier.
-/
import Derived.Test.YtelcijfcgflagaaLvIns
namespace Go.Proofs.Ytelcijfcgflagaa
open Go.RowKit
/-- What Insert answers. -/
def InsRPost (W : World) (v : Value) (ps' : List RV) (e : Ending) (w' : World) : Prop := ∃ v', e = .returned v' ∧ InsR W v ps' v' w'
/-- A pair lies in a block of its own. -/
def LoneR (W : World) (b : Nat) (x : RV) : Prop := W.heap[b]? = some (.cells x.cs.toArray 45 (0, 0)) ∧ ∀ u ∈ x.cs, u.oneCell' = true
theorem LoneR.cell {W : World} {b : Nat} {x : RV} (h : LoneR W b x) (j : Nat) (u : Value) (hj : x.cs[j]? = some u) : W.cell? ⟨b, j, none⟩ = some u := by
  rw [cell_of_row W b j _ _ (0, 0) h.1]
  simpa using hj
set_option maxRecDepth 100000 in
set_option maxHeartbeats 1000000 in
theorem insR_end (W : World) (v : Value) (ps : List RV) (x : RV) (vb n : Nat) (hn : ps.length = n) (hO : OwnR W 0 v ps) (hv : LoneR W vb x) (hf : n ≤ 63) : Calls Try.prog 58 #[v, .int .i64 (n : Int), .slice (some ⟨vb, 0, none⟩) 1 1] W (InsRPost W v (ps ++ [x])) := by
  obtain ⟨v', W', hr, hI⟩ := app_runs 23 W v ps [x] ⟨vb, 0, none⟩ 1 hO (fun j u hj => by rw [rcs_single] at hj; rw [Addr.add_mid, Nat.zero_add]; exact hv.cell j u hj) (by rw [rcs_single]; exact hv.2) (by simp) (by simp; omega)
  have R : Hid (InsRPost W v (ps ++ [x]) (.returned v') W') := ⟨v', rfl, hI⟩
  have F := hO.form
  clear hI hv hO
  simp only [List.length_singleton] at hr
  rcases F with ⟨rfl, rfl⟩ | ⟨g, cap, rfl, _, hc, _⟩
  · obtain rfl : n = 0 := by rw [← hn]; rfl
    clear hn hf
    go_enter Try.func58, Try.ntmps58
    go_wp2_with (at_builtin; refine wpList_append_go rfl (.tmp 23) (.tmp 24) 23 23 rfl _ _ rfl rfl hr ?_)
    exact bodyPost_ret (by simp [results, Try.results58, go_sem]) rfl R.out
  · rw [hn] at hr hc R ⊢
    have i0 : (0 : Int) ≤ (n : Int) := Int.natCast_nonneg n
    have C := hidIt hc
    clear hc hf hn
    go_enter Try.func58, Try.ntmps58
    go_wp2_with (first
      | (refine wpList_cut rfl 23 45 (.tmp 10) (.tmp 11) rfl 5 under_runs under_runs run_size g 0 n cap n _ rfl rfl rfl (Nat.le_refl _) ?_)
      | (at_builtin; refine wpList_append_go rfl (.tmp 23) (.tmp 24) 23 23 rfl _ _ rfl rfl hr ?_))
    exact bodyPost_ret (by simp [results, Try.results58, go_sem]) rfl R.out
end Go.Proofs.Ytelcijfcgflagaa
