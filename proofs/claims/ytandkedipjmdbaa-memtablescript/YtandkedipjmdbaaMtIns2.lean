/-
  Walks, not a claim by itself: slices.Insert of a pair at the end. By the verifier.
-/
import Derived.Test.YtandkedipjmdbaaMtIns
namespace Go.Proofs.Ytandkedipjmdbaa
open Go.RowKit
/-- What Insert answers. -/
def InsPost (W : World) (v : Value) (ps' : List PV) (e : Ending) (w' : World) : Prop := ∃ v', e = .returned v' ∧ Insd W v ps' v' w'
/-- A pair lies in a block of its own. -/
def Lone (W : World) (b : Nat) (x : PV) : Prop := W.heap[b]? = some (.cells x.cs.toArray 47 (0, 0)) ∧ ∀ u ∈ x.cs, u.oneCell' = true
theorem Lone.cell {W : World} {b : Nat} {x : PV} (h : Lone W b x) (j : Nat) (u : Value) (hj : x.cs[j]? = some u) : W.cell? ⟨b, j, none⟩ = some u := by
  rw [cell_of_row W b j _ _ (0, 0) h.1]
  simpa using hj
theorem pcs_single (x : PV) : pcs [x] = x.cs := by simp [pcs]
set_option maxRecDepth 100000 in
set_option maxHeartbeats 1000000 in
theorem ins_end (W : World) (v : Value) (ps : List PV) (x : PV) (vb n : Nat) (hn : ps.length = n) (hO : OwnP W 0 v ps) (hv : Lone W vb x) (hf : n ≤ 63) : Calls Try.prog 55 #[v, .int .i64 (n : Int), .slice (some ⟨vb, 0, none⟩) 1 1] W (InsPost W v (ps ++ [x])) := by
  obtain ⟨v', W', hr, hI⟩ := app_pairs 27 W v ps [x] ⟨vb, 0, none⟩ 1 hO (fun j u hj => by rw [pcs_single] at hj; rw [Addr.add_mid, Nat.zero_add]; exact hv.cell j u hj) (by rw [pcs_single]; exact hv.2) (by simp) (by simp; omega)
  have R : Hid (InsPost W v (ps ++ [x]) (.returned v') W') := ⟨v', rfl, hI⟩
  have F := hO.form
  clear hI hv hO
  simp only [List.length_singleton] at hr
  rcases F with ⟨rfl, rfl⟩ | ⟨g, cap, rfl, _, hc, _⟩
  · obtain rfl : n = 0 := by rw [← hn]; rfl
    clear hn hf
    go_enter Try.func55, Try.ntmps55
    go_wp2_with (at_builtin; refine wpList_append_go rfl (.tmp 23) (.tmp 24) 27 27 rfl _ _ rfl rfl hr ?_)
    exact bodyPost_ret (by simp [results, Try.results55, go_sem]) rfl R.out
  · rw [hn] at hr hc R ⊢
    have i0 : (0 : Int) ≤ (n : Int) := Int.natCast_nonneg n
    have C := hidIt hc
    clear hc hf hn
    go_enter Try.func55, Try.ntmps55
    go_wp2_with (first
      | (refine wpList_cut rfl 27 47 (.tmp 10) (.tmp 11) rfl 3 under_pairs under_pairs pair_size g 0 n cap n _ rfl rfl rfl (Nat.le_refl _) ?_)
      | (at_builtin; refine wpList_append_go rfl (.tmp 23) (.tmp 24) 27 27 rfl _ _ rfl rfl hr ?_))
    exact bodyPost_ret (by simp [results, Try.results55, go_sem]) rfl R.out
end Go.Proofs.Ytandkedipjmdbaa
