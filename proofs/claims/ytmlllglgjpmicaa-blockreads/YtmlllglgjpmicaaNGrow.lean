/-
  Laws for the walk, not a claim by itself: bytes behind bytes that the call has made itself; all other blocks stay. By the verifier.
-/
import Derived.Test.YtmlllglgjpmicaaNApp
namespace Go.Proofs.Ytmlllglgjpmicaa
open Go.RowKit
/-- Such a slice has grown: in its own block, or in a new one. -/
def GrowP (W : World) (g base N : Nat) (F : Nat → Int) (v' : Value) (W' : World) : Prop := ∃ g' cap', v' = .slice (some ⟨g', 0, none⟩) N cap' ∧ (g' = g ∨ W.heap.size ≤ g') ∧ Own W' base v' N F ∧ But g W W'
theorem GrowP.congr {W : World} {g base N : Nat} {F G : Nat → Int} {v' : Value} {W' : World} (h : GrowP W g base N F v' W') (e : ∀ j, j < N → F j = G j) : GrowP W g base N G v' W' := by
  obtain ⟨g', cap', h1, h2, h3, h4⟩ := h
  exact ⟨g', cap', h1, h2, h3.congr e, h4⟩
theorem But.far {U W W' : World} {g g1 : Nat} (h1 : g1 = g ∨ U.heap.size ≤ g1) (hB : But g U W) (h4 : But g1 W W') : But g U W' :=
  ⟨h4.os.trans hB.os, h4.tape.trans hB.tape, h4.output.trans hB.output, Nat.le_trans hB.size h4.size, fun k hk hn => (h4.block k (Nat.lt_of_lt_of_le hk hB.size) (by omega)).trans (hB.block k hk hn)⟩
/-- From one to the next. -/
theorem GrowP.next {U W W' : World} {g g1 base M : Nat} {G : Nat → Int} {v' : Value} (h1 : g1 = g ∨ U.heap.size ≤ g1) (hB : But g U W) (h : GrowP W g1 base M G v' W') : GrowP U g base M G v' W' := by
  obtain ⟨g', cap', e, h2, h3, h4⟩ := h
  exact ⟨g', cap', e, by have := hB.size; omega, h3, But.far h1 hB h4⟩
theorem app_but (ty : TypeId) (W : World) (base n m C g cap : Nat) (a : Option Addr) (F G : Nat → Int) (ho : Own W base (.slice (some ⟨g, 0, none⟩) n cap) n F) (hm0 : 0 < m) (hA : Arg W a m G) (hm : n + m ≤ 1000000) (hbase : base ≤ W.heap.size) :
    ∃ v' W', (Builtin.append_ #[25, 25] ty #[.slice (some ⟨g, 0, none⟩) n cap, .slice a m C]).run Try.prog W = .ok v' W' ∧ GrowP W g base (n + m) (cat F n G) v' W' := by
  obtain ⟨i0, hi, hz0, hz1, hz2⟩ := info_parts info_u8
  have hlen : (cl .u8 n F ++ cl .u8 m G).length = n + m := by simp [cl_len]
  rcases hA with ⟨h, _⟩ | ⟨_, b, off, rfl, hl⟩
  · omega
  have hnews : ∀ j u, (cl .u8 m G)[j]? = some u → W.cell? ((⟨b, off, none⟩ : Addr).add j) = some u := fun j u hj => by obtain ⟨h, rfl⟩ := cl_at' hj; rw [Addr.add_mid]; exact hl.1 j h
  rcases ho.2 with ⟨h, _⟩ | ⟨g', cap', cur, hv, hbg, hg, hnc, hcm, hcs, htake⟩
  · cases h
  injection hv with hv _ hc
  injection hv with hv
  injection hv with hv
  subst hv hc
  by_cases hroom : n + m ≤ cap
  · have hr := run_append_room (P := Try.prog) W 25 ty 5 i0 Try.underlying25 hi g n cap cur hg ⟨b, off, none⟩ m C (cl .u8 m G) (by rw [cl_len, hz1, Nat.mul_one]) hnews (cl_one _ _ _) hroom (by rw [cl_len, hcs, hz1]; omega)
    refine ⟨_, _, hr, g, cap, rfl, .inl rfl, ⟨by simp [cl_len], .inr ⟨g, cap, _, rfl, hbg, setRow_heap W g cur _ 5 _ hg, hroom, hcm, ?_, ?_⟩⟩, ?_⟩
    · simp only [List.size_toArray, List.length_append, List.length_take, List.length_drop, Array.length_toList, cl_len, hz1]
      omega
    · rw [Nat.mul_one] at htake ⊢
      rw [hz1, Nat.mul_one, htake, ← cl_cat, ← hlen]
      exact List.take_left
    · exact ⟨rfl, rfl, rfl, by simp, fun k _ hk => setRow_other W g k _ (fun e => hk e)⟩
  · have holds : ∀ j u, (cl .u8 n F)[j]? = some u → W.cell? ((⟨g, 0, none⟩ : Addr).add j) = some u := World.ownsRow.cells (g := g) ho rfl
    have hfit : Builtin.nextslicecap (n + m) cap * i0.bytes ≤ 281474976710656 := growslice_fits (by omega) (by rw [hz2]; omega)
    have hr := run_append_grow (P := Try.prog) W 25 ty 5 i0 (.int .u8 0) Try.underlying25 hi hz0 ⟨g, 0, none⟩ n cap (cl .u8 n F) (by rw [cl_len, hz1, Nat.mul_one]) holds ⟨b, off, none⟩ m C (cl .u8 m G) (by rw [cl_len, hz1, Nat.mul_one]) hnews (by omega) (by omega) hfit
    have hge := grownCap_ge W (n + m) cap 5
    refine ⟨_, _, hr, W.heap.size, _, rfl, .inr (Nat.le_refl _), ⟨by simp [cl_len], .inr ⟨W.heap.size, _, _, rfl, hbase, heap_alloc_new W.drew _, hge, grownCap_le_maxLen W (n + m) cap 5 (by unfold maxLen; omega), ?_, ?_⟩⟩, ?_⟩
    · simp only [Array.size_append, List.size_toArray, size_zeroCells, cl_len, Value.cells, List.length_singleton]
      omega
    · simp only [Array.toList_append, List.append_assoc, Nat.mul_one]
      rw [← List.append_assoc, ← cl_cat, ← hlen]
      exact List.take_left
    · exact But.of ((Below.refl W.heap.size W).drew.alloc (Nat.le_refl _) _)
theorem zeros_but (ty : TypeId) (W : World) (base n m g cap : Nat) (F : Nat → Int) (ho : Own W base (.slice (some ⟨g, 0, none⟩) n cap) n F) (hm0 : 0 < m) (hm : n + m ≤ 1000000) (hbase : base ≤ W.heap.size) :
    ∃ v' W', (Builtin.append_ #[25, 3] ty #[.slice (some ⟨g, 0, none⟩) n cap, .int .i64 (m : Int)]).run Try.prog W = .ok v' W' ∧ GrowP W g base (n + m) (cat F n (fun _ => 0)) v' W' := by
  obtain ⟨i0, hi, hz0, hz1, hz2⟩ := info_parts info_u8
  have hlen : (cl .u8 n F ++ cl .u8 m (fun _ => 0)).length = n + m := by simp [cl_len]
  rcases ho.2 with ⟨h, _⟩ | ⟨g', cap', cur, hv, hbg, hg, hnc, hcm, hcs, htake⟩
  · cases h
  injection hv with hv _ hc
  injection hv with hv
  injection hv with hv
  subst hv hc
  by_cases hroom : n + m ≤ cap
  · have hst := run_storeCells_at Try.prog g n 5 (cl .u8 m (fun _ => 0)) 0 cur W hg (by rw [cl_len, hcs]; omega) (cl_one _ _ _)
    simp only [Nat.add_zero] at hst
    have hw : IntKind.i64.wrap (m : Int) = m := by rw [IntKind.wrap_i64]; omega
    have hneg : ¬ ((m : Int) < 0) := by omega
    have h48 : ¬ (281474976710656 < (m : Int)) := by omega
    have hm1 : ¬ m = 0 := by omega
    refine ⟨.slice (some ⟨g, 0, none⟩) (n + m) cap, W.setRow g (cur.toList.take n ++ cl .u8 m (fun _ => 0) ++ cur.toList.drop (n + m)).toArray, ?_, g, cap, rfl, .inl rfl, ?_, ?_⟩
    · rw [cl_len] at hst
      simp [Builtin.append_, run_underlying Try.underlying25, run_underlying Try.underlying3, sizeOf, typeInfo, zeroValue, hi, hz0, hz1, hz2, asInt, asIntOf, hw, hneg, h48, hm1, hroom, Addr.add_lit, zeroCells_cl, hst]
    · refine ⟨by simp [cl_len], .inr ⟨g, cap, _, rfl, hbg, setRow_heap W g cur _ 5 _ hg, hroom, hcm, ?_, ?_⟩⟩
      · simp only [List.size_toArray, List.length_append, List.length_take, List.length_drop, Array.length_toList, cl_len]
        omega
      · rw [Nat.mul_one] at htake ⊢
        rw [htake, ← cl_cat, ← hlen]
        exact List.take_left
    · exact ⟨rfl, rfl, rfl, by simp, fun k _ hk => setRow_other W g k _ (fun e => hk e)⟩
  · have holds : ∀ j u, (cl .u8 n F)[j]? = some u → W.drew.cell? ((⟨g, 0, none⟩ : Addr).add j) = some u := World.ownsRow.cells (g := g) ho rfl
    have hold : (Builtin.firstCells i0.size n (.slice (some ⟨g, 0, none⟩) n cap)).run Try.prog W.drew = .ok (cl .u8 n F).toArray W.drew := run_firstCells_some (P := Try.prog) W.drew i0.size n ⟨g, 0, none⟩ n cap (cl .u8 n F) (by rw [cl_len, hz1, Nat.mul_one]) holds
    have hfit : Builtin.nextslicecap (n + m) cap * i0.bytes ≤ 281474976710656 := growslice_fits (by omega) (by rw [hz2]; omega)
    have hr := Go.Lib.run_append_grow_zeros (P := Try.prog) W 25 3 ty 5 i0 (.int .u8 0) .i64 .i64 Try.underlying25 Try.underlying3 hi hz0 (some ⟨g, 0, none⟩) n cap (cl .u8 n F) hold m hm0 (by omega) (by omega) (by omega) (by rw [hz2]; omega) hfit
    have hge := grownCap_ge W (n + m) cap 5
    refine ⟨_, _, hr, W.heap.size, _, rfl, .inr (Nat.le_refl _), ⟨by simp [cl_len], .inr ⟨W.heap.size, _, _, rfl, hbase, heap_alloc_new W.drew _, hge, grownCap_le_maxLen W (n + m) cap 5 (by unfold maxLen; omega), ?_, ?_⟩⟩, ?_⟩
    · simp only [Array.size_append, List.size_toArray, size_zeroCells, cl_len, Value.cells, List.length_singleton]
      omega
    · simp only [Array.toList_append, List.append_assoc, zeroCells_cl, Nat.mul_one]
      rw [← List.append_assoc, ← cl_cat, ← hlen]
      exact List.take_left
    · exact But.of ((Below.refl W.heap.size W).drew.alloc (Nat.le_refl _) _)
end Go.Proofs.Ytmlllglgjpmicaa
