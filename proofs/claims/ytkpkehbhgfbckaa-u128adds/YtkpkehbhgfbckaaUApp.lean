/-
  Walks, not a claim by itself: a list of numbers appended to an empty one. By the verifier.
-/
import Derived.Test.YtkpkehbhgfbckaaUSum
import Derived.OwnWalk
import Derived.Laws.OwnMore
namespace Go.Proofs.Ytkpkehbhgfbckaa
open Go.RowKit
theorem info_u128 : (Try.prog.info? 24).map (fun i => (i.zero, i.size, i.bytes)) = some (some (U 0 0), 2, 16) := by kernel_rfl
theorem parts_u128 {o : Option TypeInfo} {z : Option Value} {s b : Nat} (h : o.map (fun i => (i.zero, i.size, i.bytes)) = some (z, s, b)) : ∃ i, o = some i ∧ i.zero = z ∧ i.size = s ∧ i.bytes = b := by
  cases o with
  | none => cases h
  | some i => injection h with h; injection h with h1 h2; injection h2 with h2 h3; exact ⟨i, rfl, h1, h2, h3⟩
theorem napp (ty : TypeId) (w W : World) (n C : Nat) (a : Option Addr) (F : Nat → Int) (hW : W = w.alloc (.cells #[] 24)) (hA : NArg W a n F) (hn : n ≤ 1000) :
    ∃ x c W', (Builtin.append_ #[31, 31] ty #[.slice (some ⟨w.heap.size, 0, none⟩) 0 0, .slice a n C]).run Try.prog W = .ok (.slice x n c) W' ∧ NArg W' x n F ∧ Below w.heap.size W W' := by
  obtain ⟨i0, hi, hz0, hz1, hz2⟩ := parts_u128 info_u128
  have ho : W.ownsRow w.heap.size 24 2 (.slice (some ⟨w.heap.size, 0, none⟩) 0 0) 0 [] := by
    subst hW
    exact World.ownsRow_lit (e := 24) (size := 2) (base := w.heap.size) w #[] 0 (Nat.le_refl _) (by unfold maxLen; omega) (by simp)
  have hbase : w.heap.size ≤ W.heap.size := by subst hW; simp
  clear hW
  by_cases h0 : n = 0
  · subst h0
    cases a with
    | none =>
      refine ⟨some ⟨w.heap.size, 0, none⟩, 0, W, ?_, .inl rfl, Below.refl _ _⟩
      simp [Builtin.append_, run_underlying Try.underlying31, sizeOf, typeInfo, hi, Builtin.lenOf, Builtin.firstCells, storeCells]
    | some p =>
      obtain ⟨v', W', h1, h2, h3, _⟩ := run_append_own (P := Try.prog) W w.heap.size 31 ty 24 i0 (U 0 0) 2 16 Try.underlying31 hi hz0 hz1 hz2 rfl (by decide) _ 0 [] ho p 0 C [] (by simp) (fun j u hj => by simp at hj) (fun u hu => by cases hu) (by unfold maxLen; omega) (by omega) hbase
      have : ∃ x c, v' = .slice x 0 c := by
        rcases h2.2 with ⟨e, _⟩ | ⟨g, cap, cur, e, _⟩
        · exact ⟨_, _, e⟩
        · exact ⟨_, _, e⟩
      obtain ⟨x, c, rfl⟩ := this
      exact ⟨x, c, W', h1, .inl rfl, (Below.refl _ _).grown h3 hbase (fun k hk => (World.ownsRow.lt ho k hk).1)⟩
  · rcases hA with h | ⟨b, off, rfl, hl⟩
    · exact absurd h h0
    obtain ⟨v', W', h1, h2, h3, _⟩ := run_append_own (P := Try.prog) W w.heap.size 31 ty 24 i0 (U 0 0) 2 16 Try.underlying31 hi hz0 hz1 hz2 rfl (by decide) _ 0 [] ho ⟨b, off, none⟩ n C (cl .u64 (n * 2) F) (by rw [cl_len]) (fun j u hj => by obtain ⟨h, rfl⟩ := cl_at' hj; rw [Addr.add_mid]; exact hl.1 j h) (cl_one _ _ _) (by unfold maxLen; omega) (by omega) hbase
    rw [Nat.zero_add, List.nil_append] at h2
    rcases h2.2 with ⟨_, e⟩ | ⟨g, cap, cur, rfl, hbg, hg, hnc, _, hsz, htake⟩
    · exact absurd e h0
    refine ⟨some ⟨g, 0, none⟩, cap, W', h1, .inr ⟨g, 0, rfl, fun j hj => ?_, hl.2.1, (Array.getElem?_eq_some_iff.1 hg).1⟩, (Below.refl _ _).grown h3 hbase (fun k hk => (World.ownsRow.lt ho k hk).1)⟩
    rw [Nat.zero_add, cell_of_row W' g j cur 24 (0, 0) hg]
    have := cl_at .u64 (n * 2) F j hj
    rw [← htake, List.getElem?_take, if_pos (by omega)] at this
    simpa using this
/-- An append at the list of a plain region's operations, its run known. -/
theorem wpList_append_go {P : Program} {ops : Array Oper} {rest : List Oper} {o : Oper} {a : Act} {w : World} {Q : Exit → Act → World → Prop} (hgd : o.guard = none) (d s : Operand) (dT sT : TypeId)
    (ho : o.op = .call { callee := .builtin .append, args := #[d, s], argTypes := #[dT, sT] }) (v u : Value) (hd : a.eval d = v) (hs : a.eval s = u) {v' : Value} {w' : World}
    (hr : (Builtin.append_ #[dT, sT] o.type #[v, u]).run P w = .ok v' w') (h : wpList P ops Q rest (a.put o.dst v') w') : wpList P ops Q (o :: rest) a w := by
  refine wpList_plain hgd fun K hK => ?_
  unfold Oper.wp
  simp [execOp, ho, resolve, invoke, builtin, hd, hs, hr, Result.andThen]
  exact hK _ _ h
end Go.Proofs.Ytkpkehbhgfbckaa
