/-
  Plain notions and laws for the walk, not a claim by itself: slices of bytes that a call has made itself, appended to. By the verifier.
-/
import Derived.Test.YtelcijfcgflagaaBArg
import Derived.OwnWalk
import Derived.Laws.OwnMore
namespace Go.Proofs.Ytelcijfcgflagaa
open Go.RowKit
theorem info_u8 : (Try.prog.info? 5).map (fun i => (i.zero, i.size, i.bytes)) = some (some (.int .u8 0), 1, 1) := by kernel_rfl
/-- A slice of n bytes that was made behind base. -/
def Own (w : World) (base : Nat) (v : Value) (n : Nat) (F : Nat → Int) : Prop := w.ownsRow base 5 1 v n (cl .u8 n F)
/-- G behind n of F. -/
def cat (F : Nat → Int) (n : Nat) (G : Nat → Int) (j : Nat) : Int := if j < n then F j else G (j - n)
theorem cl_cat (k : IntKind) (n m : Nat) (F G : Nat → Int) : cl k n F ++ cl k m G = cl k (n + m) (cat F n G) := by
  unfold cl
  rw [List.range_add, List.map_append, List.map_map]
  congr 1
  · refine List.map_congr_left fun j hj => ?_
    have := List.mem_range.1 hj
    unfold cat
    rw [if_pos this]
  · refine List.map_congr_left fun j _ => ?_
    show _ = Value.int k (cat F n G (n + j))
    unfold cat
    rw [if_neg (by omega), show n + j - n = j by omega]
theorem Own.congr {w : World} {base : Nat} {v : Value} {n : Nat} {F G : Nat → Int} (h : Own w base v n F) (e : ∀ j, j < n → F j = G j) : Own w base v n G := by
  unfold Own at h ⊢
  rw [← cl_congr .u8 n F G e]
  exact h
theorem Own.below {w u : World} {base : Nat} {v : Value} {n : Nat} {F : Nat → Int} (h : Own w base v n F) (hB : Below w.heap.size w u) : Own u base v n F := by
  refine ⟨h.1, ?_⟩
  rcases h.2 with h0 | ⟨g, cap, cur, hv, hb, hg, rest⟩
  · exact .inl h0
  · exact .inr ⟨g, cap, cur, hv, hb, (hB.block g (Array.getElem?_eq_some_iff.1 hg).1).trans hg, rest⟩
theorem Own.but {w u : World} {base c : Nat} {v : Value} {n : Nat} {F : Nat → Int} (h : Own w base v n F) (hB : But c w u) (hc : c < base) : Own u base v n F := by
  refine ⟨h.1, ?_⟩
  rcases h.2 with h0 | ⟨g, cap, cur, hv, hb, hg, rest⟩
  · exact .inl h0
  · exact .inr ⟨g, cap, cur, hv, hb, (hB.block g (Array.getElem?_eq_some_iff.1 hg).1 (by omega)).trans hg, rest⟩
theorem Own.form {w : World} {base : Nat} {v : Value} {n : Nat} {F : Nat → Int} (h : Own w base v n F) (hn : 0 < n) (hb : ∀ j, j < n → 0 ≤ F j ∧ F j < 256) : ∃ g cap, v = .slice (some ⟨g, 0, none⟩) n cap ∧ base ≤ g ∧ n ≤ cap ∧ Lies w g 0 n F := by
  rcases h.2 with ⟨_, h0⟩ | ⟨g, cap, cur, rfl, hbg, hg, hnc, _, hsz, htake⟩
  · omega
  refine ⟨g, cap, rfl, hbg, hnc, fun j hj => ?_, hb, (Array.getElem?_eq_some_iff.1 hg).1⟩
  rw [Nat.zero_add, cell_of_row w g j cur 5 (0, 0) hg]
  have := cl_at .u8 n F j hj
  rw [← htake, List.getElem?_take, if_pos (by omega)] at this
  simpa using this
theorem Own.lit (w : World) (base n : Nat) (F : Nat → Int) (hb : base ≤ w.heap.size) (hn : n ≤ 1000000) : Own (w.alloc (.cells (cl .u8 n F).toArray 5)) base (.slice (some ⟨w.heap.size, 0, none⟩) n n) n F := by
  have := World.ownsRow_lit (e := 5) (size := 1) (base := base) w (cl .u8 n F).toArray n hb (by unfold maxLen; omega) (by simp [cl_len])
  simpa [Own] using this
theorem Own.nil (w : World) (base : Nat) (F : Nat → Int) : Own w base (.slice none 0 0) 0 F := World.ownsRow_nil w base 5 1
/-- append of bytes onto such a slice. -/
theorem app_arg (ty : TypeId) (W : World) (base n m C : Nat) (v : Value) (a : Option Addr) (F G : Nat → Int) (ho : Own W base v n F) (hA : Arg W a m G) (hm : n + m ≤ 1000000) (hbase : base ≤ W.heap.size) :
    ∃ v' W', (Builtin.append_ #[43, 43] ty #[v, .slice a m C]).run Try.prog W = .ok v' W' ∧ Own W' base v' (n + m) (cat F n G) ∧ Below base W W' := by
  obtain ⟨i0, hi, hz0, hz1, hz2⟩ := info_parts info_u8
  have main : ∀ ad : Addr, (∀ j u, (cl .u8 m G)[j]? = some u → W.cell? (ad.add j) = some u) → ∃ v' W', (Builtin.append_ #[43, 43] ty #[v, .slice (some ad) m C]).run Try.prog W = .ok v' W' ∧ Own W' base v' (n + m) (cat F n G) ∧ Below base W W' := by
    intro ad hnews
    obtain ⟨v', W', h1, h2, h3, _⟩ := run_append_own (P := Try.prog) W base 43 ty 5 i0 (.int .u8 0) 1 1 Try.underlying43 hi hz0 hz1 hz2 rfl (by decide) v n (cl .u8 n F) ho ad m C (cl .u8 m G) (by rw [cl_len]; omega) hnews (cl_one _ _ _) (by unfold maxLen; omega) (by omega) hbase
    rw [cl_cat] at h2
    exact ⟨v', W', h1, h2, (Below.refl _ _).grown h3 hbase (fun k hk => (World.ownsRow.lt ho k hk).1)⟩
  rcases hA with ⟨rfl, rfl | ⟨p, rfl⟩⟩ | ⟨h0, b, off, rfl, hl⟩
  · refine ⟨v, W, ?_, ho.congr (fun j hj => by unfold cat; rw [if_pos hj]), Below.refl _ _⟩
    rcases ho.2 with ⟨rfl, rfl⟩ | ⟨g, cap, cur, rfl, _, _, hnc, _⟩
    · simp [Builtin.append_, run_underlying Try.underlying43, sizeOf, typeInfo, hi, Builtin.lenOf, Builtin.firstCells]
    · simp [Builtin.append_, run_underlying Try.underlying43, sizeOf, typeInfo, hi, Builtin.lenOf, Builtin.firstCells, hnc, storeCells]
  · exact main p (fun j u hj => by obtain ⟨h, _⟩ := cl_at' hj; omega)
  · exact main ⟨b, off, none⟩ (fun j u hj => by obtain ⟨h, rfl⟩ := cl_at' hj; rw [Addr.add_mid]; exact hl.1 j h)
/-- An append at the list of a plain region's operations, its run known. -/
theorem wpList_append_go {P : Program} {ops : Array Oper} {rest : List Oper} {o : Oper} {a : Act} {w : World} {Q : Exit → Act → World → Prop} (hgd : o.guard = none) (d s : Operand) (dT sT : TypeId)
    (ho : o.op = .call { callee := .builtin .append, args := #[d, s], argTypes := #[dT, sT] }) (v u : Value) (hd : a.eval d = v) (hs : a.eval s = u) {v' : Value} {w' : World}
    (hr : (Builtin.append_ #[dT, sT] o.type #[v, u]).run P w = .ok v' w') (h : wpList P ops Q rest (a.put o.dst v') w') : wpList P ops Q (o :: rest) a w := by
  refine wpList_plain hgd fun K hK => ?_
  unfold Oper.wp
  simp [execOp, ho, resolve, invoke, builtin, hd, hs, hr, Result.andThen]
  exact hK _ _ h
end Go.Proofs.Ytelcijfcgflagaa
