/-
  Plain notions, not a claim by itself: a block of the grid as Go has it; lists of structs of numbers. By the verifier.
-/
import Derived.Test.YtblphlcnbnklmaaGreatDoorGBlk
import Derived.Test.YtblphlcnbnklmaaGreatDoorBApp
import Derived.Test.YtblphlcnbnklmaaGreatDoorReg
import Derived.Test.YtblphlcnbnklmaaGreatDoorRecs
namespace Go.Proofs.YtblphlcnbnklmaaGreatDoor
open Go.RowKit
/-- The five cells of a block. -/
def blkC (s : Blk) (a : Option Addr) (C : Nat) (b : Option Addr) (D : Nat) : List Value := [.int .i64 (s.x 0), .int .i64 (s.x 1), .int .i64 (s.x 2), .slice a s.k C, .slice b s.n D]
/-- A block as Go has it. -/
def blkV (s : Blk) (a : Option Addr) (C : Nat) (b : Option Addr) (D : Nat) : Value := .agg (blkC s a C b D).toArray
theorem blkC_len (s : Blk) (a : Option Addr) (C : Nat) (b : Option Addr) (D : Nat) : (blkC s a C b D).length = 5 := rfl
theorem blkC_one (s : Blk) (a : Option Addr) (C : Nat) (b : Option Addr) (D : Nat) : ∀ v ∈ blkC s a C b D, v.oneCell' = true := by
  intro v hv
  simp only [blkC, List.mem_cons, List.not_mem_nil, or_false] at hv
  rcases hv with rfl | rfl | rfl | rfl | rfl <;> rfl
/-- The zero block. -/
def blk0 : Blk := ⟨fun _ => 0, 0, fun _ => 0, 0, fun _ => 0⟩
theorem info_blk : (Tryz.prog.info? 107).map (·.size) = some 5 := by kernel_rfl
theorem zero_blk : (Tryz.prog.info? 107).bind (·.zero) = some (.agg (blkC blk0 none 0 none 0).toArray) := by kernel_rfl
theorem zero_ref : (Tryz.prog.info? 57).bind (·.zero) = some (.agg [.int .i64 0, .int .i64 0].toArray) := by kernel_rfl
/-- Two numbers as cells. -/
def twoC (p q : Int) : List Value := [.int .i64 p, .int .i64 q]
theorem twoC_one (p q : Int) : ∀ v ∈ twoC p q, v.oneCell' = true := by
  intro v hv
  simp only [twoC, List.mem_cons, List.not_mem_nil, or_false] at hv
  rcases hv with rfl | rfl <;> rfl
theorem two_range {W : World} {b o : Nat} {p q : Int} (h0 : W.cell? ⟨b, o, none⟩ = some (.int .i64 p)) (h1 : W.cell? ⟨b, o + 1, none⟩ = some (.int .i64 q)) : W.rangeAt b o (twoC p q) := by
  intro j v hj
  match j with
  | 0 => simp [twoC] at hj; subst hj; exact h0
  | 1 => simp [twoC] at hj; subst hj; exact h1
  | j + 2 => simp [twoC] at hj
/-- Its refs lie in memory. -/
def HArg (W : World) (a : Option Addr) (k : Nat) (h : Nat → Int) : Prop := k = 0 ∨ ∃ b off, a = some ⟨b, off, none⟩ ∧ (∀ j, j < 2 * k → W.cell? ⟨b, off + j, none⟩ = some (.int .i64 (h j))) ∧ b < W.heap.size
theorem HArg.below {W W' : World} {a : Option Addr} {k : Nat} {h : Nat → Int} (hA : HArg W a k h) (hB : Below W.heap.size W W') : HArg W' a k h := by
  rcases hA with e | ⟨b, off, rfl, hc, hb⟩
  · exact .inl e
  · exact .inr ⟨b, off, rfl, fun j hj => (hB.cell (p := ⟨b, off + j, none⟩) hb).trans (hc j hj), Nat.lt_of_lt_of_le hb hB.size⟩
theorem HArg.but {W W' : World} {a : Option Addr} {k c : Nat} {h : Nat → Int} (hA : HArg W a k h) (hB : But c W W') (hn : ∀ r, a = some r → r.block ≠ c) : HArg W' a k h := by
  rcases hA with e | ⟨b, off, rfl, hc, hb⟩
  · exact .inl e
  · exact .inr ⟨b, off, rfl, fun j hj => (hB.cell (p := ⟨b, off + j, none⟩) hb (hn ⟨b, off, none⟩ rfl)).trans (hc j hj), Nat.lt_of_lt_of_le hb hB.size⟩
theorem HArg.congr {W : World} {a : Option Addr} {k : Nat} {h g : Nat → Int} (hA : HArg W a k h) (e : ∀ j, j < 2 * k → h j = g j) : HArg W a k g := by
  rcases hA with q | ⟨b, off, rfl, hc, hb⟩
  · exact .inl q
  · exact .inr ⟨b, off, rfl, fun j hj => by rw [hc j hj, e j hj], hb⟩
theorem HArg.two {W : World} {b off k j : Nat} {h : Nat → Int} (hc : ∀ j, j < 2 * k → W.cell? ⟨b, off + j, none⟩ = some (.int .i64 (h j))) (hj : j < k) : W.rangeAt b (off + j * 2) (twoC (h (2 * j)) (h (2 * j + 1))) :=
  two_range (by have := hc (2 * j) (by omega); rw [Nat.mul_comm j 2]; exact this) (by have := hc (2 * j + 1) (by omega); rw [Nat.mul_comm j 2]; exact this)
/-- A block's refs and body lie in memory. -/
structure BlkAt (W : World) (s : Blk) (a : Option Addr) (C : Nat) (b : Option Addr) (D : Nat) : Prop where
  refs : HArg W a s.k s.h
  kC : s.k ≤ C
  body : Arg W b s.n s.F
  nD : s.n ≤ D
theorem BlkAt.below {W W' : World} {s : Blk} {a b : Option Addr} {C D : Nat} (h : BlkAt W s a C b D) (hB : Below W.heap.size W W') : BlkAt W' s a C b D := ⟨h.refs.below hB, h.kC, h.body.below hB, h.nD⟩
theorem BlkAt.byt {W : World} {s : Blk} {a b : Option Addr} {C D : Nat} (h : BlkAt W s a C b D) : s.Byt := h.body.bytes
/-- A list of structs of z numbers each, made behind base. -/
def OwnI (w : World) (base : Nat) (e : TypeId) (z : Nat) (v : Value) (n : Nat) (F : Nat → Int) : Prop := w.ownsRow base e z v n (cl .i64 (n * z) F)
theorem OwnI.congr {w : World} {base : Nat} {e : TypeId} {z : Nat} {v : Value} {n : Nat} {F G : Nat → Int} (h : OwnI w base e z v n F) (q : ∀ j, j < n * z → F j = G j) : OwnI w base e z v n G := by
  unfold OwnI at h ⊢
  rw [← cl_congr .i64 (n * z) F G q]
  exact h
theorem OwnI.below {w u : World} {base : Nat} {e : TypeId} {z : Nat} {v : Value} {n : Nat} {F : Nat → Int} (h : OwnI w base e z v n F) (hB : Below w.heap.size w u) : OwnI u base e z v n F := by
  refine ⟨h.1, ?_⟩
  rcases h.2 with h0 | ⟨g, cap, cur, hv, hb, hg, rest⟩
  · exact .inl h0
  · exact .inr ⟨g, cap, cur, hv, hb, (hB.block g (Array.getElem?_eq_some_iff.1 hg).1).trans hg, rest⟩
theorem OwnI.but {w u : World} {base c : Nat} {e : TypeId} {z : Nat} {v : Value} {n : Nat} {F : Nat → Int} (h : OwnI w base e z v n F) (hB : But c w u) (hc : c < base) : OwnI u base e z v n F := by
  refine ⟨h.1, ?_⟩
  rcases h.2 with h0 | ⟨g, cap, cur, hv, hb, hg, rest⟩
  · exact .inl h0
  · exact .inr ⟨g, cap, cur, hv, hb, (hB.block g (Array.getElem?_eq_some_iff.1 hg).1 (by omega)).trans hg, rest⟩
/-- Where it lies. -/
theorem OwnI.form {w : World} {base : Nat} {e : TypeId} {z : Nat} {v : Value} {n : Nat} {F : Nat → Int} (h : OwnI w base e z v n F) (hn : 0 < n) : ∃ g cap, v = .slice (some ⟨g, 0, none⟩) n cap ∧ base ≤ g ∧ n ≤ cap ∧ (∀ j, j < n * z → w.cell? ⟨g, j, none⟩ = some (.int .i64 (F j))) ∧ g < w.heap.size := by
  rcases h.2 with ⟨_, h0⟩ | ⟨g, cap, cur, rfl, hbg, hg, hnc, _, hsz, htake⟩
  · omega
  refine ⟨g, cap, rfl, hbg, hnc, fun j hj => ?_, (Array.getElem?_eq_some_iff.1 hg).1⟩
  rw [cell_of_row w g j cur e (0, 0) hg]
  have := cl_at .i64 (n * z) F j hj
  rw [← htake, List.getElem?_take, if_pos hj] at this
  simpa using this
theorem OwnI.slice {w : World} {base : Nat} {e : TypeId} {z : Nat} {v : Value} {n : Nat} {F : Nat → Int} (h : OwnI w base e z v n F) : ∃ a cap, v = .slice a n cap ∧ n ≤ cap := by
  rcases h.2 with ⟨rfl, h0⟩ | ⟨g, cap, cur, rfl, hbg, hg, hnc, _⟩
  · exact ⟨none, 0, by rw [h0], by omega⟩
  · exact ⟨_, cap, rfl, hnc⟩
/-- append onto such a list. -/
theorem OwnI.appw {W : World} {base : Nat} {T e ty : TypeId} {z by' : Nat} {zv : Value} (hT : Tryz.prog.underlying T = some (.slice e)) (hinfo : (Tryz.prog.info? e).map (fun i => (i.zero, i.size, i.bytes)) = some (some zv, z, by')) (hzs : zv.cells.size = z) (hz : 0 < z)
    {v : Value} {n m C : Nat} {F G : Nat → Int} (ho : OwnI W base e z v n F) (g off : Nat) (hc : ∀ j, j < m * z → W.cell? ⟨g, off + j, none⟩ = some (.int .i64 (G j))) (hm : n + m ≤ 140737488355328) (hb : (n + m) * by' ≤ 140737488355328) (hbase : base ≤ W.heap.size) :
    ∃ v' W', (Builtin.append_ #[T, T] ty #[v, .slice (some ⟨g, off, none⟩) m C]).run Tryz.prog W = .ok v' W' ∧ OwnI W' base e z v' (n + m) (cat F (n * z) G) ∧ Below base W W' := by
  obtain ⟨i0, hi, hz0, hz1, hz2⟩ := info_parts hinfo
  obtain ⟨v', W', h1, h2, h3, _⟩ := run_append_own (P := Tryz.prog) W base T ty e i0 zv z by' hT hi hz0 hz1 hz2 hzs hz v n (cl .i64 (n * z) F) ho ⟨g, off, none⟩ m C (cl .i64 (m * z) G) (by rw [cl_len]) (fun j u hj => by obtain ⟨h, rfl⟩ := cl_at' hj; rw [Addr.add_mid]; exact hc j h) (cl_one _ _ _) (by unfold maxLen; omega) hb hbase
  rw [cl_cat, ← Nat.add_mul] at h2
  exact ⟨v', W', h1, h2, (Below.refl _ _).grown h3 hbase (fun k hk => (World.ownsRow.lt ho k hk).1)⟩
theorem OwnI.app {W : World} {base : Nat} {T e ty : TypeId} {z by' : Nat} {zv : Value} (hT : Tryz.prog.underlying T = some (.slice e)) (hinfo : (Tryz.prog.info? e).map (fun i => (i.zero, i.size, i.bytes)) = some (some zv, z, by')) (hzs : zv.cells.size = z) (hz : 0 < z) (hby : by' ≤ 1000)
    {v : Value} {n m C : Nat} {F G : Nat → Int} (ho : OwnI W base e z v n F) (g off : Nat) (hc : ∀ j, j < m * z → W.cell? ⟨g, off + j, none⟩ = some (.int .i64 (G j))) (hm : n + m ≤ 100000) (hbase : base ≤ W.heap.size) :
    ∃ v' W', (Builtin.append_ #[T, T] ty #[v, .slice (some ⟨g, off, none⟩) m C]).run Tryz.prog W = .ok v' W' ∧ OwnI W' base e z v' (n + m) (cat F (n * z) G) ∧ Below base W W' :=
  OwnI.appw hT hinfo hzs hz ho g off hc (by omega) (Nat.le_trans (Nat.mul_le_mul hm hby) (by omega)) hbase
theorem OwnI.lit (w : World) (base : Nat) (e : TypeId) (z n : Nat) (F : Nat → Int) (hb : base ≤ w.heap.size) (hn : n ≤ 1000000) : OwnI (w.alloc (.cells (cl .i64 (n * z) F).toArray e)) base e z (.slice (some ⟨w.heap.size, 0, none⟩) n n) n F := by
  have := World.ownsRow_lit (e := e) (size := z) (base := base) w (cl .i64 (n * z) F).toArray n hb (by unfold maxLen; omega) (by simp [cl_len])
  simpa [OwnI] using this
theorem OwnI.nil (w : World) (base : Nat) (e : TypeId) (z : Nat) (F : Nat → Int) : OwnI w base e z (.slice none 0 0) 0 F := by
  have := World.ownsRow_nil w base e z
  unfold OwnI
  rw [Nat.zero_mul]
  exact this
/-- A load of a record behind a guard. -/
theorem wpList_load_g {ops : Array Oper} {rest : List Oper} {op : Oper} {a : Act} {w : World} {Q : Exit → Act → World → Prop} (hw : Region.wanted op (yielded ops a.tmps) = true) (ty : TypeId) (x : Operand) (ho : op.op = .load ty x)
    (b o : Nat) (cs : List Value) (hx : a.eval x = .pointer (some ⟨b, o, none⟩)) (d : TypeDesc) (hu : Tryz.prog.underlying ty = some d) (hd : d.isRow = true) (hi : (Tryz.prog.info? ty).map (·.size) = some cs.length)
    (h : w.rangeAt b o cs) (hK : wpList Tryz.prog ops Q rest (a.put op.dst (.agg cs.toArray)) w) : wpList Tryz.prog ops Q (op :: rest) a w := by
  refine wpList_step fun K hK' => ?_
  rw [if_pos hw]
  unfold Oper.wp execOp
  simp only [ho, hx, Instr.loadAt, Instr.sureAddr, Sem.run_bind, Sem.run_pure, Result.andThen_ok, run_loadVar_mid (P := Tryz.prog) w b o ty cs d h hu hd hi]
  exact hK' _ _ hK
end Go.Proofs.YtblphlcnbnklmaaGreatDoor
