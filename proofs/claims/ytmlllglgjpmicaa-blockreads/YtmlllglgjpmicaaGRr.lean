/-
  Walks, not a claim by itself: the reference's Read of blocks. By the verifier.
-/
import Derived.Test.YtmlllglgjpmicaaGCp
import Derived.Great.BuildSlice
import Derived.Test.YtmlllglgjpmicaaGate
import Derived.Test.YtmlllglgjpmicaaGSl
namespace Go.Proofs.Ytmlllglgjpmicaa
open Go.RowKit
theorem Rec19.cel {W : World} {n : Nat} {cs : List Value} (h : Rec19 W n 0 cs) (o : Nat) (v : Value) (ho : cs[o]? = some v) : W.cell? ⟨n, o, none⟩ = some v ∧ W.frozen? ⟨n, o, none⟩ = false := by
  have h1 := h.1 o v ho
  have hl : o < cs.length := by
    rcases Nat.lt_or_ge o cs.length with q | q
    · exact q
    · rw [List.getElem?_eq_none q] at ho; cases ho
  have h2 := (h.2.1 o hl).2
  rw [Nat.zero_add] at h1 h2
  exact ⟨h1, h2⟩
theorem Rec19.put {W : World} {n : Nat} {cs : List Value} (h : Rec19 W n 0 cs) (o : Nat) (v : Value) : Rec19 (W.setCell ⟨n, o, none⟩ v) n 0 (cs.set o v) := by
  refine ⟨fun j u hj => ?_, fun j hj => ?_, by simp [World.setCell]; exact h.2.2⟩
  · rw [Nat.zero_add]
    rw [List.getElem?_set] at hj
    by_cases e : o = j
    · subst e
      rw [if_pos rfl] at hj
      split at hj
      · rename_i hl
        injection hj with hj
        subst hj
        have := (h.2.1 o hl).1
        rw [Nat.zero_add] at this
        exact World.cell?_setCell_same' _ _ _ this
      · cases hj
    · rw [if_neg e] at hj
      rw [World.cell?_setCell_other _ (a := ⟨n, o, none⟩) (b := ⟨n, j, none⟩) _ (fun q => e (by injection q))]
      have := h.1 j u hj
      rw [Nat.zero_add] at this
      exact this
  · rw [List.length_set] at hj
    have := h.2.1 j hj
    rw [Nat.zero_add] at this ⊢
    refine ⟨?_, by simpa using this.2⟩
    by_cases e : o = j
    · subst e
      rw [World.cell?_setCell_same' _ _ _ this.1]
      rfl
    · rw [World.cell?_setCell_other _ (a := ⟨n, o, none⟩) (b := ⟨n, j, none⟩) _ (fun q => e (by injection q))]
      exact this.1

/-! Maps from numbers to sectors. -/
theorem vappend_run {a : Act} {w : World} {o : Oper} (d x : Operand) (dT sT : TypeId) (hop : o.op = Op.call { callee := Callee.builtin Builtin.append, args := #[d, x], argTypes := #[dT, sT] })
    (v u : Value) (hd : a.eval d = v) (hx : a.eval x = u) {v' : Value} {w' : World} (hr : (Builtin.append_ #[dT, sT] o.type #[v, u]).run Try.prog w = .ok v' w') : (execOp a.eval o).run Try.prog w = .ok (.value v') w' := by
  simp [execOp, hop, resolve, invoke, builtin, hd, hx, hr, Result.andThen]
theorem bs_run {a : Act} {w : World} {o : Oper} (t e : TypeId) (len : Nat) (parts : Array (Nat × Operand)) (ho : o.op = .buildSlice t len parts) (sz by' : Nat) (z : Value) (cells : Array Value) (vs : List (Nat × Value))
    (hu : Try.prog.underlying t = some (.slice e)) (hinfo : (Try.prog.info? e).map (fun i => (i.zero, i.size, i.bytes)) = some (some z, sz, by')) (hsmall : ¬ len * sz > 2 ^ 24) (hpos : ¬ len * sz = 0)
    (hv : (parts.map fun (i, x) => (i, a.eval x)).toList = vs) (hf : Instr.fill (fun i => some (i * sz, sz)) ((Array.range (len * sz)).map (z.cells[· % z.cells.size]!)) vs = some cells) :
    (execOp a.eval o).run Try.prog w = .ok (.value (.slice (some ⟨w.heap.size, 0, none⟩) len len)) (w.alloc (.cells cells e)) := by
  obtain ⟨ie, hie, hz0, hz1, _⟩ := info_parts hinfo
  unfold execOp
  simp only [ho, Sem.run_bind, run_buildSlice w t e len _ cells ie z hu hie hz0 (by rw [hz1]; exact hsmall) (by rw [hz1]; exact hpos) (by rw [hv, hz1]; exact hf), Result.andThen_ok]
  rfl
theorem vbuild_run {a : Act} {w : World} {o : Oper} (t : TypeId) (parts : Array (Nat × Operand)) (ho : o.op = .build t parts) (cells : Array Value) (hf : Try.prog.built t (parts.map fun (i, x) => (i, a.eval x)).toList = some cells) :
    (execOp a.eval o).run Try.prog w = .ok (.value (.agg cells)) w := by
  unfold execOp
  simp only [ho, Sem.run_bind, run_build w t _ cells hf, Result.andThen_ok]
  rfl
theorem wpList_alloc_X {ops : Array Oper} {rest : List Oper} {op : Oper} {a : Act} {w : World} {Q : Exit → Act → World → Prop} (hgd : op.guard = none) (ty : TypeId) (ho : op.op = .alloc ty) (cs : List Value)
    (hz : (Try.prog.info? ty).bind (·.zero) = some (.agg cs.toArray))
    (hK : ∀ X W, w.heap.size = X → Rec19 W X 0 cs → Below X w W → W.heap.size = X + 1 → wpList Try.prog ops Q rest (a.put op.dst (.pointer (some ⟨X, 0, none⟩))) W) : wpList Try.prog ops Q (op :: rest) a w :=
  wpList_alloc_rec hgd ty ho cs w.heap.size rfl hz (fun W h1 h2 h3 => hK _ W rfl h1 h2 h3)
theorem st1_run {a : Act} {w : World} {o : Oper} (x y : Operand) (hop : o.op = .store 24 x y) (X f : Nat) (p : Option Addr) (k C : Nat) (old : Value) (hx : a.eval x = .pointer (some ⟨X, f, none⟩)) (hy : a.eval y = .slice p k C) (hc : w.cell? ⟨X, f, none⟩ = some old) (hfz : w.frozen? ⟨X, f, none⟩ = false) :
    (execOp a.eval o).run Try.prog w = .ok .skip (w.setCell ⟨X, f, none⟩ (.slice p k C)) := by
  unfold execOp
  simp only [hop, hx, hy]
  simp [go_sem, hc, hfz]
theorem ld1_run {a : Act} {w : World} {o : Oper} (x : Operand) (hop : o.op = .load 24 x) (X f : Nat) (p : Option Addr) (k C : Nat) (hx : a.eval x = .pointer (some ⟨X, f, none⟩)) (hc : w.cell? ⟨X, f, none⟩ = some (.slice p k C)) :
    (execOp a.eval o).run Try.prog w = .ok (.value (.slice p k C)) w := by
  unfold execOp
  simp only [hop, hx]
  simp [go_sem, hc]
theorem cv_run {a : Act} {w : World} {o : Oper} (x : Operand) (hop : o.op = .convert 25 9 x) (p : Option Addr) (n C : Nat) (f : Nat → Int) (hx : a.eval x = .slice p n C) (h : Arg w p n f) : (execOp a.eval o).run Try.prog w = .ok (.value (.string (txtN n f))) w := by
  unfold execOp
  simp only [hop, hx, Sem.run_bind, conv_arg w p n C f h, Result.andThen_ok]
  rfl
section
variable {ops : Array Oper} {Q : Exit → Act → World → Prop} {md : Region.Mode} {S : World → Prop}
/-- A store that alone may come up. -/
theorem vskip_at {i : Nat} {o : Oper} {fuel : Nat} {listed : Array Bool} {a : Act} {w : World} (d : Option Tmp) (hi : ops[i]? = some o) (hd : o.dst = d) (hw : Region.wanted o (yielded ops a.tmps) = true) (hr : Region.ready md ops listed = [i])
    (w' : World) (hx : (execOp a.eval o).run Try.prog w = .ok .skip w') (hS : S w') (h : S w' → wpAnyH Try.prog md ops Q S fuel (listed.setIfInBounds i true) (a.put d undef) w') : wpAnyH Try.prog md ops Q S (fuel + 1) listed a w := by
  subst hd
  refine wpAnyH_all hr (by simp) (fun j hj => ?_)
  obtain rfl : j = i := by simpa using hj
  unfold wpOp
  simp only [hi, hw, if_true]
  refine .inl ?_
  unfold Oper.wp
  rw [hx]
  exact ⟨hS, h hS⟩
/-- An operation whose run is known, where others may come up. -/
theorem all_run {i : Nat} {o : Oper} {rs : List Nat} {fuel : Nat} {listed : Array Bool} {a : Act} {w : World} (d : Option Tmp) (ho : ops[i]? = some o) (hd : o.dst = d) (hw : Region.wanted o (yielded ops a.tmps) = true) (v : Value) (w' : World)
    (hx : (execOp a.eval o).run Try.prog w = .ok (.value v) w') (hS : S w') (h : S w' → wpAnyH Try.prog md ops Q S fuel (listed.setIfInBounds i true) (a.put d v) w')
    (hs : AllReadyH Try.prog md ops Q S fuel listed a w rs) : AllReadyH Try.prog md ops Q S fuel listed a w (i :: rs) := by
  subst hd
  refine AllReadyH.cons ho (fun K hK => ?_) hs
  rw [if_pos hw]
  unfold Oper.wp
  rw [hx]
  exact hK.out _ _ hS h
end
theorem at_l (b off C i : Nat) (z v : Int) (F : Nat → Int) (w : World) (h : Lies w b off 1024 F) (hz : z = ((16 + 4 * i : Nat) : Int)) (hi : i < 37) (hv : rdN (behO F) i = v) : Calls Try.prog 35 #[.slice (some ⟨b, off, none⟩) 1024 C, .int .i64 z] w fun e w' => e = .returned (.int .i64 v) ∧ Below w.heap.size w w' := by
  subst hz hv
  have := at_any b off 1024 C (16 + 4 * i) F w h (by omega) (by omega)
  rwa [show ps (fun j => F (16 + 4 * i + j)) 4 = rdN (behO F) i from ps_congr _ _ 4 fun j _ => by show F (16 + 4 * i + j) = F (16 + (4 * i + j)); rw [Nat.add_assoc]] at this
/-- What was read, with so many refs and bytes. -/
def tK (F : Nat → Int) (k m : Nat) : Blk := ⟨rdN (behO F), k, fun j => rdN (behO F) (5 + j), m, fun j => behO F (148 + j)⟩
/-- What lies there all the time. -/
def rvS (w : World) (b off : Nat) (F : Nat → Int) (r : Option Addr) (W : World) : Prop := Below w.heap.size w W ∧ Rec19 W w.heap.size 0 (blkC blk0 none 0 none 0) ∧ Lies W b off 1024 F ∧ Arg W r 1008 (behO F) ∧ b < w.heap.size ∧ (∀ p, r = some p → p.block < W.heap.size)
theorem rvS.below {w : World} {b off : Nat} {F : Nat → Int} {r : Option Addr} {W W' : World} (h : rvS w b off F r W) (hB : Below W.heap.size W W') : rvS w b off F r W' :=
  ⟨h.1.trans (hB.mono h.1.size), h.2.1.below hB, h.2.2.1.below hB, h.2.2.2.1.below hB, h.2.2.2.2.1, fun p hp => Nat.lt_of_lt_of_le (h.2.2.2.2.2 p hp) hB.size⟩
theorem rvS.but {w : World} {b off X : Nat} {F : Nat → Int} {r : Option Addr} {W W' : World} (h : rvS w b off F r W) (hB : But X W W') (hX : w.heap.size < X) (hr : ∀ p, r = some p → p.block ≠ X) : rvS w b off F r W' :=
  ⟨h.1.trans (hB.below (by omega) h.1.size), h.2.1.but hB (by omega), h.2.2.1.but hB (by have := h.2.2.2.2.1; omega), h.2.2.2.1.but hB hr, h.2.2.2.2.1, fun p hp => Nat.lt_of_lt_of_le (h.2.2.2.2.2 p hp) hB.size⟩
/-- At the head of the loop. -/
def rdI (w : World) (b off X j : Nat) (F : Nat → Int) (r a : Option Addr) (C : Nat) (W : World) : Prop := rvS w b off F r W ∧ Rec19 W X 0 (blkC (tK F j 0) a C none 0) ∧ OwnI W (X + 1) 23 2 (.slice a j C) j (fun q => rdN (behO F) (5 + q)) ∧ w.heap.size < X ∧ X < W.heap.size ∧ (∀ p, r = some p → p.block < X)
theorem rdI.below {w : World} {b off X j : Nat} {F : Nat → Int} {r a : Option Addr} {C : Nat} {W W' : World} (h : rdI w b off X j F r a C W) (hB : Below W.heap.size W W') : rdI w b off X j F r a C W' :=
  ⟨h.1.below hB, h.2.1.below hB, h.2.2.1.below hB, h.2.2.2.1, Nat.lt_of_lt_of_le h.2.2.2.2.1 hB.size, h.2.2.2.2.2⟩
theorem harg_of {W : World} {base j m : Nat} {F : Nat → Int} {a : Option Addr} {C : Nat} (h : OwnI W base 23 2 (.slice a j C) j (fun q => rdN (behO F) (5 + q))) : HArg W a (tK F j m).k (tK F j m).h := by
  by_cases k0 : j = 0
  · exact .inl k0
  · obtain ⟨g, cap, e, _, _, hc, hg⟩ := h.form (by omega)
    injection e with e1 _ _
    subst e1
    exact .inr ⟨g, 0, rfl, fun q hq => by rw [Nat.zero_add]; exact hc q (by show q < j * 2; have : q < 2 * j := hq; omega), hg⟩
theorem harg_oR {W W' : World} {a : Option Addr} {k c : Nat} {h : Nat → Int} (hA : HArg W a k h) (hB : But c W W') (hn : ∀ r : Addr, a = some r → k = 0 ∨ r.block ≠ c) : HArg W' a k h := by
  by_cases k0 : k = 0
  · exact .inl k0
  · exact hA.but hB (fun r hr => by rcases hn r hr with q | q; (· exact absurd q k0); (· exact q))
def rdRel (w : World) (b off X : Nat) (F : Nat → Int) (r : Option Addr) (k : Nat) (i : Value) (W : World) : Prop := ∃ (j : Nat) (a : Option Addr) (C : Nat), j ≤ k ∧ i = .int .i64 (j : Int) ∧ rdI w b off X j F r a C W
theorem blkC_set (F : Nat → Int) (j j' : Nat) (a a' : Option Addr) (C C' : Nat) : (blkC (tK F j 0) a C none 0).set 3 (.slice a' j' C') = blkC (tK F j' 0) a' C' none 0 := rfl
/-- One ref more. -/
theorem rd_app {w : World} {b off X j : Nat} {F : Nat → Int} {r a : Option Addr} {C : Nat} {V : World} (h : rdI w b off X j F r a C V) (hj : j ≤ 16) (y0 y1 : Int) (e0 : rdN (behO F) (5 + 2 * j) = y0) (e1 : rdN (behO F) (6 + 2 * j) = y1) :
    ∃ a' C' W', (Builtin.append_ #[24, 24] 24 #[.slice a j C, .slice (some ⟨V.heap.size, 0, none⟩) 1 1]).run Try.prog (V.alloc (.cells #[.int .i64 y0, .int .i64 y1] 23)) = .ok (.slice a' (j + 1) C') W' ∧ W'.cell? ⟨X, 3, none⟩ = some (.slice a j C) ∧ W'.frozen? ⟨X, 3, none⟩ = false ∧ rvS w b off F r W' ∧ rdI w b off X (j + 1) F r a' C' (W'.setCell ⟨X, 3, none⟩ (.slice a' (j + 1) C')) := by
  have BA : Below V.heap.size V (V.alloc (.cells #[.int .i64 y0, .int .i64 y1] 23)) := (Below.refl _ _).alloc (Nat.le_refl _) _
  have hX := h.2.2.2.2.1
  have z2 := BA.size
  obtain ⟨v', W', h1, h2, h3⟩ := OwnI.app (T := 24) (ty := 24) (C := 1) (m := 1) Try.underlying24 info_rf rfl (by omega) (by omega) (h.2.2.1.below BA) V.heap.size 0 (G := fun q => if q = 0 then y0 else y1) (fun q hq => by
    rw [Nat.zero_add, cell_of_row _ _ _ _ _ _ (heap_alloc_new _ _)]
    match q, hq with
    | 0, _ => rfl
    | 1, _ => rfl
    | q + 2, hq => omega) (by omega) (by omega)
  have h2' : OwnI W' (X + 1) 23 2 v' (j + 1) (fun q => rdN (behO F) (5 + q)) := by
    have h2'' : OwnI W' (X + 1) 23 2 v' (j + 1) (cat (fun q => rdN (behO F) (5 + q)) (j * 2) fun q => if q = 0 then y0 else y1) := h2
    refine h2''.congr fun q hq => ?_
    unfold cat
    by_cases g : q < j * 2
    · rw [if_pos g]
    · rw [if_neg g]
      show (if q - j * 2 = 0 then y0 else y1) = rdN (behO F) (5 + q)
      by_cases g0 : q = j * 2
      · rw [if_pos (by omega), g0, ← e0, Nat.mul_comm]
      · rw [if_neg (by omega), ← e1, show 5 + q = 6 + 2 * j by omega]
  obtain ⟨a', C', rfl, _⟩ := h2'.slice
  have B2 : Below (X + 1) V W' := (BA.mono (by omega)).trans h3
  have z3 := B2.size
  have R' : Rec19 W' X 0 (blkC (tK F j 0) a C none 0) := ⟨fun q v hv => (B2.cell (p := ⟨X, 0 + q, none⟩) (by show X < X + 1; omega)).trans (h.2.1.1 q v hv), fun q hq => ⟨by rw [B2.cell (p := ⟨X, 0 + q, none⟩) (by show X < X + 1; omega)]; exact (h.2.1.2.1 q hq).1, by rw [B2.frozen (p := ⟨X, 0 + q, none⟩) (by show X < X + 1; omega)]; exact (h.2.1.2.1 q hq).2⟩, by omega⟩
  obtain ⟨c3, f3⟩ := R'.cel 3 _ rfl
  have S' : rvS w b off F r W' := by
    obtain ⟨s1, s2, s3, s4, s5, s6⟩ := h.1
    have hr := h.2.2.2.2.2
    refine ⟨s1.trans (B2.mono (by have := h.2.2.2.1; omega)), ?_, ?_, ?_, s5, fun p hp => Nat.lt_of_lt_of_le (s6 p hp) z3⟩
    · exact ⟨fun q v hv => (B2.cell (p := ⟨w.heap.size, 0 + q, none⟩) (by show w.heap.size < X + 1; have := h.2.2.2.1; omega)).trans (s2.1 q v hv), fun q hq => ⟨by rw [B2.cell (p := ⟨w.heap.size, 0 + q, none⟩) (by show w.heap.size < X + 1; have := h.2.2.2.1; omega)]; exact (s2.2.1 q hq).1, by rw [B2.frozen (p := ⟨w.heap.size, 0 + q, none⟩) (by show w.heap.size < X + 1; have := h.2.2.2.1; omega)]; exact (s2.2.1 q hq).2⟩, by have := h.2.2.2.1; omega⟩
    · exact ⟨fun q hq => (B2.cell (p := ⟨b, off + q, none⟩) (by show b < X + 1; have := h.2.2.2.1; omega)).trans (s3.1 q hq), s3.2.1, by have := h.2.2.2.1; omega⟩
    · rcases s4 with e | ⟨n0, rb, ro, e, l⟩
      · exact .inl e
      · have := hr _ e
        exact .inr ⟨n0, rb, ro, e, fun q hq => (B2.cell (p := ⟨rb, ro + q, none⟩) (by show rb < X + 1; have h9 : rb < X := this; omega)).trans (l.1 q hq), l.2.1, by have h9 : rb < X := this; omega⟩
  refine ⟨a', C', W', h1, c3, f3, S', ?_⟩
  have U : But X W' (W'.setCell ⟨X, 3, none⟩ (.slice a' (j + 1) C')) := But.set _ _ _
  have RP := R'.put 3 (.slice a' (j + 1) C')
  rw [blkC_set] at RP
  exact ⟨S'.but U h.2.2.2.1 (fun p hp => by have := h.2.2.2.2.2 p hp; omega), RP, h2'.but U (by omega), h.2.2.2.1, by have := U.size; omega, h.2.2.2.2.2⟩
/-- What Read answers where the seal is right. -/
def RdQ (w : World) (F : Nat → Int) (e : Ending) (w' : World) : Prop :=
  ((BlkOk (behO F) ∧ (blkOf (behO F)).May) ∧ ∃ a C b D, e = .returned (.tuple #[blkV (blkOf (behO F)) a C b D, .int .i64 0]) ∧ BlkAt w' (blkOf (behO F)) a C b D ∧ Below w.heap.size w w') ∨
  (¬ (BlkOk (behO F) ∧ (blkOf (behO F)).May) ∧ e = .returned (.tuple #[blkV blk0 none 0 none 0, .int .i64 4]) ∧ Below w.heap.size w w')
theorem tK_of {F : Nat → Int} {j m : Nat} (h : rdN (behO F) 3 = (j : Int)) (h' : rdN (behO F) 4 = (m : Int)) : tK F j m = blkOf (behO F) := by
  unfold tK blkOf
  rw [show (rdN (behO F) 3).toNat = j by omega, show (rdN (behO F) 4).toNat = m by omega]
theorem BlkOk.congr {F H : Nat → Int} (h : BlkOk F) (e : ∀ q, q < 1008 → F q = H q) : BlkOk H := by
  obtain ⟨⟨h3, h4⟩, h5, h6⟩ := h
  have r : ∀ i, i < 37 → rdN F i = rdN H i := fun i hi => rdN_congr i fun q hq => e _ (by omega)
  rw [r 3 (by omega)] at h3
  rw [r 4 (by omega)] at h4
  refine ⟨⟨h3, h4⟩, fun i hi hk => ?_, fun j hj hk => ?_⟩
  · rw [← r 3 (by omega)] at hk
    have := h5 i hi hk
    rwa [r _ (by omega), r _ (by omega)] at this
  · rw [← r 4 (by omega)] at hk
    rw [← e _ (by omega)]
    exact h6 j hj hk
/-- It is one, and these are its bytes. -/
theorem rd_yes {F : Nat → Int} (m : (blkOf (behO F)).May) (hb : ∀ q, q < 1008 → (blkOf (behO F)).beh q = behO F q) : BlkOk (behO F) ∧ (blkOf (behO F)).May := ⟨m.back.1.congr hb, m⟩
theorem rd_no {F : Nat → Int} (hF : ∀ j, j < 1024 → 0 ≤ F j ∧ F j < 256) (hb : ¬ ∀ q, q < 1008 → (blkOf (behO F)).beh q = behO F q) : ¬ (BlkOk (behO F) ∧ (blkOf (behO F)).May) := by
  rintro ⟨ok, _⟩
  exact hb fun q hq => ok.back (fun i hi => hF _ (by omega)) q hq
theorem run_cut2 (T e : TypeId) (ht : Try.prog.underlying T = some (.slice e)) (hs : (Try.prog.info? e).map (·.size) = some 1) (b o len cap l h : Nat) (h1 : l ≤ h) (h2 : h ≤ cap) (h3 : l < cap) (w : World) :
    (Instr.slice T (.slice (some ⟨b, o, none⟩) len cap) (some (.int .i64 (l : Int))) (some (.int .i64 (h : Int))) none).run Try.prog w = .ok (.slice (some ⟨b, o + l, none⟩) (h - l) (cap - l)) w := by
  cases hq : Try.prog.info? e with
  | none => simp [hq] at hs
  | some i =>
    have hz : i.size = 1 := by simpa [hq] using hs
    have h4 : ¬ cap = l := by omega
    simp [Instr.slice, Instr.sliceBounds, run_underlying ht, Instr.sliceBound, asIntOf, h1, h2, h4, sizeOf, typeInfo, hq, hz, Addr.add_mid]
theorem wpList_cut2 {ops : Array Oper} {rest : List Oper} {op : Oper} {a : Act} {w : World} {Q : Exit → Act → World → Prop} (hw : Region.wanted op (yielded ops a.tmps) = true) (T e : TypeId) (x y z : Operand) (ho : op.op = .slice T x (some y) (some z) none)
    (ht : Try.prog.underlying T = some (.slice e)) (he : Try.prog.underlying T = some (.slice (Try.prog.elem T))) (hs : (Try.prog.info? e).map (·.size) = some 1) (b o len cap l h : Nat) (i i' : Int) (hx : a.eval x = .slice (some ⟨b, o, none⟩) len cap) (hy : a.eval y = .int .i64 i) (hz : a.eval z = .int .i64 i') (hi : i = (l : Int)) (hi' : i' = (h : Int)) (h1 : l ≤ h) (h2 : h ≤ cap) (h3 : l < cap)
    (hK : wpList Try.prog ops Q rest (a.put op.dst (.slice (some ⟨b, o + l, none⟩) (h - l) (cap - l))) w) : wpList Try.prog ops Q (op :: rest) a w := by
  subst hi hi'
  refine wpList_step fun K hK' => ?_
  rw [if_pos hw]
  unfold Oper.wp execOp
  simp only [ho, hx, Option.map_some, Option.map_none, hy, hz, Sem.run_bind, run_sliceAt_slice _ _ _ _ _ _ he, run_cut2 T e ht hs b o len cap l h h1 h2 h3, Result.andThen_ok]
  exact hK' _ _ hK
/-- When all is read. -/
def rdJ (w : World) (b off X : Nat) (F : Nat → Int) (r a : Option Addr) (C : Nat) (d : Option Addr) (D : Nat) (W : World) : Prop := rvS w b off F r W ∧ Rec19 W X 0 (blkC (blkOf (behO F)) a C d D) ∧ BlkAt W (blkOf (behO F)) a C d D ∧ w.heap.size < X
theorem rdJ.below {w : World} {b off X : Nat} {F : Nat → Int} {r a d : Option Addr} {C D : Nat} {W W' : World} (h : rdJ w b off X F r a C d D W) (hB : Below W.heap.size W W') : rdJ w b off X F r a C d D W' := ⟨h.1.below hB, h.2.1.below hB, h.2.2.1.below hB, h.2.2.2⟩
set_option maxRecDepth 100000 in
set_option maxHeartbeats 4000000 in
theorem rread_len (a : Option Addr) (n C : Nat) (w : World) (h : n ≠ 1024) : Calls Try.prog 20 #[.slice a n C] w fun e w' => e = .returned (.tuple #[blkV blk0 none 0 none 0, .int .i64 4]) ∧ Below w.heap.size w w' := by
  have h' : ¬ (n : Int) = 1024 := by omega
  go_enter Try.func20, Try.ntmps20
  go_wp2_with (first
    | (refine wpList_alloc_rec rfl 27 rfl (blkC blk0 none 0 none 0) w.heap.size rfl zero_blk ?_; intro W0 R0 B0 z0)
    | (refine wpList_build_to rfl 27 #[] rfl (blkC blk0 none 0 none 0).toArray (by kernel_rfl) ?_)
    | (refine wpList_store_rec rfl 27 (.tmp 2) (.tmp 13) rfl w.heap.size 0 (blkC blk0 none 0 none 0) (blkC blk0 none 0 none 0) rfl rfl R0 rfl (by kernel_rfl) (blkC_one _ _ _ _ _) ?_; intro W9 R9 B9; have E9 := hidIt (B0.trans (B9.below (Nat.le_refl _) B0.size)); have R9' := hidIt R9; clear R9 B9))
  have hl := R9'.out.run_load 27 _ Try.underlying27 rfl (by kernel_rfl)
  refine bodyPost_ret (v := .tuple #[.agg (blkC blk0 none 0 none 0).toArray, .int .i64 4]) (by simp [results, Try.results20, asAddr, hl]) rfl ⟨rfl, E9.out⟩
set_option maxRecDepth 100000 in
set_option maxHeartbeats 4000000 in
theorem rread_seal (b off C : Nat) (F : Nat → Int) (w : World) (hL : Lies w b off 1024 F) (hC : 1024 ≤ C) (ho : opens 1024 F = false) : Calls Try.prog 20 #[.slice (some ⟨b, off, none⟩) 1024 C] w fun e w' => e = .returned (.tuple #[blkV blk0 none 0 none 0, .int .i64 12]) ∧ Below w.heap.size w w' := by
  have OP : Hid (∀ u, Below w.heap.size w u → Calls Try.prog 34 #[.slice (some ⟨b, off, none⟩) 1024 C] u fun e w' => e = .returned (.tuple #[.slice none 0 0, .int .i64 12]) ∧ Below u.heap.size u w') := fun u hB => hopen_no (some ⟨b, off, none⟩) 1024 C F u (Arg.of (hL.below hB)) (by omega) hC (by omega) ho
  clear hL ho hC
  go_enter Try.func20, Try.ntmps20
  go_wp2_with (first
    | (refine wpList_alloc_rec rfl 27 rfl (blkC blk0 none 0 none 0) w.heap.size rfl zero_blk ?_; intro W0 R0 B0 z0)
    | (go_at_call 34; refine (OP.out _ B0).mono ?_; rintro e W1 ⟨rfl, B1⟩
       have E1 := hidIt (B0.trans (B1.mono B0.size))
       have R1 := hidIt (R0.below B1)
       clear B1 R0 B0 z0)
    | (refine wpList_build_to rfl 27 #[] rfl (blkC blk0 none 0 none 0).toArray (by kernel_rfl) ?_)
    | (refine wpList_store_rec rfl 27 (.tmp 2) (.tmp 21) rfl w.heap.size 0 (blkC blk0 none 0 none 0) (blkC blk0 none 0 none 0) rfl rfl R1.out rfl (by kernel_rfl) (blkC_one _ _ _ _ _) ?_; intro W9 R9 B9; have E9 := hidIt (E1.out.trans (B9.below (Nat.le_refl _) E1.out.size)); have R9' := hidIt R9; clear R9 B9))
  have hl := R9'.out.run_load 27 _ Try.underlying27 rfl (by kernel_rfl)
  refine bodyPost_ret (v := .tuple #[.agg (blkC blk0 none 0 none 0).toArray, .int .i64 12]) (by simp [results, Try.results20, asAddr, hl]) rfl ⟨rfl, E9.out⟩
set_option maxRecDepth 100000 in
set_option maxHeartbeats 4000000 in
theorem rread_sz1 (b off C : Nat) (F : Nat → Int) (w : World) (hL : Lies w b off 1024 F) (hC : 1024 ≤ C) (ho : opens 1024 F = true) (x3 x4 : Int) (e3 : rdN (behO F) 3 = x3) (e4 : rdN (behO F) 4 = x4) (h3 : 16 < x3) : Calls Try.prog 20 #[.slice (some ⟨b, off, none⟩) 1024 C] w (RdQ w F) := by
  have OP : Hid (∀ u, Below w.heap.size w u → Calls Try.prog 34 #[.slice (some ⟨b, off, none⟩) 1024 C] u fun e w' => ∃ a' cap, e = .returned (.tuple #[.slice a' 1008 cap, .int .i64 0]) ∧ Arg w' a' 1008 (behO F) ∧ Below u.heap.size u w') := fun u hB => hopen_ok (some ⟨b, off, none⟩) 1024 C F u (Arg.of (hL.below hB)) (by omega) hC (by omega) ho
  have HL : Hid (Lies w b off 1024 F) := hL
  have HF : Hid (∀ j, j < 1024 → 0 ≤ F j ∧ F j < 256) := hL.2.1
  have T1 : Hid True := trivial
  clear hL ho
  have x3E := hidIt e3
  have x4E := hidIt e4
  have ND : Hid (¬ (BlkOk (behO F) ∧ (blkOf (behO F)).May)) := fun q => by have := q.1.1.1; omega
  clear e3 e4
  have K3 : Hid True := trivial
  have K4 : Hid True := trivial
  go_enter Try.func20, Try.ntmps20
  go_wp2_with (first
    | (have _q := T1; clear T1 _q; refine wpList_alloc_rec rfl 27 rfl (blkC blk0 none 0 none 0) w.heap.size rfl zero_blk ?_; intro W0 R0 B0 z0)
    | (go_at_call 34; refine (OP.out _ B0).mono ?_; rintro e W1 ⟨r, cr, rfl, hA1, B1⟩
       have LB : Hid (rvS w b off F r W1) := ⟨B0.trans (B1.mono B0.size), R0.below B1, (HL.out.below B0).below B1, hA1, HL.out.2.2, fun p hp => by
         rcases hA1 with e | ⟨_, rb, ro, e, l⟩
         · omega
         · rw [hp] at e; injection e with e; rw [e]; exact l.2.2⟩
       clear hA1 B1 R0 B0 z0)
    | (go_at_call 35; have _q := K3; have _p := LB; clear K3 _q _p; refine (at_l b off C 3 28 x3 F _ LB.out.2.2.1 rfl (by omega) x3E.out).mono ?_; rintro e WN ⟨rfl, BN⟩
       replace LB : Hid (rvS w b off F r WN) := LB.out.below BN
       clear BN)
    | (go_at_call 35; have _q := K4; have _p := LB; clear K4 _q _p; refine (at_l b off C 4 32 x4 F _ LB.out.2.2.1 rfl (by omega) x4E.out).mono ?_; rintro e WN ⟨rfl, BN⟩
       replace LB : Hid (rvS w b off F r WN) := LB.out.below BN
       clear BN)
    | (refine wpList_build_to rfl 27 #[] rfl (blkC blk0 none 0 none 0).toArray (by kernel_rfl) ?_)
    | (refine wpList_store_rec rfl 27 (.tmp 2) (.tmp 33) rfl w.heap.size 0 (blkC blk0 none 0 none 0) (blkC blk0 none 0 none 0) rfl rfl LB.out.2.1 rfl (by kernel_rfl) (blkC_one _ _ _ _ _) ?_; intro W9 R9 B9; have E9 := hidIt (LB.out.1.trans (B9.below (Nat.le_refl _) LB.out.1.size)); have R9' := hidIt R9; clear R9 B9))
  have hl := R9'.out.run_load 27 _ Try.underlying27 rfl (by kernel_rfl)
  refine bodyPost_ret (v := .tuple #[.agg (blkC blk0 none 0 none 0).toArray, .int .i64 4]) (by simp [results, Try.results20, asAddr, hl]) rfl (.inr ⟨ND.out, rfl, E9.out⟩)
set_option maxRecDepth 100000 in
set_option maxHeartbeats 4000000 in
theorem rread_sz2 (b off C : Nat) (F : Nat → Int) (w : World) (hL : Lies w b off 1024 F) (hC : 1024 ≤ C) (ho : opens 1024 F = true) (x3 x4 : Int) (e3 : rdN (behO F) 3 = x3) (e4 : rdN (behO F) 4 = x4) (h3 : ¬ 16 < x3) (h4 : 860 < x4) : Calls Try.prog 20 #[.slice (some ⟨b, off, none⟩) 1024 C] w (RdQ w F) := by
  have OP : Hid (∀ u, Below w.heap.size w u → Calls Try.prog 34 #[.slice (some ⟨b, off, none⟩) 1024 C] u fun e w' => ∃ a' cap, e = .returned (.tuple #[.slice a' 1008 cap, .int .i64 0]) ∧ Arg w' a' 1008 (behO F) ∧ Below u.heap.size u w') := fun u hB => hopen_ok (some ⟨b, off, none⟩) 1024 C F u (Arg.of (hL.below hB)) (by omega) hC (by omega) ho
  have HL : Hid (Lies w b off 1024 F) := hL
  have HF : Hid (∀ j, j < 1024 → 0 ≤ F j ∧ F j < 256) := hL.2.1
  have T1 : Hid True := trivial
  clear hL ho
  have x3E := hidIt e3
  have x4E := hidIt e4
  have ND : Hid (¬ (BlkOk (behO F) ∧ (blkOf (behO F)).May)) := fun q => by have := q.1.1.2; omega
  clear e3 e4
  have K3 : Hid True := trivial
  have K4 : Hid True := trivial
  go_enter Try.func20, Try.ntmps20
  go_wp2_with (first
    | (have _q := T1; clear T1 _q; refine wpList_alloc_rec rfl 27 rfl (blkC blk0 none 0 none 0) w.heap.size rfl zero_blk ?_; intro W0 R0 B0 z0)
    | (go_at_call 34; refine (OP.out _ B0).mono ?_; rintro e W1 ⟨r, cr, rfl, hA1, B1⟩
       have LB : Hid (rvS w b off F r W1) := ⟨B0.trans (B1.mono B0.size), R0.below B1, (HL.out.below B0).below B1, hA1, HL.out.2.2, fun p hp => by
         rcases hA1 with e | ⟨_, rb, ro, e, l⟩
         · omega
         · rw [hp] at e; injection e with e; rw [e]; exact l.2.2⟩
       clear hA1 B1 R0 B0 z0)
    | (go_at_call 35; have _q := K3; have _p := LB; clear K3 _q _p; refine (at_l b off C 3 28 x3 F _ LB.out.2.2.1 rfl (by omega) x3E.out).mono ?_; rintro e WN ⟨rfl, BN⟩
       replace LB : Hid (rvS w b off F r WN) := LB.out.below BN
       clear BN)
    | (go_at_call 35; have _q := K4; have _p := LB; clear K4 _q _p; refine (at_l b off C 4 32 x4 F _ LB.out.2.2.1 rfl (by omega) x4E.out).mono ?_; rintro e WN ⟨rfl, BN⟩
       replace LB : Hid (rvS w b off F r WN) := LB.out.below BN
       clear BN)
    | (refine wpList_build_to rfl 27 #[] rfl (blkC blk0 none 0 none 0).toArray (by kernel_rfl) ?_)
    | (refine wpList_store_rec rfl 27 (.tmp 2) (.tmp 33) rfl w.heap.size 0 (blkC blk0 none 0 none 0) (blkC blk0 none 0 none 0) rfl rfl LB.out.2.1 rfl (by kernel_rfl) (blkC_one _ _ _ _ _) ?_; intro W9 R9 B9; have E9 := hidIt (LB.out.1.trans (B9.below (Nat.le_refl _) LB.out.1.size)); have R9' := hidIt R9; clear R9 B9))
  have hl := R9'.out.run_load 27 _ Try.underlying27 rfl (by kernel_rfl)
  refine bodyPost_ret (v := .tuple #[.agg (blkC blk0 none 0 none 0).toArray, .int .i64 4]) (by simp [results, Try.results20, asAddr, hl]) rfl (.inr ⟨ND.out, rfl, E9.out⟩)
set_option maxRecDepth 100000 in
set_option maxHeartbeats 4000000 in
theorem rread_main (b off C : Nat) (F : Nat → Int) (w : World) (hL : Lies w b off 1024 F) (hC : 1024 ≤ C) (ho : opens 1024 F = true) (k m : Nat) (e3 : rdN (behO F) 3 = (k : Int)) (e4 : rdN (behO F) 4 = (m : Int)) (hk : k ≤ 16) (hm : m ≤ 860) : Calls Try.prog 20 #[.slice (some ⟨b, off, none⟩) 1024 C] w (RdQ w F) := by
  have OP : Hid (∀ u, Below w.heap.size w u → Calls Try.prog 34 #[.slice (some ⟨b, off, none⟩) 1024 C] u fun e w' => ∃ a' cap, e = .returned (.tuple #[.slice a' 1008 cap, .int .i64 0]) ∧ Arg w' a' 1008 (behO F) ∧ Below u.heap.size u w') := fun u hB => hopen_ok (some ⟨b, off, none⟩) 1024 C F u (Arg.of (hL.below hB)) (by omega) hC (by omega) ho
  have HL : Hid (Lies w b off 1024 F) := hL
  have HF : Hid (∀ j, j < 1024 → 0 ≤ F j ∧ F j < 256) := hL.2.1
  have T1 : Hid True := trivial
  clear hL ho
  have KM : Hid (rdN (behO F) 3 = (k : Int) ∧ rdN (behO F) 4 = (m : Int)) := ⟨e3, e4⟩
  have kE := hidIt e3
  have mE := hidIt e4
  obtain ⟨x0, h0⟩ : ∃ x, rdN (behO F) 0 = x := ⟨_, rfl⟩
  obtain ⟨x1, h1⟩ : ∃ x, rdN (behO F) 1 = x := ⟨_, rfl⟩
  obtain ⟨x2, h2⟩ : ∃ x, rdN (behO F) 2 = x := ⟨_, rfl⟩
  have x0E := hidIt h0
  have x1E := hidIt h1
  have x2E := hidIt h2
  have i1 : ¬ (16 : Int) < (k : Int) := by omega
  have i2 : ¬ (860 : Int) < (m : Int) := by omega
  clear e3 e4
  have K0 : Hid True := trivial
  have K1 : Hid True := trivial
  have K2 : Hid True := trivial
  have K3 : Hid True := trivial
  have K4 : Hid True := trivial
  go_enter Try.func20, Try.ntmps20
  go_wp2_with (first
    | (have _q := T1; clear T1 _q; refine wpList_alloc_rec rfl 27 rfl (blkC blk0 none 0 none 0) w.heap.size rfl zero_blk ?_; intro W0 R0 B0 z0)
    | (go_at_call 34; refine (OP.out _ B0).mono ?_; rintro e W1 ⟨r, cr, rfl, hA1, B1⟩
       have LB : Hid (rvS w b off F r W1) := ⟨B0.trans (B1.mono B0.size), R0.below B1, (HL.out.below B0).below B1, hA1, HL.out.2.2, fun p hp => by
         rcases hA1 with e | ⟨_, rb, ro, e, l⟩
         · omega
         · rw [hp] at e; injection e with e; rw [e]; exact l.2.2⟩
       clear hA1 B1 R0 B0 z0)
    | (go_at_call 35; have _q := K3; have _p := LB; clear K3 _q _p; refine (at_l b off C 3 28 (k : Int) F _ LB.out.2.2.1 rfl (by omega) kE.out).mono ?_; rintro e WN ⟨rfl, BN⟩
       replace LB : Hid (rvS w b off F r WN) := LB.out.below BN
       clear BN)
    | (go_at_call 35; have _q := K4; have _p := LB; clear K4 _q _p; refine (at_l b off C 4 32 (m : Int) F _ LB.out.2.2.1 rfl (by omega) mE.out).mono ?_; rintro e WN ⟨rfl, BN⟩
       replace LB : Hid (rvS w b off F r WN) := LB.out.below BN
       clear BN)
    | (go_at_call 35; have _q := K0; have _p := LB; clear K0 _q _p; refine (at_l b off C 0 16 x0 F _ LB.out.2.2.1 rfl (by omega) x0E.out).mono ?_; rintro e WN ⟨rfl, BN⟩
       replace LB : Hid (rvS w b off F r WN) := LB.out.below BN
       clear BN)
    | (go_at_call 35; have _q := K1; have _p := LB; clear K1 _q _p; refine (at_l b off C 1 20 x1 F _ LB.out.2.2.1 rfl (by omega) x1E.out).mono ?_; rintro e WN ⟨rfl, BN⟩
       replace LB : Hid (rvS w b off F r WN) := LB.out.below BN
       clear BN)
    | (go_at_call 35; have _q := K2; have _p := LB; clear K2 _q _p; refine (at_l b off C 2 24 x2 F _ LB.out.2.2.1 rfl (by omega) x2E.out).mono ?_; rintro e WN ⟨rfl, BN⟩
       replace LB : Hid (rvS w b off F r WN) := LB.out.below BN
       clear BN)
    | (refine wpList_build_to rfl 23 #[(0, .tmp 37), (1, .tmp 39)] rfl #[.int .i64 x1, .int .i64 x2] (by kernel_rfl) ?_)
    | (refine wpList_build_to rfl 27 #[(0, .tmp 35), (1, .tmp 40)] rfl #[.int .i64 x0, .int .i64 x1, .int .i64 x2, .slice none 0 0, .slice none 0 0] (by kernel_rfl) ?_)
    | (refine wpList_alloc_X rfl 27 rfl (blkC blk0 none 0 none 0) zero_blk ?_; intro X W3 hX R3 B3 z3)
    | (refine wpList_store_rec rfl 27 (.tmp 8) (.tmp 41) rfl X 0 _ [.int .i64 x0, .int .i64 x1, .int .i64 x2, .slice none 0 0, .slice none 0 0] rfl rfl R3 rfl (by kernel_rfl) (fun v hv => by simp only [List.mem_cons, List.not_mem_nil, or_false] at hv; rcases hv with rfl | rfl | rfl | rfl | rfl <;> rfl) ?_; intro W4 R4 B4
       have XW : w.heap.size < X := by have := LB.out.2.1.2.2; omega
       have RX : ∀ p, r = some p → p.block < X := fun p hp => by have := LB.out.2.2.2.2.2 p hp; omega
       have R4t : Rec19 W4 X 0 (blkC (tK F 0 0) none 0 none 0) := by
         have e : blkC (tK F 0 0) none 0 none 0 = [.int .i64 x0, .int .i64 x1, .int .i64 x2, .slice none 0 0, .slice none 0 0] := by
           show [Value.int .i64 (rdN (behO F) 0), .int .i64 (rdN (behO F) 1), .int .i64 (rdN (behO F) 2), .slice none 0 0, .slice none 0 0] = _
           rw [x0E.out, x1E.out, x2E.out]
         rw [e]
         exact R4
       have ST : Hid (rdRel w b off X F r k (.int .i64 0) W4) := ⟨0, none, 0, Nat.zero_le _, rfl, (LB.out.below (by rw [hX]; exact B3)).but B4 XW (fun p hp => by have := RX p hp; omega), R4t, OwnI.nil _ _ _ _ _, XW, by have := B4.size; omega, RX⟩
       clear R3 B3 z3 R4 R4t B4 LB))
  clear x0E x1E x2E h0 h1 h2
  go_loopw [9] (fun i wr => rdRel w b off X F r k i wr) (fun i _ => k - (RowKit.intOf i).toNat)
  case atStart => exact ST.out
  case round =>
    obtain ⟨j, a, Ca, hjk, rfl, hI⟩ := hrel
    clear ST
    have HI : Hid (rdI w b off X j F r a Ca wr) := hI
    clear hI
    by_cases hlt : j < k
    · as_aux_lemma =>
        have i0 : (j : Int) < (k : Int) := by omega
        have h32 : j ≤ 16 := by omega
        go_wp2_with fail
        obtain ⟨y0, e0⟩ : ∃ y0, rdN (behO F) (5 + 2 * j) = y0 := ⟨_, rfl⟩
        obtain ⟨y1, e1⟩ : ∃ y1, rdN (behO F) (6 + 2 * j) = y1 := ⟨_, rfl⟩
        have A0 : Hid (∀ u, rdI w b off X j F r a Ca u → Calls Try.prog 35 #[.slice (some ⟨b, off, none⟩) 1024 C, .int .i64 (36 + 8 * (j : Int))] u fun e w' => e = .returned (.int .i64 y0) ∧ Below u.heap.size u w') := fun u hu => at_l b off C (5 + 2 * j) _ y0 F u hu.1.2.2.1 (by omega) (by omega) e0
        have A1 : Hid (∀ u, rdI w b off X j F r a Ca u → Calls Try.prog 35 #[.slice (some ⟨b, off, none⟩) 1024 C, .int .i64 (40 + 8 * (j : Int))] u fun e w' => e = .returned (.int .i64 y1) ∧ Below u.heap.size u w') := fun u hu => at_l b off C (6 + 2 * j) _ y1 F u hu.1.2.2.1 (by omega) (by omega) e1
        have E0 : Hid (rdN (behO F) (5 + 2 * j) = y0 ∧ rdN (behO F) (6 + 2 * j) = y1) := ⟨e0, e1⟩
        have m1 : IntKind.i64.wrap (8 * (j : Int)) = 8 * (j : Int) := by simp only [IntKind.wrap_i64]; omega
        have m2 : IntKind.i64.wrap (36 + 8 * (j : Int)) = 36 + 8 * (j : Int) := by simp only [IntKind.wrap_i64]; omega
        have m3 : IntKind.i64.wrap (40 + 8 * (j : Int)) = 40 + 8 * (j : Int) := by simp only [IntKind.wrap_i64]; omega
        clear e0 e1
        refine wp_region_noPanic ?_
        refine wp_region_held_drew (S := fun W => Hid (rvS w b off F r W)) (by kernel_rfl) ?_ (fun hHeld => ?_)
        · exact (HI.out.below (Below.refl _ _).drew).1
        refine take_at (i := 0) (v := ?_) (some 47) rfl rfl (by kernel_rfl) (by kernel_rfl) (by kernel_rfl) (fun _ _ _ h => h) (Or.inl ⟨by rfl, ?_⟩) (by assumption) ?_
        rotate_left
        · (intro w hSw; (try dsimp only at hSw); go_simp; try with_reducible rfl)
        simp only [Act.put, List.setIfInBounds_toArray, List.set_cons_zero, List.set_cons_succ]
        refine take_at (i := 2) (v := ?_) (some 49) rfl rfl (by kernel_rfl) (by kernel_rfl) (by kernel_rfl) (fun _ _ _ h => h) (Or.inl ⟨by rfl, ?_⟩) (by assumption) ?_
        rotate_left
        · (intro w hSw; (try dsimp only at hSw); go_simp; try with_reducible rfl)
        simp only [Act.put, List.setIfInBounds_toArray, List.set_cons_zero, List.set_cons_succ]
        refine take_at (i := 3) (v := ?_) (some 50) rfl rfl (by kernel_rfl) (by kernel_rfl) (by kernel_rfl) (fun _ _ _ h => h) (Or.inl ⟨by rfl, ?_⟩) (by assumption) ?_
        rotate_left
        · (intro w hSw; (try dsimp only at hSw); go_simp; try with_reducible rfl)
        simp only [Act.put, List.setIfInBounds_toArray, List.set_cons_zero, List.set_cons_succ]
        refine take_at (i := 4) (v := .int .i64 (8 * (j : Int))) (some 51) rfl rfl (by kernel_rfl) (by kernel_rfl) (by kernel_rfl) (fun _ _ _ h => h) (Or.inl ⟨by rfl, fun w _ => (by go_simp <;> simp only [m1])⟩) (by assumption) ?_
        simp only [Act.put, List.setIfInBounds_toArray, List.set_cons_zero, List.set_cons_succ]
        refine take_at (i := 5) (v := .int .i64 (36 + 8 * (j : Int))) (some 52) rfl rfl (by kernel_rfl) (by kernel_rfl) (by kernel_rfl) (fun _ _ _ h => h) (Or.inl ⟨by rfl, fun w _ => (by go_simp <;> simp only [m2])⟩) (by assumption) ?_
        simp only [Act.put, List.setIfInBounds_toArray, List.set_cons_zero, List.set_cons_succ]
        refine take_at (i := 7) (v := ?_) (some 54) rfl rfl (by kernel_rfl) (by kernel_rfl) (by kernel_rfl) (fun _ _ _ h => h) (Or.inl ⟨by rfl, ?_⟩) (by assumption) ?_
        rotate_left
        · (intro w hSw; (try dsimp only at hSw); go_simp; try with_reducible rfl)
        simp only [Act.put, List.setIfInBounds_toArray, List.set_cons_zero, List.set_cons_succ]
        refine take_at (i := 8) (v := ?_) (some 55) rfl rfl (by kernel_rfl) (by kernel_rfl) (by kernel_rfl) (fun _ _ _ h => h) (Or.inl ⟨by rfl, ?_⟩) (by assumption) ?_
        rotate_left
        · (intro w hSw; (try dsimp only at hSw); go_simp; try with_reducible rfl)
        simp only [Act.put, List.setIfInBounds_toArray, List.set_cons_zero, List.set_cons_succ]
        refine take_at (i := 9) (v := .int .i64 (8 * (j : Int))) (some 56) rfl rfl (by kernel_rfl) (by kernel_rfl) (by kernel_rfl) (fun _ _ _ h => h) (Or.inl ⟨by rfl, fun w _ => (by go_simp <;> simp only [m1])⟩) (by assumption) ?_
        simp only [Act.put, List.setIfInBounds_toArray, List.set_cons_zero, List.set_cons_succ]
        refine take_at (i := 10) (v := .int .i64 (40 + 8 * (j : Int))) (some 57) rfl rfl (by kernel_rfl) (by kernel_rfl) (by kernel_rfl) (fun _ _ _ h => h) (Or.inl ⟨by rfl, fun w _ => (by go_simp <;> simp only [m3])⟩) (by assumption) ?_
        simp only [Act.put, List.setIfInBounds_toArray, List.set_cons_zero, List.set_cons_succ]
        have I4 := (HI.out.below (Below.refl _ _).drew)
        refine wpAnyH_ready (rs := [1, 6]) (by kernel_rfl) (by simp) ?_
        refine all_run (i := 1) (some 48) rfl rfl (by rfl) (.slice a j Ca) _ (ld1_run (.tmp 47) rfl X 3 a j Ca rfl (I4.2.1.cel 3 _ rfl).1) I4.1 (fun hHeld => ?_) ?_
        · simp only [Act.put, List.setIfInBounds_toArray, List.set_cons_zero, List.set_cons_succ]
          refine wpAnyH_ready (rs := [6]) (by kernel_rfl) (by simp) ?_
          refine all_call (i := 6) (some 53) 35 _ _ rfl rfl rfl (by rfl) #[.slice (some ⟨b, off, none⟩) 1024 C, .int .i64 (36 + 8 * (j : Int))] rfl Try.func35 (by kernel_rfl) (by kernel_rfl) ?_ AllReadyH.nil
          refine (A0.out _ I4).mono ?_
          rintro e W5 ⟨rfl, B5⟩
          have I5 := I4.below B5
          refine ⟨_, rfl, I5.1, fun hHeld => ?_⟩
          simp only [Act.put, List.setIfInBounds_toArray, List.set_cons_zero, List.set_cons_succ]
          refine wpAnyH_ready (rs := [11]) (by kernel_rfl) (by simp) ?_
          refine all_call (i := 11) (some 58) 35 _ _ rfl rfl rfl (by rfl) #[.slice (some ⟨b, off, none⟩) 1024 C, .int .i64 (40 + 8 * (j : Int))] rfl Try.func35 (by kernel_rfl) (by kernel_rfl) ?_ AllReadyH.nil
          refine (A1.out _ I5).mono ?_
          rintro e W6 ⟨rfl, B6⟩
          have I6 := I5.below B6
          refine ⟨_, rfl, I6.1, fun hHeld => ?_⟩
          simp only [Act.put, List.setIfInBounds_toArray, List.set_cons_zero, List.set_cons_succ]
          refine take_at (i := 12) (v := .agg #[.int .i64 y0, .int .i64 y1]) (some 59) rfl rfl (by kernel_rfl) (by kernel_rfl) (by kernel_rfl) (fun _ _ _ h => h) (Or.inl ⟨by rfl, fun w _ => (vbuild_run 23 _ rfl #[.int .i64 y0, .int .i64 y1] (by kernel_rfl))⟩) (by assumption) ?_
          simp only [Act.put, List.setIfInBounds_toArray, List.set_cons_zero, List.set_cons_succ]
          obtain ⟨a', C', W7, hr7, c7, f7, S7, I8⟩ := rd_app I6 h32 y0 y1 E0.out.1 E0.out.2
          have BA : Below W6.heap.size W6 (W6.alloc (.cells #[.int .i64 y0, .int .i64 y1] 23)) := (Below.refl _ _).alloc (Nat.le_refl _) _
          refine wpAnyH_ready (rs := [13]) (by kernel_rfl) (by simp) ?_
          refine all_run (i := 13) (some 60) rfl rfl (by rfl) (.slice (some ⟨W6.heap.size, 0, none⟩) 1 1) (W6.alloc (.cells #[.int .i64 y0, .int .i64 y1] 23)) (bs_run 24 23 1 _ rfl 2 16 (.agg #[.int .i64 0, .int .i64 0]) #[.int .i64 y0, .int .i64 y1] [(0, .agg #[.int .i64 y0, .int .i64 y1])] Try.underlying24 info_rf (by decide) (by decide) (by kernel_rfl) (by kernel_rfl)) (I6.below BA).1 (fun hHeld => ?_) AllReadyH.nil
          simp only [Act.put, List.setIfInBounds_toArray, List.set_cons_zero, List.set_cons_succ]
          refine step_at (i := 14) (some 61) rfl rfl (by rfl) (by kernel_rfl) (.slice a' (j + 1) C') W7 (vappend_run (.tmp 48) (.tmp 60) 24 24 rfl _ _ rfl rfl hr7) S7 (fun hHeld => ?_)
          simp only [Act.put, List.setIfInBounds_toArray, List.set_cons_zero, List.set_cons_succ]
          refine take_at (i := 15) (v := ?_) (some 62) rfl rfl (by kernel_rfl) (by kernel_rfl) (by kernel_rfl) (fun _ _ _ h => h) (Or.inl ⟨by rfl, ?_⟩) (by assumption) ?_
          rotate_left
          · (intro w hSw; (try dsimp only at hSw); go_simp; try with_reducible rfl)
          simp only [Act.put, List.setIfInBounds_toArray, List.set_cons_zero, List.set_cons_succ]
          refine vskip_at (i := 16) none rfl rfl (by rfl) (by kernel_rfl) (W7.setCell ⟨X, 3, none⟩ (.slice a' (j + 1) C')) (st1_run (.tmp 62) (.tmp 61) rfl X 3 a' (j + 1) C' _ rfl rfl c7 f7) I8.1 (fun hHeld => ?_)
          simp only [Act.put]
          refine wpAnyH_done (by kernel_rfl) ?_ _
          refine NoPanic.normal ?_
          have H2 : Hid (rdRel w b off X F r k (.int .i64 ((j : Int) + 1)) (W7.setCell ⟨X, 3, none⟩ (.slice a' (j + 1) C'))) := ⟨j + 1, a', C', by omega, by go_num, I8⟩
          clear hHeld I8 S7
          go_wp2_with fail
          exact ⟨H2.out, by simp [RowKit.intOf]; omega⟩
        · refine all_call (i := 6) (some 53) 35 _ _ rfl rfl rfl (by rfl) #[.slice (some ⟨b, off, none⟩) 1024 C, .int .i64 (36 + 8 * (j : Int))] rfl Try.func35 (by kernel_rfl) (by kernel_rfl) ?_ AllReadyH.nil
          refine (A0.out _ I4).mono ?_
          rintro e W5 ⟨rfl, B5⟩
          have I5 := I4.below B5
          refine ⟨_, rfl, I5.1, fun hHeld => ?_⟩
          simp only [Act.put, List.setIfInBounds_toArray, List.set_cons_zero, List.set_cons_succ]
          refine wpAnyH_ready (rs := [1, 11]) (by kernel_rfl) (by simp) ?_
          refine all_run (i := 1) (some 48) rfl rfl (by rfl) (.slice a j Ca) _ (ld1_run (.tmp 47) rfl X 3 a j Ca rfl (I5.2.1.cel 3 _ rfl).1) I5.1 (fun hHeld => ?_) ?_
          · simp only [Act.put, List.setIfInBounds_toArray, List.set_cons_zero, List.set_cons_succ]
            refine wpAnyH_ready (rs := [11]) (by kernel_rfl) (by simp) ?_
            refine all_call (i := 11) (some 58) 35 _ _ rfl rfl rfl (by rfl) #[.slice (some ⟨b, off, none⟩) 1024 C, .int .i64 (40 + 8 * (j : Int))] rfl Try.func35 (by kernel_rfl) (by kernel_rfl) ?_ AllReadyH.nil
            refine (A1.out _ I5).mono ?_
            rintro e W6 ⟨rfl, B6⟩
            have I6 := I5.below B6
            refine ⟨_, rfl, I6.1, fun hHeld => ?_⟩
            simp only [Act.put, List.setIfInBounds_toArray, List.set_cons_zero, List.set_cons_succ]
            refine take_at (i := 12) (v := .agg #[.int .i64 y0, .int .i64 y1]) (some 59) rfl rfl (by kernel_rfl) (by kernel_rfl) (by kernel_rfl) (fun _ _ _ h => h) (Or.inl ⟨by rfl, fun w _ => (vbuild_run 23 _ rfl #[.int .i64 y0, .int .i64 y1] (by kernel_rfl))⟩) (by assumption) ?_
            simp only [Act.put, List.setIfInBounds_toArray, List.set_cons_zero, List.set_cons_succ]
            obtain ⟨a', C', W7, hr7, c7, f7, S7, I8⟩ := rd_app I6 h32 y0 y1 E0.out.1 E0.out.2
            have BA : Below W6.heap.size W6 (W6.alloc (.cells #[.int .i64 y0, .int .i64 y1] 23)) := (Below.refl _ _).alloc (Nat.le_refl _) _
            refine wpAnyH_ready (rs := [13]) (by kernel_rfl) (by simp) ?_
            refine all_run (i := 13) (some 60) rfl rfl (by rfl) (.slice (some ⟨W6.heap.size, 0, none⟩) 1 1) (W6.alloc (.cells #[.int .i64 y0, .int .i64 y1] 23)) (bs_run 24 23 1 _ rfl 2 16 (.agg #[.int .i64 0, .int .i64 0]) #[.int .i64 y0, .int .i64 y1] [(0, .agg #[.int .i64 y0, .int .i64 y1])] Try.underlying24 info_rf (by decide) (by decide) (by kernel_rfl) (by kernel_rfl)) (I6.below BA).1 (fun hHeld => ?_) AllReadyH.nil
            simp only [Act.put, List.setIfInBounds_toArray, List.set_cons_zero, List.set_cons_succ]
            refine step_at (i := 14) (some 61) rfl rfl (by rfl) (by kernel_rfl) (.slice a' (j + 1) C') W7 (vappend_run (.tmp 48) (.tmp 60) 24 24 rfl _ _ rfl rfl hr7) S7 (fun hHeld => ?_)
            simp only [Act.put, List.setIfInBounds_toArray, List.set_cons_zero, List.set_cons_succ]
            refine take_at (i := 15) (v := ?_) (some 62) rfl rfl (by kernel_rfl) (by kernel_rfl) (by kernel_rfl) (fun _ _ _ h => h) (Or.inl ⟨by rfl, ?_⟩) (by assumption) ?_
            rotate_left
            · (intro w hSw; (try dsimp only at hSw); go_simp; try with_reducible rfl)
            simp only [Act.put, List.setIfInBounds_toArray, List.set_cons_zero, List.set_cons_succ]
            refine vskip_at (i := 16) none rfl rfl (by rfl) (by kernel_rfl) (W7.setCell ⟨X, 3, none⟩ (.slice a' (j + 1) C')) (st1_run (.tmp 62) (.tmp 61) rfl X 3 a' (j + 1) C' _ rfl rfl c7 f7) I8.1 (fun hHeld => ?_)
            simp only [Act.put]
            refine wpAnyH_done (by kernel_rfl) ?_ _
            refine NoPanic.normal ?_
            have H2 : Hid (rdRel w b off X F r k (.int .i64 ((j : Int) + 1)) (W7.setCell ⟨X, 3, none⟩ (.slice a' (j + 1) C'))) := ⟨j + 1, a', C', by omega, by go_num, I8⟩
            clear hHeld I8 S7
            go_wp2_with fail
            exact ⟨H2.out, by simp [RowKit.intOf]; omega⟩
          · refine all_call (i := 11) (some 58) 35 _ _ rfl rfl rfl (by rfl) #[.slice (some ⟨b, off, none⟩) 1024 C, .int .i64 (40 + 8 * (j : Int))] rfl Try.func35 (by kernel_rfl) (by kernel_rfl) ?_ AllReadyH.nil
            refine (A1.out _ I5).mono ?_
            rintro e W6 ⟨rfl, B6⟩
            have I6 := I5.below B6
            refine ⟨_, rfl, I6.1, fun hHeld => ?_⟩
            simp only [Act.put, List.setIfInBounds_toArray, List.set_cons_zero, List.set_cons_succ]
            refine take_at (i := 12) (v := .agg #[.int .i64 y0, .int .i64 y1]) (some 59) rfl rfl (by kernel_rfl) (by kernel_rfl) (by kernel_rfl) (fun _ _ _ h => h) (Or.inl ⟨by rfl, fun w _ => (vbuild_run 23 _ rfl #[.int .i64 y0, .int .i64 y1] (by kernel_rfl))⟩) (by assumption) ?_
            simp only [Act.put, List.setIfInBounds_toArray, List.set_cons_zero, List.set_cons_succ]
            obtain ⟨a', C', W7, hr7, c7, f7, S7, I8⟩ := rd_app I6 h32 y0 y1 E0.out.1 E0.out.2
            have BA : Below W6.heap.size W6 (W6.alloc (.cells #[.int .i64 y0, .int .i64 y1] 23)) := (Below.refl _ _).alloc (Nat.le_refl _) _
            refine wpAnyH_ready (rs := [1, 13]) (by kernel_rfl) (by simp) ?_
            refine all_run (i := 1) (some 48) rfl rfl (by rfl) (.slice a j Ca) _ (ld1_run (.tmp 47) rfl X 3 a j Ca rfl (I6.2.1.cel 3 _ rfl).1) I6.1 (fun hHeld => ?_) ?_
            · simp only [Act.put, List.setIfInBounds_toArray, List.set_cons_zero, List.set_cons_succ]
              refine wpAnyH_ready (rs := [13]) (by kernel_rfl) (by simp) ?_
              refine all_run (i := 13) (some 60) rfl rfl (by rfl) (.slice (some ⟨W6.heap.size, 0, none⟩) 1 1) (W6.alloc (.cells #[.int .i64 y0, .int .i64 y1] 23)) (bs_run 24 23 1 _ rfl 2 16 (.agg #[.int .i64 0, .int .i64 0]) #[.int .i64 y0, .int .i64 y1] [(0, .agg #[.int .i64 y0, .int .i64 y1])] Try.underlying24 info_rf (by decide) (by decide) (by kernel_rfl) (by kernel_rfl)) (I6.below BA).1 (fun hHeld => ?_) AllReadyH.nil
              simp only [Act.put, List.setIfInBounds_toArray, List.set_cons_zero, List.set_cons_succ]
              refine step_at (i := 14) (some 61) rfl rfl (by rfl) (by kernel_rfl) (.slice a' (j + 1) C') W7 (vappend_run (.tmp 48) (.tmp 60) 24 24 rfl _ _ rfl rfl hr7) S7 (fun hHeld => ?_)
              simp only [Act.put, List.setIfInBounds_toArray, List.set_cons_zero, List.set_cons_succ]
              refine take_at (i := 15) (v := ?_) (some 62) rfl rfl (by kernel_rfl) (by kernel_rfl) (by kernel_rfl) (fun _ _ _ h => h) (Or.inl ⟨by rfl, ?_⟩) (by assumption) ?_
              rotate_left
              · (intro w hSw; (try dsimp only at hSw); go_simp; try with_reducible rfl)
              simp only [Act.put, List.setIfInBounds_toArray, List.set_cons_zero, List.set_cons_succ]
              refine vskip_at (i := 16) none rfl rfl (by rfl) (by kernel_rfl) (W7.setCell ⟨X, 3, none⟩ (.slice a' (j + 1) C')) (st1_run (.tmp 62) (.tmp 61) rfl X 3 a' (j + 1) C' _ rfl rfl c7 f7) I8.1 (fun hHeld => ?_)
              simp only [Act.put]
              refine wpAnyH_done (by kernel_rfl) ?_ _
              refine NoPanic.normal ?_
              have H2 : Hid (rdRel w b off X F r k (.int .i64 ((j : Int) + 1)) (W7.setCell ⟨X, 3, none⟩ (.slice a' (j + 1) C'))) := ⟨j + 1, a', C', by omega, by go_num, I8⟩
              clear hHeld I8 S7
              go_wp2_with fail
              exact ⟨H2.out, by simp [RowKit.intOf]; omega⟩
            · refine all_run (i := 13) (some 60) rfl rfl (by rfl) (.slice (some ⟨W6.heap.size, 0, none⟩) 1 1) (W6.alloc (.cells #[.int .i64 y0, .int .i64 y1] 23)) (bs_run 24 23 1 _ rfl 2 16 (.agg #[.int .i64 0, .int .i64 0]) #[.int .i64 y0, .int .i64 y1] [(0, .agg #[.int .i64 y0, .int .i64 y1])] Try.underlying24 info_rf (by decide) (by decide) (by kernel_rfl) (by kernel_rfl)) (I6.below BA).1 (fun hHeld => ?_) AllReadyH.nil
              simp only [Act.put, List.setIfInBounds_toArray, List.set_cons_zero, List.set_cons_succ]
              refine wpAnyH_ready (rs := [1]) (by kernel_rfl) (by simp) ?_
              refine all_run (i := 1) (some 48) rfl rfl (by rfl) (.slice a j Ca) _ (ld1_run (.tmp 47) rfl X 3 a j Ca rfl ((I6.below BA).2.1.cel 3 _ rfl).1) (I6.below BA).1 (fun hHeld => ?_) AllReadyH.nil
              simp only [Act.put, List.setIfInBounds_toArray, List.set_cons_zero, List.set_cons_succ]
              refine step_at (i := 14) (some 61) rfl rfl (by rfl) (by kernel_rfl) (.slice a' (j + 1) C') W7 (vappend_run (.tmp 48) (.tmp 60) 24 24 rfl _ _ rfl rfl hr7) S7 (fun hHeld => ?_)
              simp only [Act.put, List.setIfInBounds_toArray, List.set_cons_zero, List.set_cons_succ]
              refine take_at (i := 15) (v := ?_) (some 62) rfl rfl (by kernel_rfl) (by kernel_rfl) (by kernel_rfl) (fun _ _ _ h => h) (Or.inl ⟨by rfl, ?_⟩) (by assumption) ?_
              rotate_left
              · (intro w hSw; (try dsimp only at hSw); go_simp; try with_reducible rfl)
              simp only [Act.put, List.setIfInBounds_toArray, List.set_cons_zero, List.set_cons_succ]
              refine vskip_at (i := 16) none rfl rfl (by rfl) (by kernel_rfl) (W7.setCell ⟨X, 3, none⟩ (.slice a' (j + 1) C')) (st1_run (.tmp 62) (.tmp 61) rfl X 3 a' (j + 1) C' _ rfl rfl c7 f7) I8.1 (fun hHeld => ?_)
              simp only [Act.put]
              refine wpAnyH_done (by kernel_rfl) ?_ _
              refine NoPanic.normal ?_
              have H2 : Hid (rdRel w b off X F r k (.int .i64 ((j : Int) + 1)) (W7.setCell ⟨X, 3, none⟩ (.slice a' (j + 1) C'))) := ⟨j + 1, a', C', by omega, by go_num, I8⟩
              clear hHeld I8 S7
              go_wp2_with fail
              exact ⟨H2.out, by simp [RowKit.intOf]; omega⟩
    · obtain rfl : j = k := by omega
      have i0 : ¬ (j : Int) < (j : Int) := by omega
      have TK : Hid (∀ x y, tK F j m = blkOf (behO F) ∧ x + y = y + x) := fun x y => ⟨tK_of KM.out.1 KM.out.2, Nat.add_comm x y⟩
      have OW := own0 wr wr.heap.size (Nat.le_refl _)
      have BA : Below wr.heap.size wr (wr.alloc (.cells #[] 5)) := (Below.refl _ _).alloc (Nat.le_refl _) _
      obtain ⟨v5, W5, h5, hO5, hB5⟩ := app_arg 25 (wr.alloc (.cells #[] 5)) wr.heap.size 0 m (C - 164) _ (some ⟨b, off + 164, none⟩) (fun _ => 0) (fun q => behO F (148 + q)) OW (Arg.of (((HI.out.1.2.2.1.below BA).part 164 m (by omega)) |> fun l => ⟨fun q hq => by have := l.1 q hq; rw [this]; show some (Value.int .u8 (F (164 + q))) = some (.int .u8 (F (16 + (148 + q)))); rw [show 16 + (148 + q) = 164 + q by omega], fun q hq => HF.out _ (by omega), l.2.2⟩)) (by omega) BA.size
      have hO5' : Own W5 wr.heap.size v5 m (fun q => behO F (148 + q)) := by
        have q := hO5
        rw [Nat.zero_add] at q
        exact q.congr fun i hi => by unfold cat; rw [if_neg (by omega), Nat.sub_zero]
      obtain ⟨b5, D5, rfl, hA5, hN5⟩ := hO5'.slice (fun q hq => HF.out _ (by omega))
      have hD5 : m ≤ D5 := by
        rcases hO5'.2 with ⟨e, e0⟩ | ⟨_, _, _, e, _, _, hc, _⟩
        · injection e with _ e1 e2; omega
        · injection e with _ _ e2; omega
      have BX : Below wr.heap.size wr W5 := BA.trans hB5
      have J5 := HI.out.below BX
      have Q5 := hidIt J5.2.1
      have V5 := hidIt J5.1
      have O5 := hidIt J5.2.2.1
      have NA : Hid (∀ p : Addr, a = some p → (blkOf (behO F)).k = 0 ∨ p.block ≠ w.heap.size) := fun p hp => by
        rw [← (TK.out 0 0).1]
        by_cases k0 : j = 0
        · exact .inl k0
        · obtain ⟨g, cap, e, hg, _, _, _⟩ := O5.out.form (by omega)
          injection e with e _ _
          rw [e] at hp; injection hp with hp; subst hp
          have := HI.out.2.2.2.1
          exact .inr (by show g ≠ w.heap.size; omega)
      have XX : Hid (w.heap.size < X ∧ ∀ p, r = some p → p.block < X) := ⟨HI.out.2.2.2.1, HI.out.2.2.2.2.2⟩
      have A5 := hidIt hA5
      have N5 : Hid (∀ p, b5 = some p → X < p.block) := fun p hp => by have := hN5 p hp; have := HI.out.2.2.2.2.1; omega
      have D5' := hidIt hD5
      obtain ⟨M, hM⟩ : ∃ M, 164 + m = M := ⟨_, rfl⟩
      have i3 : (164 : Int) + (m : Int) = (M : Int) := by omega
      have i4 : IntKind.i64.wrap (M : Int) = (M : Int) := by simp only [IntKind.wrap_i64]; omega
      clear OW BA hO5 hB5 hO5' hA5 hN5 hD5 BX J5 HI
      go_wp2_with (first
        | (refine wpList_cut2 (by rfl) 25 5 (.tmp 64) (.const (.int .i64 164)) (.tmp 66) rfl Try.underlying25 Try.underlying25 (by kernel_rfl) b off 1024 C 164 M _ _ rfl rfl rfl rfl rfl (by omega) (by omega) (by omega) ?_; rw [show M - 164 = m by omega])
        | (at_builtin; refine wpList_append_go rfl (.tmp 63) (.tmp 67) 25 25 rfl _ _ rfl rfl h5 ?_)
        | (refine wpList_put_rec rfl 25 (.tmp 69) (.tmp 68) rfl X 4 (blkC (tK F j 0) a Ca none 0) [.slice b5 m D5] (blkC (tK F j m) a Ca b5 D5) _ rfl rfl rfl Q5.out (by show 4 + 1 ≤ 5; omega) rfl (by kernel_rfl) (sl_one _ _ _) ?_; intro W6 R6 B6 z6
           have J6 : Hid (rdJ w b off X F r a Ca b5 D5 W6) := by
             refine ⟨V5.out.but B6 XX.out.1 (fun p hp => by have := XX.out.2 p hp; omega), ?_, ⟨?_, ?_, ?_, ?_⟩, XX.out.1⟩
             · rw [← (TK.out 0 0).1]; exact R6
             · rw [← (TK.out 0 0).1]; exact harg_of (O5.out.but B6 (by omega))
             · rw [← (TK.out 0 0).1]; show j ≤ Ca; obtain ⟨_, _, e, hc⟩ := O5.out.slice; injection e with _ _ e; omega
             · rw [← (TK.out 0 0).1]; exact A5.out.but B6 (fun p hp => by have := N5.out p hp; omega)
             · rw [← (TK.out 0 0).1]; exact D5'.out
           clear R6 B6 z6 Q5 V5 O5 A5))
      by_cases mm : (blkOf (behO F)).May
      · by_cases hbe : ∀ q, q < 1008 → (blkOf (behO F)).beh q = behO F q
        · as_aux_lemma =>
            have HE : Hid (∀ q, q < 1008 → (blkOf (behO F)).beh q = behO F q) := hbe
            have GD : Hid (BlkOk (behO F) ∧ (blkOf (behO F)).May) := rd_yes mm hbe
            have BH : Hid (∀ u, rdJ w b off X F r a Ca b5 D5 u → Calls Try.prog 29 #[blkV (blkOf (behO F)) a Ca b5 D5] u (BehP u (blkOf (behO F)))) := fun u hu => behind_any' (blkOf (behO F)) a b5 Ca D5 u hu.2.2.1 mm.2.2.2.1
            have CK : Hid (∀ u, rdJ w b off X F r a Ca b5 D5 u → Calls Try.prog 14 #[blkV (blkOf (behO F)) a Ca b5 D5] u fun e w' => e = .returned (.int .i64 0) ∧ Below u.heap.size u w') := fun u hu => by
              have := rcheck_any (blkOf (behO F)) a b5 Ca D5 u hu.2.2.1.refs (by rw [← (TK.out 0 0).1]; show j ≤ 1000; omega)
              unfold ChkPost at this
              rwa [show chkE (blkOf (behO F)) = 0 from if_pos mm] at this
            clear mm hbe
            refine wp_region_noPanic ?_
            refine wp_region_held_drew (S := fun W => W.rangeAt X 0 (blkC (blkOf (behO F)) a Ca b5 D5) ∧ Hid (rdJ w b off X F r a Ca b5 D5 W)) (by kernel_rfl) ?_ (fun hHeld => ?_)
            · exact ⟨(J6.out.below (Below.refl _ _).drew).2.1.1, J6.out.below (Below.refl _ _).drew⟩
            refine take_at (i := 0) (v := _) (some 70) rfl rfl (by kernel_rfl) (by kernel_rfl) (by kernel_rfl) (fun _ _ _ h => h) (yieldsIf_load_mid (by rfl) 27 (.tmp 8) rfl X 0 rfl (blkC (blkOf (behO F)) a Ca b5 D5) _ (fun _ h => h.1) Try.underlying27 rfl (by kernel_rfl)) (by assumption) ?_
            simp only [Act.put, List.setIfInBounds_toArray, List.set_cons_zero, List.set_cons_succ]
            refine call_at (i := 1) (some 71) 14 _ _ rfl rfl rfl (by rfl) (by kernel_rfl) #[blkV (blkOf (behO F)) a Ca b5 D5] rfl Try.func14 (by kernel_rfl) (by kernel_rfl) ?_
            refine (CK.out _ hHeld.2.out).mono ?_; rintro e W7 ⟨rfl, B7⟩
            have I7 := hHeld.2.out.below B7
            refine ⟨_, rfl, ⟨I7.2.1.1, I7⟩, fun hHeld => ?_⟩
            simp only [Act.put, List.setIfInBounds_toArray, List.set_cons_zero, List.set_cons_succ]
            refine take_at (i := 2) (v := ?_) (some 72) rfl rfl (by kernel_rfl) (by kernel_rfl) (by kernel_rfl) (fun _ _ _ h => h) (Or.inl ⟨by rfl, ?_⟩) (by assumption) ?_
            rotate_left
            · (intro w hSw; (try dsimp only at hSw); go_simp; try with_reducible rfl)
            simp only [Act.put, List.setIfInBounds_toArray, List.set_cons_zero, List.set_cons_succ]
            refine take_at (i := 3) (v := ?_) (some 73) rfl rfl (by kernel_rfl) (by kernel_rfl) (by kernel_rfl) (fun _ _ _ h => h) (Or.inl ⟨by rfl, ?_⟩) (by assumption) ?_
            rotate_left
            · (intro w hSw; (try dsimp only at hSw); go_simp; try with_reducible rfl)
            simp only [Act.put, List.setIfInBounds_toArray, List.set_cons_zero, List.set_cons_succ]
            refine take_at (i := 4) (v := _) (some 74) rfl rfl (by kernel_rfl) (by kernel_rfl) (by kernel_rfl) (fun _ _ _ h => h) (yieldsIf_load_mid (by rfl) 27 (.tmp 8) rfl X 0 rfl (blkC (blkOf (behO F)) a Ca b5 D5) _ (fun _ h => h.1) Try.underlying27 rfl (by kernel_rfl)) (by assumption) ?_
            simp only [Act.put, List.setIfInBounds_toArray, List.set_cons_zero, List.set_cons_succ]
            refine take_at (i := 7) (v := ?_) (some 77) rfl rfl (by kernel_rfl) (by kernel_rfl) (by kernel_rfl) (fun _ _ _ h => h) (Or.inl ⟨by rfl, ?_⟩) (by assumption) ?_
            rotate_left
            · (intro w hSw; (try dsimp only at hSw); go_simp; try with_reducible rfl)
            simp only [Act.put, List.setIfInBounds_toArray, List.set_cons_zero, List.set_cons_succ]
            refine take_at (i := 8) (v := .string (txtN 1008 (behO F))) (some 78) rfl rfl (by kernel_rfl) (by kernel_rfl) (by kernel_rfl) (fun _ _ _ h => h) (Or.inl ⟨by rfl, fun u hu => cv_run (.tmp 77) rfl r 1008 cr (behO F) rfl hu.2.out.1.2.2.2.1⟩) (by assumption) ?_
            simp only [Act.put, List.setIfInBounds_toArray, List.set_cons_zero, List.set_cons_succ]
            refine call_at (i := 5) (some 75) 29 _ _ rfl rfl rfl (by rfl) (by kernel_rfl) #[blkV (blkOf (behO F)) a Ca b5 D5] rfl Try.func29 (by kernel_rfl) (by kernel_rfl) ?_
            refine (BH.out _ hHeld.2.out).mono ?_; rintro e W8 ⟨g, cg, rfl, hg, hA8, B8⟩
            have I8 := hHeld.2.out.below B8
            refine ⟨_, rfl, ⟨I8.2.1.1, I8⟩, fun hHeld => ?_⟩
            simp only [Act.put, List.setIfInBounds_toArray, List.set_cons_zero, List.set_cons_succ]
            refine step_at (i := 6) (some 76) rfl rfl (by rfl) (by kernel_rfl) (.string (txtN 1008 (behO F))) W8 (cv_run (.tmp 75) rfl (some ⟨g, 0, none⟩) 1008 cg (behO F) rfl (hA8.congr HE.out)) ⟨I8.2.1.1, I8⟩ (fun hHeld => ?_)
            simp only [Act.put, List.setIfInBounds_toArray, List.set_cons_zero, List.set_cons_succ]
            refine take_at (i := 9) (v := ?_) (some 79) rfl rfl (by kernel_rfl) (by kernel_rfl) (by kernel_rfl) (fun _ _ _ h => h) (Or.inl ⟨by rfl, ?_⟩) (by assumption) ?_
            rotate_left
            · (intro w hSw; (try dsimp only at hSw); go_simp; try with_reducible rfl)
            simp only [Act.put, List.setIfInBounds_toArray, List.set_cons_zero, List.set_cons_succ]
            refine take_at (i := 10) (v := ?_) (some 80) rfl rfl (by kernel_rfl) (by kernel_rfl) (by kernel_rfl) (fun _ _ _ h => h) (Or.inl ⟨by rfl, ?_⟩) (by assumption) ?_
            rotate_left
            · (intro w hSw; (try dsimp only at hSw); go_simp; try with_reducible rfl)
            simp only [Act.put, List.setIfInBounds_toArray, List.set_cons_zero, List.set_cons_succ]
            refine wpAnyH_done (by kernel_rfl) ?_ _
            refine NoPanic.normal ?_
            have IE : Hid (rdJ w b off X F r a Ca b5 D5 W8) := I8
            clear hHeld I8 hA8 I7
            have RX := IE.out.2.1
            have R2 := IE.out.1.2.1
            go_wp2_with (first
              | (refine wpList_load_rec rfl 27 (.tmp 8) rfl X 0 (blkC (blkOf (behO F)) a Ca b5 D5) rfl _ Try.underlying27 rfl (by kernel_rfl) RX ?_)
              | (refine wpList_store_rec rfl 27 (.tmp 2) (.tmp 82) rfl w.heap.size 0 _ (blkC (blkOf (behO F)) a Ca b5 D5) rfl rfl R2 rfl (by kernel_rfl) (blkC_one _ _ _ _ _) ?_; intro W9 R9 B9))
            have hl := R9.run_load 27 _ Try.underlying27 rfl (by kernel_rfl)
            refine bodyPost_ret (v := .tuple #[blkV (blkOf (behO F)) a Ca b5 D5, .int .i64 0]) (by simp [results, Try.results20, asAddr, blkV, hl]) rfl (.inl ⟨GD.out, a, Ca, b5, D5, rfl, ?_, IE.out.1.1.trans (B9.below (Nat.le_refl _) IE.out.1.1.size)⟩)
            obtain ⟨q1, q2, q3, q4⟩ := IE.out.2.2.1
            exact ⟨harg_oR q1 B9 NA.out, q2, q3.but B9 (fun p hp => by have := N5.out p hp; have := XX.out.1; omega), q4⟩
        · as_aux_lemma =>
            have BD : Hid (¬ (BlkOk (behO F) ∧ (blkOf (behO F)).May)) := rd_no HF.out hbe
            have TM : ¬ txtN 1008 (blkOf (behO F)).beh = txtN 1008 (behO F) := fun e => hbe (txtN_inj (fun q _ => Blk.beh_byte J6.out.2.2.1.byt q) (fun q hq => HF.out _ (by omega)) e).2
            have BH : Hid (∀ u, rdJ w b off X F r a Ca b5 D5 u → Calls Try.prog 29 #[blkV (blkOf (behO F)) a Ca b5 D5] u (BehP u (blkOf (behO F)))) := fun u hu => behind_any' (blkOf (behO F)) a b5 Ca D5 u hu.2.2.1 mm.2.2.2.1
            have CK : Hid (∀ u, rdJ w b off X F r a Ca b5 D5 u → Calls Try.prog 14 #[blkV (blkOf (behO F)) a Ca b5 D5] u fun e w' => e = .returned (.int .i64 0) ∧ Below u.heap.size u w') := fun u hu => by
              have := rcheck_any (blkOf (behO F)) a b5 Ca D5 u hu.2.2.1.refs (by rw [← (TK.out 0 0).1]; show j ≤ 1000; omega)
              unfold ChkPost at this
              rwa [show chkE (blkOf (behO F)) = 0 from if_pos mm] at this
            clear mm hbe
            refine wp_region_noPanic ?_
            refine wp_region_held_drew (S := fun W => W.rangeAt X 0 (blkC (blkOf (behO F)) a Ca b5 D5) ∧ Hid (rdJ w b off X F r a Ca b5 D5 W)) (by kernel_rfl) ?_ (fun hHeld => ?_)
            · exact ⟨(J6.out.below (Below.refl _ _).drew).2.1.1, J6.out.below (Below.refl _ _).drew⟩
            refine take_at (i := 0) (v := _) (some 70) rfl rfl (by kernel_rfl) (by kernel_rfl) (by kernel_rfl) (fun _ _ _ h => h) (yieldsIf_load_mid (by rfl) 27 (.tmp 8) rfl X 0 rfl (blkC (blkOf (behO F)) a Ca b5 D5) _ (fun _ h => h.1) Try.underlying27 rfl (by kernel_rfl)) (by assumption) ?_
            simp only [Act.put, List.setIfInBounds_toArray, List.set_cons_zero, List.set_cons_succ]
            refine call_at (i := 1) (some 71) 14 _ _ rfl rfl rfl (by rfl) (by kernel_rfl) #[blkV (blkOf (behO F)) a Ca b5 D5] rfl Try.func14 (by kernel_rfl) (by kernel_rfl) ?_
            refine (CK.out _ hHeld.2.out).mono ?_; rintro e W7 ⟨rfl, B7⟩
            have I7 := hHeld.2.out.below B7
            refine ⟨_, rfl, ⟨I7.2.1.1, I7⟩, fun hHeld => ?_⟩
            simp only [Act.put, List.setIfInBounds_toArray, List.set_cons_zero, List.set_cons_succ]
            refine take_at (i := 2) (v := ?_) (some 72) rfl rfl (by kernel_rfl) (by kernel_rfl) (by kernel_rfl) (fun _ _ _ h => h) (Or.inl ⟨by rfl, ?_⟩) (by assumption) ?_
            rotate_left
            · (intro w hSw; (try dsimp only at hSw); go_simp; try with_reducible rfl)
            simp only [Act.put, List.setIfInBounds_toArray, List.set_cons_zero, List.set_cons_succ]
            refine take_at (i := 3) (v := ?_) (some 73) rfl rfl (by kernel_rfl) (by kernel_rfl) (by kernel_rfl) (fun _ _ _ h => h) (Or.inl ⟨by rfl, ?_⟩) (by assumption) ?_
            rotate_left
            · (intro w hSw; (try dsimp only at hSw); go_simp; try with_reducible rfl)
            simp only [Act.put, List.setIfInBounds_toArray, List.set_cons_zero, List.set_cons_succ]
            refine take_at (i := 4) (v := _) (some 74) rfl rfl (by kernel_rfl) (by kernel_rfl) (by kernel_rfl) (fun _ _ _ h => h) (yieldsIf_load_mid (by rfl) 27 (.tmp 8) rfl X 0 rfl (blkC (blkOf (behO F)) a Ca b5 D5) _ (fun _ h => h.1) Try.underlying27 rfl (by kernel_rfl)) (by assumption) ?_
            simp only [Act.put, List.setIfInBounds_toArray, List.set_cons_zero, List.set_cons_succ]
            refine take_at (i := 7) (v := ?_) (some 77) rfl rfl (by kernel_rfl) (by kernel_rfl) (by kernel_rfl) (fun _ _ _ h => h) (Or.inl ⟨by rfl, ?_⟩) (by assumption) ?_
            rotate_left
            · (intro w hSw; (try dsimp only at hSw); go_simp; try with_reducible rfl)
            simp only [Act.put, List.setIfInBounds_toArray, List.set_cons_zero, List.set_cons_succ]
            refine take_at (i := 8) (v := .string (txtN 1008 (behO F))) (some 78) rfl rfl (by kernel_rfl) (by kernel_rfl) (by kernel_rfl) (fun _ _ _ h => h) (Or.inl ⟨by rfl, fun u hu => cv_run (.tmp 77) rfl r 1008 cr (behO F) rfl hu.2.out.1.2.2.2.1⟩) (by assumption) ?_
            simp only [Act.put, List.setIfInBounds_toArray, List.set_cons_zero, List.set_cons_succ]
            refine call_at (i := 5) (some 75) 29 _ _ rfl rfl rfl (by rfl) (by kernel_rfl) #[blkV (blkOf (behO F)) a Ca b5 D5] rfl Try.func29 (by kernel_rfl) (by kernel_rfl) ?_
            refine (BH.out _ hHeld.2.out).mono ?_; rintro e W8 ⟨g, cg, rfl, hg, hA8, B8⟩
            have I8 := hHeld.2.out.below B8
            refine ⟨_, rfl, ⟨I8.2.1.1, I8⟩, fun hHeld => ?_⟩
            simp only [Act.put, List.setIfInBounds_toArray, List.set_cons_zero, List.set_cons_succ]
            refine step_at (i := 6) (some 76) rfl rfl (by rfl) (by kernel_rfl) (.string (txtN 1008 (blkOf (behO F)).beh)) W8 (cv_run (.tmp 75) rfl (some ⟨g, 0, none⟩) 1008 cg (blkOf (behO F)).beh rfl hA8) ⟨I8.2.1.1, I8⟩ (fun hHeld => ?_)
            simp only [Act.put, List.setIfInBounds_toArray, List.set_cons_zero, List.set_cons_succ]
            refine take_at (i := 9) (v := .bool true) (some 79) rfl rfl (by kernel_rfl) (by kernel_rfl) (by kernel_rfl) (fun _ _ _ h => h) (Or.inl ⟨by rfl, fun w _ => (by go_simp; exact fun e => TM (of_decide_eq_true ((bytes_beq _ _).symm.trans (by rw [e]; exact beq_self_eq_true _))))⟩) (by assumption) ?_
            simp only [Act.put, List.setIfInBounds_toArray, List.set_cons_zero, List.set_cons_succ]
            refine take_at (i := 10) (v := ?_) (some 80) rfl rfl (by kernel_rfl) (by kernel_rfl) (by kernel_rfl) (fun _ _ _ h => h) (Or.inl ⟨by rfl, ?_⟩) (by assumption) ?_
            rotate_left
            · (intro w hSw; (try dsimp only at hSw); go_simp; try with_reducible rfl)
            simp only [Act.put, List.setIfInBounds_toArray, List.set_cons_zero, List.set_cons_succ]
            refine wpAnyH_done (by kernel_rfl) ?_ _
            refine NoPanic.normal ?_
            have IE : Hid (rdJ w b off X F r a Ca b5 D5 W8) := I8
            clear hHeld I8 hA8 I7
            have R2 := IE.out.1.2.1
            go_wp2_with (first
              | (refine wpList_build_to rfl 27 #[] rfl (blkC blk0 none 0 none 0).toArray (by kernel_rfl) ?_)
              | (refine wpList_store_rec rfl 27 (.tmp 2) (.tmp 81) rfl w.heap.size 0 _ (blkC blk0 none 0 none 0) rfl rfl R2 rfl (by kernel_rfl) (blkC_one _ _ _ _ _) ?_; intro W9 R9 B9))
            have hl := R9.run_load 27 _ Try.underlying27 rfl (by kernel_rfl)
            exact bodyPost_ret (v := .tuple #[blkV blk0 none 0 none 0, .int .i64 4]) (by simp [results, Try.results20, asAddr, blkV, hl]) rfl (.inr ⟨BD.out, rfl, IE.out.1.1.trans (B9.below (Nat.le_refl _) IE.out.1.1.size)⟩)
      · as_aux_lemma =>
          have BD : Hid (¬ (BlkOk (behO F) ∧ (blkOf (behO F)).May)) := fun q => mm q.2
          have CK : Hid (∀ u, rdJ w b off X F r a Ca b5 D5 u → Calls Try.prog 14 #[blkV (blkOf (behO F)) a Ca b5 D5] u fun e w' => e = .returned (.int .i64 2) ∧ Below u.heap.size u w') := fun u hu => by
            have := rcheck_any (blkOf (behO F)) a b5 Ca D5 u hu.2.2.1.refs (by rw [← (TK.out 0 0).1]; show j ≤ 1000; omega)
            unfold ChkPost at this
            rwa [show chkE (blkOf (behO F)) = 2 from if_neg mm] at this
          clear mm
          refine wp_region_noPanic ?_
          refine wp_region_held_drew (S := fun W => W.rangeAt X 0 (blkC (blkOf (behO F)) a Ca b5 D5) ∧ Hid (rdJ w b off X F r a Ca b5 D5 W)) (by kernel_rfl) ?_ (fun hHeld => ?_)
          · exact ⟨(J6.out.below (Below.refl _ _).drew).2.1.1, J6.out.below (Below.refl _ _).drew⟩
          refine take_at (i := 0) (v := _) (some 70) rfl rfl (by kernel_rfl) (by kernel_rfl) (by kernel_rfl) (fun _ _ _ h => h) (yieldsIf_load_mid (by rfl) 27 (.tmp 8) rfl X 0 rfl (blkC (blkOf (behO F)) a Ca b5 D5) _ (fun _ h => h.1) Try.underlying27 rfl (by kernel_rfl)) (by assumption) ?_
          simp only [Act.put, List.setIfInBounds_toArray, List.set_cons_zero, List.set_cons_succ]
          refine call_at (i := 1) (some 71) 14 _ _ rfl rfl rfl (by rfl) (by kernel_rfl) #[blkV (blkOf (behO F)) a Ca b5 D5] rfl Try.func14 (by kernel_rfl) (by kernel_rfl) ?_
          refine (CK.out _ hHeld.2.out).mono ?_; rintro e W7 ⟨rfl, B7⟩
          have I7 := hHeld.2.out.below B7
          refine ⟨_, rfl, ⟨I7.2.1.1, I7⟩, fun hHeld => ?_⟩
          simp only [Act.put, List.setIfInBounds_toArray, List.set_cons_zero, List.set_cons_succ]
          refine take_at (i := 2) (v := ?_) (some 72) rfl rfl (by kernel_rfl) (by kernel_rfl) (by kernel_rfl) (fun _ _ _ h => h) (Or.inl ⟨by rfl, ?_⟩) (by assumption) ?_
          rotate_left
          · (intro w hSw; (try dsimp only at hSw); go_simp; try with_reducible rfl)
          simp only [Act.put, List.setIfInBounds_toArray, List.set_cons_zero, List.set_cons_succ]
          refine take_at (i := 3) (v := ?_) (some 73) rfl rfl (by kernel_rfl) (by kernel_rfl) (by kernel_rfl) (fun _ _ _ h => h) (Or.inl ⟨by rfl, ?_⟩) (by assumption) ?_
          rotate_left
          · (intro w hSw; (try dsimp only at hSw); go_simp; try with_reducible rfl)
          simp only [Act.put, List.setIfInBounds_toArray, List.set_cons_zero, List.set_cons_succ]
          refine take_at (i := 4) (v := undef) (some 74) rfl rfl (by kernel_rfl) (by kernel_rfl) (by kernel_rfl) (fun _ _ _ h => h) (Or.inr ⟨by rfl, rfl⟩) (by assumption) ?_
          simp only [Act.put, List.setIfInBounds_toArray, List.set_cons_zero, List.set_cons_succ]
          refine take_at (i := 5) (v := undef) (some 75) rfl rfl (by kernel_rfl) (by kernel_rfl) (by kernel_rfl) (fun _ _ _ h => h) (Or.inr ⟨by rfl, rfl⟩) (by assumption) ?_
          simp only [Act.put, List.setIfInBounds_toArray, List.set_cons_zero, List.set_cons_succ]
          refine take_at (i := 6) (v := undef) (some 76) rfl rfl (by kernel_rfl) (by kernel_rfl) (by kernel_rfl) (fun _ _ _ h => h) (Or.inr ⟨by rfl, rfl⟩) (by assumption) ?_
          simp only [Act.put, List.setIfInBounds_toArray, List.set_cons_zero, List.set_cons_succ]
          refine take_at (i := 7) (v := undef) (some 77) rfl rfl (by kernel_rfl) (by kernel_rfl) (by kernel_rfl) (fun _ _ _ h => h) (Or.inr ⟨by rfl, rfl⟩) (by assumption) ?_
          simp only [Act.put, List.setIfInBounds_toArray, List.set_cons_zero, List.set_cons_succ]
          refine take_at (i := 8) (v := undef) (some 78) rfl rfl (by kernel_rfl) (by kernel_rfl) (by kernel_rfl) (fun _ _ _ h => h) (Or.inr ⟨by rfl, rfl⟩) (by assumption) ?_
          simp only [Act.put, List.setIfInBounds_toArray, List.set_cons_zero, List.set_cons_succ]
          refine take_at (i := 9) (v := undef) (some 79) rfl rfl (by kernel_rfl) (by kernel_rfl) (by kernel_rfl) (fun _ _ _ h => h) (Or.inr ⟨by rfl, rfl⟩) (by assumption) ?_
          simp only [Act.put, List.setIfInBounds_toArray, List.set_cons_zero, List.set_cons_succ]
          refine take_at (i := 10) (v := ?_) (some 80) rfl rfl (by kernel_rfl) (by kernel_rfl) (by kernel_rfl) (fun _ _ _ h => h) (Or.inl ⟨by rfl, ?_⟩) (by assumption) ?_
          rotate_left
          · (intro w hSw; (try dsimp only at hSw); go_simp; try with_reducible rfl)
          simp only [Act.put, List.setIfInBounds_toArray, List.set_cons_zero, List.set_cons_succ]
          refine wpAnyH_done (by kernel_rfl) ?_ _
          refine NoPanic.normal ?_
          have IE : Hid (rdJ w b off X F r a Ca b5 D5 W7) := I7
          clear hHeld I7
          have R2 := IE.out.1.2.1
          go_wp2_with (first
            | (refine wpList_build_to rfl 27 #[] rfl (blkC blk0 none 0 none 0).toArray (by kernel_rfl) ?_)
            | (refine wpList_store_rec rfl 27 (.tmp 2) (.tmp 81) rfl w.heap.size 0 _ (blkC blk0 none 0 none 0) rfl rfl R2 rfl (by kernel_rfl) (blkC_one _ _ _ _ _) ?_; intro W9 R9 B9))
          have hl := R9.run_load 27 _ Try.underlying27 rfl (by kernel_rfl)
          exact bodyPost_ret (v := .tuple #[blkV blk0 none 0 none 0, .int .i64 4]) (by simp [results, Try.results20, asAddr, blkV, hl]) rfl (.inr ⟨BD.out, rfl, IE.out.1.1.trans (B9.below (Nat.le_refl _) IE.out.1.1.size)⟩)
end Go.Proofs.Ytmlllglgjpmicaa
