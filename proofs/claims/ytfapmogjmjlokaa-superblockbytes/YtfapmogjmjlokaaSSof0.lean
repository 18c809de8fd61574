/-
  Walks, not a claim by itself: superblock's superOf, its states. By the verifier.
-/
import Derived.Test.YtfapmogjmjlokaaSTake
import Derived.Test.YtfapmogjmjlokaaSLaid
import Derived.Test.YtfapmogjmjlokaaReg
namespace Go.Proofs.Ytfapmogjmjlokaa
open Go.RowKit
/-- The first k numbers are read. -/
def sF (f : Nat → Int) (k : Nat) : Sup := ⟨fun i => if i < k then rdN f i else 0, false, 0, fun j => rdN f (11 + j)⟩
/-- All nine, Fetching, and k heads. -/
def sH (f : Nat → Int) (k : Nat) : Sup := ⟨rdN f, decide (rdN f 9 = 1), k, fun j => rdN f (11 + j)⟩
theorem sF_0 (f : Nat → Int) : supC (sF f 0) none 0 = supC sup0 none 0 := rfl
theorem sF_set (f : Nat → Int) : ∀ k : Nat, k < 9 → (supC (sF f k) none 0).set k (.int .i64 (rdN f k)) = supC (sF f (k + 1)) none 0
  | 0, _ | 1, _ | 2, _ | 3, _ | 4, _ | 5, _ | 6, _ | 7, _ | 8, _ => rfl
  | k + 9, h => absurd h (by omega)
theorem sF_9 (f : Nat → Int) : (supC (sF f 9) none 0).set 9 (.bool (decide (rdN f 9 = 1))) = supC (sH f 0) none 0 := rfl
theorem beq_dec (a b : Int) : (a == b) = decide (a = b) := by rw [Bool.eq_iff_iff]; simp
theorem sF_9' (f : Nat → Int) (v : Int) (h : rdN f 9 = v) : (supC (sF f 9) none 0).set 9 (.bool (v == 1)) = supC (sH f 0) none 0 := by
  rw [← h, beq_dec]
  exact sF_9 f
theorem sH_set (f : Nat → Int) (k : Nat) (a a' : Option Addr) (C C' : Nat) : (supC (sH f k) a C).set 10 (.slice a' (k + 1) C') = supC (sH f (k + 1)) a' C' := rfl
/-- What lies in memory when p numbers are taken. -/
structure SofS (w wr : World) (f : Nat → Int) (g p : Nat) (s : Sup) (a : Option Addr) (C : Nat) : Prop where
  take : TakeAt wr (w.heap.size + 2) g 496 (4 * p) f
  recd : Rec19 wr (w.heap.size + 1) 0 (supC s a C)
  res : Rec19 wr w.heap.size 0 (supC sup0 none 0)
  bel : Below w.heap.size w wr
  gl : g < w.heap.size
theorem SofS.below {w wr u : World} {f : Nat → Int} {g p : Nat} {s : Sup} {a : Option Addr} {C : Nat} (h : SofS w wr f g p s a C) (hB : Below wr.heap.size wr u) : SofS w u f g p s a C :=
  ⟨h.take.below hB, h.recd.below hB, h.res.below hB, h.bel.trans (hB.mono h.bel.size), h.gl⟩
theorem SofS.set {w wr : World} {f : Nat → Int} {g p : Nat} {s s' : Sup} {a a' : Option Addr} {C C' : Nat} (h : SofS w wr f g p s a C) (o : Nat) (v : Value) (hs : (supC s a C).set o v = supC s' a' C') : SofS w (wr.setCell ⟨w.heap.size + 1, o, none⟩ v) f g p s' a' C' := by
  have hB : But (w.heap.size + 1) wr (wr.setCell ⟨w.heap.size + 1, o, none⟩ v) := But.set _ _ _
  refine ⟨h.take.but hB (by omega) (by have := h.gl; omega), ?_, h.res.but hB (by omega), h.bel.trans (hB.below (by omega) h.bel.size), h.gl⟩
  rw [← hs]
  exact h.recd.put o v
def SofT (w wr : World) (f : Nat → Int) (g p : Nat) (s : Sup) (a : Option Addr) (C : Nat) (e : Ending) (u : World) : Prop := e = .returned (.int .u32 (rdN f p)) ∧ SofS w u f g (p + 1) s a C ∧ But (w.heap.size + 2) wr u ∧ u.heap.size = wr.heap.size
/-- A number is taken. -/
theorem sof_take (w wr : World) (f : Nat → Int) (g p : Nat) (s : Sup) (a : Option Addr) (C : Nat) (h : SofS w wr f g p s a C) (hp : p < 124) :
    Calls Try.prog 73 #[.pointer (some ⟨w.heap.size + 2, 0, none⟩)] wr (SofT w wr f g p s a C) := by
  refine (take1_any wr _ _ 496 (4 * p) f h.take (by omega) (by omega)).mono ?_
  rintro e u ⟨rfl, h1, h2, h3⟩
  refine ⟨rfl, ⟨?_, h.recd.but h2 (by omega), h.res.but h2 (by omega), h.bel.trans (h2.below (by omega) h.bel.size), h.gl⟩, h2, h3⟩
  rw [show 4 * (p + 1) = 4 * p + 4 by omega]
  exact h1
/-- What superOf answers. -/
def SofPost (w : World) (f : Nat → Int) (e : Ending) (w' : World) : Prop :=
  (¬ SupOk f ∧ e = .returned (.tuple #[supV sup0 none 0, .bool false]) ∧ Below w.heap.size w w') ∨
  (SupOk f ∧ ∃ a C, e = .returned (.tuple #[supV (supOf f) a C, .bool true]) ∧ HArg w' a (supOf f).k (supOf f).h ∧ (supOf f).k ≤ C ∧ (∀ r, a = some r → w.heap.size ≤ r.block) ∧ Below w.heap.size w w')
def sof1Rel (w : World) (f : Nat → Int) (g : Nat) (i : Value) (wr : World) : Prop := ∃ k : Nat, k ≤ 9 ∧ i = .int .i64 k ∧ SofS w wr f g k (sF f k) none 0
/-- While heads are read. -/
def SofH (w wr : World) (f : Nat → Int) (g p k : Nat) (a : Option Addr) (C : Nat) : Prop := SofS w wr f g p (sH f k) a C ∧ OwnI wr (w.heap.size + 3) 75 2 (.slice a k C) k (fun j => rdN f (11 + j))
def sof2Rel (w : World) (f : Nat → Int) (g n : Nat) (i : Value) (wr : World) : Prop := ∃ k : Nat, k ≤ n ∧ i = .int .u32 k ∧ ∃ a C, SofH w wr f g (11 + 2 * k) k a C
def sof3Rel (w : World) (f : Nat → Int) (g n m : Nat) (i : Value) (wr : World) : Prop := ∃ k : Nat, k ≤ m ∧ i = .int .u32 k ∧ (∃ a C, SofH w wr f g (11 + 2 * n + k) n a C) ∧ ∀ j, j < k → rdN f (11 + 2 * n + j) = 0
theorem info_head : (Try.prog.info? 75).map (fun i => (i.zero, i.size, i.bytes)) = some (some (.agg #[.int .i64 0, .int .i64 0]), 2, 16) := by kernel_rfl
theorem Rec19.under {W W' : World} {n o B : Nat} {cs : List Value} (h : Rec19 W n o cs) (hB : Below B W W') (hn : n < B) : Rec19 W' n o cs :=
  ⟨fun j v hj => (hB.cell (p := ⟨n, o + j, none⟩) hn).trans (h.1 j v hj), fun j hj => by rw [hB.cell (p := ⟨n, o + j, none⟩) hn, hB.frozen (p := ⟨n, o + j, none⟩) hn]; exact h.2.1 j hj, Nat.lt_of_lt_of_le h.2.2 hB.size⟩
theorem Lies.under {u v : World} {b off n B : Nat} {f : Nat → Int} (h : Lies u b off n f) (hB : Below B u v) (hn : b < B) : Lies v b off n f :=
  ⟨fun j hj => (hB.cell (p := ⟨b, off + j, none⟩) hn).trans (h.1 j hj), h.2.1, Nat.lt_of_lt_of_le h.2.2 hB.size⟩
theorem TakeAt.under {w u : World} {B r N o X : Nat} {f : Nat → Int} (h : TakeAt w B r N o f) (hB : Below X w u) (h1 : B < X) (h2 : r < X) : TakeAt u B r N o f := by
  obtain ⟨q, c, e⟩ := h.cell
  exact ⟨⟨q, (hB.cell (p := ⟨B, 0, none⟩) h1).trans c, e⟩, (hB.frozen (p := ⟨B, 0, none⟩) h1).trans h.fr, h.lies.under hB h2, Nat.lt_of_lt_of_le h.bl hB.size, h.ne⟩
theorem SofS.under {w wr u : World} {f : Nat → Int} {g p : Nat} {s : Sup} {a : Option Addr} {C : Nat} (h : SofS w wr f g p s a C) (hB : Below (w.heap.size + 3) wr u) : SofS w u f g p s a C :=
  ⟨h.take.under hB (by omega) (by have := h.gl; omega), h.recd.under hB (by omega), h.res.under hB (by omega), h.bel.trans (hB.mono (by omega)), h.gl⟩
theorem SofH.but {w wr u : World} {f : Nat → Int} {g p q k c : Nat} {a : Option Addr} {C : Nat} (h : SofH w wr f g p k a C) (hB : But c wr u) (hc : c < w.heap.size + 3) (hS : SofS w u f g q (sH f k) a C) : SofH w u f g q k a C := ⟨hS, h.2.but hB hc⟩
/-- A head is appended. -/
theorem sof_step (w V : World) (f : Nat → Int) (g k : Nat) (a : Option Addr) (C : Nat) (hk : k ≤ 32) (h : SofH w V f g (11 + 2 * k + 1 + 1) k a C) (x y : Int) (hx : x = rdN f (11 + 2 * k)) (hy : y = rdN f (11 + 2 * k + 1)) :
    ∃ a' C' W', (Builtin.append_ #[24, 24] 24 #[.slice a k C, .slice (some ⟨V.heap.size, 0, none⟩) 1 1]).run Try.prog (V.alloc (.cells #[.int .i64 x, .int .i64 y] 75)) = .ok (.slice a' (k + 1) C') W' ∧
      W'.cell? ⟨w.heap.size + 1, 10, none⟩ = some (.slice a k C) ∧ W'.frozen? ⟨w.heap.size + 1, 10, none⟩ = false ∧ SofH w (W'.setCell ⟨w.heap.size + 1, 10, none⟩ (.slice a' (k + 1) C')) f g (11 + 2 * (k + 1)) (k + 1) a' C' := by
  obtain ⟨hS, hO⟩ := h
  have hz : w.heap.size + 3 ≤ V.heap.size := by have := hS.take.bl; omega
  have hU : Below V.heap.size V (V.alloc (.cells #[.int .i64 x, .int .i64 y] 75)) := (Below.refl _ _).alloc (Nat.le_refl _) _
  have hc : ∀ j, j < 1 * 2 → (V.alloc (.cells #[.int .i64 x, .int .i64 y] 75)).cell? ⟨V.heap.size, 0 + j, none⟩ = some (.int .i64 (rdN f (11 + (2 * k + j)))) := fun j hj => by
    rw [World.cell?_alloc_at _ _ _ _ rfl, Nat.zero_add]
    match j, hj with
    | 0, _ => rw [hx]; rfl
    | 1, _ => rw [hy]; rfl
  generalize (V.alloc (.cells #[.int .i64 x, .int .i64 y] 75)) = U at hU hc
  obtain ⟨v', W', h1, h2, h3⟩ := OwnI.app (ty := 24) (C := 1) (m := 1) Try.underlying24 info_head rfl (by omega) (by omega) (hO.below hU) V.heap.size 0 (G := fun j => rdN f (11 + (2 * k + j))) hc (by omega) (Nat.le_trans hz hU.size)
  obtain ⟨a', C', rfl, hC'⟩ := h2.slice
  have hS' : SofS w W' f g (11 + 2 * k + 1 + 1) (sH f k) a C := (hS.below hU).under h3
  obtain ⟨c10, f10⟩ := hS'.recd.cel 10 (.slice a k C) rfl
  refine ⟨a', C', W', h1, c10, f10, ?_, ?_⟩
  · have := hS'.set 10 (.slice a' (k + 1) C') (sH_set f k a a' C C')
    rw [show 11 + 2 * (k + 1) = 11 + 2 * k + 1 + 1 by omega]
    exact this
  · refine (h2.but (But.set (b := w.heap.size + 1) W' 10 (.slice a' (k + 1) C')) (by omega)).congr (fun j _ => ?_)
    unfold cat
    by_cases q : j < k * 2
    · rw [if_pos q]
    · rw [if_neg q]
      show rdN f (11 + (2 * k + (j - k * 2))) = rdN f (11 + j)
      rw [show 2 * k + (j - k * 2) = j by omega]
/-- A call of a closure that alone may come up. -/
theorem callv_at {P : Program} {ops : Array Oper} {Q : Exit → Act → World → Prop} {md : Region.Mode} {S : World → Prop} {i : Nat} {o : Oper} {fuel : Nat} {listed : Array Bool} {a : Act} {w : World} (d : Option Tmp) (x : Operand) (f : FuncId) (cap : Array Value) (xs : Array Operand) (tys : Array TypeId) (hi : ops[i]? = some o) (hd : o.dst = d)
    (hop : o.op = .call { callee := .value x, args := xs, argTypes := tys }) (hx : a.eval x = .func (.func f) #[] cap) (hw : Region.wanted o (yielded ops a.tmps) = true) (hr : Region.ready md ops listed = [i])
    (vs : Array Value) (hv : xs.map a.eval ++ cap = vs) {fn : Func} (hf : P.funcs[f]? = some fn) (hg : (fn.name == "runtime.NumGoroutine") = false) (hb : fn.body.isNone = false)
    (hc : Calls P f vs w fun e w' => ∃ v, e = .returned v ∧ S w' ∧ (S w' → wpAnyH P md ops Q S fuel (listed.setIfInBounds i true) (a.put d v) w')) : wpAnyH P md ops Q S (fuel + 1) listed a w := by
  subst hd hv
  refine wpAnyH_all hr (by simp) (fun j hj => ?_)
  obtain rfl : j = i := by simpa using hj
  unfold wpOp
  simp only [hi, hw, if_true]
  refine .inl ?_
  unfold Oper.wp
  have hx' : (execOp a.eval o).run P w = .ok (.enter f (xs.map a.eval ++ cap)) w := by
    have hg' : ¬ fn.name = "runtime.NumGoroutine" := by simpa using hg
    have hb' : ¬ fn.body = none := fun e => by rw [e] at hb; cases hb
    simp [execOp, hop, resolve, hx, Deferred.ofValue, invoke, callFunc, run_program, hf, hg', hb']
  rw [hx']
  refine hc.mono ?_
  rintro e w' ⟨v, rfl, hS, hn⟩
  exact ⟨hS, hn hS⟩
section
variable {P : Program} {ops : Array Oper} {Q : Exit → Act → World → Prop} {md : Region.Mode} {S : World → Prop}
/-- Either of two operations may come up. -/
theorem fork_at {i j fuel : Nat} {listed : Array Bool} {a : Act} {w : World} (hr : Region.ready md ops listed = [i, j])
    (h1 : wpOp P ops Q i (fun a' w' => S w' ∧ wpAnyH P md ops Q S fuel (listed.setIfInBounds i true) a' w') a w)
    (h2 : wpOp P ops Q j (fun a' w' => S w' ∧ wpAnyH P md ops Q S fuel (listed.setIfInBounds j true) a' w') a w) : wpAnyH P md ops Q S (fuel + 1) listed a w := by
  refine wpAnyH_all hr (by simp) (fun x hx => ?_)
  have : x = i ∨ x = j := by simpa using hx
  rcases this with rfl | rfl
  · exact h1
  · exact h2
theorem wpOp_value {i : Nat} {o : Oper} {K : Act → World → Prop} {a : Act} {w : World} (d : Option Tmp) (hi : ops[i]? = some o) (hd : o.dst = d) (hw : Region.wanted o (yielded ops a.tmps) = true) (v : Value) (w' : World) (hx : (execOp a.eval o).run P w = .ok (.value v) w') (h : K (a.put d v) w') : wpOp P ops Q i K a w := by
  subst hd
  unfold wpOp
  simp only [hi, hw, if_true]
  refine .inl ?_
  unfold Oper.wp
  rw [hx]
  exact h
theorem wpOp_callv {i : Nat} {o : Oper} {K : Act → World → Prop} {a : Act} {w : World} (d : Option Tmp) (x : Operand) (f : FuncId) (cap : Array Value) (xs : Array Operand) (tys : Array TypeId) (hi : ops[i]? = some o) (hd : o.dst = d)
    (hop : o.op = .call { callee := .value x, args := xs, argTypes := tys }) (hx : a.eval x = .func (.func f) #[] cap) (hw : Region.wanted o (yielded ops a.tmps) = true)
    (vs : Array Value) (hv : xs.map a.eval ++ cap = vs) {fn : Func} (hf : P.funcs[f]? = some fn) (hg : (fn.name == "runtime.NumGoroutine") = false) (hb : fn.body.isNone = false)
    (hc : Calls P f vs w fun e w' => ∃ v, e = .returned v ∧ K (a.put d v) w') : wpOp P ops Q i K a w := by
  subst hd hv
  unfold wpOp
  simp only [hi, hw, if_true]
  refine .inl ?_
  unfold Oper.wp
  have hx' : (execOp a.eval o).run P w = .ok (.enter f (xs.map a.eval ++ cap)) w := by
    have hg' : ¬ fn.name = "runtime.NumGoroutine" := by simpa using hg
    have hb' : ¬ fn.body = none := fun e => by rw [e] at hb; cases hb
    simp [execOp, hop, resolve, hx, Deferred.ofValue, invoke, callFunc, run_program, hf, hg', hb']
  rw [hx']
  refine hc.mono ?_
  rintro e w' ⟨v, rfl, hn⟩
  exact hn
end
end Go.Proofs.Ytfapmogjmjlokaa
