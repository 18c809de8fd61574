/-
  Walks, not a claim by itself: DiskKeeps. By the verifier.
-/
import Derived.Test.YtoehbljnapdbgaaKLaw
namespace Go.Proofs.Ytoehbljnapdbgaa
open Go.RowKit Go.Maps
theorem make_run {a : Act} {w : World} {o : Oper} (t : TypeId) (x y : Operand) (hop : o.op = .makeSlice t x y) (X Y : Value) (hx : a.eval x = X) (hy : a.eval y = Y) {v : Value} {w' : World} (hr : (Instr.makeSlice t X Y).run Try.prog w = .ok v w') :
    (execOp a.eval o).run Try.prog w = .ok (.value v) w' := by
  simp [execOp, hop, hx, hy, hr, Result.andThen]
/-- Two makes of S bytes, one behind the other. -/
theorem two_make (W : World) (S : Nat) (hS : S ≤ 20) : ∃ A B W1 W2, (Instr.makeSlice 26 (.int .i64 (S : Int)) (.int .i64 (S : Int))).run Try.prog W = .ok (.slice (some ⟨A, 0, none⟩) S S) W1 ∧ (Instr.makeSlice 26 (.int .i64 (S : Int)) (.int .i64 (S : Int))).run Try.prog W1 = .ok (.slice (some ⟨B, 0, none⟩) S S) W2 ∧ Hid (IRow W2 A .u8 S (fun _ => 0) ∧ IRow W2 B .u8 S (fun _ => 0) ∧ A ≠ B ∧ W.heap.size ≤ A ∧ W.heap.size ≤ B ∧ Below W.heap.size W W2) := by
  refine ⟨_, _, _, _, make_bytes S (by omega) W, make_bytes S (by omega) _, ?_, ?_, ?_, ?_, ?_, ?_⟩
  · exact (IRow.made W S _).alloc _
  · exact IRow.made _ S _
  · simp
  · exact Nat.le_refl _
  · simp
  · exact ((Below.refl _ _).alloc (Nat.le_refl _) _).alloc (by simp) _
theorem kp_init {w0 W W2 : World} {d s m S NB OB : Nat} {D : Dsk} {fz : Option Nat} {x : Int} (h : One w0 W d s m D fz x 0) (hN : D.N = S) (hI : KInv D (fun _ => 0) (fun _ => 0)) (hB : Below W.heap.size W W2) (r1 : IRow W2 NB .u8 S (fun _ => 0)) (r2 : IRow W2 OB .u8 S (fun _ => 0)) (hn : OB ≠ NB) (g1 : W.heap.size ≤ NB) (g2 : W.heap.size ≤ OB) : Kp w0 W2 d s m S NB OB D fz x 0 (fun _ => 0) (fun _ => 0) := by
  have fresh : ∀ B, W.heap.size ≤ B → B ∉ [d, s, m] ++ fz.toList := fun B hB q => by
    rcases List.mem_append.1 q with k | k
    · have := h.at'.lt B k
      omega
    · have := h.lt B (h.ef.trans (fz_mem k))
      omega
  exact ⟨h.below hB, hN, hI, r1, r2.lies (fun _ _ => by omega), fun _ _ => by omega, fresh NB g1, fresh OB g2, Nat.le_trans h.bel.size g1, hn⟩
theorem kinv0 (S : Nat) (fz : Option Nat) : KInv { dsk0 S with out := false, fz := fz } (fun _ => 0) (fun _ => 0) := ⟨fun _ _ _ _ => rfl, (fun _ _ _ _ h => by cases h), fun _ _ _ => rfl⟩
theorem keep_less {n k : Nat} (hlt : k < n) : n - (RowKit.intOf (.int .i64 ((k : Int) + 1))).toNat < n - (RowKit.intOf (.int .i64 (k : Int))).toNat := by simp [RowKit.intOf]; omega
theorem kp_next {w0 W : World} {d s m S NB OB n k cap : Nat} {D : Dsk} {fz : Option Nat} {x : Int} {now old : Nat → Int} (hlt : k < n) (h : Kp w0 W d s m S NB OB D fz x (k + 1) now old) : kpRel w0 d s S NB n fz x (.slice (some ⟨OB, 0, none⟩) S cap) (.int .i64 ((k : Int) + 1)) W := ⟨k + 1, by omega, by go_num, m, OB, cap, D, now, old, rfl, h⟩
/-- CopyBytes of what is now, behind a flush. -/
theorem kp_copy {w0 W : World} {d s m S NB i : Nat} {D : Dsk} {fz : Option Nat} {x : Int} {now : Nat → Int} (hS1 : 1 ≤ S) (hS : S ≤ 20) (bn : ∀ j, j < S → 0 ≤ now j ∧ now j < 256) (rn : IRow W NB .u8 S now)
    (h : ∀ W2 g, Below W.heap.size W W2 → W.heap.size ≤ g → Lies W2 g 0 S now → Kp w0 W2 d s m S NB g D fz x i now now) :
    Calls Try.prog 28 #[.slice (some ⟨NB, 0, none⟩) S S] W fun e w' => ∃ g cap, e = .returned (.slice (some ⟨g, 0, none⟩) S cap) ∧ Kp w0 w' d s m S NB g D fz x i now now := by
  refine (copy_any (some ⟨NB, 0, none⟩) S S now W (Arg.of (rn.lies bn)) (by omega)).mono ?_
  rintro e w' ⟨v, rfl, ho, hB⟩
  obtain ⟨g, cap, rfl, hg, _, hl⟩ := ho.form (by omega) bn
  exact ⟨g, cap, rfl, h w' g hB hg hl⟩
set_option maxRecDepth 100000 in
/-- An empty slice's run. -/
theorem bslice_run {a : Act} {w : World} {o : Oper} (hop : o.op = .buildSlice 26 0 #[]) : (execOp a.eval o).run Try.prog w = .ok (.value (.slice (some ⟨w.heap.size, 0, none⟩) 0 0)) (w.alloc (.cells #[] 5)) := by
  obtain ⟨ie, hie, _, _, _⟩ := info_parts info_u8
  have hu : Try.prog.underlying 26 = some (.slice 5) := Try.underlying26
  unfold execOp
  simp [hop, Instr.buildSlice, run_underlying hu, sizeOf, typeInfo, hie, newRow, Instr.fill, Result.andThen]
  congr 2
  exact Array.eq_empty_of_size_eq_zero (by simp)
set_option maxRecDepth 100000 in
theorem append_run {a : Act} {w : World} {o : Oper} (d x : Operand) (dT sT : TypeId) (hop : o.op = Op.call { callee := Callee.builtin Builtin.append, args := #[d, x], argTypes := #[dT, sT] })
    (v u : Value) (hd : a.eval d = v) (hx : a.eval x = u) {v' : Value} {w' : World} (hr : (Builtin.append_ #[dT, sT] o.type #[v, u]).run Try.prog w = .ok v' w') : (execOp a.eval o).run Try.prog w = .ok (.value v') w' := by
  simp [execOp, hop, resolve, invoke, builtin, hd, hx, hr, Result.andThen]
section
variable {ops : Array Oper} {Q : Exit → Act → World → Prop} {md : Region.Mode} {S : World → Prop}
/-- Either an operation or a call may come up. -/
theorem either_call {i j : Nat} {oi o : Oper} {fuel : Nat} {listed : Array Bool} {a : Act} {w : World} (di d : Option Tmp) (f : FuncId) (xs : Array Operand) (tys : Array TypeId) (hii : ops[i]? = some oi) (hdi : oi.dst = di) (hi : ops[j]? = some o) (hd : o.dst = d)
    (hop : o.op = .call { callee := .value (.func f), args := xs, argTypes := tys }) (hwi : Region.wanted oi (yielded ops a.tmps) = true) (hw : Region.wanted o (yielded ops a.tmps) = true) (hr : Region.ready md ops listed = [i, j])
    (vi : Value) (w1 : World) (h1 : (execOp a.eval oi).run Try.prog w = .ok (.value vi) w1) (hS1 : S w1) (k1 : S w1 → wpAnyH Try.prog md ops Q S fuel (listed.setIfInBounds i true) (a.put di vi) w1)
    (vs : Array Value) (hv : xs.toList.map a.eval = vs.toList) {fn : Func} (hf : Try.prog.funcs[f]? = some fn) (hg : (fn.name == "runtime.NumGoroutine") = false) (hb : fn.body.isNone = false)
    (hc : Calls Try.prog f vs w fun e w' => ∃ v, e = .returned v ∧ S w' ∧ (S w' → wpAnyH Try.prog md ops Q S fuel (listed.setIfInBounds j true) (a.put d v) w')) : wpAnyH Try.prog md ops Q S (fuel + 1) listed a w := by
  have hv' : xs.map a.eval = vs := Array.toList_inj.1 (by simpa using hv)
  subst hdi hd hv'
  clear hv
  refine wpAnyH_all hr (by simp) (fun k hk => ?_)
  have hk' : k = i ∨ k = j := by simpa using hk
  rcases hk' with rfl | rfl
  · unfold wpOp
    simp only [hii, hwi, if_true]
    refine .inl ?_
    unfold Oper.wp
    rw [h1]
    exact ⟨hS1, k1 hS1⟩
  · unfold wpOp
    simp only [hi, hw, if_true]
    refine .inl ?_
    unfold Oper.wp
    have hx : (execOp a.eval o).run Try.prog w = .ok (.enter f (xs.map a.eval)) w := by
      have hg' : ¬ fn.name = "runtime.NumGoroutine" := by simpa using hg
      have hb' : ¬ fn.body = none := fun e => by rw [e] at hb; cases hb
      simp [execOp, hop, resolve, Act.eval, Deferred.ofValue, invoke, callFunc, run_program, hf, hg', hb']
    rw [hx]
    refine hc.mono ?_
    rintro e w' ⟨v, rfl, hS, hn⟩
    exact ⟨hS, hn hS⟩
end
theorem halfA (W0 w : World) (z g : Nat) (v : Int) (hv : 0 ≤ v ∧ v < 256) (hB : Below W0.heap.size W0 w) (o : Own w W0.heap.size (.slice (some ⟨z, 0, none⟩) 0 0) 0 (fun _ => 0)) (l : Lies w g 0 256 (fun _ => v)) :
    ∃ u w3, (Builtin.append_ #[26, 26] 26 #[.slice (some ⟨z, 0, none⟩) 0 0, .slice (some ⟨g, 0, none⟩) 128 256]).run Try.prog w = .ok u w3 ∧ Hid (Own w3 W0.heap.size u 128 (fun _ => v) ∧ Below W0.heap.size W0 w3) := by
  have a2 : Arg w (some ⟨g, 0, none⟩) 128 (fun _ => v) := Arg.of ⟨fun j hj => l.1 j (by omega), fun _ _ => hv, l.2.2⟩
  obtain ⟨u, w3, hr, ho, hb⟩ := app_arg 26 w W0.heap.size 0 128 256 _ _ _ _ o a2 (by omega) hB.size
  rw [Nat.zero_add] at ho
  exact ⟨u, w3, hr, ho.congr (fun j _ => by unfold cat; rw [if_neg (by omega)]), hB.trans hb⟩
theorem halfB (W0 w3 w4 : World) (u : Value) (v y : Int) (hv : 0 ≤ v ∧ v < 256) (hy : 0 ≤ y ∧ y < 256) (o3 : Own w3 W0.heap.size u 128 (fun _ => v)) (b3 : Below W0.heap.size W0 w3) (h4 : FullPost w3 1 y (.returned (.slice (some ⟨w3.heap.size, 0, none⟩) (1 * 256) (1 * 256))) w4) :
    ∃ g cap w5, (Builtin.append_ #[26, 26] 26 #[u, .slice (some ⟨w3.heap.size, 128, none⟩) 128 128]).run Try.prog w4 = .ok (.slice (some ⟨g, 0, none⟩) 256 cap) w5 ∧ Hid (Lies w5 g 0 256 (fun j => if j < 128 then v else y) ∧ Below W0.heap.size W0 w5) := by
  obtain ⟨_, o4, b4⟩ := h4
  have bb : Below W0.heap.size W0 w4 := b3.trans (b4.mono b3.size)
  have l4 := o4.irow.lies (fun _ _ => hy)
  have a4 : Arg w4 (some ⟨w3.heap.size, 128, none⟩) 128 (fun _ => y) := Arg.of ⟨fun j hj => by have := l4.1 (128 + j) (by omega); rwa [Nat.zero_add] at this, fun _ _ => hy, l4.2.2⟩
  obtain ⟨v', w5, hr, ho, hb⟩ := app_arg 26 w4 W0.heap.size 128 128 128 _ _ _ _ (o3.below b4) a4 (by omega) bb.size
  obtain ⟨g, cap, rfl, _, _, hl⟩ := (ho.congr (G := fun j => if j < 128 then v else y) (fun j _ => rfl)).form (by omega) (fun j _ => by split; (· exact hv); (· exact hy))
  exact ⟨g, cap, w5, hr, hl, bb.trans hb⟩
/-- The head of the last loop. -/
def endRel (w : World) (S t : Nat) (c i : Value) (wr : World) : Prop := ∃ k : Nat, k ≤ S ∧ i = .int .i64 k ∧ ∃ c0 : Nat, c = .int .i64 c0 ∧ c0 ≤ (if t < k then 1 else 0) ∧ Below w.heap.size w wr
theorem end_next {w W W' : World} {S t k c0 : Nat} (hlt : k < S) (hc : c0 ≤ (if t < k then 1 else 0)) (h : Below w.heap.size w W) (hB : Below W.heap.size W W') : endRel w S t (.int .i64 c0) (.int .i64 ((k : Int) + 1)) W' := by
  refine ⟨k + 1, by omega, by go_num, c0, rfl, ?_, h.trans (hB.mono h.size)⟩
  by_cases e : t < k
  · rw [if_pos e] at hc
    rw [if_pos (by omega)]
    exact hc
  · rw [if_neg e] at hc
    omega
theorem end_torn {w W W' : World} {S t k c0 : Nat} (hlt : k < S) (hc : c0 ≤ (if t < k then 1 else 0)) (e : k = t) (h : Below w.heap.size w W) (hB : Below W.heap.size W W') : endRel w S t (.int .i64 ((c0 : Int) + 1)) (.int .i64 ((k : Int) + 1)) W' := by
  rw [if_neg (by omega)] at hc
  have c00 : c0 = 0 := by omega
  subst c00
  exact ⟨k + 1, by omega, by go_num, 1, rfl, by rw [if_pos (by omega)]; exact Nat.le_refl _, h.trans (hB.mono h.size)⟩
theorem lies_one (w : World) (v : Int) (hv : 0 ≤ v ∧ v < 256) : Lies (w.alloc (.cells #[.int .u8 v] 5)) w.heap.size 0 1 (fun _ => v) := by
  refine ⟨fun j hj => ?_, fun _ _ => hv, by simp⟩
  obtain rfl : j = 0 := by omega
  rw [Nat.zero_add, cell_of_row _ _ _ _ _ _ (heap_alloc_new w _)]
  rfl
theorem end_wrap {t k c0 : Nat} (h : c0 ≤ (if t < k then 1 else 0)) : wrap64 ((c0 : Int) + 1) = (c0 : Int) + 1 := by
  have : c0 ≤ 1 := by split at h <;> omega
  unfold wrap64; omega
theorem end_wrap' {t k c0 : Nat} (h : c0 ≤ (if t < k then 1 else 0)) : IntKind.i64.wrap ((c0 : Int) + 1) = (c0 : Int) + 1 := by
  have : c0 ≤ 1 := by split at h <;> omega
  rw [IntKind.wrap_i64]; omega
theorem loose_none {W : World} {d s m nk : Nat} {kp : Nat → Bool} {tear : Int} {D : Dsk} (h : DiskAt W d s m (D.crash nk kp tear)) : Calls Try.prog 18 #[.pointer (some ⟨d, 0, none⟩)] W (LooPost W []) := by
  have e : looseL (D.crash nk kp tear).N (D.crash nk kp tear).lo = [] := by
    show ((List.range D.N).filter (fun _ => false)).map _ = []
    simp
  refine (loose_ok W d s m _ h).mono ?_
  rintro e' w' ⟨v, rfl, hv, hB⟩
  rw [e] at hv
  obtain ⟨a, c, rfl, g⟩ := IList.ofLoose hv
  exact ⟨a, c, rfl, ⟨a, c, rfl, g⟩, hB⟩
theorem karg_apart {w W : World} {p : Option Addr} {nk s : Nat} {kp : Nat → Bool} (h : KArg w p nk kp) (hB : w.heap.size ≤ W.heap.size) (hs : W.heap.size ≤ s) : nk ≠ 0 → ∀ r, p = some r → r.block ≠ s := fun hn r e => by
  rcases h with g | ⟨b, off, rfl, _, hl⟩
  · exact absurd g hn
  · cases e
    show b ≠ s
    omega
theorem torn_of {E : Dsk} {now old : Nat → Int} {t n : Nat} (h : ReadIs E now old t n) (h1 : ¬ ∀ j, j < 256 → E.sec (n * 256 + j) = now n) (h2 : ¬ ∀ j, j < 256 → E.sec (n * 256 + j) = old n) : n = t ∧ ∀ j, j < 256 → E.sec (n * 256 + j) = if j < 128 then now n else old n := by
  rcases h with g | g | g
  · exact absurd g h1
  · exact absurd g h2
  · exact g
end Go.Proofs.Ytoehbljnapdbgaa
