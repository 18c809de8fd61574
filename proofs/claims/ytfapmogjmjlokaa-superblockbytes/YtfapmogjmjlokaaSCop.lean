/-
  Walks and laws, not a claim by itself: the copies, gone through by a range over a function, whose loop variable lies in memory. By the verifier.
-/
import Derived.Test.YtfapmogjmjlokaaSMap
import Derived.Test.YtfapmogjmjlokaaDReg
import Derived.Test.YtfapmogjmjlokaaDWr0
namespace Go.Proofs.Ytfapmogjmjlokaa
open Go.RowKit Go.Shelf
attribute [local go_sem] Oper.semAt_some
section
variable {P : Program} {F : Fence} {n : Nat} {ops : Array Oper} {rest : List Oper} {o : Oper} {a : Act} {w w' : World} {Q : Exit → Act → World → Prop}
/-- An operation in a fence, its run known. -/
theorem wpListIn_run (hg : o.guard = none) (hd : ∀ c, o.op ≠ .defer c) (ha : o.about P w a.eval = none) (v : Value) (hx : (execOp a.eval o).run P w = .ok (.value v) w') (hK : wpListIn F n P ops Q rest (a.put o.dst v) w') : wpListIn F n P ops Q (o :: rest) a w := by
  refine wpListIn_plain hg fun K hK' => ?_
  unfold Oper.wpIn
  refine ⟨fun f hf => (by rw [ha] at hf; cases hf), ?_⟩
  rw [Oper.semAt_plain F _ _ hd, hx]
  exact hK' _ _ hK
theorem wpListIn_mute (hg : o.guard = none) (hd : ∀ c, o.op ≠ .defer c) (ha : o.about P w a.eval = none) (hx : (execOp a.eval o).run P w = .ok .skip w') (hK : wpListIn F n P ops Q rest (a.put o.dst undef) w') : wpListIn F n P ops Q (o :: rest) a w := by
  refine wpListIn_plain hg fun K hK' => ?_
  unfold Oper.wpIn
  refine ⟨fun f hf => (by rw [ha] at hf; cases hf), ?_⟩
  rw [Oper.semAt_plain F _ _ hd, hx]
  exact hK' _ _ hK
theorem load_run (ty : TypeId) (x : Operand) (ho : o.op = .load ty x) (b off : Nat) (cs : List Value) (hx : a.eval x = .pointer (some ⟨b, off, none⟩)) (d : TypeDesc) (hr : w.rangeAt b off cs) (hu : Try.prog.underlying ty = some d) (hd : d.isRow = true) (hi : (Try.prog.info? ty).map (·.size) = some cs.length) :
    (execOp a.eval o).run Try.prog w = .ok (.value (.agg cs.toArray)) w := by
  unfold execOp
  simp only [ho, hx, Instr.loadAt, Instr.sureAddr, Sem.run_bind, Sem.run_pure, Result.andThen_ok, run_loadVar_mid w b off ty cs d hr hu hd hi]
/-- A load of a whole array or struct, in a fence. -/
theorem wpListIn_load_at (hg : o.guard = none) (ty : TypeId) (x : Operand) (ho : o.op = .load ty x)
    (b off : Nat) (cs : List Value) (hx : a.eval x = .pointer (some ⟨b, off, none⟩)) (d : TypeDesc) (hr : w.rangeAt b off cs) (hu : Try.prog.underlying ty = some d) (hd : d.isRow = true) (hi : (Try.prog.info? ty).map (·.size) = some cs.length)
    (hK : wpListIn F n Try.prog ops Q rest (a.put o.dst (.agg cs.toArray)) w) : wpListIn F n Try.prog ops Q (o :: rest) a w :=
  wpListIn_run hg (by rw [ho]; intro c hc; cases hc) (by simp [Oper.about, ho]) _ (load_run ty x ho b off cs hx d hr hu hd hi) hK
/-- A new array of numbers, in a fence. -/
theorem wpListIn_alloc_row (hg : o.guard = none) (ty : TypeId) (ho : o.op = .alloc ty) (k : IntKind) (N : Nat) (hz : (Try.prog.info? ty).bind (·.zero) = some (.agg (cl k N fun _ => 0).toArray))
    (hK : ∀ W, IRow W w.heap.size k N (fun _ => 0) → Below w.heap.size w W → W.heap.size = w.heap.size + 1 → KeepsOthers w W → wpListIn F n Try.prog ops Q rest (a.put o.dst (.pointer (some ⟨w.heap.size, 0, none⟩))) W) : wpListIn F n Try.prog ops Q (o :: rest) a w := by
  refine wpListIn_run hg (by rw [ho]; intro c hc; cases hc) (by simp [Oper.about, ho]) (.pointer (some ⟨w.heap.size, 0, none⟩)) (w' := w.alloc (.cells (cl k N fun _ => 0).toArray ty)) ?_ (hK _ (IRow.new w ty k N fun _ => 0) ((Below.refl _ _).alloc (Nat.le_refl _) _) (by simp) (KeepsOthers.alloc _ _))
  unfold execOp
  cases hi : Try.prog.info? ty with
  | none => simp [hi] at hz
  | some i =>
    have hz' : i.zero = some (.agg (cl k N fun _ => 0).toArray) := by simpa [hi] using hz
    simp only [ho]
    simp [Instr.alloc, zeroValue, typeInfo, hi, hz', newVar, newRow, Value.cells, Result.andThen]
theorem wpListIn_alloc_rec (hg : o.guard = none) (ty : TypeId) (ho : o.op = .alloc ty) (cs : List Value) (hz : (Try.prog.info? ty).bind (·.zero) = some (.agg cs.toArray))
    (hK : ∀ W, Rec19 W w.heap.size 0 cs → Below w.heap.size w W → W.heap.size = w.heap.size + 1 → KeepsOthers w W → wpListIn F n Try.prog ops Q rest (a.put o.dst (.pointer (some ⟨w.heap.size, 0, none⟩))) W) : wpListIn F n Try.prog ops Q (o :: rest) a w := by
  refine wpListIn_run hg (by rw [ho]; intro c hc; cases hc) (by simp [Oper.about, ho]) (.pointer (some ⟨w.heap.size, 0, none⟩)) (w' := w.alloc (.cells cs.toArray ty)) ?_ (hK _ (Rec19.new w ty cs) ((Below.refl _ _).alloc (Nat.le_refl _) _) (by simp) (KeepsOthers.alloc _ _))
  unfold execOp
  cases hi : Try.prog.info? ty with
  | none => simp [hi] at hz
  | some i =>
    have hz' : i.zero = some (.agg cs.toArray) := by simpa [hi] using hz
    simp only [ho]
    simp [Instr.alloc, zeroValue, typeInfo, hi, hz', newVar, newRow, Value.cells, Result.andThen]
theorem keeps_cells (b : Nat) : ∀ (vs : List Value) (off : Nat) (W : World), KeepsOthers W (W.setCells b off vs)
  | [], _, W => KeepsOthers.refl W
  | v :: vs, off, W => (KeepsOthers.setCell W ⟨b, off, none⟩ v).trans (keeps_cells b vs (off + 1) _)
theorem store_run (ty : TypeId) (x y : Operand) (ho : o.op = .store ty x y) (b off : Nat) (cs vs : List Value) (hx : a.eval x = .pointer (some ⟨b, off, none⟩)) (hy : a.eval y = .agg vs.toArray)
    (h : Rec19 w b off cs) (hl : cs.length = vs.length) (hi : (Try.prog.info? ty).map (·.size) = some vs.length) (h1 : ∀ v ∈ vs, v.oneCell' = true) : (execOp a.eval o).run Try.prog w = .ok .skip (w.setCells b off vs) := by
  have := run_storeAt_mid (P := Try.prog) w b off ty vs.toArray (by simpa [hl] using h.2.1) (by simpa using hi) (all_oneCell_toArray h1)
  simp [execOp, ho, hx, hy, this, Result.andThen]
/-- A whole array or struct is stored, in a fence. -/
theorem wpListIn_store_rec (hg : o.guard = none) (ty : TypeId) (x y : Operand) (ho : o.op = .store ty x y) (b off : Nat) (cs vs : List Value) (hx : a.eval x = .pointer (some ⟨b, off, none⟩)) (hy : a.eval y = .agg vs.toArray)
    (h : Rec19 w b off cs) (hl : cs.length = vs.length) (hi : (Try.prog.info? ty).map (·.size) = some vs.length) (h1 : ∀ v ∈ vs, v.oneCell' = true)
    (hK : ∀ W, Rec19 W b off vs → But b w W → W.heap.size = w.heap.size → KeepsOthers w W → wpListIn F n Try.prog ops Q rest (a.put o.dst undef) W) : wpListIn F n Try.prog ops Q (o :: rest) a w :=
  wpListIn_mute hg (by rw [ho]; intro c hc; cases hc) (by simp [Oper.about, ho]) (store_run ty x y ho b off cs vs hx hy h hl hi h1) (hK _ (h.store vs hl) (But.cells _ _ _) (size_cells _ _ _ _) (keeps_cells _ _ _ _))
end
theorem copies_in (F : Fence) (n : Nat) (h5 : F.fn 61) (hro : F.round = none) (a : Option Addr) (len cap : Nat) (w : World) :
    CallsIn F n Try.prog 61 #[.slice a len cap] w fun e w' => e = .returned (.func (.func 74) #[] #[.pointer (some ⟨w.heap.size, 0, none⟩)]) ∧ w' = w.alloc (.cells #[.slice a len cap] 27) := by
  refine callsIn_of_wp Try.func61 rfl h5 ?_ hro
  simp only [Try.ntmps61, List.size_toArray, List.length_cons, List.length_nil, Nat.reduceAdd, Nat.reduceSub, Array.replicate_succ, Array.replicate_zero, List.push_toArray, List.append_toArray, List.nil_append, List.cons_append]
  gi_wp2
  go_ret
  exact ⟨rfl, rfl⟩
/-- The closure's box, and the bytes of all copies. -/
def CopMem (Bs g : Nat) (G : Nat → Int) (W : World) : Prop := W.cell? ⟨Bs, 0, none⟩ = some (.slice (some ⟨g, 0, none⟩) 2048 2048) ∧ Lies W g 0 2048 G
theorem CopMem.range {Bs g : Nat} {G : Nat → Int} {W : World} (h : CopMem Bs g G W) (k : Nat) (hk : k < 4) : W.rangeAt g (k * 512) (cl .u8 512 (cp G k)) := fun j v hj => by
  obtain ⟨hj, rfl⟩ := cl_at' hj
  have := h.2.1 (k * 512 + j) (by omega)
  rw [Nat.zero_add] at this
  exact this
set_option maxRecDepth 100000 in
set_option maxHeartbeats 2000000 in
theorem copies1_in (F : Fence) (n : Nat) (h7 : F.fn 74) (hro : F.round = none) (hn : 1 ≤ n) (l Bs g : Nat) (G : Nat → Int) (J : Nat → World → Prop) (Jx : World → Prop) (hM : ∀ k W, J k W → CopMem Bs g G W)
    (hY : ∀ k W, k < 4 → J k W → YieldAt F (n - 1) Try.prog l #[.int .i64 (k : Int), imgV (cp G k)] W fun e W' => (e = .returned (.bool true) ∧ J (k + 1) W') ∨ (e = .returned (.bool false) ∧ Jx W'))
    (W : World) (h0 : J 0 W) :
    CallsIn F n Try.prog 74 #[.func (.yield l) #[] #[], .pointer (some ⟨Bs, 0, none⟩)] W fun e W' => (∃ v, e = .returned v) ∧ (J 4 W' ∨ Jx W') := by
  refine callsIn_of_wp Try.func74 rfl h7 ?_ hro
  simp only [Try.ntmps74, List.size_toArray, List.length_cons, List.length_nil, Nat.reduceAdd, Nat.reduceSub, Array.replicate_succ, Array.replicate_zero, List.push_toArray, List.append_toArray, List.nil_append, List.cons_append]
  gi_wp2
  gi_loopw [4] (fun i wr => ∃ k : Nat, k ≤ 4 ∧ i = .int .i64 (k : Int) ∧ J k wr) (fun i _ => 4 - (RowKit.intOf i).toNat)
  case atStart => exact ⟨0, Nat.zero_le _, rfl, h0⟩
  case round =>
    obtain ⟨k, hk, rfl, hJ⟩ := hrel
    obtain ⟨c1, hL⟩ := hM k wr hJ
    by_cases hlt : k < 4
    · have RG := (hM k wr hJ).range k hlt
      obtain ⟨fn, tmps, assign, body, hy, hR⟩ := hY k wr hlt hJ
      unfold imgV at hy
      have i0 : (k : Int) < 4 := by omega
      have i1 : (0 : Int) ≤ (k : Int) * 512 := by omega
      have i2 : ((k : Int) * 512).toNat = k * 512 := by omega
      have i3 : (k : Int) * 512 ≤ 2048 := by omega
      have i4 : ¬ 2048 = k * 512 := by omega
      have i6 : (512 : Int) ≤ ((2048 - k * 512 : Nat) : Int) := by omega
      have i7 : IntKind.i64.wrap ((k : Int) * 512) = (k : Int) * 512 := by rw [IntKind.wrap_i64]; omega
      have i8 : wrap64 ((k : Int) * 512) = (k : Int) * 512 := by unfold wrap64; omega
      have hA : (Instr.arrayAt 85 (.slice (some ⟨g, k * 512, none⟩) 512 (2048 - k * 512))).run Try.prog wr = .ok (.pointer (some ⟨g, k * 512, none⟩)) wr := run_arrayAt (P := Try.prog) wr 85 5 512 (some ⟨g, k * 512, none⟩) 512 (2048 - k * 512) Try.underlying85 (Nat.le_refl _)
      clear hJ hL h0
      gi_wp2_with (refine wpListIn_load_at rfl 85 (.tmp 14) rfl g (k * 512) (cl .u8 512 (cp G k)) rfl _ RG Try.underlying85 rfl (by rw [cl_len]; kernel_rfl) ?_)
      refine hR.mono ?_
      rintro e W3 (⟨rfl, hJ3⟩ | ⟨rfl, hJx3⟩)
      · gi_wp2
        go_roundw
        case rel => exact ⟨k + 1, by omega, by go_num, hJ3⟩
        case measure => simp [RowKit.intOf]; omega
      · gi_wp2
        refine bodyPost_ret (results_none rfl _ _ _) rfl ?_
        exact ⟨⟨_, rfl⟩, .inr hJx3⟩
    · obtain rfl : k = 4 := by omega
      have i0 : ¬ (4 : Int) < 4 := by omega
      rw [show ((4 : Nat) : Int) = 4 from rfl]
      gi_wp2
      go_end0
      exact ⟨⟨_, rfl⟩, .inl hJ⟩
/-- How the body of a round may be left. -/
def rndPost (B : Nat) (I : Nat → World → Prop) (Ix : Code → World → Prop) (k : Nat) (W : World) : Exit → Act → World → Prop
  | .normal, _, W' => KeepsFrom B W W' ∧ I (k + 1) W'
  | .ret, _, W' => KeepsFrom B W W' ∧ Ix .ret W'
  | .exit id, _, W' => KeepsFrom B W W' ∧ Ix (.exit id) W'
  | _, _, _ => False
theorem But.putObj (W : World) (l : Nat) (o : Obj) : But l W (W.putObj l o) := ⟨rfl, rfl, rfl, by simp [World.putObj], fun k _ hn => World.putObj_heap_other hn⟩
/-- A range over the copies, outside of every other such loop: the loop's variables may be made in memory. -/
theorem range_copies {m : Nat} {gop : Operand} (p1 p2 : Tmp) {assign body : Code} {Q : Exit → Act → World → Prop} {a : Act} {w : World} (hm : 2 ≤ m) (Bs g : Nat) (G : Nat → Int)
    (hg : a.eval gop = .func (.func 74) #[] #[.pointer (some ⟨Bs, 0, none⟩)]) (I : Nat → World → Prop) (Ix : Code → World → Prop) (hI : OwnFrom w.heap.size I) (hIx : OwnFrom w.heap.size Ix) (hM : ∀ k W, I k W → CopMem Bs g G W) (h0 : I 0 w)
    (hround : ∀ (l k : Nat) (W : World), k < 4 → I k W → w.heap.size ≤ l → l < W.heap.size → (∃ r, W.heap[l]? = some (.loop r)) → assign.wpIn (Fence.wide.inRound l) (m - 1 - 1) Try.prog
      (Exit.then (fun a₁ W₁ => KeepsFrom w.heap.size W W₁ ∧ ∀ W₂, But l W₁ W₂ → W₂.heap.size = W₁.heap.size → body.wpIn (Fence.wide.inRound l) (m - 1 - 1) Try.prog (rndPost w.heap.size I Ix k W₂) a₁ W₂) (fun _ _ _ => False))
      { tmps := (a.tmps.setIfInBounds p1 (.int .i64 (k : Int))).setIfInBounds p2 (imgV (cp G k)), defers := [] } W)
    (hdone : ∀ (D : Nat) (W : World), w.heap.size ≤ D → I 4 W → W.heap[D]? = some (.deferred (some [])) → Q .normal { a with defers := { target := .collected D, args := #[] } :: a.defers } W)
    (hstop : ∀ (D : Nat) (c : Code) (W : World), w.heap.size ≤ D → Ix c W → W.heap[D]? = some (.deferred (some [])) → c.wpIn Fence.wide m Try.prog Q { a with defers := { target := .collected D, args := #[] } :: a.defers } W) :
    (Code.rangeFunc gop #[p1, p2] assign body).wpIn Fence.wide m Try.prog Q a w := by
  refine wpIn_rangeFunc fun fn hfn => ?_
  obtain ⟨rc, hrc⟩ : ∃ rc : LoopState → Option Code → Loop, rc = fun st pe => { state := st, pending := pe, fn, tmps := a.tmps, params := #[p1, p2], assign, body, defers := w.heap.size } := ⟨_, rfl⟩
  obtain ⟨V, hV⟩ : ∃ V, (w.alloc (.deferred (some []))).alloc (.loop (rc .ready none)) = V := ⟨_, rfl⟩
  have cL : V.heap[w.heap.size + 1]? = some (.loop (rc .ready none)) := by
    rw [← hV]
    have := World.alloc_heap_new (w.alloc (.deferred (some []))) (.loop (rc .ready none))
    rwa [World.size_alloc] at this
  have cD : V.heap[w.heap.size]? = some (.deferred (some [])) := by
    rw [← hV]
    exact (Below.heap_alloc _ _ _ (by simp)).trans (World.alloc_heap_new w _)
  have iV : I 0 V := by rw [← hV]; exact hI.alloc _ (hI.alloc _ h0)
  refine ⟨w.heap.size + 1, [{ target := .collected w.heap.size, args := #[] }], V, { target := .fn (.func 74) #[.pointer (some ⟨Bs, 0, none⟩)], args := #[.func (.yield (w.heap.size + 1)) #[] #[]] }, V, 74,
    #[.func (.yield (w.heap.size + 1)) #[] #[], .pointer (some ⟨Bs, 0, none⟩)], V, ?_, ?_, fun _ _ => trivial, ?_, fun _ => by omega, ?_⟩
  · rw [← hV, hrc]
    exact run_enterLoop_outer _ _ _ _ _
  · simp only [resolve, hg]
    simp [go_sem]
  · simp [invoke, go_sem]
  · refine (copies1_in Fence.wide (m - 1) trivial rfl (by omega) (w.heap.size + 1) Bs g G
      (fun k W => I k W ∧ W.heap[w.heap.size + 1]? = some (.loop (rc .ready none)) ∧ W.heap[w.heap.size]? = some (.deferred (some [])))
      (fun W => ∃ c, Ix c W ∧ W.heap[w.heap.size + 1]? = some (.loop (rc .done (some c))) ∧ W.heap[w.heap.size]? = some (.deferred (some [])))
      (fun k W h => hM k W h.1) ?_ V ⟨iV, cL, cD⟩).mono ?_
    · rintro k W hk4 ⟨hi, hl, hd⟩
      have lt : w.heap.size + 1 < W.heap.size := (Array.getElem?_eq_some_iff.1 hl).1
      have hy := run_yield (P := Try.prog) (args := #[.int .i64 (k : Int), imgV (cp G k)]) hl (by rw [hrc]; rfl)
      rw [hrc] at hy
      have hy2 : (Instr.yield (w.heap.size + 1) #[.int .i64 (k : Int), imgV (cp G k)]).run Try.prog W = .ok (.round (w.heap.size + 1) fn ((a.tmps.setIfInBounds p1 (.int .i64 (k : Int))).setIfInBounds p2 (imgV (cp G k))) assign body) W := by
        rw [hy]
        simp
      refine ⟨fn, _, assign, body, hy2, roundIn_of_wpIn hfn (wpIn_mono (hround (w.heap.size + 1) k W hk4 hi (by omega) lt ⟨_, hl⟩) ?_)⟩
      intro e a₁ W₁ hE
      cases e with
      | normal =>
        obtain ⟨kf, hb⟩ := hE
        have hl1 := kf.same _ _ (by omega) hl rfl
        have hd1 := kf.same _ _ (Nat.le_refl _) hd rfl
        have hl2 := World.putObj_heap_same (w := W₁) (o := .loop { rc .ready none with state := .busy }) (Array.getElem?_eq_some_iff.1 hl1).1
        have hd2 : (W₁.putObj (w.heap.size + 1) (.loop { rc .ready none with state := .busy })).heap[w.heap.size]? = some (.deferred (some [])) := (World.putObj_heap_other (by omega)).trans hd1
        refine ⟨_, run_beginRound hl1 (by rw [hrc]), wpIn_mono (hb _ (But.putObj W₁ _ _) (by simp [World.putObj])) ?_⟩
        have fin : ∀ (jump : Option Code) (W3 : World), KeepsFrom w.heap.size (W₁.putObj (w.heap.size + 1) (.loop { rc .ready none with state := .busy })) W3 →
            (Instr.endRound (w.heap.size + 1) jump).run Try.prog W3 = .ok (.bool jump.isNone) (W3.putObj (w.heap.size + 1) (.loop (rc (if jump.isNone then .ready else .done) jump))) ∧
            W3.heap[w.heap.size + 1]? = some (.loop { rc .ready none with state := .busy }) ∧
            (W3.putObj (w.heap.size + 1) (.loop (rc (if jump.isNone then .ready else .done) jump))).heap[w.heap.size + 1]? = some (.loop (rc (if jump.isNone then .ready else .done) jump)) ∧
            (W3.putObj (w.heap.size + 1) (.loop (rc (if jump.isNone then .ready else .done) jump))).heap[w.heap.size]? = some (.deferred (some [])) := fun jump W3 k3 => by
          have l3 := k3.same _ _ (by omega) hl2 rfl
          have r3 := run_endRound (P := Try.prog) jump l3
          rw [hrc] at r3 l3 ⊢
          exact ⟨r3, l3, World.putObj_heap_same (Array.getElem?_eq_some_iff.1 l3).1, (World.putObj_heap_other (by omega)).trans (k3.same _ _ (Nat.le_refl _) hd2 rfl)⟩
        intro e a3 W3 hp
        cases e with
        | normal =>
          obtain ⟨k3, i3⟩ := hp
          obtain ⟨r, l3, l4, d4⟩ := fin none W3 k3
          exact ⟨_, _, r, .inl ⟨rfl, hI.putObj _ i3 (by omega) l3 rfl, l4, d4⟩⟩
        | ret =>
          obtain ⟨k3, i3⟩ := hp
          obtain ⟨r, l3, l4, d4⟩ := fin (some .ret) W3 k3
          exact ⟨_, _, r, .inr ⟨rfl, .ret, hIx.putObj _ i3 (by omega) l3 rfl, l4, d4⟩⟩
        | exit id =>
          obtain ⟨k3, i3⟩ := hp
          obtain ⟨r, l3, l4, d4⟩ := fin (some (.exit id)) W3 k3
          exact ⟨_, _, r, .inr ⟨rfl, .exit id, hIx.putObj _ i3 (by omega) l3 rfl, l4, d4⟩⟩
        | goto t => exact hp.elim
        | panic ch => exact hp.elim
        | outgrown => exact hp.elim
      | _ => exact hE.elim
    · rintro e W2 ⟨⟨v, rfl⟩, (⟨hi, hl, hd⟩ | ⟨c, hi, hl, hd⟩)⟩
      · exact ⟨none, _, by have := run_endLoop (P := Try.prog) hl (by rw [hrc]; simp); rw [hrc] at this; exact this, hdone _ _ (Nat.le_refl _) (hI.putObj _ hi (by omega) hl rfl) ((World.putObj_heap_other (by omega)).trans hd)⟩
      · exact ⟨some c, _, by have := run_endLoop (P := Try.prog) hl (by rw [hrc]; simp); rw [hrc] at this; exact this, hstop _ c _ (Nat.le_refl _) (hIx.putObj _ hi (by omega) hl rfl) ((World.putObj_heap_other (by omega)).trans hd)⟩
end Go.Proofs.Ytfapmogjmjlokaa
