/-
  Walks, not a claim by itself: slot.noughts, of whole pieces. By the verifier.
-/
import Derived.Test.YtfpgkckcifjkcaaDoorDChunk
import Derived.Test.YtfpgkckcifjkcaaDoorMSame
namespace Go.Proofs.YtfpgkckcifjkcaaDoor
open Go.RowKit Go.Shelf
attribute [local go_sem] Oper.semAt_some
/-- Is a piece all noughts? -/
def pz (f : Nat → Int) (x : Nat) : Bool := decide (txtN 256 (fun j => f (x * 256 + j)) = txtN 256 (fun _ => 0))
theorem pz_iff (f : Nat → Int) (x : Nat) (hf : ∀ j, j < 256 → 0 ≤ f (x * 256 + j) ∧ f (x * 256 + j) < 256) : pz f x = true ↔ ∀ j, j < 256 → f (x * 256 + j) = 0 := by
  unfold pz
  rw [decide_eq_true_iff]
  exact ⟨fun h => (txtN_inj hf (fun j _ => ⟨by omega, by omega⟩) h).2, fun h => txtN_congr _ _ _ h⟩
theorem pz_all {c : Nat} {f : Nat → Int} (hf : ∀ j, j < c * 256 → 0 ≤ f j ∧ f j < 256) : zeroN (c * 256) f = true ↔ ∀ x, x < c → pz f x = true := by
  rw [zeroN_iff]
  refine ⟨fun h x hx => (pz_iff f x (fun j hj => hf _ (by omega))).2 (fun j hj => h _ (by omega)), fun h i hi => ?_⟩
  have := (pz_iff f (i / 256) (fun j hj => hf _ (by omega))).1 (h _ (by omega)) (i % 256) (by omega)
  rwa [show i / 256 * 256 + i % 256 = i by omega] at this
section
variable {P : Program} {F : Fence} {n : Nat} {ops : Array Oper} {rest : List Oper} {o : Oper} {a : Act} {w w' : World} {Q : Exit → Act → World → Prop}
/-- An operation in a fence, its run known. -/
theorem wpListIn_run (hg : o.guard = none) (hd : ∀ c, o.op ≠ .defer c) (ha : o.about P w a.eval = none) (v : Value) (hx : (execOp a.eval o).run P w = .ok (.value v) w') (hK : wpListIn F n P ops Q rest (a.put o.dst v) w') : wpListIn F n P ops Q (o :: rest) a w := by
  refine wpListIn_plain hg fun K hK' => ?_
  unfold Oper.wpIn
  refine ⟨fun f hf => (by rw [ha] at hf; cases hf), ?_⟩
  rw [Oper.semAt_plain F _ _ hd, hx]
  exact hK' _ _ hK
/-- A new array of numbers, in a fence. -/
theorem wpListIn_alloc_row (hg : o.guard = none) (ty : TypeId) (ho : o.op = .alloc ty) (k : IntKind) (N : Nat) (H : Nat) (hH : w.heap.size = H) (hz : (Tryd.prog.info? ty).bind (·.zero) = some (.agg (cl k N fun _ => 0).toArray))
    (hK : ∀ W, IRow W H k N (fun _ => 0) → Below H w W → W.heap.size = H + 1 → wpListIn F n Tryd.prog ops Q rest (a.put o.dst (.pointer (some ⟨H, 0, none⟩))) W) : wpListIn F n Tryd.prog ops Q (o :: rest) a w := by
  subst hH
  refine wpListIn_run hg (by rw [ho]; intro c hc; cases hc) (by simp [Oper.about, ho]) (.pointer (some ⟨w.heap.size, 0, none⟩)) (w' := w.alloc (.cells (cl k N fun _ => 0).toArray ty)) ?_ (hK _ (IRow.new w ty k N fun _ => 0) ((Below.refl _ _).alloc (Nat.le_refl _) _) (by simp))
  unfold execOp
  cases hi : Tryd.prog.info? ty with
  | none => simp [hi] at hz
  | some i =>
    have hz' : i.zero = some (.agg (cl k N fun _ => 0).toArray) := by simpa [hi] using hz
    simp only [ho]
    simp [Instr.alloc, zeroValue, typeInfo, hi, hz', newVar, newRow, Value.cells, Result.andThen]
end
/-- What holds while the pieces come. -/
def ngI {c : Nat} (W1 : World) (f : Nat → Int) (pre : List (Fin c)) (W : World) : Prop := (∀ x ∈ pre, pz f x.1 = true) ∧ Below W1.heap.size W1 W
theorem keeps_below {W W' : World} (h : Below W.heap.size W W') : KeepsOthers W W' := by
  exact ⟨h.size, fun j o hj _ => (h.block j (Array.getElem?_eq_some_iff.1 hj).1).trans hj⟩
/-- And where one of them is not noughts. -/
def ngX {c : Nat} (w : World) (f : Nat → Int) (k : Code) (_ : List (Fin c)) (W : World) : Prop := k = .ret ∧ (∃ x : Fin c, pz f x.1 = false) ∧ W.cell? ⟨w.heap.size, 0, none⟩ = some (.bool false) ∧ Below w.heap.size w W
theorem ngI_own {c : Nat} (W1 : World) (f : Nat → Int) : OwnFrom (β := List (Fin c)) W1.heap.size (ngI W1 f) := by
  intro pre X Y row hs hg hr
  exact ⟨hs.1, ownFrom_below (β := Unit) (n₀ := W1.heap.size) (B := W1.heap.size) (w₀ := W1) (Nat.le_refl _) (Nat.le_refl _) () X Y row hs.2 hg hr⟩
theorem ngX_own {c : Nat} (w : World) (B : Nat) (hB : w.heap.size ≤ B) (f : Nat → Int) (k : Code) : OwnFrom (β := List (Fin c)) B (ngX w f k) := by
  intro pre X Y row hs hg hr
  exact ⟨hs.1, hs.2.1, cell_kept hs.2.2.1 hg (fun r e => (hr r e).2), ownFrom_below (β := Unit) (n₀ := w.heap.size) (B := B) (w₀ := w) (Nat.le_refl _) hB () X Y row hs.2.2.2 hg hr⟩
set_option maxRecDepth 100000 in
set_option maxHeartbeats 400000 in
theorem noughts_c (b off c C : Nat) (f : Nat → Int) (w : World) (hL : Lies w b off (c * 256) f) (hc : c ≤ 8) (hC : c * 256 ≤ C) :
    Calls Tryd.prog 45 #[.slice (some ⟨b, off, none⟩) (c * 256) C] w fun e w' => e = .returned (.bool (zeroN (c * 256) f)) ∧ Below w.heap.size w w' := by
  refine (callsIn_wide (n := 5)).1 ?_
  have LL : Hid (Lies w b off (c * 256) f) := hL
  clear hL
  obtain ⟨z, hz⟩ : ∃ z, zeroN (c * 256) f = z := ⟨_, rfl⟩
  have HZ : Hid (zeroN (c * 256) f = z) := hz
  rw [hz]
  clear hz
  refine callsIn_of_wp_marks Tryd.func45 rfl trivial ?_ rfl
  simp only [Tryd.ntmps45, List.size_toArray, List.length_cons, List.length_nil, Nat.reduceAdd, Nat.reduceSub, Array.replicate_succ, Array.replicate_zero, List.push_toArray, List.append_toArray, List.nil_append, List.cons_append]
  gi_wp2_with (refine wpListIn_alloc_row rfl 68 rfl .u8 256 (w.heap.size + 1) (by simp) zero8_256 ?_; intro V R0 B0 z0)
  have bR : Below w.heap.size w V := ((Below.refl w.heap.size w).alloc (Nat.le_refl _) (.cells #[.bool false] 4)).trans (B0.mono (by omega))
  have cR : V.cell? ⟨w.heap.size, 0, none⟩ = some (.bool false) ∧ V.frozen? ⟨w.heap.size, 0, none⟩ = false := by
    rw [B0.cell (p := ⟨w.heap.size, 0, none⟩) (by show w.heap.size < w.heap.size + 1; omega), B0.frozen (p := ⟨w.heap.size, 0, none⟩) (by show w.heap.size < w.heap.size + 1; omega)]
    simp [go_sem]
  refine ⟨trivial, ?_⟩
  refine (chunk_in Fence.wide 4 trivial rfl _ _ _ _).mono ?_
  rintro e w' ⟨rfl, rfl⟩
  gi_wp2
  have bS : ((V.alloc (.cells #[.slice (some ⟨b, off, none⟩) (c * 256) C] 27)).alloc (.cells #[.int .i64 256] 3)).cell? ⟨V.heap.size, 0, none⟩ = some (.slice (some ⟨b, off, none⟩) (c * 256) C) := by simp [go_sem]
  have bN : ((V.alloc (.cells #[.slice (some ⟨b, off, none⟩) (c * 256) C] 27)).alloc (.cells #[.int .i64 256] 3)).cell? ⟨V.heap.size + 1, 0, none⟩ = some (.int .i64 256) := by simp [go_sem]
  have hz1 : ((V.alloc (.cells #[.slice (some ⟨b, off, none⟩) (c * 256) C] 27)).alloc (.cells #[.int .i64 256] 3)).heap.size = V.heap.size + 1 + 1 := by simp
  have hB1 : Below V.heap.size V ((V.alloc (.cells #[.slice (some ⟨b, off, none⟩) (c * 256) C] 27)).alloc (.cells #[.int .i64 256] 3)) := ((Below.refl _ _).alloc (Nat.le_refl _) _).alloc (by simp) _
  generalize ((V.alloc (.cells #[.slice (some ⟨b, off, none⟩) (c * 256) C] 27)).alloc (.cells #[.int .i64 256] 3)) = W1 at bS bN hz1 hB1 ⊢
  have SQ := chunk_stops Fence.wide 4 trivial rfl (by omega) V.heap.size (V.heap.size + 1) b off c C hc hC W1 (by omega) (by omega) bS bN
  have KB : ∀ (U : World) (l : Nat) (o o' : Obj), W1.heap.size ≤ l → U.heap[l]? = some o → o.isCells = false → o.isWalk = false → Kc V.heap.size (V.heap.size + 1) U (U.putObj l o') := fun U l o o' hl _ _ _ => ⟨World.cell?_of_block (World.putObj_heap_other (by show V.heap.size ≠ l; omega)), World.cell?_of_block (World.putObj_heap_other (by show V.heap.size + 1 ≠ l; omega))⟩
  have bW : Below w.heap.size w W1 := bR.trans (hB1.mono (by omega))
  have H0 : ngI (c := c) W1 f [] W1 := ⟨fun x hx => (by cases hx), Below.refl _ _⟩
  try rw [z0]
  rw [z0] at SQ KB bS bN hz1
  refine wpIn_rangeFunc_ownF rfl (by decide) (gf := 78) (lb := #[.pointer (some ⟨w.heap.size + 1 + 1, 0, none⟩), .pointer (some ⟨w.heap.size + 1 + 1 + 1, 0, none⟩)]) rfl trivial (enters_of Tryd.func78 (by kernel_rfl) rfl)
    SQ Kc.trans KB (Below.refl _ _) (fun _ => rfl) (ngI (c := c) W1 f) (ngX w f) (ngI_own W1 f) (fun k => ngX_own w W1.heap.size (by omega) f k) H0
    (fun x => { tmps := #[.slice (some ⟨b, off, none⟩) (c * 256) C, undef, .pointer (some ⟨w.heap.size, 0, none⟩), .pointer (some ⟨w.heap.size + 1, 0, none⟩), .slice (some ⟨b, off + x.1 * 256, none⟩) 256 256, .slice (some ⟨b, off, none⟩) (c * 256) C, .func (.func 78) #[] #[.pointer (some ⟨w.heap.size + 1 + 1, 0, none⟩), .pointer (some ⟨w.heap.size + 1 + 1 + 1, 0, none⟩)], .slice (some ⟨b, off + x.1 * 256, none⟩) 256 256, undef, undef, undef, undef, undef, undef, undef], defers := [] }) ?assign ?body ?done ?stop
  case assign =>
    intro l x U K hK
    gi_wp2
    exact hK
  case body =>
    rintro l pre x U ⟨hpre, hU⟩ hlt
    have bU : Below w.heap.size w U := bW.trans (hU.mono (by omega))
    have iU : IRow U.drew (w.heap.size + 1) .u8 256 (fun _ => 0) := ((R0.below hB1).below hU).drew
    have lU : Lies U.drew b (off + x.1 * 256) 256 (fun j => f (x.1 * 256 + j)) := (LL.out.below bU.drew).part (x.1 * 256) 256 (by have := x.2; omega)
    have cU : U.cell? ⟨w.heap.size, 0, none⟩ = some (.bool false) ∧ U.frozen? ⟨w.heap.size, 0, none⟩ = false := by
      rw [hU.cell (p := ⟨w.heap.size, 0, none⟩) (by show w.heap.size < W1.heap.size; omega), hU.frozen (p := ⟨w.heap.size, 0, none⟩) (by show w.heap.size < W1.heap.size; omega), hB1.cell (p := ⟨w.heap.size, 0, none⟩) (by show w.heap.size < V.heap.size; omega), hB1.frozen (p := ⟨w.heap.size, 0, none⟩) (by show w.heap.size < V.heap.size; omega)]
      exact cR
    have k1 := conv_arg U.drew (some ⟨b, off + x.1 * 256, none⟩) 256 256 _ (Arg.of lU)
    have k2 := conv_arg U.drew (some ⟨w.heap.size + 1, 0, none⟩) 256 256 _ (Arg.of (iU.lies (fun j _ => ⟨by omega, by omega⟩)))
    have hpz : pz f x.1 = decide (txtN 256 (fun j => f (x.1 * 256 + j)) = txtN 256 (fun _ => 0)) := rfl
    generalize txtN 256 (fun j => f (x.1 * 256 + j)) = p at k1 hpz
    generalize txtN 256 (fun _ => (0 : Int)) = q at k2 hpz
    have E0 : Hid (Below W1.heap.size W1 U.drew ∧ Below w.heap.size w U.drew ∧ KeepsOthers U U.drew) := ⟨hU.drew, bU.drew, keeps_below (Below.refl _ _).drew⟩
    have cD : U.drew.cell? ⟨w.heap.size, 0, none⟩ = some (.bool false) := cU.1
    have fD : U.drew.frozen? ⟨w.heap.size, 0, none⟩ = false := cU.2
    have HP : Hid (∀ y ∈ pre, pz f y.1 = true) := hpre
    clear hpre hU bU iU lU cU SQ KB H0 bS bN hB1 bW cR bR B0 R0
    by_cases e : p = q
    · subst e
      have hx1 : Hid (pz f x.1 = true) := (by rw [hpz]; simp : pz f x.1 = true)
      clear hpz
      gi_wp2
      refine region_in (S := fun W' => (convert 27 9 (.slice (some ⟨b, off + x.1 * 256, none⟩) 256 256)).run Tryd.prog W' = .ok (.string p) W' ∧ (convert 27 9 (.slice (some ⟨w.heap.size + 1, 0, none⟩) 256 256)).run Tryd.prog W' = .ok (.string p) W') (by kernel_rfl) (by kernel_rfl) ⟨k1, k2⟩ (fun hHeld => ?_)
      refine take_at (i := 0) (v := ?_) (some 8) rfl rfl (by kernel_rfl) (by kernel_rfl) (by kernel_rfl) (fun _ _ _ h => by cases h.1) (Or.inl ⟨by rfl, ?_⟩) (by assumption) ?_
      rotate_left
      · (intro w hSw; (try dsimp only at hSw); go_simp; try with_reducible rfl)
      simp only [Act.put, List.setIfInBounds_toArray, List.set_cons_zero, List.set_cons_succ]
      refine take_at (i := 1) (v := ?_) (some 9) rfl rfl (by kernel_rfl) (by kernel_rfl) (by kernel_rfl) (fun _ _ _ h => by cases h.1) (Or.inl ⟨by rfl, ?_⟩) (by assumption) ?_
      rotate_left
      · (intro w hSw; (try dsimp only at hSw); go_simp; try with_reducible rfl)
      simp only [Act.put, List.setIfInBounds_toArray, List.set_cons_zero, List.set_cons_succ]
      refine take_at (i := 2) (v := ?_) (some 10) rfl rfl (by kernel_rfl) (by kernel_rfl) (by kernel_rfl) (fun _ _ _ h => by cases h.1) (Or.inl ⟨by rfl, ?_⟩) (by assumption) ?_
      rotate_left
      · (intro w hSw; (try dsimp only at hSw); go_simp; try with_reducible rfl)
      simp only [Act.put, List.setIfInBounds_toArray, List.set_cons_zero, List.set_cons_succ]
      refine take_at (i := 3) (v := ?_) (some 11) rfl rfl (by kernel_rfl) (by kernel_rfl) (by kernel_rfl) (fun _ _ _ h => by cases h.1) (Or.inl ⟨by rfl, ?_⟩) (by assumption) ?_
      rotate_left
      · (intro w hSw; (try dsimp only at hSw); go_simp; try with_reducible rfl)
      simp only [Act.put, List.setIfInBounds_toArray, List.set_cons_zero, List.set_cons_succ]
      refine take_at (i := 4) (v := ?_) (some 12) rfl rfl (by kernel_rfl) (by kernel_rfl) (by kernel_rfl) (fun _ _ _ h => by cases h.1) (Or.inl ⟨by rfl, ?_⟩) (by assumption) ?_
      rotate_left
      · (intro w hSw; (try dsimp only at hSw); go_simp; try with_reducible rfl)
      simp only [Act.put, List.setIfInBounds_toArray, List.set_cons_zero, List.set_cons_succ]
      refine take_at (i := 5) (v := ?_) (some 13) rfl rfl (by kernel_rfl) (by kernel_rfl) (by kernel_rfl) (fun _ _ _ h => by cases h.1) (Or.inl ⟨by rfl, ?_⟩) (by assumption) ?_
      rotate_left
      · (intro w hSw; (try dsimp only at hSw); go_simp; try with_reducible rfl)
      simp only [Act.put, List.setIfInBounds_toArray, List.set_cons_zero, List.set_cons_succ]
      refine take_at (i := 6) (v := ?_) (some 14) rfl rfl (by kernel_rfl) (by kernel_rfl) (by kernel_rfl) (fun _ _ _ h => by cases h.1) (Or.inl ⟨by rfl, ?_⟩) (by assumption) ?_
      rotate_left
      · (intro w hSw; (try dsimp only at hSw); go_simp; try with_reducible rfl)
      simp only [Act.put, List.setIfInBounds_toArray, List.set_cons_zero, List.set_cons_succ]
      refine wpAnyH_done (by kernel_rfl) ?_ _
      refine ⟨rfl, ?_⟩
      gi_wp2
      exact ⟨E0.out.2.2, Kc.drew _ _ _, fun y hy => (List.mem_append.1 hy).elim (HP.out y) (fun h => by rw [List.mem_singleton.1 h]; exact hx1.out), E0.out.1⟩
    · have e1 : (p.toList == q.toList) = false := by rw [bytes_beq]; simpa using e
      have hx1 : Hid (pz f x.1 = false) := (by rw [hpz]; simpa using e : pz f x.1 = false)
      clear hpz
      gi_wp2
      refine region_in (S := fun W' => (convert 27 9 (.slice (some ⟨b, off + x.1 * 256, none⟩) 256 256)).run Tryd.prog W' = .ok (.string p) W' ∧ (convert 27 9 (.slice (some ⟨w.heap.size + 1, 0, none⟩) 256 256)).run Tryd.prog W' = .ok (.string q) W') (by kernel_rfl) (by kernel_rfl) ⟨k1, k2⟩ (fun hHeld => ?_)
      refine take_at (i := 0) (v := ?_) (some 8) rfl rfl (by kernel_rfl) (by kernel_rfl) (by kernel_rfl) (fun _ _ _ h => by cases h.1) (Or.inl ⟨by rfl, ?_⟩) (by assumption) ?_
      rotate_left
      · (intro w hSw; (try dsimp only at hSw); go_simp; try with_reducible rfl)
      simp only [Act.put, List.setIfInBounds_toArray, List.set_cons_zero, List.set_cons_succ]
      refine take_at (i := 1) (v := ?_) (some 9) rfl rfl (by kernel_rfl) (by kernel_rfl) (by kernel_rfl) (fun _ _ _ h => by cases h.1) (Or.inl ⟨by rfl, ?_⟩) (by assumption) ?_
      rotate_left
      · (intro w hSw; (try dsimp only at hSw); go_simp; try with_reducible rfl)
      simp only [Act.put, List.setIfInBounds_toArray, List.set_cons_zero, List.set_cons_succ]
      refine take_at (i := 2) (v := ?_) (some 10) rfl rfl (by kernel_rfl) (by kernel_rfl) (by kernel_rfl) (fun _ _ _ h => by cases h.1) (Or.inl ⟨by rfl, ?_⟩) (by assumption) ?_
      rotate_left
      · (intro w hSw; (try dsimp only at hSw); go_simp; try with_reducible rfl)
      simp only [Act.put, List.setIfInBounds_toArray, List.set_cons_zero, List.set_cons_succ]
      refine take_at (i := 3) (v := ?_) (some 11) rfl rfl (by kernel_rfl) (by kernel_rfl) (by kernel_rfl) (fun _ _ _ h => by cases h.1) (Or.inl ⟨by rfl, ?_⟩) (by assumption) ?_
      rotate_left
      · (intro w hSw; (try dsimp only at hSw); go_simp; try with_reducible rfl)
      simp only [Act.put, List.setIfInBounds_toArray, List.set_cons_zero, List.set_cons_succ]
      refine take_at (i := 4) (v := ?_) (some 12) rfl rfl (by kernel_rfl) (by kernel_rfl) (by kernel_rfl) (fun _ _ _ h => by cases h.1) (Or.inl ⟨by rfl, ?_⟩) (by assumption) ?_
      rotate_left
      · (intro w hSw; (try dsimp only at hSw); go_simp; try with_reducible rfl)
      simp only [Act.put, List.setIfInBounds_toArray, List.set_cons_zero, List.set_cons_succ]
      refine take_at (i := 5) (v := ?_) (some 13) rfl rfl (by kernel_rfl) (by kernel_rfl) (by kernel_rfl) (fun _ _ _ h => by cases h.1) (Or.inl ⟨by rfl, ?_⟩) (by assumption) ?_
      rotate_left
      · (intro w hSw; (try dsimp only at hSw); go_simp; try with_reducible rfl)
      simp only [Act.put, List.setIfInBounds_toArray, List.set_cons_zero, List.set_cons_succ]
      refine take_at (i := 6) (v := ?_) (some 14) rfl rfl (by kernel_rfl) (by kernel_rfl) (by kernel_rfl) (fun _ _ _ h => by cases h.1) (Or.inl ⟨by rfl, ?_⟩) (by assumption) ?_
      rotate_left
      · (intro w hSw; (try dsimp only at hSw); go_simp; try with_reducible rfl)
      simp only [Act.put, List.setIfInBounds_toArray, List.set_cons_zero, List.set_cons_succ]
      refine wpAnyH_done (by kernel_rfl) ?_ _
      refine ⟨rfl, ?_⟩
      gi_wp2
      exact ⟨E0.out.2.2.trans (KeepsOthers.setCell _ _ _), rfl, ⟨x, hx1.out⟩, World.cell?_setCell_same' _ _ _ (by show (U.drew.cell? _).isSome = true; rw [cD]; rfl), E0.out.2.1.setCell (Nat.le_refl _) _⟩
  case done =>
    rintro D ys U hD rfl ⟨hall, hU⟩ hK
    have bU : Below w.heap.size w U := bW.trans (hU.mono (by omega))
    have cU : U.cell? ⟨w.heap.size, 0, none⟩ = some (.bool false) ∧ U.frozen? ⟨w.heap.size, 0, none⟩ = false := by
      rw [hU.cell (p := ⟨w.heap.size, 0, none⟩) (by show w.heap.size < W1.heap.size; omega), hU.frozen (p := ⟨w.heap.size, 0, none⟩) (by show w.heap.size < W1.heap.size; omega), hB1.cell (p := ⟨w.heap.size, 0, none⟩) (by show w.heap.size < V.heap.size; omega), hB1.frozen (p := ⟨w.heap.size, 0, none⟩) (by show w.heap.size < V.heap.size; omega)]
      exact cR
    obtain ⟨c1, c2⟩ := cU
    have hz : z = true := by
      rw [← HZ.out]
      refine (pz_all LL.out.2.1).2 (fun x hx => hall ⟨x, hx⟩ ?_)
      unfold upTo
      rw [List.take_of_length_le (by simp)]
      exact List.mem_finRange _
    subst hz
    have bZ : Below w.heap.size w (U.setCell ⟨w.heap.size, 0, none⟩ (.bool true)) := bU.setCell (Nat.le_refl _) _
    have cZ : (U.setCell ⟨w.heap.size, 0, none⟩ (.bool true)).cell? ⟨w.heap.size, 0, none⟩ = some (.bool true) := World.cell?_setCell_same' _ _ _ (by rw [c1]; rfl)
    have hK' : (U.setCell ⟨w.heap.size, 0, none⟩ (.bool true)).heap[D]? = some (.deferred (some [])) := (Below.heap_setCell U ⟨w.heap.size, 0, none⟩ _ D (by show D ≠ w.heap.size; omega)).trans hK
    clear SQ KB H0 bS bN hall hU
    gi_wp2
    generalize U.setCell ⟨w.heap.size, 0, none⟩ (.bool true) = Y at bZ cZ hK' ⊢
    have cX : (Y.putObj D (.deferred none)).cell? ⟨w.heap.size, 0, none⟩ = some (.bool true) := (World.cell?_of_block (World.putObj_heap_other (by show w.heap.size ≠ D; omega))).trans cZ
    refine ⟨by simp, .inl ⟨_, _, rfl, run_takeDeferred hK', ?_⟩⟩
    refine ⟨.bool true, by simp [results, Tryd.results45, asAddr, loadVar, go_sem, cX], rfl, ?_⟩
    exact bZ.trans (belowK_b (w := w) (Nat.le_refl _) Y D _ _ (by omega) hK' rfl rfl)
  case stop =>
    rintro D k pre U hD _ ⟨rfl, ⟨x, hx⟩, cU, bU⟩ hK
    have hz : z = false := by
      rw [← HZ.out, ← Bool.not_eq_true, pz_all LL.out.2.1]
      intro h
      rw [h x.1 x.2] at hx
      cases hx
    subst hz
    clear SQ KB H0 bS bN
    gi_wp2
    have cX : (U.putObj D (.deferred none)).cell? ⟨w.heap.size, 0, none⟩ = some (.bool false) := (World.cell?_of_block (World.putObj_heap_other (by show w.heap.size ≠ D; omega))).trans cU
    refine ⟨by simp, .inl ⟨_, _, rfl, run_takeDeferred hK, ?_⟩⟩
    refine ⟨.bool false, by simp [results, Tryd.results45, asAddr, loadVar, go_sem, cX], rfl, ?_⟩
    exact bU.trans (belowK_b (w := w) (Nat.le_refl _) U D _ _ (by omega) hK rfl rfl)
end Go.Proofs.YtfpgkckcifjkcaaDoor
