/-
  Walks, not a claim by itself: record.readBatch at transfers, one piece after another. By the verifier.
-/
import Derived.Test.YtlcnhmlcmedonaaXRead
import Derived.Test.YtlcnhmlcmedonaaTOf
namespace Go.Proofs.Ytlcnhmlcmedonaa
open Go.RowKit Go.Shelf
attribute [local go_sem] Oper.semAt_some
attribute [-go_sem] Builtin.append_
theorem makeT (w : World) (c : Nat) (hc : c ≤ 8) : ∃ cs, (Instr.makeSlice 40 (.int .i64 0) (.int .i64 c)).run Try.prog w = .ok (.slice (some ⟨w.heap.size, 0, none⟩) 0 c) (w.alloc (.cells cs 30)) ∧ (w.alloc (.cells cs 30)).ownsRow w.heap.size 30 19 (.slice (some ⟨w.heap.size, 0, none⟩) 0 c) 0 [] := by
  have hi : ((Try.prog.info? 30).map fun i => (i.zero, i.size, i.bytes)) = some (some (.agg zero19.toArray), 19, 128) := by kernel_rfl
  obtain ⟨i, hi, hj⟩ := Option.map_eq_some_iff.1 hi
  simp only [Prod.mk.injEq] at hj
  obtain ⟨hz, hs, hb⟩ := hj
  obtain ⟨W0, hmk0, hown0, hg0⟩ := run_make_own (P := Try.prog) w w.heap.size 40 30 i (.agg zero19.toArray) 19 Try.underlying40 hi hz hs .i64 .i64 c (by rw [hb]; omega) (by unfold maxLen; omega) (Nat.le_refl _)
  have h1 := run_make (P := Try.prog) w 40 30 i (.agg zero19.toArray) Try.underlying40 hi hz .i64 .i64 0 c (by first | omega | (unfold maxLen; omega) | (rw [hb]; omega)) (by first | omega | (unfold maxLen; omega) | (rw [hb]; omega)) (by first | omega | (unfold maxLen; omega) | (rw [hb]; omega)) (by first | omega | (unfold maxLen; omega) | (rw [hb]; omega))
  have e := h1.symm.trans hmk0
  injection e with _ e
  exact ⟨_, h1, by rw [e]; exact hown0⟩
/-- What holds while the pieces come. -/
def rbIT (w : World) (b off c C : Nat) (f : Nat → Int) (pre : List (Fin c)) (W : World) : Prop := (∃ v, Boxed W (w.heap.size + 1 + 1) 40 v ∧ W.ownsRow (w.heap.size + 1) 30 19 v pre.length (recCells f pre) ∧ True) ∧ W.cell? ⟨w.heap.size, 0, none⟩ = some (.func (.func 43) #[] #[]) ∧ Below w.heap.size w W ∧ Boxed W (w.heap.size + 1 + 1 + 1) 31 (.slice (some ⟨b, off, none⟩) (c * 128) C) ∧ Boxed W (w.heap.size + 1 + 1 + 1 + 1) 3 (.int .i64 128)
theorem rbIT_own (w : World) (b off c C : Nat) (f : Nat → Int) (B : Nat) (hB : w.heap.size ≤ B) : OwnFrom (β := List (Fin c)) B (rbIT w b off c C f) := by
  intro pre X Y row hs hg hr
  have hr' : ∀ r, row = some r → ∃ o : Obj, X.heap[r]? = some o ∧ o.isCells = false := fun r e => (hr r e).2
  refine ⟨?_, cell_kept hs.2.1 hg hr', ?_, boxed_keep hs.2.2.2.1 hg hr', boxed_keep hs.2.2.2.2 hg hr'⟩
  · exact holdsRow_own (β := List (Fin c)) (w.heap.size + 1) (w.heap.size + 1 + 1) 40 30 19 (fun pre => pre.length) (fun pre => recCells f pre) (fun _ _ => True) pre X Y row hs.1 hg hr'
  · exact ownFrom_below (β := Unit) (n₀ := w.heap.size) (B := B) (w₀ := w) (Nat.le_refl _) hB () X Y row hs.2.2.1 hg hr
theorem rbT_step (w W w3 : World) (b off c C : Nat) (f : Nat → Int) (pre : List (Fin c)) (x : Fin c) (v : Value) (hc : c ≤ 8) (hlt : pre.length < c) (hv : Boxed W (w.heap.size + 1 + 1) 40 v) (hrow : W.ownsRow (w.heap.size + 1) 30 19 v pre.length (recCells f pre))
    (hF : W.cell? ⟨w.heap.size, 0, none⟩ = some (.func (.func 43) #[] #[])) (hB : Below w.heap.size w W) (hS : Boxed W (w.heap.size + 1 + 1 + 1) 31 (.slice (some ⟨b, off, none⟩) (c * 128) C)) (hN : Boxed W (w.heap.size + 1 + 1 + 1 + 1) 3 (.int .i64 128)) (hB3 : Below W.heap.size W w3) (R : Fld) (hR : R = recOf fun j => f (x.1 * 128 + j)) :
    ∃ g' cap' w4, (Builtin.append_ #[40, 40] 40 #[v, .slice (some ⟨w3.heap.size, 0, none⟩) 1 1]).run Try.prog (w3.alloc (.cells R.cells.toArray 30)) = .ok (.slice (some ⟨g', 0, none⟩) (pre.length + 1) cap') w4 ∧
      w3.cell? ⟨w.heap.size + 1 + 1, 0, none⟩ = some v ∧ (w3.alloc (.cells R.cells.toArray 30)).cell? ⟨w.heap.size + 1 + 1, 0, none⟩ = some v ∧ w4.cell? ⟨w.heap.size + 1 + 1, 0, none⟩ = some v ∧ w4.frozen? ⟨w.heap.size + 1 + 1, 0, none⟩ = false ∧
      Hid (KeepsOthers W (w4.setCell ⟨w.heap.size + 1 + 1, 0, none⟩ (.slice (some ⟨g', 0, none⟩) (pre.length + 1) cap')) ∧ Kc (w.heap.size + 1 + 1 + 1) (w.heap.size + 1 + 1 + 1 + 1) w.heap.size W (w4.setCell ⟨w.heap.size + 1 + 1, 0, none⟩ (.slice (some ⟨g', 0, none⟩) (pre.length + 1) cap')) ∧ rbIT w b off c C f (pre ++ [x]) (w4.setCell ⟨w.heap.size + 1 + 1, 0, none⟩ (.slice (some ⟨g', 0, none⟩) (pre.length + 1) cap'))) := by
  have hi : ((Try.prog.info? 30).map fun i => (i.zero, i.size, i.bytes)) = some (some (.agg zero19.toArray), 19, 128) := by kernel_rfl
  obtain ⟨i, hi, hj⟩ := Option.map_eq_some_iff.1 hi
  simp only [Prod.mk.injEq] at hj
  obtain ⟨hz, hs, hb⟩ := hj
  have hsz := hB3.size
  have l2 := hv.lt
  have l3 := hN.lt
  have hv3 := boxed_below hv hB3
  have hS3 := boxed_below hS hB3
  have hN3 := boxed_below hN hB3
  have hrow3 := own_below hrow hB3
  have n1 : (40 : TypeId) ≠ 30 := by decide
  have n2 : (31 : TypeId) ≠ 30 := by decide
  have n3 : (3 : TypeId) ≠ 30 := by decide
  obtain ⟨v', w4, hrun, hown', hgrow, _⟩ := run_append_own (P := Try.prog) (w3.alloc (.cells R.cells.toArray 30)) (w.heap.size + 1) 40 40 30 i (.agg zero19.toArray) 19 128 Try.underlying40 hi hz hs hb rfl (by decide) v pre.length (recCells f pre) (hrow3.alloc _) ⟨w3.heap.size, 0, none⟩ 1 1 R.cells rfl
    (fun j u hj => by rw [Addr.add_mid, Nat.zero_add, World.cell?_alloc_at _ _ _ _ rfl]; simpa using hj) R.cells_one (by unfold maxLen; omega) (by omega) (by simp; omega)
  obtain ⟨g', cap', rfl⟩ := ownsRow_succ hown'
  obtain ⟨b1, b2, r2, k2, e2⟩ := Boxed.appended hv3 n1 hrow3 (by omega) (by omega) hown' hgrow
  have hS4 := ((hS3.alloc (.cells R.cells.toArray 30)).kept hgrow ((hS3.not_row n2 hrow3))).other (B' := w.heap.size + 1 + 1) (by omega) (.slice (some ⟨g', 0, none⟩) (pre.length + 1) cap')
  have hN4 := ((hN3.alloc (.cells R.cells.toArray 30)).kept hgrow ((hN3.not_row n3 hrow3))).other (B' := w.heap.size + 1 + 1) (by omega) (.slice (some ⟨g', 0, none⟩) (pre.length + 1) cap')
  have E : Below w.heap.size W (w4.setCell ⟨w.heap.size + 1 + 1, 0, none⟩ (.slice (some ⟨g', 0, none⟩) (pre.length + 1) cap')) := (hB3.mono hB.size).trans (e2.mono (by omega))
  have hF4 : (w4.setCell ⟨w.heap.size + 1 + 1, 0, none⟩ (.slice (some ⟨g', 0, none⟩) (pre.length + 1) cap')).cell? ⟨w.heap.size, 0, none⟩ = some (.func (.func 43) #[] #[]) := by
    have a1 := (hB3.cell (p := ⟨w.heap.size, 0, none⟩) (by show w.heap.size < W.heap.size; omega)).trans hF
    exact (e2.cell (p := ⟨w.heap.size, 0, none⟩) (by show w.heap.size < w.heap.size + 1; omega)).trans a1
  refine ⟨g', cap', w4, hrun, hv3.cell, (hv3.alloc _).cell, b1.cell, b1.frozen, (keeps_below hB3).trans k2, ⟨E, hS4.cell.trans hS.cell.symm, hN4.cell.trans hN.cell.symm⟩, ⟨_, b2, ?_, trivial⟩, hF4, hB.trans E, hS4, hN4⟩
  rw [recCells_snoc, ← hR, List.length_append]
  exact r2
/-- What readBatch answers. -/
def RBPostT (w : World) (c : Nat) (f : Nat → Int) (e : Ending) (w' : World) : Prop := ∃ v, e = .returned (.tuple #[v, .int .i64 0]) ∧ w'.ownsRow w.heap.size 30 19 v c (recCells f (upTo c c)) ∧ Below w.heap.size w w'
set_option maxRecDepth 100000 in
set_option maxHeartbeats 1000000 in
theorem readBatchT_ok (b off c C : Nat) (f : Nat → Int) (w : World) (h : Lies w b off (c * 128) f) (hc : c ≤ 8) (hC : c * 128 ≤ C) :
    Calls Try.prog 42 #[.slice (some ⟨b, off, none⟩) (c * 128) C, .func (.func 43) #[] #[]] w (RBPostT w c f) := by
  refine (callsIn_wide (n := 5)).1 ?_
  have LL : Hid (Lies w b off (c * 128) f) := h
  have hb := h.2.2
  clear h
  obtain ⟨cs, hmk, hown⟩ := makeT (w.alloc (.cells #[.func (.func 43) #[] #[]] 73)) c hc
  have m1 : ((c : Int) * 128).tmod 128 = 0 := Int.mul_tmod_left _ _
  have m2 : ((c : Int) * 128).tdiv 128 = c := Int.mul_tdiv_cancel _ (by decide)
  have m3 : ¬ (8 : Int) < c := by omega
  refine callsIn_of_wp_marks Try.func42 rfl trivial ?_ rfl
  simp only [Try.ntmps42, List.size_toArray, List.length_cons, List.length_nil, Nat.reduceAdd, Nat.reduceSub, Array.replicate_succ, Array.replicate_zero, List.push_toArray, List.append_toArray, List.nil_append, List.cons_append]
  gi_wp2
  refine ⟨trivial, ?_⟩
  refine (chunk_in Fence.wide 4 trivial rfl _ _ _ _).mono ?_
  rintro e w' ⟨rfl, rfl⟩
  gi_wp2
  rw [World.size_alloc] at hown
  have bO : Boxed (((w.alloc (.cells #[.func (.func 43) #[] #[]] 73)).alloc (.cells cs 30)).alloc (.cells #[.slice (some ⟨w.heap.size + 1, 0, none⟩) 0 c] 40)) (w.heap.size + 1 + 1) 40 (.slice (some ⟨w.heap.size + 1, 0, none⟩) 0 c) := by
    have := Boxed.new ((w.alloc (.cells #[.func (.func 43) #[] #[]] 73)).alloc (.cells cs 30)) 40 (.slice (some ⟨w.heap.size + 1, 0, none⟩) 0 c)
    rw [World.size_alloc, World.size_alloc] at this
    exact this
  have hF0 : (((w.alloc (.cells #[.func (.func 43) #[] #[]] 73)).alloc (.cells cs 30)).alloc (.cells #[.slice (some ⟨w.heap.size + 1, 0, none⟩) 0 c] 40)).cell? ⟨w.heap.size, 0, none⟩ = some (.func (.func 43) #[] #[]) :=
    (((Boxed.new w 73 (.func (.func 43) #[] #[])).alloc _).alloc _).cell
  have hB0 : Below w.heap.size w (((w.alloc (.cells #[.func (.func 43) #[] #[]] 73)).alloc (.cells cs 30)).alloc (.cells #[.slice (some ⟨w.heap.size + 1, 0, none⟩) 0 c] 40)) := (((Below.refl _ _).alloc (Nat.le_refl _) _).alloc (by simp) _).alloc (by simp; omega) _
  have hO0 := hown.alloc (.cells #[.slice (some ⟨w.heap.size + 1, 0, none⟩) 0 c] 40)
  have hz0 : (((w.alloc (.cells #[.func (.func 43) #[] #[]] 73)).alloc (.cells cs 30)).alloc (.cells #[.slice (some ⟨w.heap.size + 1, 0, none⟩) 0 c] 40)).heap.size = w.heap.size + 1 + 1 + 1 := by simp
  generalize ((w.alloc (.cells #[.func (.func 43) #[] #[]] 73)).alloc (.cells cs 30)).alloc (.cells #[.slice (some ⟨w.heap.size + 1, 0, none⟩) 0 c] 40) = W0 at bO hF0 hB0 hO0 hz0 ⊢
  have bS := (Boxed.new W0 31 (.slice (some ⟨b, off, none⟩) (c * 128) C)).alloc (.cells #[.int .i64 128] 3)
  have bN := Boxed.new (W0.alloc (.cells #[.slice (some ⟨b, off, none⟩) (c * 128) C] 31)) 3 (.int .i64 128)
  rw [World.size_alloc] at bN
  rw [hz0] at bS bN
  have hB1 : Below w.heap.size w ((W0.alloc (.cells #[.slice (some ⟨b, off, none⟩) (c * 128) C] 31)).alloc (.cells #[.int .i64 128] 3)) := (hB0.alloc (by omega) _).alloc (by simp; omega) _
  have bO1 := (bO.alloc (.cells #[.slice (some ⟨b, off, none⟩) (c * 128) C] 31)).alloc (.cells #[.int .i64 128] 3)
  have hO1 := (hO0.alloc (.cells #[.slice (some ⟨b, off, none⟩) (c * 128) C] 31)).alloc (.cells #[.int .i64 128] 3)
  have hz1 : ((W0.alloc (.cells #[.slice (some ⟨b, off, none⟩) (c * 128) C] 31)).alloc (.cells #[.int .i64 128] 3)).heap.size = w.heap.size + 1 + 1 + 1 + 1 + 1 := by simp [hz0]
  have hF1 : ((W0.alloc (.cells #[.slice (some ⟨b, off, none⟩) (c * 128) C] 31)).alloc (.cells #[.int .i64 128] 3)).cell? ⟨w.heap.size, 0, none⟩ = some (.func (.func 43) #[] #[]) := by
    rw [World.cell?_alloc_past _ _ _ (by simp [hz0]; omega), World.cell?_alloc_past _ _ _ (by simp [hz0]; omega), hF0]
  generalize (W0.alloc (.cells #[.slice (some ⟨b, off, none⟩) (c * 128) C] 31)).alloc (.cells #[.int .i64 128] 3) = W1 at bS bN hB1 bO1 hO1 hz1 hF1 ⊢
  clear bO hF0 hB0 hO0 hz0 hown
  clear m1 m2 m3 hmk
  have SQ := chunk_stops Fence.wide 4 trivial rfl (by omega) (w.heap.size + 1 + 1 + 1) (w.heap.size + 1 + 1 + 1 + 1) w.heap.size b off c C hc hC W1 (by omega) (by omega) bS.cell bN.cell
  have KB : ∀ (W : World) (l : Nat) (o o' : Obj), W1.heap.size ≤ l → W.heap[l]? = some o → o.isCells = false → o.isWalk = false → Kc (w.heap.size + 1 + 1 + 1) (w.heap.size + 1 + 1 + 1 + 1) w.heap.size W (W.putObj l o') := kc_put (by omega) (by omega) (by omega)
  have HI := rbIT_own w b off c C f W1.heap.size (by omega)
  have H0 : rbIT w b off c C f [] W1 := ⟨⟨_, bO1, hO1, trivial⟩, hF1, hB1, bS, bN⟩
  refine wpIn_rangeFunc_ownF rfl (by decide) (gf := 55) (lb := #[.pointer (some ⟨w.heap.size + 1 + 1 + 1, 0, none⟩), .pointer (some ⟨w.heap.size + 1 + 1 + 1 + 1, 0, none⟩)]) rfl trivial (enters_of Try.func55 (by kernel_rfl) rfl)
    SQ Kc.trans KB (Below.refl _ _) (fun _ => rfl) (rbIT w b off c C f) (fun _ _ _ => False) HI (fun _ _ _ _ _ hs _ _ => hs) H0
    (fun x => { tmps := #[.slice (some ⟨b, off, none⟩) (c * 128) C, .func (.func 43) #[] #[], undef, .pointer (some ⟨w.heap.size, 0, none⟩), .slice none 0 0, .int .i64 0, .int .i64 c, .pointer (some ⟨w.heap.size + 1 + 1, 0, none⟩), .slice (some ⟨b, off + x.1 * 128, none⟩) 128 128, .slice (some ⟨b, off, none⟩) (c * 128) C, .int .i64 ((c : Int) * 128), .int .i64 0, .bool false, .slice (some ⟨b, off, none⟩) (c * 128) C, .int .i64 ((c : Int) * 128), .int .i64 c, .int .i64 c, .bool false, .int .i64 c, .slice (some ⟨w.heap.size + 1, 0, none⟩) 0 c, .slice (some ⟨b, off, none⟩) (c * 128) C, .func (.func 55) #[] #[.pointer (some ⟨w.heap.size + 1 + 1 + 1, 0, none⟩), .pointer (some ⟨w.heap.size + 1 + 1 + 1 + 1, 0, none⟩)], .slice (some ⟨b, off + x.1 * 128, none⟩) 128 128, undef, undef, undef, undef, undef, undef, undef], defers := [] }) ?assign ?body ?done ?stop
  case assign =>
    intro l x W K hK
    gi_wp2
    exact hK
  case body =>
    rintro l pre x W ⟨⟨v, hv, hrow, _⟩, hF, hB, hS, hN⟩ hlt
    have hcv := hv.cell
    have LX : Hid (Lies W.drew b (off + x.1 * 128) 128 (fun j => f (x.1 * 128 + j))) := (LL.out.below hB.drew).part (x.1 * 128) 128 (by have := x.2; omega)
    obtain ⟨R, hR⟩ : ∃ R, (recOf fun j => f (x.1 * 128 + j)) = R := ⟨_, rfl⟩
    have HR : Hid ((recOf fun j => f (x.1 * 128 + j)) = R) := hR
    have PR : Hid (∀ w3, Below W.drew.heap.size W.drew w3 → ∃ g' cap' w4, (Builtin.append_ #[40, 40] 40 #[v, .slice (some ⟨w3.heap.size, 0, none⟩) 1 1]).run Try.prog (w3.alloc (.cells R.cells.toArray 30)) = .ok (.slice (some ⟨g', 0, none⟩) (pre.length + 1) cap') w4 ∧
      w3.cell? ⟨w.heap.size + 1 + 1, 0, none⟩ = some v ∧ (w3.alloc (.cells R.cells.toArray 30)).cell? ⟨w.heap.size + 1 + 1, 0, none⟩ = some v ∧ w4.cell? ⟨w.heap.size + 1 + 1, 0, none⟩ = some v ∧ w4.frozen? ⟨w.heap.size + 1 + 1, 0, none⟩ = false ∧
      Hid (KeepsOthers W (w4.setCell ⟨w.heap.size + 1 + 1, 0, none⟩ (.slice (some ⟨g', 0, none⟩) (pre.length + 1) cap')) ∧ Kc (w.heap.size + 1 + 1 + 1) (w.heap.size + 1 + 1 + 1 + 1) w.heap.size W (w4.setCell ⟨w.heap.size + 1 + 1, 0, none⟩ (.slice (some ⟨g', 0, none⟩) (pre.length + 1) cap')) ∧ rbIT w b off c C f (pre ++ [x]) (w4.setCell ⟨w.heap.size + 1 + 1, 0, none⟩ (.slice (some ⟨g', 0, none⟩) (pre.length + 1) cap')))) :=
      fun w3 h3 => rbT_step w W w3 b off c C f pre x v hc hlt hv hrow hF hB hS hN (((Below.refl W.heap.size W).drew).trans h3) R hR.symm
    have MX : Try.prog.follows .mixedOrders = true := by kernel_rfl
    clear hR hrow hS hN hB hv SQ KB HI H0 bO1 hO1 hF1 hB1 bS bN
    gi_wp2
    gi_region_with_o (refine ⟨trivial, ?_⟩; refine (CallsIn.inRound l ((callsIn_wide (n := _)).2 (transferOf_any b (off + x.1 * 128) 128 (fun j => f (x.1 * 128 + j)) _ LX.out (by omega)))).mono ?_; rintro e w3 ⟨rfl, hB3⟩; obtain ⟨g', cap', w4, hr, c3, c3', c4, f4, HX⟩ := PR.out w3 hB3; rw [HR.out]; clear hB3; simp only [Fld.cells] at hr c3' ⊢)
    all_goals gi_wp2
    all_goals exact ⟨HX.out.1, HX.out.2.1, HX.out.2.2⟩
  case done =>
    rintro D ys W hD rfl ⟨⟨v, hv, hrow, _⟩, _, hB, _⟩ hK
    have hcv := hv.cell
    gi_wp2
    refine ⟨by simp, .inl ⟨_, _, rfl, run_takeDeferred hK, ?_⟩⟩
    refine ⟨.tuple #[v, .int .i64 0], by simp [results, Try.results42], v, rfl, ?_, ?_⟩
    · have := own_weak (ownsRow_putObj hrow (.deferred none) hK rfl) (Nat.le_succ w.heap.size)
      rw [upTo_length c c (Nat.le_refl _)] at this
      exact this
    · exact hB.trans (belowK_b (w := w) (Nat.le_refl _) W D _ _ (by omega) hK rfl rfl)
  case stop =>
    rintro D c pre W _ _ h _
    exact h.elim
end Go.Proofs.Ytlcnhmlcmedonaa
