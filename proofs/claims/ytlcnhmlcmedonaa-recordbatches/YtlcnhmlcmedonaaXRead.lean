/-
  Walks, not a claim by itself: record.readBatch at accounts, one piece after another. By the verifier.
-/
import Derived.Test.YtlcnhmlcmedonaaXRead1
namespace Go.Proofs.Ytlcnhmlcmedonaa
open Go.RowKit Go.Shelf
attribute [local go_sem] Oper.semAt_some
attribute [-go_sem] Builtin.append_
set_option maxRecDepth 100000 in
set_option maxHeartbeats 1000000 in
theorem readBatchA_ok (b off c C : Nat) (f : Nat → Int) (w : World) (h : Lies w b off (c * 128) f) (hc : c ≤ 8) (hC : c * 128 ≤ C) :
    Calls Try.prog 38 #[.slice (some ⟨b, off, none⟩) (c * 128) C, .func (.func 39) #[] #[]] w (RBPost w c f) := by
  refine (callsIn_wide (n := 5)).1 ?_
  have LL : Hid (Lies w b off (c * 128) f) := h
  have hb := h.2.2
  clear h
  obtain ⟨cs, hmk, hown⟩ := makeA (w.alloc (.cells #[.func (.func 39) #[] #[]] 70)) c hc
  have m1 : ((c : Int) * 128).tmod 128 = 0 := Int.mul_tmod_left _ _
  have m2 : ((c : Int) * 128).tdiv 128 = c := Int.mul_tdiv_cancel _ (by decide)
  have m3 : ¬ (8 : Int) < c := by omega
  refine callsIn_of_wp_marks Try.func38 rfl trivial ?_ rfl
  simp only [Try.ntmps38, List.size_toArray, List.length_cons, List.length_nil, Nat.reduceAdd, Nat.reduceSub, Array.replicate_succ, Array.replicate_zero, List.push_toArray, List.append_toArray, List.nil_append, List.cons_append]
  gi_wp2
  refine ⟨trivial, ?_⟩
  refine (chunk_in Fence.wide 4 trivial rfl _ _ _ _).mono ?_
  rintro e w' ⟨rfl, rfl⟩
  gi_wp2
  rw [World.size_alloc] at hown
  have bO : Boxed (((w.alloc (.cells #[.func (.func 39) #[] #[]] 70)).alloc (.cells cs 28)).alloc (.cells #[.slice (some ⟨w.heap.size + 1, 0, none⟩) 0 c] 39)) (w.heap.size + 1 + 1) 39 (.slice (some ⟨w.heap.size + 1, 0, none⟩) 0 c) := by
    have := Boxed.new ((w.alloc (.cells #[.func (.func 39) #[] #[]] 70)).alloc (.cells cs 28)) 39 (.slice (some ⟨w.heap.size + 1, 0, none⟩) 0 c)
    rw [World.size_alloc, World.size_alloc] at this
    exact this
  have hF0 : (((w.alloc (.cells #[.func (.func 39) #[] #[]] 70)).alloc (.cells cs 28)).alloc (.cells #[.slice (some ⟨w.heap.size + 1, 0, none⟩) 0 c] 39)).cell? ⟨w.heap.size, 0, none⟩ = some (.func (.func 39) #[] #[]) :=
    (((Boxed.new w 70 (.func (.func 39) #[] #[])).alloc _).alloc _).cell
  have hB0 : Below w.heap.size w (((w.alloc (.cells #[.func (.func 39) #[] #[]] 70)).alloc (.cells cs 28)).alloc (.cells #[.slice (some ⟨w.heap.size + 1, 0, none⟩) 0 c] 39)) := (((Below.refl _ _).alloc (Nat.le_refl _) _).alloc (by simp) _).alloc (by simp; omega) _
  have hO0 := hown.alloc (.cells #[.slice (some ⟨w.heap.size + 1, 0, none⟩) 0 c] 39)
  have hz0 : (((w.alloc (.cells #[.func (.func 39) #[] #[]] 70)).alloc (.cells cs 28)).alloc (.cells #[.slice (some ⟨w.heap.size + 1, 0, none⟩) 0 c] 39)).heap.size = w.heap.size + 1 + 1 + 1 := by simp
  generalize ((w.alloc (.cells #[.func (.func 39) #[] #[]] 70)).alloc (.cells cs 28)).alloc (.cells #[.slice (some ⟨w.heap.size + 1, 0, none⟩) 0 c] 39) = W0 at bO hF0 hB0 hO0 hz0 ⊢
  have bS := (Boxed.new W0 31 (.slice (some ⟨b, off, none⟩) (c * 128) C)).alloc (.cells #[.int .i64 128] 3)
  have bN := Boxed.new (W0.alloc (.cells #[.slice (some ⟨b, off, none⟩) (c * 128) C] 31)) 3 (.int .i64 128)
  rw [World.size_alloc] at bN
  rw [hz0] at bS bN
  have hB1 : Below w.heap.size w ((W0.alloc (.cells #[.slice (some ⟨b, off, none⟩) (c * 128) C] 31)).alloc (.cells #[.int .i64 128] 3)) := (hB0.alloc (by omega) _).alloc (by simp; omega) _
  have bO1 := (bO.alloc (.cells #[.slice (some ⟨b, off, none⟩) (c * 128) C] 31)).alloc (.cells #[.int .i64 128] 3)
  have hO1 := (hO0.alloc (.cells #[.slice (some ⟨b, off, none⟩) (c * 128) C] 31)).alloc (.cells #[.int .i64 128] 3)
  have hz1 : ((W0.alloc (.cells #[.slice (some ⟨b, off, none⟩) (c * 128) C] 31)).alloc (.cells #[.int .i64 128] 3)).heap.size = w.heap.size + 1 + 1 + 1 + 1 + 1 := by simp [hz0]
  have hF1 : ((W0.alloc (.cells #[.slice (some ⟨b, off, none⟩) (c * 128) C] 31)).alloc (.cells #[.int .i64 128] 3)).cell? ⟨w.heap.size, 0, none⟩ = some (.func (.func 39) #[] #[]) := by
    rw [World.cell?_alloc_past _ _ _ (by simp [hz0]; omega), World.cell?_alloc_past _ _ _ (by simp [hz0]; omega), hF0]
  generalize (W0.alloc (.cells #[.slice (some ⟨b, off, none⟩) (c * 128) C] 31)).alloc (.cells #[.int .i64 128] 3) = W1 at bS bN hB1 bO1 hO1 hz1 hF1 ⊢
  clear bO hF0 hB0 hO0 hz0 hown
  clear m1 m2 m3 hmk
  have SQ := chunk_stops Fence.wide 4 trivial rfl (by omega) (w.heap.size + 1 + 1 + 1) (w.heap.size + 1 + 1 + 1 + 1) w.heap.size b off c C hc hC W1 (by omega) (by omega) bS.cell bN.cell
  have KB : ∀ (W : World) (l : Nat) (o o' : Obj), W1.heap.size ≤ l → W.heap[l]? = some o → o.isCells = false → o.isWalk = false → Kc (w.heap.size + 1 + 1 + 1) (w.heap.size + 1 + 1 + 1 + 1) w.heap.size W (W.putObj l o') := kc_put (by omega) (by omega) (by omega)
  have HI := rbI_own w b off c C f W1.heap.size (by omega)
  have H0 : rbI w b off c C f [] W1 := ⟨⟨_, bO1, hO1, trivial⟩, hF1, hB1, bS, bN⟩
  refine wpIn_rangeFunc_ownF rfl (by decide) (gf := 55) (lb := #[.pointer (some ⟨w.heap.size + 1 + 1 + 1, 0, none⟩), .pointer (some ⟨w.heap.size + 1 + 1 + 1 + 1, 0, none⟩)]) rfl trivial (enters_of Try.func55 (by kernel_rfl) rfl)
    SQ Kc.trans KB (Below.refl _ _) (fun _ => rfl) (rbI w b off c C f) (fun _ _ _ => False) HI (fun _ _ _ _ _ hs _ _ => hs) H0
    (fun x => { tmps := #[.slice (some ⟨b, off, none⟩) (c * 128) C, .func (.func 39) #[] #[], undef, .pointer (some ⟨w.heap.size, 0, none⟩), .slice none 0 0, .int .i64 0, .int .i64 c, .pointer (some ⟨w.heap.size + 1 + 1, 0, none⟩), .slice (some ⟨b, off + x.1 * 128, none⟩) 128 128, .slice (some ⟨b, off, none⟩) (c * 128) C, .int .i64 ((c : Int) * 128), .int .i64 0, .bool false, .slice (some ⟨b, off, none⟩) (c * 128) C, .int .i64 ((c : Int) * 128), .int .i64 c, .int .i64 c, .bool false, .int .i64 c, .slice (some ⟨w.heap.size + 1, 0, none⟩) 0 c, .slice (some ⟨b, off, none⟩) (c * 128) C, .func (.func 55) #[] #[.pointer (some ⟨w.heap.size + 1 + 1 + 1, 0, none⟩), .pointer (some ⟨w.heap.size + 1 + 1 + 1 + 1, 0, none⟩)], .slice (some ⟨b, off + x.1 * 128, none⟩) 128 128, undef, undef, undef, undef, undef, undef, undef], defers := [] }) ?assign ?body ?done ?stop
  case assign =>
    intro l x W K hK
    gi_wp2
    exact hK
  case body =>
    rintro l pre x W ⟨⟨v, hv, hrow, _⟩, hF, hB, hS, hN⟩ hlt
    have hcv := hv.cell
    have LX : Hid (Lies W.drew b (off + x.1 * 128) 128 (fun j => f (x.1 * 128 + j))) := (LL.out.below hB.drew).part (x.1 * 128) 128 (by have := x.2; omega)
    obtain ⟨R, hR⟩ : ∃ R, (recOf fun j => f (x.1 * 128 + j)) = R := ⟨_, rfl⟩
    have HR : Hid ((recOf fun j => f (x.1 * 128 + j)) = R) := hR
    have PR : Hid (∀ w3, Below W.drew.heap.size W.drew w3 → ∃ g' cap' w4, (Builtin.append_ #[39, 39] 39 #[v, .slice (some ⟨w3.heap.size, 0, none⟩) 1 1]).run Try.prog (w3.alloc (.cells R.cells.toArray 28)) = .ok (.slice (some ⟨g', 0, none⟩) (pre.length + 1) cap') w4 ∧
      w3.cell? ⟨w.heap.size + 1 + 1, 0, none⟩ = some v ∧ (w3.alloc (.cells R.cells.toArray 28)).cell? ⟨w.heap.size + 1 + 1, 0, none⟩ = some v ∧ w4.cell? ⟨w.heap.size + 1 + 1, 0, none⟩ = some v ∧ w4.frozen? ⟨w.heap.size + 1 + 1, 0, none⟩ = false ∧
      Hid (KeepsOthers W (w4.setCell ⟨w.heap.size + 1 + 1, 0, none⟩ (.slice (some ⟨g', 0, none⟩) (pre.length + 1) cap')) ∧ Kc (w.heap.size + 1 + 1 + 1) (w.heap.size + 1 + 1 + 1 + 1) w.heap.size W (w4.setCell ⟨w.heap.size + 1 + 1, 0, none⟩ (.slice (some ⟨g', 0, none⟩) (pre.length + 1) cap')) ∧ rbI w b off c C f (pre ++ [x]) (w4.setCell ⟨w.heap.size + 1 + 1, 0, none⟩ (.slice (some ⟨g', 0, none⟩) (pre.length + 1) cap')))) :=
      fun w3 h3 => rb_step w W w3 b off c C f pre x v hc hlt hv hrow hF hB hS hN (((Below.refl W.heap.size W).drew).trans h3) R hR.symm
    have MX : Try.prog.follows .mixedOrders = true := by kernel_rfl
    clear hR hrow hS hN hB hv SQ KB HI H0 bO1 hO1 hF1 hB1 bS bN
    gi_wp2
    gi_region_with_o (refine ⟨trivial, ?_⟩; refine (CallsIn.inRound l ((callsIn_wide (n := _)).2 (accountOf_any b (off + x.1 * 128) 128 (fun j => f (x.1 * 128 + j)) _ LX.out (by omega)))).mono ?_; rintro e w3 ⟨rfl, hB3⟩; obtain ⟨g', cap', w4, hr, c3, c3', c4, f4, HX⟩ := PR.out w3 hB3; rw [HR.out]; clear hB3; simp only [Fld.cells] at hr c3' ⊢)
    all_goals gi_wp2
    all_goals exact ⟨HX.out.1, HX.out.2.1, HX.out.2.2⟩
  case done =>
    rintro D ys W hD rfl ⟨⟨v, hv, hrow, _⟩, _, hB, _⟩ hK
    have hcv := hv.cell
    gi_wp2
    refine ⟨by simp, .inl ⟨_, _, rfl, run_takeDeferred hK, ?_⟩⟩
    refine ⟨.tuple #[v, .int .i64 0], by simp [results, Try.results38], v, rfl, ?_, ?_⟩
    · have := own_weak (ownsRow_putObj hrow (.deferred none) hK rfl) (Nat.le_succ w.heap.size)
      rw [upTo_length c c (Nat.le_refl _)] at this
      exact this
    · exact hB.trans (belowK_b (w := w) (Nat.le_refl _) W D _ _ (by omega) hK rfl rfl)
  case stop =>
    rintro D c pre W _ _ h _
    exact h.elim
end Go.Proofs.Ytlcnhmlcmedonaa
