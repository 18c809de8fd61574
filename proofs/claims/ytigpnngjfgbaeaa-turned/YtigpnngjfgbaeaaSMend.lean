/-
  Walks, not a claim by itself: superblock's mend where no copy is to be mended. By the verifier.
-/
import Derived.Test.YtigpnngjfgbaeaaSFnd
namespace Go.Proofs.Ytigpnngjfgbaeaa
open Go.RowKit Go.Maps Go.Shelf
theorem eqIn512 (f g : Nat → Int) (w : World) : (Op.equalIn 10000 85 (.agg (cl .u8 512 f).toArray) (.agg (cl .u8 512 g).toArray)).run Try.prog w = .ok (eqN 512 f g) w := by
  obtain ⟨i, hi, _⟩ : ∃ i, Try.prog.info? 5 = some i ∧ True := by
    have : (Try.prog.info? 5).isSome = true := by kernel_rfl
    obtain ⟨i, hi⟩ := Option.isSome_iff_exists.1 this
    exact ⟨i, hi, trivial⟩
  rw [run_equalIn_array w 9999 _ _ Try.underlying85 hi, cell8, items_eq f g 512 w (List.range 512) (fun i hi => List.mem_range.1 hi)]
  rfl
theorem eq512 (f g : Nat → Int) (w : World) : (binOp .eql 85 (.agg (cl .u8 512 f).toArray) (.agg (cl .u8 512 g).toArray)).run Try.prog w = .ok (.bool (eqN 512 f g)) w := by
  rw [run_eql_struct, eqIn512]
  rfl
theorem guard512 : Try.prog.eqGuardType Try.prog.depth 85 = false := by kernel_rfl
theorem eql_run512 {a : Act} {w : World} {o : Oper} (x y : Operand) (ho : o.op = .binOp .eql 85 x y 85) (f g : Nat → Int) (hx : a.eval x = .agg (cl .u8 512 f).toArray) (hy : a.eval y = .agg (cl .u8 512 g).toArray) : (execOp a.eval o).run Try.prog w = .ok (.value (.bool (eqN 512 f g))) w := by
  unfold execOp
  simp only [ho, hx, hy, Sem.run_bind, run_eqGuard_agg _ _ _ _ _ _ _ guard512, Result.andThen_ok, eq512]
  rfl
/-- A parameter of several cells is boxed, in a fence. -/
theorem wpListIn_box_rec {F : Fence} {n : Nat} {ops : Array Oper} {rest : List Oper} {o : Oper} {a : Act} {w : World} {Q : Exit → Act → World → Prop} (hg : o.guard = none) (ty : TypeId) (x : Operand) (ho : o.op = .box ty x) (cs : List Value) (hx : a.eval x = .agg cs.toArray)
    (hK : ∀ W, Rec19 W w.heap.size 0 cs → Below w.heap.size w W → W.heap.size = w.heap.size + 1 → wpListIn F n Try.prog ops Q rest (a.put o.dst (.pointer (some ⟨w.heap.size, 0, none⟩))) W) : wpListIn F n Try.prog ops Q (o :: rest) a w := by
  refine wpListIn_run hg (by rw [ho]; intro c hc; cases hc) (by simp [Oper.about, ho]) (.pointer (some ⟨w.heap.size, 0, none⟩)) (w' := w.alloc (.cells cs.toArray ty)) ?_ (hK _ (Rec19.new w ty cs) ((Below.refl _ _).alloc (Nat.le_refl _) _) (by simp))
  unfold execOp
  simp only [ho, hx]
  simp [Instr.box, newVar, newRow, Value.cells, Result.andThen]
/-- Nothing but new blocks. -/
def sameI (V0 : World) (_ : Nat) (X : World) : Prop := Off [] V0 X
theorem sameI_own (V0 : World) : OwnFrom V0.heap.size (sameI V0) := by
  rintro k X Y row h hg hr
  obtain ⟨O, hb⟩ := row_off hg hr
  exact Off.far h O (fun b q => .inr (hb b q))
attribute [local go_sem] Oper.semAt_some
set_option maxRecDepth 100000 in
set_option maxHeartbeats 1000000 in
theorem mend_same (W : World) (g : Nat) (G f : Nat → Int) (s : Sup) (a : Option Addr) (C : Nat) (p : Option Addr) (hL : Lies W g 0 2048 G) (hs : ∀ i, i < 4 → Has G i f) :
    Calls Try.prog 47 #[.agg (fndC (.slice (some ⟨g, 0, none⟩) 2048 2048) f s a C).toArray, .pointer p] W fun e w' => e = .returned (.int .i64 0) ∧ Below W.heap.size W w' := by
  have LL : Hid (Lies W g 0 2048 G) := hL
  have HS : Hid (∀ i, i < 4 → Has G i f) := hs
  have gl := hL.2.2
  clear hL hs
  refine (callsIn_wide (n := 5)).1 ?_
  refine callsIn_of_wp_marks Try.func47 rfl trivial ?_ rfl
  simp only [Try.ntmps47, List.size_toArray, List.length_cons, List.length_nil, Nat.reduceAdd, Nat.reduceSub, Array.replicate_succ, Array.replicate_zero, List.push_toArray, List.append_toArray, List.nil_append, List.cons_append]
  gi_wp2_with (refine wpListIn_box_rec rfl 87 (.tmp 0) rfl (fndC (.slice (some ⟨g, 0, none⟩) 2048 2048) f s a C) rfl ?_; intro W0 R0 B0 z0; have c0 := (R0.cel 0 (.slice (some ⟨g, 0, none⟩) 2048 2048) rfl).1)
  refine ⟨trivial, ?_⟩
  refine CallsIn.mono (copies_in _ _ trivial rfl _ _ _ _) ?_
  rintro e w2 ⟨rfl, hw2⟩
  gi_wp2
  have zz : W0.heap.size = W.heap.size + 1 := z0
  have F0 : Below W0.heap.size W0 ((((W0.alloc (.cells #[.pointer p] 42)).alloc (.cells #[.int .i64 0] 30)).alloc (.cells #[.bool false] 4)).alloc (.cells #[.slice (some ⟨g, 0, none⟩) 2048 2048] 27)) := ((((Below.refl _ _).alloc (Nat.le_refl _) _).alloc (by simp) _).alloc (by simp; omega) _).alloc (by simp; omega) _
  have F1 : ((((W0.alloc (.cells #[.pointer p] 42)).alloc (.cells #[.int .i64 0] 30)).alloc (.cells #[.bool false] 4)).alloc (.cells #[.slice (some ⟨g, 0, none⟩) 2048 2048] 27)).cell? ⟨W.heap.size + 1 + 1, 0, none⟩ = some (.int .i64 0) ∧ ((((W0.alloc (.cells #[.pointer p] 42)).alloc (.cells #[.int .i64 0] 30)).alloc (.cells #[.bool false] 4)).alloc (.cells #[.slice (some ⟨g, 0, none⟩) 2048 2048] 27)).frozen? ⟨W.heap.size + 1 + 1, 0, none⟩ = false := by rw [← zz]; simp [go_sem]
  have F2 : ((((W0.alloc (.cells #[.pointer p] 42)).alloc (.cells #[.int .i64 0] 30)).alloc (.cells #[.bool false] 4)).alloc (.cells #[.slice (some ⟨g, 0, none⟩) 2048 2048] 27)).cell? ⟨W.heap.size + 1 + 1 + 1, 0, none⟩ = some (.bool false) := by rw [← zz]; simp [go_sem]
  have F3 : ((((W0.alloc (.cells #[.pointer p] 42)).alloc (.cells #[.int .i64 0] 30)).alloc (.cells #[.bool false] 4)).alloc (.cells #[.slice (some ⟨g, 0, none⟩) 2048 2048] 27)).cell? ⟨W.heap.size + 1 + 1 + 1 + 1, 0, none⟩ = some (.slice (some ⟨g, 0, none⟩) 2048 2048) := by rw [← zz]; simp [go_sem]
  have F5 : ((((W0.alloc (.cells #[.pointer p] 42)).alloc (.cells #[.int .i64 0] 30)).alloc (.cells #[.bool false] 4)).alloc (.cells #[.slice (some ⟨g, 0, none⟩) 2048 2048] 27)).heap.size = W.heap.size + 5 := by simp; omega
  generalize ((((W0.alloc (.cells #[.pointer p] 42)).alloc (.cells #[.int .i64 0] 30)).alloc (.cells #[.bool false] 4)).alloc (.cells #[.slice (some ⟨g, 0, none⟩) 2048 2048] 27)) = V0 at hw2 F0 F1 F2 F3 F5 ⊢
  have R1 := R0.below F0
  have E0 : Below W.heap.size W V0 := B0.trans (F0.mono (by omega))
  have L0 := LL.out.below E0
  clear hw2 F0 R0 B0 z0 c0 zz LL
  have hM : ∀ k X, sameI V0 k X → CopMem (W.heap.size + 1 + 1 + 1 + 1) g G X := fun k X hX => ⟨(hX.cell (p := ⟨W.heap.size + 1 + 1 + 1 + 1, 0, none⟩) (by show W.heap.size + 1 + 1 + 1 + 1 < V0.heap.size; omega) (by simp)).trans F3, L0.off hX (by simp)⟩
  refine range_copies (m := 5) 12 13 (by omega) (W.heap.size + 1 + 1 + 1 + 1) g G rfl (sameI V0) (fun _ _ => False) (sameI_own V0) (fun _ _ _ _ h _ _ => h) hM (Off.refl _ _) ?_ ?_ (fun _ _ _ _ h _ => h.elim)
  · intro l k X hk hI hl1 hl2 hlo
    unfold imgV
    simp only [List.setIfInBounds_toArray, List.set_cons_zero, List.set_cons_succ]
    gi_wp2_with (first
      | (refine wpListIn_alloc_row rfl 85 rfl .u8 512 zero_image ?_; intro Y1 S1 C1 y1 k1)
      | (refine wpListIn_store_rec rfl 85 (.tmp 7) (.tmp 13) rfl X.heap.size 0 _ (cl .u8 512 (cp G k)) rfl rfl S1.rec (by rw [cl_len, cl_len]) (by rw [cl_len]; exact info_image) (cl_one _ _ _) ?_; intro Y2 S2 C2 y2 k2))
    refine ⟨(k1.trans k2).from _, fun Y3 hB3 hz3 => ?_⟩
    have r1 : Y3.rangeAt X.heap.size 0 (cl .u8 512 (cp G k)) := (S2.but hB3 (by omega)).1
    have o3 : Off [] V0 Y3 := (Off.trans hI (Off.of (C1.trans (C2.below (Nat.le_refl _) (by omega))))).far (Off.but (bs := [l]) hB3 (by simp)) (fun b q => by simp at q; exact .inr (by omega))
    have r2 : Y3.rangeAt W.heap.size 1 (cl .u8 512 f) := (R1.off o3 (by simp)).sub.1
    have eq : eqN 512 (cp G k) f = true := eqN_has.2 (HS.out k hk)
    have PP : Hid (KeepsFrom V0.heap.size Y3 Y3 ∧ sameI V0 (k + 1) Y3) := ⟨KeepsFrom.refl _ _, o3⟩
    clear S1 C1 y1 k1 S2 C2 y2 k2 hB3 hz3 hI hlo o3
    have K1 : Hid True := trivial
    have K2 : Hid True := trivial
    gi_wp2_with (first
      | (have _q := K1; clear K1; refine wpListIn_load_at rfl 85 (.tmp 7) rfl X.heap.size 0 (cl .u8 512 (cp G k)) rfl _ r1 Try.underlying85 rfl (by rw [cl_len]; exact info_image) ?_)
      | (have _q := K2; clear K2; refine wpListIn_load_at rfl 85 (.tmp 15) rfl W.heap.size 1 (cl .u8 512 f) rfl _ r2 Try.underlying85 rfl (by rw [cl_len]; exact info_image) ?_)
      | (refine wpListIn_run rfl (by intro c hc; cases hc) (by rfl) _ (eql_run512 (.tmp 14) (.tmp 16) rfl (cp G k) f rfl rfl) ?_; rw [eq]))
    exact PP.out
  · intro D1 X1 hD1 hI1 hd1
    have c1 := (hI1.cell (p := ⟨W.heap.size + 1 + 1, 0, none⟩) (by show W.heap.size + 1 + 1 < V0.heap.size; omega) (by simp)).trans F1.1
    have f1 := (hI1.frozen (p := ⟨W.heap.size + 1 + 1, 0, none⟩) (by show W.heap.size + 1 + 1 < V0.heap.size; omega) (by simp)).trans F1.2
    have c2 := (hI1.cell (p := ⟨W.heap.size + 1 + 1 + 1, 0, none⟩) (by show W.heap.size + 1 + 1 + 1 < V0.heap.size; omega) (by simp)).trans F2
    have E1 : Hid (Below W.heap.size W X1) := E0.trans (hI1.below (by simp) E0.size)
    have sz := hI1.size
    clear hI1
    gi_wp2
    have d1 : (X1.setCell ⟨W.heap.size + 1 + 1, 0, none⟩ (.int .i64 0)).heap[D1]? = some (.deferred (some [])) := (Below.heap_setCell X1 ⟨W.heap.size + 1 + 1, 0, none⟩ (.int .i64 0) D1 (by show D1 ≠ W.heap.size + 1 + 1; omega)).trans hd1
    have c9 : ((X1.setCell ⟨W.heap.size + 1 + 1, 0, none⟩ (.int .i64 0)).putObj D1 (.deferred none)).cell? ⟨W.heap.size + 1 + 1, 0, none⟩ = some (.int .i64 0) := by
      rw [(But.putObj (X1.setCell ⟨W.heap.size + 1 + 1, 0, none⟩ (.int .i64 0)) D1 (.deferred none)).cell (p := ⟨W.heap.size + 1 + 1, 0, none⟩) (by simp [World.setCell]; omega) (by show W.heap.size + 1 + 1 ≠ D1; omega), World.cell?_setCell_same' _ _ _ (by rw [c1]; rfl)]
    refine And.intro (by simp) (Or.inl ⟨_, _, rfl, run_takeDeferred d1, ?_⟩)
    refine ⟨.int .i64 0, by simp [results, Try.results47, asAddr, go_sem, c9], rfl, ?_⟩
    exact (E1.out.setCell (p := ⟨W.heap.size + 1 + 1, 0, none⟩) (by show W.heap.size ≤ W.heap.size + 1 + 1; omega) _).trans ((But.putObj _ D1 (.deferred none)).below (by omega) (by simp [World.setCell]; omega))
end Go.Proofs.Ytigpnngjfgbaeaa
