/-
  Walks, not a claim by itself: header's numbers and sealAt. By the verifier.
-/
import Derived.Test.YtijpoipcadhchaaDoorMNum
import Derived.Test.YtijpoipcadhchaaDoorCRgt
namespace Go.Proofs.YtijpoipcadhchaaDoor
open Go.RowKit
/-- The cells of a header. -/
def hcs (h : Nat → Int) : List Value := [.int .i64 (h 0), .int .i64 (h 1), .int .i64 (h 2), .int .i64 (h 3), .int .i64 (h 4), .int .i64 (h 5), .int .i64 (h 6), .int .i64 (h 7), .int .i64 (h 8), .int .u64 (h 9), .int .u64 (h 10), .int .i64 (h 11), .int .i64 (h 12), .int .u64 (h 13), .int .i64 (h 14), .int .i64 (h 15)]
theorem hcs_len (h : Nat → Int) : (hcs h).length = 16 := rfl
theorem hcs_one (h : Nat → Int) : ∀ v ∈ hcs h, v.oneCell' = true := by
  intro v hv; unfold hcs at hv; simp at hv; rcases hv with rfl | rfl | rfl | rfl | rfl | rfl | rfl | rfl | rfl | rfl | rfl | rfl | rfl | rfl | rfl | rfl <;> rfl
/-- Which field a number of four bytes is. -/
def pos (k : Nat) : Nat := if k < 9 then k else if k < 11 then k + 2 else k + 3
theorem hcs_pos (h : Nat → Int) (k : Nat) (hk : k < 13) : (hcs h)[pos k]? = some (.int .i64 (h (pos k))) := by
  match k, hk with
  | 0, _ | 1, _ | 2, _ | 3, _ | 4, _ | 5, _ | 6, _ | 7, _ | 8, _ | 9, _ | 10, _ | 11, _ | 12, _ => rfl
  | k + 13, hk => omega
/-- The pointers to these. -/
def ptrs (b : Nat) : List Value := (List.range 13).map fun k => .pointer (some ⟨b, pos k, none⟩)
theorem ptrs_at (b k : Nat) (hk : k < 13) : (ptrs b)[k]? = some (.pointer (some ⟨b, pos k, none⟩)) := by
  unfold ptrs; rw [List.getElem?_map, List.getElem?_range hk]; rfl
/-- A new variable of several cells: the world behind it is a letter. -/
theorem wpList_alloc_rec {ops : Array Oper} {rest : List Oper} {op : Oper} {a : Act} {w : World} {Q : Exit → Act → World → Prop} (hgd : op.guard = none) (ty : TypeId) (ho : op.op = .alloc ty) (cs : List Value) (H : Nat) (hH : w.heap.size = H)
    (hz : (Tryd.prog.info? ty).bind (·.zero) = some (.agg cs.toArray))
    (hK : ∀ W, Rec19 W H 0 cs → Below H w W → W.heap.size = H + 1 → wpList Tryd.prog ops Q rest (a.put op.dst (.pointer (some ⟨H, 0, none⟩))) W) : wpList Tryd.prog ops Q (op :: rest) a w := by
  subst hH
  refine wpList_plain hgd fun K hK' => ?_
  unfold Oper.wp execOp
  cases hi : Tryd.prog.info? ty with
  | none => simp [hi] at hz
  | some i =>
    have hz' : i.zero = some (.agg cs.toArray) := by simpa [hi] using hz
    simp only [ho]
    simp [Instr.alloc, zeroValue, typeInfo, hi, hz', newVar, newRow, Value.cells, Result.andThen]
    exact hK' _ _ (hK _ (Rec19.new w ty cs) ((Below.refl _ _).alloc (Nat.le_refl _) _) (by simp))
theorem ptrs_one (b : Nat) : ∀ v ∈ ptrs b, v.oneCell' = true := by
  intro v hv; unfold ptrs at hv; rw [List.mem_map] at hv; obtain ⟨j, _, rfl⟩ := hv; rfl
theorem ptrs_len (b : Nat) : (ptrs b).length = 13 := by unfold ptrs; simp
/-- A copy as one step of a region that draws, its run known. -/
theorem step_copy {P : Program} {ops : Array Oper} {o : Oper} {a : Act} {w : World} {K : Act → World → Prop} {Q : Exit → Act → World → Prop} {E : Prop}
    (hg : o.guard = none) (d x : Operand) (dT sT : TypeId) (hop : o.op = Op.call { callee := Callee.builtin Builtin.copy, args := #[d, x], argTypes := #[dT, sT] })
    (v u : Value) (hd : a.eval d = v) (hx : a.eval x = u) {v' : Value} {w' : World} (hr : (Builtin.copy_ #[dT, sT] o.type #[v, u]).run P w = .ok v' w') (hK : K (a.put o.dst v') w') :
    if Region.wanted o (yielded ops a.tmps) = true then Oper.wp P o a w K Q else E := by
  have hw : Region.wanted o (yielded ops a.tmps) = true := by simp [Region.wanted, hg]
  rw [if_pos hw]
  unfold Oper.wp
  simp [execOp, hop, resolve, invoke, builtin, hd, hx, hr, Result.andThen]
  exact hK
/-- A store of several cells as one step of a region that draws. -/
theorem step_store {ops : Array Oper} {op : Oper} {a : Act} {w : World} {K : Act → World → Prop} {Q : Exit → Act → World → Prop} {E : Prop} (hg : op.guard = none) (ty : TypeId) (x y : Operand) (ho : op.op = .store ty x y)
    (n o : Nat) (cs vs : List Value) (hx : a.eval x = .pointer (some ⟨n, o, none⟩)) (hy : a.eval y = .agg vs.toArray)
    (h : Rec19 w n o cs) (hl : cs.length = vs.length) (hi : (Tryd.prog.info? ty).map (·.size) = some vs.length) (h1 : ∀ v ∈ vs, v.oneCell' = true)
    (hK : ∀ W2, Rec19 W2 n o vs → But n w W2 → W2.heap.size = w.heap.size → K (a.put op.dst undef) W2) :
    if Region.wanted op (yielded ops a.tmps) = true then Oper.wp Tryd.prog op a w K Q else E := by
  have hw : Region.wanted op (yielded ops a.tmps) = true := by simp [Region.wanted, hg]
  rw [if_pos hw]
  refine wp_store_mid ty x y ho n o vs.toArray hx hy ?_ ?_ (all_oneCell_toArray h1) (hK _ ?_ ?_ ?_)
  · simpa [hl] using h.2.1
  · simpa using hi
  · exact h.store vs hl
  · exact But.cells _ _ _
  · exact size_cells _ _ _ _
/-- Thirteen nils. -/
def nils : List Value := (List.range 13).map fun _ => .pointer none
set_option maxRecDepth 100000 in
set_option maxHeartbeats 400000 in
theorem numbers_any (b : Nat) (w : World) : Calls Tryd.prog 80 #[.pointer (some ⟨b, 0, none⟩)] w fun e w' => e = .returned (.agg (ptrs b).toArray) ∧ Below w.heap.size w w' := by
  go_enter Tryd.func80, Tryd.ntmps80
  go_wp2_with (first
    | (refine wpList_alloc_rec rfl 128 rfl nils w.heap.size rfl (by kernel_rfl) ?_; intro W1 hR1 hB1 hz1)
    | (refine wpList_build_to rfl 128 _ rfl (ptrs b).toArray (by kernel_rfl) ?_))
  have T1 : W1.drew.there w.heap.size 0 13 := hR1.2.1
  have hone : ∀ v ∈ ([.pointer (some ⟨b, 0, none⟩), .pointer (some ⟨b, 1, none⟩), .pointer (some ⟨b, 2, none⟩), .pointer (some ⟨b, 3, none⟩), .pointer (some ⟨b, 4, none⟩), .pointer (some ⟨b, 5, none⟩), .pointer (some ⟨b, 6, none⟩), .pointer (some ⟨b, 7, none⟩), .pointer (some ⟨b, 8, none⟩), .pointer (some ⟨b, 11, none⟩), .pointer (some ⟨b, 12, none⟩), .pointer (some ⟨b, 14, none⟩), .pointer (some ⟨b, 15, none⟩)] : List Value), v.oneCell' = true := ptrs_one b
  have hi : (Tryd.prog.info? 128).map (·.size) = some 13 := by kernel_rfl
  have hlen : ([.pointer (some ⟨b, 0, none⟩), .pointer (some ⟨b, 1, none⟩), .pointer (some ⟨b, 2, none⟩), .pointer (some ⟨b, 3, none⟩), .pointer (some ⟨b, 4, none⟩), .pointer (some ⟨b, 5, none⟩), .pointer (some ⟨b, 6, none⟩), .pointer (some ⟨b, 7, none⟩), .pointer (some ⟨b, 8, none⟩), .pointer (some ⟨b, 11, none⟩), .pointer (some ⟨b, 12, none⟩), .pointer (some ⟨b, 14, none⟩), .pointer (some ⟨b, 15, none⟩)] : List Value).length = 13 := rfl
  go_region_held3 (fun w' => True) (trivial) (fail)
  have hR2 : Rec19 (W1.drew.setCells w.heap.size 0 [.pointer (some ⟨b, 0, none⟩), .pointer (some ⟨b, 1, none⟩), .pointer (some ⟨b, 2, none⟩), .pointer (some ⟨b, 3, none⟩), .pointer (some ⟨b, 4, none⟩), .pointer (some ⟨b, 5, none⟩), .pointer (some ⟨b, 6, none⟩), .pointer (some ⟨b, 7, none⟩), .pointer (some ⟨b, 8, none⟩), .pointer (some ⟨b, 11, none⟩), .pointer (some ⟨b, 12, none⟩), .pointer (some ⟨b, 14, none⟩), .pointer (some ⟨b, 15, none⟩)]) w.heap.size 0 (ptrs b) := (show Rec19 W1.drew w.heap.size 0 nils from hR1).store (ptrs b) rfl
  have hB2 : But w.heap.size W1.drew (W1.drew.setCells w.heap.size 0 [.pointer (some ⟨b, 0, none⟩), .pointer (some ⟨b, 1, none⟩), .pointer (some ⟨b, 2, none⟩), .pointer (some ⟨b, 3, none⟩), .pointer (some ⟨b, 4, none⟩), .pointer (some ⟨b, 5, none⟩), .pointer (some ⟨b, 6, none⟩), .pointer (some ⟨b, 7, none⟩), .pointer (some ⟨b, 8, none⟩), .pointer (some ⟨b, 11, none⟩), .pointer (some ⟨b, 12, none⟩), .pointer (some ⟨b, 14, none⟩), .pointer (some ⟨b, 15, none⟩)]) := But.cells _ _ _
  generalize W1.drew.setCells w.heap.size 0 [.pointer (some ⟨b, 0, none⟩), .pointer (some ⟨b, 1, none⟩), .pointer (some ⟨b, 2, none⟩), .pointer (some ⟨b, 3, none⟩), .pointer (some ⟨b, 4, none⟩), .pointer (some ⟨b, 5, none⟩), .pointer (some ⟨b, 6, none⟩), .pointer (some ⟨b, 7, none⟩), .pointer (some ⟨b, 8, none⟩), .pointer (some ⟨b, 11, none⟩), .pointer (some ⟨b, 12, none⟩), .pointer (some ⟨b, 14, none⟩), .pointer (some ⟨b, 15, none⟩)] = W2 at hR2 hB2 ⊢
  go_wp2_with fail
  have hl := hR2.run_load 128 _ Tryd.underlying128 rfl (by rw [ptrs_len]; kernel_rfl)
  refine bodyPost_ret (v := .agg (ptrs b).toArray) (by simp [results, Tryd.results80, asAddr, hl]) rfl ⟨rfl, ?_⟩
  exact hB1.drew.trans (hB2.below (Nat.le_refl _) (by show _ ≤ W1.heap.size; omega))
set_option maxRecDepth 100000 in
set_option maxHeartbeats 400000 in
theorem sealAt_any (b off n C at' : Nat) (f : Nat → Int) (w : World) (h : Lies w b off n f) (hn : at' + 16 ≤ n) (hC : n ≤ C) :
    Calls Tryd.prog 63 #[.slice (some ⟨b, off, none⟩) n C, .int .i64 at'] w fun e w' => e = .returned (.agg (cl .u8 16 (fun j => f (at' + j))).toArray) ∧ Below w.heap.size w w' := by
  have HA : Hid (Arg w (some ⟨b, off + at', none⟩) (n - at') (fun j => f (at' + j))) := Arg.part h at' (n - at') (by omega)
  clear h
  have e1 : (at' : Int) ≤ n := by omega
  have e2 : (at' : Int) ≤ C := by omega
  have e3 : ¬ C = at' := by omega
  go_enter Tryd.func63, Tryd.ntmps63
  go_wp2_with (first
    | (refine wpList_alloc_row rfl 106 rfl .u8 16 w.heap.size rfl zero8_16 ?_; intro W1 hR1 hB1 hz1)
    | (refine wpList_alloc_row rfl 106 rfl .u8 16 (w.heap.size + 1) hz1 zero8_16 ?_; intro W2 hR2 hB2 hz2))
  have E2 : Below w.heap.size w W2 := hB1.trans (hB2.mono (by omega))
  obtain ⟨W3, hc1, hR3, hB3, hz3⟩ := copy_row W2.drew (w.heap.size + 1) 16 0 16 16 (n - at') (C - at') 16 (some ⟨b, off + at', none⟩) (fun j => f (at' + j)) (fun _ => 0) hR2.drew (by omega) (Nat.min_eq_right (by omega)).symm (HA.out.below E2.drew)
  have R1 := (hR1.below (by rw [hz1]; exact hB2)).drew.but hB3 (by omega)
  have E3 : Below w.heap.size w W3 := E2.drew.trans (hB3.below (by omega) (by show _ ≤ W2.heap.size; omega))
  go_region_held3 (fun w' => True) (trivial) (refine step_copy rfl (.tmp 6) (.tmp 9) 27 27 rfl _ _ rfl rfl (hc1 _) ?_)
  go_wp2_with (first
    | (refine wpList_load_irow rfl 106 (.tmp 5) rfl (w.heap.size + 1) .u8 16 _ rfl _ Tryd.underlying106 rfl (by kernel_rfl) hR3 ?_)
    | (refine wpList_store_row rfl 106 (.tmp 4) (.tmp 11) rfl w.heap.size .u8 16 _ _ rfl rfl R1 (by kernel_rfl) ?_; intro W5 hR5 hB5 hz5))
  have hl := hR5.run_load 106 _ Tryd.underlying106 rfl (by kernel_rfl)
  refine bodyPost_ret (v := .agg (cl .u8 16 (over (fun _ => 0) 0 16 (fun j => f (at' + j)))).toArray) (by simp [results, Tryd.results63, asAddr, Act.put, hl]) rfl ⟨?_, E3.trans (hB5.below (Nat.le_refl _) E3.size)⟩
  rw [cl_congr .u8 16 _ (fun j => f (at' + j)) (fun j hj => by unfold over; rw [if_pos (by omega), Nat.sub_zero])]
end Go.Proofs.YtijpoipcadhchaaDoor
