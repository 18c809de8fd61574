/-
  Walks, not a claim by itself: the chapter's examples. By the verifier.
-/
import Derived.Test.YtkmgjpeoognpjaaDoorMKn3
namespace Go.Proofs.YtkmgjpeoognpjaaDoor
open Go.RowKit
theorem build_run {a : Act} {w : World} {o : Oper} (t : TypeId) (parts : Array (Nat × Operand)) (ho : o.op = .build t parts) (cells : Array Value) (hf : Tryd.prog.built t (parts.map fun (i, x) => (i, a.eval x)).toList = some cells) :
    (execOp a.eval o).run Tryd.prog w = .ok (.value (.agg cells)) w := by
  unfold execOp
  simp only [ho, Sem.run_bind, run_build w t _ cells hf, Result.andThen_ok]
  rfl
theorem make_run {a : Act} {w w' : World} {o : Oper} (t : TypeId) (x y : Operand) (ho : o.op = .makeSlice t x y) (vx vy v : Value) (hx : a.eval x = vx) (hy : a.eval y = vy) (hr : (Instr.makeSlice t vx vy).run Tryd.prog w = .ok v w') :
    (execOp a.eval o).run Tryd.prog w = .ok (.value v) w' := by
  unfold execOp
  simp only [ho, hx, hy, Sem.run_bind, hr, Result.andThen_ok]
  rfl
theorem wpList_build_w {ops : Array Oper} {rest : List Oper} {o : Oper} {a : Act} {w : World} {Q : Exit → Act → World → Prop} (hw : Region.wanted o (yielded ops a.tmps) = true) (t : TypeId) (parts : Array (Nat × Operand)) (ho : o.op = .build t parts)
    (cells : Array Value) (hf : Tryd.prog.built t (parts.map fun (i, x) => (i, a.eval x)).toList = some cells)
    (h : wpList Tryd.prog ops Q rest (a.put o.dst (.agg cells)) w) : wpList Tryd.prog ops Q (o :: rest) a w := by
  refine wpList_step fun K hK' => ?_
  rw [if_pos hw]
  unfold Oper.wp
  rw [build_run t parts ho cells hf]
  exact hK' _ _ h
/-- A header whose Replica may not be. -/
def h17 (j : Nat) : Int := if j = 0 then 1 else if j = 1 then 7 else 0
theorem chk17 : chk h17 = 2 := by kernel_rfl
theorem no_zero : okH (upd (fun _ => 0) 2 ((0 : Nat) : Int)) = false := by kernel_rfl
theorem seal_zero (w : World) (hT : Tab w) : Calls Tryd.prog 9 #[.agg (msg (fun _ => 0) none 0 0).toArray] w fun e w' => e = .returned (.tuple #[.slice none 0 0, .int .i64 2]) ∧ Below w.heap.size w w' :=
  mseal_arg _ _ 0 0 w (by omega) hT no_zero
set_option maxRecDepth 100000 in
set_option maxHeartbeats 400000 in
theorem known_any (w : World) (hT : Tab w) : Calls Tryd.prog 5 #[] w fun e w' => e = .returned (.bool true) ∧ Below w.heap.size w w' := by
  have hT0 := hT.2
  have TT : Hid (Tab w) := hT
  clear hT
  go_enter Tryd.func5, Tryd.ntmps5
  go_wp2_with (first
    | (go_at_call 22; refine (ab_any _ TT.out).mono ?_; rintro e W1 ⟨x, g, rfl, hg, hL1, hR1, hB1⟩
       have S1 : Hid (abS x g W1) := ⟨hL1, hR1, TT.out.below hB1 hT0⟩
       have E1 : Hid (Below w.heap.size w W1) := hB1
       clear hL1 hR1 hB1)
    | (refine wpList_alloc_rec rfl 29 rfl (msg (fun _ => 0) none 0 0) W1.heap.size rfl zeroMsg ?_; intro W2 R2 B2 z2)
    | (refine wpList_store_rec rfl 29 (.tmp 1) (.tmp 18) rfl W1.heap.size 0 _ (msg hAb (some ⟨x, 0, none⟩) 2 2) rfl rfl R2 rfl (by kernel_rfl) (msg_one _ _ _ _) ?_; intro W3 R3 B3
       have F3 : Below W1.heap.size W1 W3 := B2.trans (B3.below (Nat.le_refl _) (by omega))
       have S3 : Hid (abS x g W3) := S1.out.below F3
       have E3 : Hid (Below w.heap.size w W3) := E1.out.trans (F3.mono E1.out.size)
       have M3 : Hid (Rec19 W3 W1.heap.size 0 (msg hAb (some ⟨x, 0, none⟩) 2 2)) := R3
       clear F3 R2 B2 z2 R3 B3 S1 E1)
    | (go_at_call 16; refine (awake_any _ S3.out.2.2).mono ?_; rintro e W4 ⟨rfl, hB4⟩
       have S4 : Hid (abS x g W4) := S3.out.below hB4
       have E4 : Hid (Below w.heap.size w W4) := E3.out.trans (hB4.mono E3.out.size)
       have M4 : Hid (Rec19 W4 W1.heap.size 0 (msg hAb (some ⟨x, 0, none⟩) 2 2)) := M3.out.below hB4
       clear hB4 S3 E3 M3)
    | (go_at_call 17; refine (open_ab257 g _ S4.out.2.2 S4.out.2.1).mono ?_; rintro e W5 ⟨rfl, hB5⟩)
    | (refine wpList_alloc_rec rfl 29 rfl (msg (fun _ => 0) none 0 0) W5.heap.size rfl zeroMsg ?_; intro W6 R6 B6 z6)
    | (refine wpList_store_rec rfl 29 (.tmp 4) (.tmp 31) rfl W5.heap.size 0 _ (msg (fun _ => 0) none 0 0) rfl rfl R6 rfl (by kernel_rfl) (msg_one _ _ _ _) ?_; intro W7 R7 B7
       have F7 : Below W4.heap.size W4 W7 := (hB5.trans (B6.mono hB5.size)).trans (B7.below hB5.size (by have := hB5.size; omega))
       have S7 : Hid (abS x g W7) := S4.out.below F7
       have E7 : Hid (Below w.heap.size w W7) := E4.out.trans (F7.mono E4.out.size)
       have M7 : Hid (Rec19 W7 W1.heap.size 0 (msg hAb (some ⟨x, 0, none⟩) 2 2)) := M4.out.below F7
       clear F7 hB5 R6 B6 z6 R7 B7 S4 E4 M4)
    | (go_at_call 23; refine (turned_any (some ⟨g, 0, none⟩) 258 258 50 abF _ (Arg.of (S7.out.2.1.lies abF_byte)) (by omega) (by omega)).mono ?_; rintro e W8 ⟨g8, cap8, rfl, hg8, hc8, hR8, hB8⟩)
    | (go_at_call 17; refine (open_turned g8 cap8 50 _ (S7.out.2.2.below hB8 S7.out.2.2.2) hc8 hR8 x50 ab_turn50).mono ?_; rintro e W9 ⟨rfl, hB9⟩)
    | (refine wpList_alloc_rec rfl 29 rfl (msg (fun _ => 0) none 0 0) W9.heap.size rfl zeroMsg ?_; intro X1 R1 B1 z1)
    | (refine wpList_store_rec rfl 29 (.tmp 6) (.tmp 37) rfl W9.heap.size 0 _ (msg (fun _ => 0) none 0 0) rfl rfl R1 rfl (by kernel_rfl) (msg_one _ _ _ _) ?_; intro X2 R2 B2
       have F2 : Below W7.heap.size W7 X2 := (hB8.trans (hB9.mono hB8.size)).trans ((B1.trans (B2.below (Nat.le_refl _) (by omega))).mono (Nat.le_trans hB8.size hB9.size))
       have T2 : Hid (abS x g X2) := S7.out.below F2
       have G2 : Hid (Below w.heap.size w X2) := E7.out.trans (F2.mono E7.out.size)
       have N2 : Hid (Rec19 X2 W1.heap.size 0 (msg hAb (some ⟨x, 0, none⟩) 2 2)) := M7.out.below F2
       clear F2 hB8 hB9 hR8 R1 B1 z1 R2 B2 S7 E7 M7)
    | (go_at_call 19; refine (head_ab g _ T2.out.2.2 T2.out.2.1).mono ?_; rintro e X3 ⟨rfl, hB3⟩)
    | (refine wpList_alloc_rec rfl 26 rfl (hcs fun _ => 0) X3.heap.size rfl zeroHdr ?_; intro X4 R4 B4 z4)
    | (refine wpList_store_rec rfl 26 (.tmp 8) (.tmp 43) rfl X3.heap.size 0 _ (hcs hAb) rfl rfl R4 rfl (by kernel_rfl) (hcs_one _) ?_; intro X5 R5 B5
       have F5 : Below X2.heap.size X2 X5 := hB3.trans ((B4.trans (B5.below (Nat.le_refl _) (by omega))).mono hB3.size)
       have T5 : Hid (abS x g X5) := T2.out.below F5
       have G5 : Hid (Below w.heap.size w X5) := G2.out.trans (F5.mono G2.out.size)
       have N5 : Hid (Rec19 X5 W1.heap.size 0 (msg hAb (some ⟨x, 0, none⟩) 2 2)) := N2.out.below F5
       have H5 : Hid (Rec19 X5 X3.heap.size 0 (hcs hAb)) := R5
       clear F5 hB3 R4 B4 z4 R5 B5 T2 G2 N2)
    | (go_at_call 19; refine (head_len (some ⟨g, 0, none⟩) 255 258 _ (by omega)).mono ?_; rintro e X6 ⟨rfl, hB6⟩)
    | (refine wpList_alloc_rec rfl 26 rfl (hcs fun _ => 0) X6.heap.size rfl zeroHdr ?_; intro X7 R7 B7 z7)
    | (refine wpList_store_rec rfl 26 (.tmp 10) (.tmp 49) rfl X6.heap.size 0 _ (hcs fun _ => 0) rfl rfl R7 rfl (by kernel_rfl) (hcs_one _) ?_; intro X8 R8 B8
       have F8 : Below X5.heap.size X5 X8 := hB6.trans ((B7.trans (B8.below (Nat.le_refl _) (by omega))).mono hB6.size)
       have T8 : Hid (Tab X8) := (T5.out.below F8).2.2
       have G8 : Hid (Below w.heap.size w X8) := G5.out.trans (F8.mono G5.out.size)
       have N8 : Hid (Rec19 X8 W1.heap.size 0 (msg hAb (some ⟨x, 0, none⟩) 2 2)) := N5.out.below F8
       have H8 : Hid (Rec19 X8 X3.heap.size 0 (hcs hAb)) := H5.out.below F8
       clear F8 hB6 R7 B7 z7 R8 B8 T5 G5 N5 H5)
    | (refine wpList_build_to rfl 29 _ rfl (msg (fun _ => 0) none 0 0).toArray (by kernel_rfl) ?_)
    | (go_at_call 9; refine (seal_zero _ T8.out).mono ?_; rintro e Y ⟨rfl, hBY⟩
       have TY : Hid (Tab Y) := T8.out.below hBY T8.out.2
       have GY : Hid (Below w.heap.size w Y) := G8.out.trans (hBY.mono G8.out.size)
       have NY : Hid (Rec19 Y W1.heap.size 0 (msg hAb (some ⟨x, 0, none⟩) 2 2)) := N8.out.below hBY
       have HY : Hid (Rec19 Y X3.heap.size 0 (hcs hAb)) := H8.out.below hBY
       clear hBY T8 G8 N8 H8))
  have m1 : (Instr.makeSlice 27 (.int .i64 1025) (.int .i64 1025)).run Tryd.prog Y.drew = .ok (.slice (some ⟨Y.heap.size, 0, none⟩) 1025 1025) (Y.drew.alloc (.cells (zeros 1025) 5)) := make_bytes 1025 (by decide) Y.drew
  have ra : Y.drew.rangeAt W1.heap.size 0 (hcs hAb) := NY.out.head.1
  have bz : Below Y.heap.size Y (Y.drew.alloc (.cells (zeros 1025) 5)) := (Below.refl _ _).drew.alloc (Nat.le_refl _) _
  have HZ : Hid (Below Y.heap.size Y (Y.drew.alloc (.cells (zeros 1025) 5))) := bz
  have hZ : (Y.drew.alloc (.cells (zeros 1025) 5)).rangeAt W1.heap.size 0 (hcs hAb) := (NY.out.below bz).head.1
  clear bz
  generalize Y.drew.alloc (.cells (zeros 1025) 5) = Z at m1 HZ hZ
  refine wp_region_noPanic ?_
  refine wp_region_held_drew (S := fun w' => w'.rangeAt W1.heap.size 0 (hcs hAb)) (by kernel_rfl) ?_ (fun hHeld => ?_)
  · exact ra
  refine take_at (i := 0) (v := ?_) (some 57) rfl rfl (by kernel_rfl) (by kernel_rfl) (by kernel_rfl) (fun _ _ _ h => h) (Or.inl ⟨by rfl, ?_⟩) (by assumption) ?_
  rotate_left
  · (intro w hSw; (try dsimp only at hSw); go_simp; try with_reducible rfl)
  simp only [Act.put, List.setIfInBounds_toArray, List.set_cons_zero, List.set_cons_succ]
  refine take_at (i := 1) (v := _) (some 58) rfl rfl (by kernel_rfl) (by kernel_rfl) (by kernel_rfl) (fun _ _ _ h => h) (yieldsIf_load_mid (by rfl) _ _ rfl _ _ rfl _ _ (fun _ h => h) Tryd.underlying26 rfl (by kernel_rfl)) (by assumption) ?_
  simp only [Act.put, List.setIfInBounds_toArray, List.set_cons_zero, List.set_cons_succ]
  refine step_at (i := 2) (some 59) rfl rfl (by rfl) (by kernel_rfl) (.slice (some ⟨Y.heap.size, 0, none⟩) 1025 1025) Z (make_run 27 (.const (.int .i64 1025)) (.const (.int .i64 1025)) rfl (.int .i64 1025) (.int .i64 1025) _ rfl rfl m1) hZ (fun hHeld => ?_)
  simp only [Act.put, List.setIfInBounds_toArray, List.set_cons_zero, List.set_cons_succ]
  refine step_at (i := 3) (some 60) rfl rfl (by rfl) (by kernel_rfl) _ Z (build_run 29 _ rfl (msg hAb (some ⟨Y.heap.size, 0, none⟩) 1025 1025).toArray (by kernel_rfl)) hZ (fun hHeld => ?_)
  simp only [Act.put, List.setIfInBounds_toArray, List.set_cons_zero, List.set_cons_succ]
  refine call_at (i := 4) (some 61) 9 _ _ rfl rfl rfl (by rfl) (by kernel_rfl) #[.agg (msg hAb (some ⟨Y.heap.size, 0, none⟩) 1025 1025).toArray] rfl Tryd.func9 (by kernel_rfl) (by kernel_rfl) ?_
  refine (mseal_long hAb (some ⟨Y.heap.size, 0, none⟩) 1025 1025 _ (by omega)).mono ?_; rintro e V ⟨rfl, hV⟩
  refine ⟨_, rfl, ((NY.out.below HZ.out).below hV).head.1, fun hHeld => ?_⟩
  simp only [Act.put, List.setIfInBounds_toArray, List.set_cons_zero, List.set_cons_succ]
  refine take_at (i := 5) (v := ?_) (some 56) rfl rfl (by kernel_rfl) (by kernel_rfl) (by kernel_rfl) (fun _ _ _ h => h) (Or.inl ⟨by rfl, ?_⟩) (by assumption) ?_
  rotate_left
  · (intro w hSw; (try dsimp only at hSw); go_simp; try with_reducible rfl)
  simp only [Act.put, List.setIfInBounds_toArray, List.set_cons_zero, List.set_cons_succ]
  refine take_at (i := 6) (v := ?_) (some 62) rfl rfl (by kernel_rfl) (by kernel_rfl) (by kernel_rfl) (fun _ _ _ h => h) (Or.inl ⟨by rfl, ?_⟩) (by assumption) ?_
  rotate_left
  · (intro w hSw; (try dsimp only at hSw); go_simp; try with_reducible rfl)
  simp only [Act.put, List.setIfInBounds_toArray, List.set_cons_zero, List.set_cons_succ]
  refine take_at (i := 7) (v := ?_) (some 63) rfl rfl (by kernel_rfl) (by kernel_rfl) (by kernel_rfl) (fun _ _ _ h => h) (Or.inl ⟨by rfl, ?_⟩) (by assumption) ?_
  rotate_left
  · (intro w hSw; (try dsimp only at hSw); go_simp; try with_reducible rfl)
  simp only [Act.put, List.setIfInBounds_toArray, List.set_cons_zero, List.set_cons_succ]
  refine take_at (i := 8) (v := ?_) (some 14) rfl rfl (by kernel_rfl) (by kernel_rfl) (by kernel_rfl) (fun _ _ _ h => h) (Or.inl ⟨by rfl, ?_⟩) (by assumption) ?_
  rotate_left
  · (intro w hSw; (try dsimp only at hSw); go_simp; try with_reducible rfl)
  simp only [Act.put, List.setIfInBounds_toArray, List.set_cons_zero, List.set_cons_succ]
  refine take_at (i := 9) (v := ?_) (some 15) rfl rfl (by kernel_rfl) (by kernel_rfl) (by kernel_rfl) (fun _ _ _ h => h) (Or.inl ⟨by rfl, ?_⟩) (by assumption) ?_
  rotate_left
  · (intro w hSw; (try dsimp only at hSw); go_simp; try with_reducible rfl)
  simp only [Act.put, List.setIfInBounds_toArray, List.set_cons_zero, List.set_cons_succ]
  refine wpAnyH_done (by kernel_rfl) ?_ _
  refine NoPanic.normal ?_
  have FV : Below Y.heap.size Y V := HZ.out.trans (hV.mono HZ.out.size)
  have TV : Hid (Tab V) := TY.out.below FV TY.out.2
  have GV : Hid (Below w.heap.size w V) := GY.out.trans (FV.mono GY.out.size)
  have NV : Hid (Rec19 V W1.heap.size 0 (hcs hAb)) := (NY.out.below FV).head
  have HV : Hid (Rec19 V X3.heap.size 0 (hcs hAb)) := HY.out.below FV
  clear FV hV TY GY NY HY HZ hZ m1 ra
  go_wp2_with (first
    | (refine wpList_load_w (by rfl) 26 (.tmp 8) rfl X3.heap.size 0 (hcs hAb) rfl _ Tryd.underlying26 rfl (by kernel_rfl) HV.out ?_)
    | (refine wpList_load_w (by rfl) 26 (.tmp 72) rfl W1.heap.size 0 (hcs hAb) rfl _ Tryd.underlying26 rfl (by kernel_rfl) NV.out ?_)
    | (refine wpList_eql_w (by rfl) 26 26 (.tmp 71) (.tmp 73) rfl (hcs hAb).toArray rfl rfl (eql_hdr hAb) guard_hdr ?_)
    | (refine wpList_build_w (by rfl) 26 _ rfl (hcs h17).toArray (by kernel_rfl) ?_)
    | (go_at_call 12; refine (check_any h17 _ TV.out).mono ?_; rintro e V2 ⟨rfl, hV2⟩; rw [chk17]; have G2 : Hid (Below w.heap.size w V2) := GV.out.trans (hV2.mono GV.out.size); clear hV2))
  go_ret
  exact ⟨rfl, G2.out⟩
end Go.Proofs.YtkmgjpeoognpjaaDoor
