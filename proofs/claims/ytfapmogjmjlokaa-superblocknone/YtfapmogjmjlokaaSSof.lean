/-
  Walks, not a claim by itself: superblock's superOf. By the verifier.
-/
import Derived.Test.YtfapmogjmjlokaaSSof0
import Derived.Test.YtfapmogjmjlokaaDLoosen
namespace Go.Proofs.Ytfapmogjmjlokaa
open Go.RowKit
theorem store_skip1 {P : Program} {a : Act} {w : World} {o : Oper} (t : TypeId) (x y : Operand) (hop : o.op = .store t x y) (X Y : Value) (hx : a.eval x = X) (hy : a.eval y = Y) {w' : World} (hr : (Instr.storeAt t X Y).run P w = .ok () w') : (execOp a.eval o).run P w = .ok .skip w' := by
  simp [execOp, hop, hx, hy, hr, Result.andThen]
theorem app_run1 {P : Program} {a : Act} {w : World} {o : Oper} (d x : Operand) (dT sT : TypeId) (hop : o.op = Op.call { callee := Callee.builtin Builtin.append, args := #[d, x], argTypes := #[dT, sT] })
    (v u : Value) (hd : a.eval d = v) (hx : a.eval x = u) {v' : Value} {w' : World} (hr : (Builtin.append_ #[dT, sT] o.type #[v, u]).run P w = .ok v' w') : (execOp a.eval o).run P w = .ok (.value v') w' := by
  simp [execOp, hop, resolve, invoke, builtin, hd, hx, hr, Result.andThen]
theorem store_heads (W : World) (b : Nat) (v u : Value) (c : W.cell? ⟨b, 10, none⟩ = some u) (fr : W.frozen? ⟨b, 10, none⟩ = false) (hv : ∃ a n C, v = .slice a n C) : (Instr.storeAt 24 (.pointer (some ⟨b, 10, none⟩)) v).run Try.prog W = .ok () (W.setCell ⟨b, 10, none⟩ v) := by
  obtain ⟨a, n, C, rfl⟩ := hv
  simp [go_sem, c, fr]
/-- The region in which a head is appended. -/
def sofS10 (b : Nat) (v : Value) (X : World) : Prop := X.cell? ⟨b, 10, none⟩ = some v
set_option maxRecDepth 100000 in
set_option maxHeartbeats 1000000 in
theorem superOf_any (g : Nat) (f : Nat → Int) (w : World) (hL : Lies w g 0 496 f) :
    Calls Try.prog 37 #[.slice (some ⟨g, 0, none⟩) 496 496] w (SofPost w f) := by
  have HL : Hid (Lies w g 0 496 f) := hL
  have RB : Hid (∀ i, i < 124 → 0 ≤ rdN f i ∧ rdN f i < 4294967296) := fun i hi => rdN_bound f i (fun j hj => hL.2.1 _ (by omega))
  clear hL
  have T1 : Hid True := trivial
  have T2 : Hid True := trivial
  go_enter Try.func37, Try.ntmps37
  go_wp2_with (first
    | (have _q := T1; clear T1; refine wpList_alloc_rec rfl 26 rfl (supC sup0 none 0) w.heap.size rfl zero_super ?_; intro W0 R0 B0 z0)
    | (have _q := T2; clear T2; refine wpList_alloc_rec rfl 26 rfl (supC sup0 none 0) (w.heap.size + 1) z0 zero_super ?_; intro W1 R1 B1 z1)
    | (go_at_call 59; refine (taker_let _ _ _ _ _ rfl).mono ?_; rintro e W2 ⟨rfl, c2, f2, B2, z2⟩; rw [z1] at c2 f2 z2 ⊢)
    | (go_at_call 55; refine (fields_any (w.heap.size + 1) _).mono ?_; rintro e W3 ⟨rfl, B3⟩))
  have L0 : SofS w W3 f g 0 (sF f 0) none 0 := by
    have q1 : Below w.heap.size w W1 := B0.trans (B1.mono (by omega))
    have q2 : Below w.heap.size w W2 := q1.trans (B2.mono (by omega))
    have r0 : Below W0.heap.size W0 W2 := (B1.mono (by omega)).trans (B2.mono (by omega))
    have gl : g < w.heap.size := HL.out.2.2
    refine SofS.below ⟨⟨⟨0, c2, fun _ => rfl⟩, f2, HL.out.below q2, by omega, by omega⟩, R1.below (B2.mono (by omega)), R0.below r0, q2, gl⟩ B3
  have ST : Hid (sof1Rel w f g (.int .i64 0) W3) := ⟨0, by omega, rfl, L0⟩
  clear L0 R0 B0 z0 R1 B1 z1 c2 f2 B2 z2 B3 HL
  go_loopw [14] (fun i wr => sof1Rel w f g i wr) (fun i _ => 9 - (RowKit.intOf i).toNat)
  case atStart => exact ST.out
  case round =>
    obtain ⟨k, hk9, rfl, hL⟩ := hrel
    clear ST
    have LL : Hid (SofS w wr f g k (sF f k) none 0) := hL
    by_cases hlt : k < 9
    · have p1 : ∀ w', (Instr.index 101 (.agg (fptr (w.heap.size + 1)).toArray) (.int .i64 k)).run Try.prog w' = .ok (.pointer (some ⟨w.heap.size + 1, k, none⟩)) w' := fun w' => fptr_index _ w' k hlt
      obtain ⟨v, hv⟩ : ∃ v, rdN f k = v := ⟨_, rfl⟩
      have VV : Hid (rdN f k = v) := hv
      have vb := RB.out k (by omega)
      rw [hv] at vb
      obtain ⟨v0, v1⟩ := vb
      clear hL hv
      have e0 : (k : Int) < 9 := by omega
      go_wp2_with (go_at_call 73; refine (sof_take w _ f g k (sF f k) none 0 LL.out (by omega)).mono ?_; rintro e w5 ⟨rfl, h5, _, _⟩; rw [VV.out]
                   obtain ⟨d0, f0⟩ := h5.recd.cel k _ (supC_x (sF f k) none 0 k hlt)
                   have L5 : Hid (SofS w (w5.setCell ⟨w.heap.size + 1, k, none⟩ (.int .i64 v)) f g (k + 1) (sF f (k + 1)) none 0) := h5.set k (.int .i64 v) (by rw [← VV.out]; exact sF_set f k hlt)
                   clear h5)
      go_roundw
      case rel => exact ⟨k + 1, by omega, by go_num, L5.out⟩
      case measure => simp [RowKit.intOf]; omega
    · obtain rfl : k = 9 := by omega
      rw [show ((9 : Nat) : Int) = 9 from rfl]
      clear hL
      obtain ⟨v9, hv9⟩ : ∃ v, rdN f 9 = v := ⟨_, rfl⟩
      have V9 : Hid (rdN f 9 = v9) := hv9
      have vb9 := RB.out 9 (by omega)
      rw [hv9] at vb9
      obtain ⟨v90, v91⟩ := vb9
      obtain ⟨n, hn⟩ : ∃ n : Nat, rdN f 10 = n := ⟨(rdN f 10).toNat, by have := RB.out 10 (by omega); omega⟩
      have V10 : Hid (rdN f 10 = n) := hn
      have vb10 := RB.out 10 (by omega)
      rw [hn] at vb10
      obtain ⟨_, v101⟩ := vb10
      clear hv9 hn
      have K9 : Hid True := trivial
      have K10 : Hid True := trivial
      by_cases bad : 1 < v9 ∨ 32 < n
      · have NO : Hid (¬ SupOk f) := fun h => by
          have h1 := h.1
          have h2 := h.2.1
          rw [V9.out] at h1
          rw [V10.out] at h2
          omega
        by_cases b1 : 1 < v9
        · go_wp2_with (first
            | (go_at_call 73; have _q := K9; clear K9; refine (sof_take w _ f g 9 (sF f 9) none 0 LL.out (by omega)).mono ?_; rintro e w5 ⟨rfl, h5, _, _⟩; rw [V9.out]; have L5 : Hid (SofS w w5 f g 10 (sF f 9) none 0) := h5; clear h5)
            | (go_at_call 73; have _q := K10; clear K10; refine (sof_take w _ f g 10 (sF f 9) none 0 L5.out (by omega)).mono ?_; rintro e w6 ⟨rfl, h6, _, _⟩; rw [V10.out]; have L6 : Hid (SofS w w6 f g 11 (sF f 9) none 0) := h6; clear h6)
            | (refine wpList_build_to rfl 26 _ rfl (supC sup0 none 0).toArray (by kernel_rfl) ?_)
            | (refine wpList_store_rec rfl 26 (.tmp 2) (.tmp 33) rfl w.heap.size 0 _ (supC sup0 none 0) rfl rfl L6.out.res rfl (by kernel_rfl) (supC_one _ _ _) ?_; intro W9 R9 B9))
          have hl := R9.run_load 26 _ Try.underlying26 rfl (by kernel_rfl)
          refine bodyPost_ret (v := .tuple #[supV sup0 none 0, .bool false]) (by simp [results, Try.results37, asAddr, supV, hl]) rfl (.inl ⟨NO.out, rfl, ?_⟩)
          exact L6.out.bel.trans (B9.below (Nat.le_refl _) L6.out.bel.size)
        · have b2 : (32 : Int) < n := by omega
          go_wp2_with (first
            | (go_at_call 73; have _q := K9; clear K9; refine (sof_take w _ f g 9 (sF f 9) none 0 LL.out (by omega)).mono ?_; rintro e w5 ⟨rfl, h5, _, _⟩; rw [V9.out]; have L5 : Hid (SofS w w5 f g 10 (sF f 9) none 0) := h5; clear h5)
            | (go_at_call 73; have _q := K10; clear K10; refine (sof_take w _ f g 10 (sF f 9) none 0 L5.out (by omega)).mono ?_; rintro e w6 ⟨rfl, h6, _, _⟩; rw [V10.out]; have L6 : Hid (SofS w w6 f g 11 (sF f 9) none 0) := h6; clear h6)
            | (refine wpList_build_to rfl 26 _ rfl (supC sup0 none 0).toArray (by kernel_rfl) ?_)
            | (refine wpList_store_rec rfl 26 (.tmp 2) (.tmp 33) rfl w.heap.size 0 _ (supC sup0 none 0) rfl rfl L6.out.res rfl (by kernel_rfl) (supC_one _ _ _) ?_; intro W9 R9 B9))
          have hl := R9.run_load 26 _ Try.underlying26 rfl (by kernel_rfl)
          refine bodyPost_ret (v := .tuple #[supV sup0 none 0, .bool false]) (by simp [results, Try.results37, asAddr, supV, hl]) rfl (.inl ⟨NO.out, rfl, ?_⟩)
          exact L6.out.bel.trans (B9.below (Nat.le_refl _) L6.out.bel.size)
      · have g1 : ¬ 1 < v9 := by omega
        have g2 : ¬ (32 : Int) < n := by omega
        clear bad v90 v91 v101
        go_wp2_with (first
          | (go_at_call 73; have _q := K9; clear K9; refine (sof_take w _ f g 9 (sF f 9) none 0 LL.out (by omega)).mono ?_; rintro e w5 ⟨rfl, h5, _, _⟩; rw [V9.out]; have L5 : Hid (SofS w w5 f g 10 (sF f 9) none 0) := h5; clear h5)
          | (go_at_call 73; have _q := K10; clear K10; refine (sof_take w _ f g 10 (sF f 9) none 0 L5.out (by omega)).mono ?_; rintro e w6 ⟨rfl, h6, _, _⟩; rw [V10.out]
             obtain ⟨d9, f9⟩ := h6.recd.cel 9 (.bool false) rfl
             have L7 : Hid (SofS w (w6.setCell ⟨w.heap.size + 1, 9, none⟩ (.bool (v9 == 1))) f g 11 (sH f 0) none 0) := h6.set 9 (.bool (v9 == 1)) (sF_9' f v9 V9.out)
             clear h6))
        have n32 : n ≤ 32 := by omega
        have ST : Hid (sof2Rel w f g n (.int .u32 0) (w6.setCell ⟨w.heap.size + 1, 9, none⟩ (.bool (v9 == 1)))) := ⟨0, by omega, rfl, none, 0, L7.out, OwnI.nil _ _ _ _ _⟩
        clear L5 L7 d9 f9 LL
        go_loopw [38] (fun i wr => sof2Rel w f g n i wr) (fun i _ => n - (RowKit.intOf i).toNat)
        case atStart => exact ST.out
        case round =>
          obtain ⟨k, hkn, rfl, a, C, hH⟩ := hrel
          clear ST
          have HH : Hid (SofH w wr f g (11 + 2 * k) k a C) := hH
          clear hH
          by_cases hlt2 : k < n
          · obtain ⟨x, hx⟩ : ∃ v, rdN f (11 + 2 * k) = v := ⟨_, rfl⟩
            have X : Hid (rdN f (11 + 2 * k) = x) := hx
            have xb := RB.out (11 + 2 * k) (by omega)
            rw [hx] at xb
            obtain ⟨x0, x1⟩ := xb
            obtain ⟨y, hy⟩ : ∃ v, rdN f (11 + 2 * k + 1) = v := ⟨_, rfl⟩
            have Y : Hid (rdN f (11 + 2 * k + 1) = y) := hy
            have yb := RB.out (11 + 2 * k + 1) (by omega)
            rw [hy] at yb
            obtain ⟨y0, y1⟩ := yb
            have yw : IntKind.i64.wrap y = y := by rw [IntKind.wrap_i64]; omega
            clear hx hy
            have e0 : (k : Int) < n := by omega
            have K7 : Hid True := trivial
            go_wp2_with (go_at_call 73; have _q := K7; clear K7; refine (sof_take w _ f g (11 + 2 * k) (sH f k) a C HH.out.1 (by omega)).mono ?_; rintro e w7 ⟨rfl, h7, b7, _⟩; rw [X.out]
                         have H7 : Hid (SofH w w7 f g (11 + 2 * k + 1) k a C) := HH.out.but b7 (by omega) h7
                         have d7 : Hid (w7.cell? ⟨w.heap.size + 1, 10, none⟩ = some (.slice a k C)) := (h7.recd.cel 10 _ rfl).1
                         clear h7 b7)
            have H7d : Hid (SofH w w7.drew f g (11 + 2 * k + 1) k a C) := ⟨H7.out.1.below (Below.refl _ _).drew, H7.out.2.below (Below.refl _ _).drew⟩
            refine wp_region_noPanic ?_
            refine wp_region_held_drew (S := fun _ => True) (by kernel_rfl) trivial (fun _ => ?_)
            refine take_at (i := 0) (v := ?_) (some 43) rfl rfl (by kernel_rfl) (by kernel_rfl) (by kernel_rfl) (fun _ _ _ h => h) (Or.inl ⟨by rfl, ?_⟩) trivial ?_
            rotate_left
            · (intro w hSw; go_simp; try with_reducible rfl)
            simp only [Act.put, List.setIfInBounds_toArray, List.set_cons_zero, List.set_cons_succ]
            refine take_at (i := 2) (v := ?_) (some 45) rfl rfl (by kernel_rfl) (by kernel_rfl) (by kernel_rfl) (fun _ _ _ h => h) (Or.inl ⟨by rfl, ?_⟩) trivial ?_
            rotate_left
            · (intro w hSw; go_simp; try with_reducible rfl)
            simp only [Act.put, List.setIfInBounds_toArray, List.set_cons_zero, List.set_cons_succ]
            refine take_at (i := 3) (v := ?_) (some 46) rfl rfl (by kernel_rfl) (by kernel_rfl) (by kernel_rfl) (fun _ _ _ h => h) (Or.inl ⟨by rfl, ?_⟩) trivial ?_
            rotate_left
            · (intro w hSw; go_simp; try with_reducible rfl)
            simp only [Act.put, List.setIfInBounds_toArray, List.set_cons_zero, List.set_cons_succ]
            refine fork_at (i := 1) (j := 4) (by kernel_rfl) ?_ ?_
            · refine wpOp_value (i := 1) (some 44) rfl rfl (by rfl) (.slice a k C) w7.drew (by have c := d7.out; go_simp) ⟨trivial, ?_⟩
              simp only [Act.put, List.setIfInBounds_toArray, List.set_cons_zero, List.set_cons_succ]
              refine callv_at (i := 4) (some 47) (.tmp 46) 73 #[.pointer (some ⟨w.heap.size + 1 + 1, 0, none⟩)] #[] #[] rfl rfl rfl rfl (by rfl) (by kernel_rfl) #[.pointer (some ⟨w.heap.size + 1 + 1, 0, none⟩)] (by simp) Try.func73 (by kernel_rfl) (by kernel_rfl) ?_
              refine (sof_take w _ f g (11 + 2 * k + 1) (sH f k) a C H7d.out.1 (by omega)).mono ?_
              rintro e w8 ⟨rfl, h8, b8, z8⟩
              have H8 : Hid (SofH w w8 f g (11 + 2 * k + 1 + 1) k a C) := H7d.out.but b8 (by omega) h8
              have d8 : Hid (w8.cell? ⟨w.heap.size + 1, 10, none⟩ = some (.slice a k C)) := (h8.recd.cel 10 _ rfl).1
              clear h8 b8 z8
              rw [Y.out]
              refine ⟨_, rfl, trivial, fun _ => ?_⟩
              simp only [Act.put, List.setIfInBounds_toArray, List.set_cons_zero, List.set_cons_succ]
              refine take_at (i := 5) (v := ?_) (some 48) rfl rfl (by kernel_rfl) (by kernel_rfl) (by kernel_rfl) (fun _ _ _ h => h) (Or.inl ⟨by rfl, ?_⟩) trivial ?_
              rotate_left
              · (intro w hSw; go_simp; try with_reducible rfl)
              simp only [Act.put, List.setIfInBounds_toArray, List.set_cons_zero, List.set_cons_succ]
              refine take_at (i := 6) (v := ?_) (some 49) rfl rfl (by kernel_rfl) (by kernel_rfl) (by kernel_rfl) (fun _ _ _ h => h) (Or.inl ⟨by rfl, ?_⟩) trivial ?_
              rotate_left
              · (intro w hSw; go_simp; try with_reducible rfl)
              simp only [Act.put, List.setIfInBounds_toArray, List.set_cons_zero, List.set_cons_succ]
              refine step_at (i := 7) (some 50) rfl rfl (by rfl) (by kernel_rfl) (.slice (some ⟨w8.heap.size, 0, none⟩) 1 1) (w8.alloc (.cells #[.int .i64 x, .int .i64 y] 75)) (by go_simp) trivial (fun _ => ?_)
              simp only [Act.put, List.setIfInBounds_toArray, List.set_cons_zero, List.set_cons_succ]
              obtain ⟨a', C', W9, hr9, c9, f9, h9⟩ := sof_step w w8 f g k a C (by omega) H8.out x y X.out.symm Y.out.symm
              have H9 : Hid (SofH w (W9.setCell ⟨w.heap.size + 1, 10, none⟩ (.slice a' (k + 1) C')) f g (11 + 2 * (k + 1)) (k + 1) a' C') := h9
              clear h9
              refine step_at (i := 8) (some 51) rfl rfl (by rfl) (by kernel_rfl) (.slice a' (k + 1) C') W9 (app_run1 (.tmp 44) (.tmp 50) 24 24 rfl _ _ rfl rfl hr9) trivial (fun _ => ?_)
              simp only [Act.put, List.setIfInBounds_toArray, List.set_cons_zero, List.set_cons_succ]
              refine take_at (i := 9) (v := ?_) (some 52) rfl rfl (by kernel_rfl) (by kernel_rfl) (by kernel_rfl) (fun _ _ _ h => h) (Or.inl ⟨by rfl, ?_⟩) trivial ?_
              rotate_left
              · (intro w hSw; go_simp; try with_reducible rfl)
              simp only [Act.put, List.setIfInBounds_toArray, List.set_cons_zero, List.set_cons_succ]
              refine skip_at (i := 10) none rfl rfl (by rfl) (by kernel_rfl) (W9.setCell ⟨w.heap.size + 1, 10, none⟩ (.slice a' (k + 1) C')) (store_skip1 24 (.tmp 52) (.tmp 51) rfl _ _ rfl rfl (store_heads _ _ _ _ c9 f9 ⟨_, _, _, rfl⟩)) trivial (fun _ => ?_)
              simp only [Act.put]
              refine wpAnyH_done (by kernel_rfl) ?_ _
              refine NoPanic.normal ?_
              go_wp2_with fail
              go_roundw
              case rel => exact ⟨k + 1, by omega, by go_num, a', C', H9.out⟩
              case measure => simp [RowKit.intOf]; omega
            · refine wpOp_callv (i := 4) (some 47) (.tmp 46) 73 #[.pointer (some ⟨w.heap.size + 1 + 1, 0, none⟩)] #[] #[] rfl rfl rfl rfl (by rfl) #[.pointer (some ⟨w.heap.size + 1 + 1, 0, none⟩)] (by simp) Try.func73 (by kernel_rfl) (by kernel_rfl) ?_
              refine (sof_take w _ f g (11 + 2 * k + 1) (sH f k) a C H7d.out.1 (by omega)).mono ?_
              rintro e w8 ⟨rfl, h8, b8, z8⟩
              have H8 : Hid (SofH w w8 f g (11 + 2 * k + 1 + 1) k a C) := H7d.out.but b8 (by omega) h8
              have d8 : Hid (w8.cell? ⟨w.heap.size + 1, 10, none⟩ = some (.slice a k C)) := (h8.recd.cel 10 _ rfl).1
              clear h8 b8 z8
              rw [Y.out]
              refine ⟨_, rfl, trivial, ?_⟩
              simp only [Act.put, List.setIfInBounds_toArray, List.set_cons_zero, List.set_cons_succ]
              refine take_at (i := 5) (v := ?_) (some 48) rfl rfl (by kernel_rfl) (by kernel_rfl) (by kernel_rfl) (fun _ _ _ h => h) (Or.inl ⟨by rfl, ?_⟩) trivial ?_
              rotate_left
              · (intro w hSw; go_simp; try with_reducible rfl)
              simp only [Act.put, List.setIfInBounds_toArray, List.set_cons_zero, List.set_cons_succ]
              refine take_at (i := 6) (v := ?_) (some 49) rfl rfl (by kernel_rfl) (by kernel_rfl) (by kernel_rfl) (fun _ _ _ h => h) (Or.inl ⟨by rfl, ?_⟩) trivial ?_
              rotate_left
              · (intro w hSw; go_simp; try with_reducible rfl)
              simp only [Act.put, List.setIfInBounds_toArray, List.set_cons_zero, List.set_cons_succ]
              refine fork_at (i := 1) (j := 7) (by kernel_rfl) ?_ ?_
              · refine wpOp_value (i := 1) (some 44) rfl rfl (by rfl) (.slice a k C) w8 (by have c := d8.out; go_simp) ⟨trivial, ?_⟩
                simp only [Act.put, List.setIfInBounds_toArray, List.set_cons_zero, List.set_cons_succ]
                refine step_at (i := 7) (some 50) rfl rfl (by rfl) (by kernel_rfl) (.slice (some ⟨w8.heap.size, 0, none⟩) 1 1) (w8.alloc (.cells #[.int .i64 x, .int .i64 y] 75)) (by go_simp) trivial (fun _ => ?_)
                simp only [Act.put, List.setIfInBounds_toArray, List.set_cons_zero, List.set_cons_succ]
                obtain ⟨a', C', W9, hr9, c9, f9, h9⟩ := sof_step w w8 f g k a C (by omega) H8.out x y X.out.symm Y.out.symm
                have H9 : Hid (SofH w (W9.setCell ⟨w.heap.size + 1, 10, none⟩ (.slice a' (k + 1) C')) f g (11 + 2 * (k + 1)) (k + 1) a' C') := h9
                clear h9
                refine step_at (i := 8) (some 51) rfl rfl (by rfl) (by kernel_rfl) (.slice a' (k + 1) C') W9 (app_run1 (.tmp 44) (.tmp 50) 24 24 rfl _ _ rfl rfl hr9) trivial (fun _ => ?_)
                simp only [Act.put, List.setIfInBounds_toArray, List.set_cons_zero, List.set_cons_succ]
                refine take_at (i := 9) (v := ?_) (some 52) rfl rfl (by kernel_rfl) (by kernel_rfl) (by kernel_rfl) (fun _ _ _ h => h) (Or.inl ⟨by rfl, ?_⟩) trivial ?_
                rotate_left
                · (intro w hSw; go_simp; try with_reducible rfl)
                simp only [Act.put, List.setIfInBounds_toArray, List.set_cons_zero, List.set_cons_succ]
                refine skip_at (i := 10) none rfl rfl (by rfl) (by kernel_rfl) (W9.setCell ⟨w.heap.size + 1, 10, none⟩ (.slice a' (k + 1) C')) (store_skip1 24 (.tmp 52) (.tmp 51) rfl _ _ rfl rfl (store_heads _ _ _ _ c9 f9 ⟨_, _, _, rfl⟩)) trivial (fun _ => ?_)
                simp only [Act.put]
                refine wpAnyH_done (by kernel_rfl) ?_ _
                refine NoPanic.normal ?_
                go_wp2_with fail
                go_roundw
                case rel => exact ⟨k + 1, by omega, by go_num, a', C', H9.out⟩
                case measure => simp [RowKit.intOf]; omega
              · refine wpOp_value (i := 7) (some 50) rfl rfl (by rfl) (.slice (some ⟨w8.heap.size, 0, none⟩) 1 1) (w8.alloc (.cells #[.int .i64 x, .int .i64 y] 75)) (by go_simp) ⟨trivial, ?_⟩
                simp only [Act.put, List.setIfInBounds_toArray, List.set_cons_zero, List.set_cons_succ]
                refine step_at (i := 1) (some 44) rfl rfl (by rfl) (by kernel_rfl) (.slice a k C) (w8.alloc (.cells #[.int .i64 x, .int .i64 y] 75)) (by have c : (w8.alloc (.cells #[.int .i64 x, .int .i64 y] 75)).cell? ⟨w.heap.size + 1, 10, none⟩ = some (.slice a k C) := (World.cell?_alloc_past _ _ _ (by have := H8.out.1.take.bl; show w.heap.size + 1 < w8.heap.size; omega)).trans d8.out; go_simp) trivial (fun _ => ?_)
                simp only [Act.put, List.setIfInBounds_toArray, List.set_cons_zero, List.set_cons_succ]
                obtain ⟨a', C', W9, hr9, c9, f9, h9⟩ := sof_step w w8 f g k a C (by omega) H8.out x y X.out.symm Y.out.symm
                have H9 : Hid (SofH w (W9.setCell ⟨w.heap.size + 1, 10, none⟩ (.slice a' (k + 1) C')) f g (11 + 2 * (k + 1)) (k + 1) a' C') := h9
                clear h9
                refine step_at (i := 8) (some 51) rfl rfl (by rfl) (by kernel_rfl) (.slice a' (k + 1) C') W9 (app_run1 (.tmp 44) (.tmp 50) 24 24 rfl _ _ rfl rfl hr9) trivial (fun _ => ?_)
                simp only [Act.put, List.setIfInBounds_toArray, List.set_cons_zero, List.set_cons_succ]
                refine take_at (i := 9) (v := ?_) (some 52) rfl rfl (by kernel_rfl) (by kernel_rfl) (by kernel_rfl) (fun _ _ _ h => h) (Or.inl ⟨by rfl, ?_⟩) trivial ?_
                rotate_left
                · (intro w hSw; go_simp; try with_reducible rfl)
                simp only [Act.put, List.setIfInBounds_toArray, List.set_cons_zero, List.set_cons_succ]
                refine skip_at (i := 10) none rfl rfl (by rfl) (by kernel_rfl) (W9.setCell ⟨w.heap.size + 1, 10, none⟩ (.slice a' (k + 1) C')) (store_skip1 24 (.tmp 52) (.tmp 51) rfl _ _ rfl rfl (store_heads _ _ _ _ c9 f9 ⟨_, _, _, rfl⟩)) trivial (fun _ => ?_)
                simp only [Act.put]
                refine wpAnyH_done (by kernel_rfl) ?_ _
                refine NoPanic.normal ?_
                go_wp2_with fail
                go_roundw
                case rel => exact ⟨k + 1, by omega, by go_num, a', C', H9.out⟩
                case measure => simp [RowKit.intOf]; omega
          · obtain rfl : k = n := by omega
            have e0 : ¬ (k : Int) < k := by omega
            have m1 : IntKind.u32.wrap (2 * (k : Int)) = 2 * (k : Int) := by rw [IntKind.wrap_u32]; omega
            have m2 : IntKind.u32.wrap (113 - 2 * (k : Int)) = 113 - 2 * (k : Int) := by rw [IntKind.wrap_u32]; omega
            have m3 : 2 * (k : Int) % 4294967296 = 2 * (k : Int) := by omega
            have m4 : (113 - 2 * (k : Int)) % 4294967296 = 113 - 2 * (k : Int) := by omega
            have ST : Hid (sof3Rel w f g k (113 - 2 * k) (.int .u32 0) wr) := ⟨0, by omega, rfl, ⟨a, C, HH.out⟩, fun j hj => by omega⟩
            clear HH
            go_wp2_with fail
            go_loopw [57] (fun i wr => sof3Rel w f g k (113 - 2 * k) i wr) (fun i _ => 113 - 2 * k - (RowKit.intOf i).toNat)
            case atStart => exact ST.out
            case round =>
              obtain ⟨q, hq, rfl, ⟨a2, C2, hH⟩, hz⟩ := hrel
              clear ST
              have HZ : Hid (∀ j, j < q → rdN f (11 + 2 * k + j) = 0) := hz
              have HH : Hid (SofH w wr f g (11 + 2 * k + q) k a2 C2) := hH
              clear hH hz
              by_cases hlq : q < 113 - 2 * k
              · have e1 : (q : Int) < 113 - 2 * (k : Int) := by omega
                obtain ⟨z, hz⟩ : ∃ v, rdN f (11 + 2 * k + q) = v := ⟨_, rfl⟩
                have Z : Hid (rdN f (11 + 2 * k + q) = z) := hz
                clear hz
                by_cases z0 : z = 0
                · subst z0
                  go_wp2_with (go_at_call 73; refine (sof_take w _ f g (11 + 2 * k + q) (sH f k) a2 C2 HH.out.1 (by omega)).mono ?_; rintro e w8 ⟨rfl, h8, b8, _⟩; rw [Z.out]
                               have H8 : Hid (SofH w w8 f g (11 + 2 * k + (q + 1)) k a2 C2) := HH.out.but b8 (by omega) h8
                               clear h8 b8)
                  go_roundw
                  case rel =>
                    exact ⟨q + 1, by omega, by go_num, ⟨a2, C2, H8.out⟩, fun j hj => by
                      by_cases e : j = q
                      · rw [e]; exact Z.out
                      · exact HZ.out j (by omega)⟩
                  case measure => simp [RowKit.intOf]; omega
                · have NO : Hid (¬ SupOk f) := fun h => z0 (by
                    have := h.2.2 (11 + 2 * k + q) (by omega) (by rw [V10.out]; omega)
                    rw [← Z.out]; exact this)
                  have z1 : (z != 0) = true := by simpa using z0
                  clear z0
                  go_wp2_with (first
                    | (go_at_call 73; refine (sof_take w _ f g (11 + 2 * k + q) (sH f k) a2 C2 HH.out.1 (by omega)).mono ?_; rintro e w8 ⟨rfl, h8, b8, _⟩; rw [Z.out]
                       have L6 : Hid (SofS w w8 f g (11 + 2 * k + q + 1) (sH f k) a2 C2) := h8
                       clear h8 b8)
                    | (refine wpList_build_to rfl 26 _ rfl (supC sup0 none 0).toArray (by kernel_rfl) ?_)
                    | (refine wpList_store_rec rfl 26 (.tmp 2) (.tmp 62) rfl w.heap.size 0 _ (supC sup0 none 0) rfl rfl L6.out.res rfl (by kernel_rfl) (supC_one _ _ _) ?_; intro W9 R9 B9))
                  have hl := R9.run_load 26 _ Try.underlying26 rfl (by kernel_rfl)
                  refine bodyPost_ret (v := .tuple #[supV sup0 none 0, .bool false]) (by simp [results, Try.results37, asAddr, supV, hl]) rfl (.inl ⟨NO.out, rfl, ?_⟩)
                  exact L6.out.bel.trans (B9.below (Nat.le_refl _) L6.out.bel.size)
              · obtain rfl : q = 113 - 2 * k := by omega
                have OK : Hid (SupOk f) := ⟨by rw [V9.out]; omega, by rw [V10.out]; omega, fun i hi hk => by
                  rw [V10.out] at hk
                  have hk' : 11 + 2 * k ≤ i := by simpa using hk
                  have := HZ.out (i - (11 + 2 * k)) (by omega)
                  rwa [show 11 + 2 * k + (i - (11 + 2 * k)) = i by omega] at this⟩
                have e1 : ¬ ((113 - 2 * k : Nat) : Int) < 113 - 2 * (k : Int) := by omega
                have RC : Hid (Rec19 wr (w.heap.size + 1) 0 (supC (sH f k) a2 C2)) := HH.out.1.recd
                have RS : Hid (Rec19 wr w.heap.size 0 (supC sup0 none 0)) := HH.out.1.res
                go_wp2_with (first
                  | (refine wpList_load_rec rfl 26 (.tmp 4) rfl (w.heap.size + 1) 0 (supC (sH f k) a2 C2) rfl _ Try.underlying26 rfl (by kernel_rfl) RC.out ?_)
                  | (refine wpList_store_rec rfl 26 (.tmp 2) (.tmp 64) rfl w.heap.size 0 _ (supC (sH f k) a2 C2) rfl rfl RS.out rfl (by kernel_rfl) (supC_one _ _ _) ?_; intro W9 R9 B9))
                have hl := R9.run_load 26 _ Try.underlying26 rfl (by kernel_rfl)
                have es : supOf f = sH f k := by unfold supOf sH; rw [V10.out]; rfl
                refine bodyPost_ret (v := .tuple #[supV (sH f k) a2 C2, .bool true]) (by simp [results, Try.results37, asAddr, supV, hl]) rfl (.inr ⟨OK.out, a2, C2, by rw [es], ?_, ?_, ?_, ?_⟩)
                · rw [es]
                  have hO := HH.out.2.but B9 (by omega)
                  by_cases k0 : k = 0
                  · exact .inl k0
                  · obtain ⟨g2, cap, e2, _, _, hc, hg⟩ := hO.form (by omega)
                    injection e2 with e2 _ _
                    exact .inr ⟨g2, 0, e2, fun j hj => by rw [Nat.zero_add]; exact hc j (by show j < k * 2; have : j < 2 * k := hj; omega), hg⟩
                · rw [es]
                  obtain ⟨a3, c3, e3, h3⟩ := HH.out.2.slice
                  injection e3 with _ _ e3
                  show k ≤ C2
                  omega
                · intro r hr
                  rcases HH.out.2.2 with ⟨e3, _⟩ | ⟨g2, cap, cur, e3, hb, _⟩
                  · injection e3 with e3; rw [hr] at e3; cases e3
                  · injection e3 with e3; rw [hr] at e3; injection e3 with e3; rw [e3]; show w.heap.size ≤ g2; omega
                · exact HH.out.1.bel.trans (B9.below (Nat.le_refl _) HH.out.1.bel.size)
end Go.Proofs.Ytfapmogjmjlokaa
