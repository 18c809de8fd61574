/-
  Walks, not a claim by itself: checksum.Right, Seal and Open. By the verifier.
-/
import Derived.Test.YtgcmlnjmfdoomaaCSum
namespace Go.Proofs.Ytgcmlnjmfdoomaa
open Go.RowKit
set_option maxRecDepth 100000 in
set_option maxHeartbeats 1000000 in
theorem right16 (a : Option Addr) (n C : Nat) (f g : Nat → Int) (w : World) (h : Arg w a n f) (hC : n ≤ C) (hn : n ≤ 1000000) :
    Calls Try.prog 11 #[.slice a n C, .agg (cl .u8 16 g).toArray] w fun e w' => e = .returned (.bool (eqN 16 (sealF n f) g)) ∧ Below w.heap.size w w' := by
  have HA : Hid (Arg w a n f) := h
  clear h
  have R0 : Hid (IRow (w.alloc (.cells (cl .u8 16 g).toArray 23)).drew w.heap.size .u8 16 g) := IRow.new w 23 .u8 16 g
  have A0 : Hid (Arg (w.alloc (.cells (cl .u8 16 g).toArray 23)).drew a n f) := HA.out.below ((Below.refl _ _).alloc (Nat.le_refl _) _).drew
  have B0 : Hid (Below w.heap.size w (w.alloc (.cells (cl .u8 16 g).toArray 23)).drew) := ((Below.refl _ _).alloc (Nat.le_refl _) _).drew
  have r0 : ((w.alloc (.cells (cl .u8 16 g).toArray 23)).drew).rangeAt w.heap.size 0 (cl .u8 16 g) := R0.out.rec.1
  have heq := eqIn16 (sealF n f) g
  have hgd := guard16
  have hu := Try.underlying23
  have hi : (Try.prog.info? 23).map (·.size) = some (cl .u8 16 g).length := by rw [cl_len]; kernel_rfl
  have hcl := cl_len .u8 16 g
  have hone := cl_one .u8 16 g
  go_enter Try.func11, Try.ntmps11
  go_wp2_with fail
  go_region_held3 (fun w' => w'.rangeAt w.heap.size 0 (cl .u8 16 g)) (first | exact r0 | exact (R0.out.below (by assumption)).rec.1) ((go_at_call 10; refine (sum_any a n C f _ A0.out hC hn).mono ?_; rintro e w2 ⟨rfl, hB2⟩))
  go_wp2_with fail
  go_ret
  exact ⟨rfl, B0.out.trans (hB2.mono B0.out.size)⟩
/-- Bytes that are sealed. -/
def sealedF (n : Nat) (f : Nat → Int) (j : Nat) : Int := if j < 16 then sealF n f j else f (j - 16)
theorem wpList_make {ops : Array Oper} {rest : List Oper} {op : Oper} {a : Act} {w : World} {Q : Exit → Act → World → Prop} (hgd : op.guard = none) (x y : Operand) (ho : op.op = .makeSlice 22 x y) (n H : Nat) (hH : w.heap.size = H) (i : Int)
    (hx : a.eval x = .int .i64 i) (hy : a.eval y = .int .i64 i) (hi : i = n) (hn : n ≤ 281474976710656)
    (hK : ∀ W, IRow W H .u8 n (fun _ => 0) → Below H w W → W.heap.size = H + 1 → wpList Try.prog ops Q rest (a.put op.dst (.slice (some ⟨H, 0, none⟩) n n)) W) : wpList Try.prog ops Q (op :: rest) a w := by
  subst hH hi
  refine wpList_plain hgd fun K hK' => ?_
  unfold Oper.wp execOp
  simp only [ho, hx, hy, Sem.run_bind, make_bytes n hn, Result.andThen_ok]
  exact hK' _ _ (hK _ (IRow.made w n _) ((Below.refl _ _).alloc (Nat.le_refl _) _) (by simp))
set_option maxRecDepth 100000 in
set_option maxHeartbeats 1000000 in
theorem seal_more (a : Option Addr) (n C : Nat) (f : Nat → Int) (w : World) (h : Arg w a n f) (hC : n ≤ C) (hn : n ≤ 1000000) (h0 : 0 < n) :
    Calls Try.prog 14 #[.slice a n C] w fun e w' => ∃ g, e = .returned (.slice (some ⟨g, 0, none⟩) (16 + n) (16 + n)) ∧ w.heap.size ≤ g ∧ IRow w' g .u8 (16 + n) (sealedF n f) ∧ Below w.heap.size w w' := by
  have HA : Hid (Arg w a n f) := h
  clear h
  have e1 : ¬ n = 0 := by omega
  go_enter Try.func14, Try.ntmps14
  go_wp2_with (first
    | (go_at_call 10; refine (sum_any a n C f _ HA.out hC hn).mono ?_; rintro e w1 ⟨rfl, hB1⟩)
    | (refine wpList_alloc_row rfl 23 rfl .u8 16 w1.heap.size rfl zero8_16 ?_; intro W1 hR1 hB2 hz1)
    | (refine wpList_store_row rfl 23 (.tmp 3) (.tmp 6) rfl w1.heap.size .u8 16 (sealF n f) (fun _ => 0) rfl rfl hR1 (by kernel_rfl) ?_; intro W2 hR2 hB3 hz2)
    | (refine wpList_make rfl (.tmp 9) (.tmp 9) rfl (16 + n) (w1.heap.size + 1) (by rw [hz2, hz1]) _ rfl rfl (by omega) (by omega) ?_; intro W3 hR3 hB4 hz3; obtain ⟨W4, hc1, hR4, hB5, hz4⟩ := copy_row W3 (w1.heap.size + 1) (16 + n) 0 (16 + n) (16 + n) 16 16 16 (some ⟨w1.heap.size, 0, none⟩) (sealF n f) (fun _ => 0) hR3 (by omega) (Nat.min_eq_left (by omega)).symm (Arg.of ((hR2.below (by rw [hz2, hz1]; exact hB4)).lies (fun j _ => sealF_byte n f j))); obtain ⟨W5, hc2, hR5, hB6, hz5⟩ := copy_row W4 (w1.heap.size + 1) (16 + n) 16 n n n C n a f _ hR4 (by omega) (Nat.min_self n).symm (HA.out.below (((hB1.trans (hB2.mono hB1.size)).trans (hB3.below hB1.size (by have := hB1.size; omega))).trans ((hB4.mono (by have := hB1.size; omega)).trans (hB5.below (by have := hB1.size; omega) (by have := hB1.size; omega))))))
    | (at_builtin; refine wpList_copy_go rfl (.tmp 11) (.tmp 12) 22 22 rfl _ _ rfl rfl hc1 ?_)
    | (at_builtin; refine wpList_copy_go rfl (.tmp 15) (.tmp 16) 22 22 rfl _ _ rfl rfl hc2 ?_))
  go_ret
  refine ⟨w1.heap.size + 1, rfl, by have := hB1.size; omega, hR5.congr (fun j hj => ?_), ?_⟩
  · unfold over sealedF
    by_cases h : j < 16
    · rw [if_neg (by omega), if_pos (by omega), if_pos h, Nat.sub_zero]
    · rw [if_pos (by omega), if_neg h]
  · exact ((hB1.trans (hB2.mono hB1.size)).trans (hB3.below hB1.size (by have := hB1.size; omega))).trans (((hB4.mono (by have := hB1.size; omega)).trans (hB5.below (by have := hB1.size; omega) (by have := hB1.size; omega))).trans (hB6.below (by have := hB1.size; omega) (by have := hB1.size; omega)))
set_option maxRecDepth 100000 in
set_option maxHeartbeats 1000000 in
theorem seal_none (a : Option Addr) (C : Nat) (f : Nat → Int) (w : World) (h : Arg w a 0 f)  :
    Calls Try.prog 14 #[.slice a 0 C] w fun e w' => ∃ g, e = .returned (.slice (some ⟨g, 0, none⟩) 16 16) ∧ w.heap.size ≤ g ∧ IRow w' g .u8 16 (sealedF 0 f) ∧ Below w.heap.size w w' := by
  have HA : Hid (Arg w a 0 f) := h
  clear h
  go_enter Try.func14, Try.ntmps14
  go_wp2_with (first
    | (go_at_call 10; refine (sum_any a 0 C f _ HA.out (Nat.zero_le _) (by omega)).mono ?_; rintro e w1 ⟨rfl, hB1⟩)
    | (refine wpList_alloc_row rfl 23 rfl .u8 16 w1.heap.size rfl zero8_16 ?_; intro W1 hR1 hB2 hz1)
    | (refine wpList_store_row rfl 23 (.tmp 3) (.tmp 6) rfl w1.heap.size .u8 16 (sealF 0 f) (fun _ => 0) rfl rfl hR1 (by kernel_rfl) ?_; intro W2 hR2 hB3 hz2)
    | (refine wpList_make rfl (.tmp 9) (.tmp 9) rfl 16 (w1.heap.size + 1) (by rw [hz2, hz1]) _ rfl rfl (by omega) (by omega) ?_; intro W3 hR3 hB4 hz3; obtain ⟨W4, hc1, hR4, hB5, hz4⟩ := copy_row W3 (w1.heap.size + 1) 16 0 16 16 16 16 16 (some ⟨w1.heap.size, 0, none⟩) (sealF 0 f) (fun _ => 0) hR3 (by omega) (Nat.min_eq_left (by omega)).symm (Arg.of ((hR2.below (by rw [hz2, hz1]; exact hB4)).lies (fun j _ => sealF_byte 0 f j))); obtain ⟨W5, hc2, hR5, hB6, hz5⟩ := copy_row W4 (w1.heap.size + 1) 16 0 0 0 0 C 0 a f _ hR4 (by omega) rfl (HA.out.below (((hB1.trans (hB2.mono hB1.size)).trans (hB3.below hB1.size (by have := hB1.size; omega))).trans ((hB4.mono (by have := hB1.size; omega)).trans (hB5.below (by have := hB1.size; omega) (by have := hB1.size; omega))))))
    | (at_builtin; refine wpList_copy_go rfl (.tmp 11) (.tmp 12) 22 22 rfl _ _ rfl rfl hc1 ?_)
    | (at_builtin; refine wpList_copy_go rfl (.tmp 15) (.tmp 16) 22 22 rfl _ _ rfl rfl hc2 ?_))
  go_ret
  refine ⟨w1.heap.size + 1, rfl, by have := hB1.size; omega, hR5.congr (fun j hj => ?_), ?_⟩
  · unfold over sealedF
    rw [if_neg (by omega), if_pos (by omega), if_pos hj, Nat.sub_zero]
  · exact ((hB1.trans (hB2.mono hB1.size)).trans (hB3.below hB1.size (by have := hB1.size; omega))).trans (((hB4.mono (by have := hB1.size; omega)).trans (hB5.below (by have := hB1.size; omega) (by have := hB1.size; omega))).trans (hB6.below (by have := hB1.size; omega) (by have := hB1.size; omega)))
theorem seal_any (a : Option Addr) (n C : Nat) (f : Nat → Int) (w : World) (h : Arg w a n f) (hC : n ≤ C) (hn : n ≤ 1000000) :
    Calls Try.prog 14 #[.slice a n C] w fun e w' => ∃ g, e = .returned (.slice (some ⟨g, 0, none⟩) (16 + n) (16 + n)) ∧ w.heap.size ≤ g ∧ IRow w' g .u8 (16 + n) (sealedF n f) ∧ Below w.heap.size w w' := by
  by_cases e : n = 0
  · subst e
    exact seal_none a C f w h
  · exact seal_more a n C f w h hC hn (by omega)
end Go.Proofs.Ytgcmlnjmfdoomaa
