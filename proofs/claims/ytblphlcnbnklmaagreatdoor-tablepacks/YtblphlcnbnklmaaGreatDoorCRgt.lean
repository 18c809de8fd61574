/-
  Walks, not a claim by itself: checksum.Right; bytes that are made. By the verifier.
-/
import Derived.Test.YtblphlcnbnklmaaGreatDoorCSum
namespace Go.Proofs.YtblphlcnbnklmaaGreatDoor
open Go.RowKit
set_option maxRecDepth 100000 in
set_option maxHeartbeats 1000000 in
theorem right16 (a : Option Addr) (n C : Nat) (f g : Nat → Int) (w : World) (h : Arg w a n f) (hC : n ≤ C) (hn : n ≤ 1000000) :
    Calls Tryz.prog 95 #[.slice a n C, .agg (cl .u8 16 g).toArray] w fun e w' => e = .returned (.bool (eqN 16 (sealF n f) g)) ∧ Below w.heap.size w w' := by
  have HA : Hid (Arg w a n f) := h
  clear h
  have R0 : Hid (IRow (w.alloc (.cells (cl .u8 16 g).toArray 170)).drew w.heap.size .u8 16 g) := IRow.new w 170 .u8 16 g
  have A0 : Hid (Arg (w.alloc (.cells (cl .u8 16 g).toArray 170)).drew a n f) := HA.out.below ((Below.refl _ _).alloc (Nat.le_refl _) _).drew
  have B0 : Hid (Below w.heap.size w (w.alloc (.cells (cl .u8 16 g).toArray 170)).drew) := ((Below.refl _ _).alloc (Nat.le_refl _) _).drew
  have r0 : ((w.alloc (.cells (cl .u8 16 g).toArray 170)).drew).rangeAt w.heap.size 0 (cl .u8 16 g) := R0.out.rec.1
  have heq := eqIn16 (sealF n f) g
  have hgd := guard16
  have hu := Tryz.underlying170
  have hi : (Tryz.prog.info? 170).map (·.size) = some (cl .u8 16 g).length := by rw [cl_len]; kernel_rfl
  have hcl := cl_len .u8 16 g
  have hone := cl_one .u8 16 g
  go_enter Tryz.func95, Tryz.ntmps95
  go_wp2_with fail
  go_region_held3 (fun w' => w'.rangeAt w.heap.size 0 (cl .u8 16 g)) (first | exact r0 | exact (R0.out.below (by assumption)).rec.1) ((go_at_call 156; refine (sum_any a n C f _ A0.out hC hn).mono ?_; rintro e w2 ⟨rfl, hB2⟩))
  go_wp2_with fail
  go_ret
  exact ⟨rfl, B0.out.trans (hB2.mono B0.out.size)⟩
/-- Bytes that are sealed. -/
def sealedF (n : Nat) (f : Nat → Int) (j : Nat) : Int := if j < 16 then sealF n f j else f (j - 16)
theorem wpList_make {ops : Array Oper} {rest : List Oper} {op : Oper} {a : Act} {w : World} {Q : Exit → Act → World → Prop} (hgd : op.guard = none) (x y : Operand) (ho : op.op = .makeSlice 23 x y) (n H : Nat) (hH : w.heap.size = H) (i : Int)
    (hx : a.eval x = .int .i64 i) (hy : a.eval y = .int .i64 i) (hi : i = n) (hn : n ≤ 281474976710656)
    (hK : ∀ W, IRow W H .u8 n (fun _ => 0) → Below H w W → W.heap.size = H + 1 → wpList Tryz.prog ops Q rest (a.put op.dst (.slice (some ⟨H, 0, none⟩) n n)) W) : wpList Tryz.prog ops Q (op :: rest) a w := by
  subst hH hi
  refine wpList_plain hgd fun K hK' => ?_
  unfold Oper.wp execOp
  simp only [ho, hx, hy, Sem.run_bind, make_bytes n hn, Result.andThen_ok]
  exact hK' _ _ (hK _ (IRow.made w n _) ((Below.refl _ _).alloc (Nat.le_refl _) _) (by simp))
end Go.Proofs.YtblphlcnbnklmaaGreatDoor
