/-
  Walks, not a claim by itself: the chapter's block, as the statements make it. By the verifier.
-/
import Derived.Test.YtmlllglgjpmicaaGEval
import Derived.Test.YtmlllglgjpmicaaGVal
import Derived.Lib.SlBytesConst
import Derived.Great.BuildSlice
namespace Go.Proofs.Ytmlllglgjpmicaa
open Go.RowKit
def fnAb (j : Nat) : Int := if j = 0 then 97 else 98
theorem ab_byte : ∀ j, j < 2 → 0 ≤ fnAb j ∧ fnAb j < 256 := by decide
theorem abConv (w : World) : (convert 25 25 (.slice (some ⟨w.heap.size, 0, none⟩) 2 2)).run Try.prog (w.alloc (.cells #[.int .u8 97, .int .u8 98] 5)) = .ok (.slice (some ⟨w.heap.size, 0, none⟩) 2 2) (w.alloc (.cells #[.int .u8 97, .int .u8 98] 5 (2, 3))) :=
  Go.Lib.run_convert_bytes_const (P := Try.prog) w 25 5 _ 2 2 Try.underlying25 Try.underlying5
theorem abLies (w : World) : Lies (w.alloc (.cells #[.int .u8 97, .int .u8 98] 5 (2, 3))) w.heap.size 0 2 fnAb := by
  refine ⟨fun j hj => ?_, ab_byte, by simp⟩
  rw [cell_of_row _ _ _ _ _ _ (heap_alloc_new w _)]
  match j, hj with
  | 0, _ | 1, _ => rfl
  | j + 2, hj => omega
theorem wpList_bs {ops : Array Oper} {rest : List Oper} {o : Oper} {a : Act} {w : World} {Q : Exit → Act → World → Prop} (hg : o.guard = none) (t e : TypeId) (len : Nat) (parts : Array (Nat × Operand)) (ho : o.op = .buildSlice t len parts) (sz by' : Nat) (z : Value) (cells : Array Value) (vs : List (Nat × Value))
    (hu : Try.prog.underlying t = some (.slice e)) (hinfo : (Try.prog.info? e).map (fun i => (i.zero, i.size, i.bytes)) = some (some z, sz, by')) (hsmall : ¬ len * sz > 2 ^ 24) (hpos : ¬ len * sz = 0)
    (hv : (parts.map fun (i, x) => (i, a.eval x)).toList = vs) (hf : Instr.fill (fun i => some (i * sz, sz)) ((Array.range (len * sz)).map (z.cells[· % z.cells.size]!)) vs = some cells)
    (h : wpList Try.prog ops Q rest (a.put o.dst (.slice (some ⟨w.heap.size, 0, none⟩) len len)) (w.alloc (.cells cells e))) : wpList Try.prog ops Q (o :: rest) a w := by
  obtain ⟨ie, hie, hz0, hz1, _⟩ := info_parts hinfo
  exact wpList_buildSlice hg t e len parts ho cells ie z hu hie hz0 (by rw [hz1]; exact hsmall) (by rw [hz1]; exact hpos) (by rw [hv, hz1]; exact hf) h
/-- What five answers. -/
def FvPost (w : World) (e : Ending) (w' : World) : Prop := ∃ g1 g2 : Nat, e = .returned (blkV five (some ⟨g1, 0, none⟩) 1 (some ⟨g2, 0, none⟩) 2) ∧ BlkAt w' five (some ⟨g1, 0, none⟩) 1 (some ⟨g2, 0, none⟩) 2 ∧ Below w.heap.size w w'
set_option maxRecDepth 100000 in
set_option maxHeartbeats 400000 in
theorem five_any (w : World) : Calls Try.prog 22 #[] w (FvPost w) := by
  go_enter Try.func22, Try.ntmps22
  go_wp2_with (first
    | (refine wpList_alloc_rec rfl 27 rfl (blkC blk0 none 0 none 0) w.heap.size rfl zero_blk ?_; intro W1 R1 B1 z1
       have R2 : Rec19 (W1.alloc (.cells #[.int .i64 2, .int .i64 3] 23)) W1.heap.size 0 (twoC 2 3) := Rec19.new W1 _ (twoC 2 3)
       have B2 : Below W1.heap.size W1 (W1.alloc (.cells #[.int .i64 2, .int .i64 3] 23)) := (Below.refl _ _).alloc (Nat.le_refl _) _
       have z2 : (W1.alloc (.cells #[.int .i64 2, .int .i64 3] 23)).heap.size = w.heap.size + 1 + 1 := by simp [z1]
       have hcv := abConv (W1.alloc (.cells #[.int .i64 2, .int .i64 3] 23))
       have L2 := abLies (W1.alloc (.cells #[.int .i64 2, .int .i64 3] 23))
       have C2 : Below (W1.alloc (.cells #[.int .i64 2, .int .i64 3] 23)).heap.size (W1.alloc (.cells #[.int .i64 2, .int .i64 3] 23)) ((W1.alloc (.cells #[.int .i64 2, .int .i64 3] 23)).alloc (.cells #[.int .u8 97, .int .u8 98] 5 (2, 3))) := (Below.refl _ _).alloc (Nat.le_refl _) _
       rw [z1] at R2 B2
       rw [z2] at hcv L2 C2)
    | (refine wpList_build_to rfl 23 #[(0, .const (.int .i64 5)), (1, .const (.int .i64 7))] rfl #[.int .i64 5, .int .i64 7] (by kernel_rfl) ?_)
    | (refine wpList_build_to rfl 23 #[(0, .const (.int .i64 2)), (1, .const (.int .i64 3))] rfl #[.int .i64 2, .int .i64 3] (by kernel_rfl) ?_)
    | (refine wpList_build_to rfl 27 _ rfl (blkC five (some ⟨w.heap.size + 1, 0, none⟩) 1 (some ⟨w.heap.size + 1 + 1, 0, none⟩) 2).toArray (by kernel_rfl) ?_)
    | (refine wpList_store_rec rfl 27 (.tmp 0) (.tmp 6) rfl w.heap.size 0 _ (blkC five (some ⟨w.heap.size + 1, 0, none⟩) 1 (some ⟨w.heap.size + 1 + 1, 0, none⟩) 2) rfl rfl ((R1.below (by rw [z1]; exact B2)).below (by rw [z2]; exact C2)) rfl (by kernel_rfl) (blkC_one _ _ _ _ _) ?_; intro W3 R3 B3))
  have hl := R3.run_load 27 _ Try.underlying27 rfl (by kernel_rfl)
  have R23 : Rec19 W3 (w.heap.size + 1) 0 (twoC 2 3) := (R2.below (by rw [z2]; exact C2)).but B3 (by omega)
  refine bodyPost_ret (v := blkV five (some ⟨w.heap.size + 1, 0, none⟩) 1 (some ⟨w.heap.size + 1 + 1, 0, none⟩) 2) (by simp [results, Try.results22, asAddr, blkV, Act.put, hl]) rfl ⟨_, _, rfl, ⟨.inr ⟨_, 0, rfl, fun j hj => ?_, R23.2.2⟩, Nat.le_refl _, Arg.of (L2.but B3 (by omega)), Nat.le_refl _⟩, ?_⟩
  · have hj' : j < 2 := hj
    have := R23.1 j (.int .i64 (five.h j)) (by
      have : j = 0 ∨ j = 1 := by omega
      rcases this with rfl | rfl <;> rfl)
    exact this
  · exact (B1.trans (B2.mono (by omega))).trans ((C2.mono (by omega)).trans (B3.below (Nat.le_refl _) (by simp; omega)))
end Go.Proofs.Ytmlllglgjpmicaa
