/-
  Walks, not a claim by itself: the chapter's examples of checksum. By the verifier.
-/
import Derived.Test.YtgcmlnjmfdoomaaCOpen
import Derived.Test.YtgcmlnjmfdoomaaCEval
import Derived.Lib.SlBytesConst
namespace Go.Proofs.Ytgcmlnjmfdoomaa
open Go.RowKit
set_option maxRecDepth 100000 in
theorem ofABC_any (w : World) : Calls Try.prog 20 #[] w fun e w' => e = .returned (.agg (cl .u8 16 sAbc).toArray) ∧ Below w.heap.size w w' := by
  go_enter Try.func20, Try.ntmps20
  go_wp2_with (first
    | (refine wpList_alloc_row rfl 23 rfl .u8 16 w.heap.size rfl zero8_16 ?_; intro W1 hR1 hB1 hz1)
    | (refine wpList_build_to rfl 23 _ rfl (cl .u8 16 sAbc).toArray (by kernel_rfl) ?_)
    | (refine wpList_store_row rfl 23 (.tmp 0) (.tmp 1) rfl w.heap.size .u8 16 sAbc (fun _ => 0) rfl rfl hR1 (by kernel_rfl) ?_; intro W2 hR2 hB2 hz2))
  have hl := hR2.run_load 23 _ Try.underlying23 rfl (by kernel_rfl)
  refine bodyPost_ret (v := .agg (cl .u8 16 sAbc).toArray) (by simp [results, Try.results20, asAddr, Act.put, hl]) rfl ⟨rfl, ?_⟩
  exact hB1.trans (hB2.below (Nat.le_refl _) (by omega))
set_option maxRecDepth 100000 in
theorem ofNone_any (w : World) : Calls Try.prog 21 #[] w fun e w' => e = .returned (.agg (cl .u8 16 sNil).toArray) ∧ Below w.heap.size w w' := by
  go_enter Try.func21, Try.ntmps21
  go_wp2_with (first
    | (refine wpList_alloc_row rfl 23 rfl .u8 16 w.heap.size rfl zero8_16 ?_; intro W1 hR1 hB1 hz1)
    | (refine wpList_build_to rfl 23 _ rfl (cl .u8 16 sNil).toArray (by kernel_rfl) ?_)
    | (refine wpList_store_row rfl 23 (.tmp 0) (.tmp 1) rfl w.heap.size .u8 16 sNil (fun _ => 0) rfl rfl hR1 (by kernel_rfl) ?_; intro W2 hR2 hB2 hz2))
  have hl := hR2.run_load 23 _ Try.underlying23 rfl (by kernel_rfl)
  refine bodyPost_ret (v := .agg (cl .u8 16 sNil).toArray) (by simp [results, Try.results21, asAddr, Act.put, hl]) rfl ⟨rfl, ?_⟩
  exact hB1.trans (hB2.below (Nat.le_refl _) (by omega))
theorem abc_byte : ∀ j, j < 3 → 0 ≤ fnAbc j ∧ fnAbc j < 256 := by decide
theorem abcArg (w : World) : Arg (w.alloc (.cells #[.int .u8 97, .int .u8 98, .int .u8 99] 5 (3, 4))) (some ⟨w.heap.size, 0, none⟩) 3 fnAbc := by
  refine Arg.of ⟨fun j hj => ?_, abc_byte, by simp⟩
  rw [cell_of_row _ _ _ _ _ _ (heap_alloc_new w _)]
  match j, hj with
  | 0, _ | 1, _ | 2, _ => rfl
  | j + 3, hj => omega
theorem abcConv (w : World) : (convert 22 22 (.slice (some ⟨w.heap.size, 0, none⟩) 3 3)).run Try.prog (w.alloc (.cells #[.int .u8 97, .int .u8 98, .int .u8 99] 5)) = .ok (.slice (some ⟨w.heap.size, 0, none⟩) 3 3) (w.alloc (.cells #[.int .u8 97, .int .u8 98, .int .u8 99] 5 (3, 4))) :=
  Go.Lib.run_convert_bytes_const (P := Try.prog) w 22 5 _ 3 3 Try.underlying22 Try.underlying5
theorem eqAbc : eqN 16 (sealF 3 fnAbc) sAbc = true := (eqN_iff _ _ _).2 seal_Abc
theorem eqNil (f : Nat → Int) : eqN 16 (sealF 0 f) sNil = true := (eqN_iff _ _ _).2 (fun j hj => by rw [sealF_congr 0 f fnNil (fun j h => by omega)]; exact seal_Nil j hj)
theorem neNil : eqN 16 (sealF 3 fnAbc) sNil = false := by
  rw [Bool.eq_false_iff]
  intro h
  have := (eqN_iff _ _ _).1 h 0 (by omega)
  rw [seal_Abc 0 (by omega)] at this
  revert this
  decide
set_option maxRecDepth 100000 in
set_option maxHeartbeats 1000000 in
theorem awake_any (w : World) : Calls Try.prog 13 #[] w fun e w' => e = .returned (.bool true) ∧ Below w.heap.size w w' := by
  have h1 : ∀ w, (Op.equalIn 10000 23 (.agg (cl .u8 16 (sealF 3 fnAbc)).toArray) (.agg (cl .u8 16 sAbc).toArray)).run Try.prog w = .ok true w := fun w => by rw [eqIn16, eqAbc]
  have h2 : ∀ w, (Op.equalIn 10000 23 (.agg (cl .u8 16 (sealF 0 fnNil)).toArray) (.agg (cl .u8 16 sNil).toArray)).run Try.prog w = .ok true w := fun w => by rw [eqIn16, eqNil]
  have hgd := guard16
  have hcv := abcConv
  go_enter Try.func13, Try.ntmps13
  go_wp2_with fail
  refine (sum_any (some ⟨w.heap.size, 0, none⟩) 3 3 fnAbc _ (abcArg w) (by omega) (by omega)).mono ?_
  rintro e w1 ⟨rfl, hB1⟩
  have E1 : Hid (Below w.heap.size w w1) := ((Below.refl _ _).alloc (Nat.le_refl _) _).trans (hB1.mono (by simp))
  clear hB1
  go_wp2_with fail
  refine (ofABC_any _).mono ?_
  rintro e w2 ⟨rfl, hB2⟩
  have E2 : Hid (Below w.heap.size w w2) := E1.out.trans (hB2.mono E1.out.size)
  clear hB2 E1
  go_wp2_with fail
  refine (sum_any none 0 0 fnNil _ (.inl ⟨rfl, .inl rfl⟩) (by omega) (by omega)).mono ?_
  rintro e w3 ⟨rfl, hB3⟩
  have E3 : Hid (Below w.heap.size w w3) := E2.out.trans (hB3.mono E2.out.size)
  clear hB3 E2
  go_wp2_with fail
  refine (ofNone_any _).mono ?_
  rintro e w4 ⟨rfl, hB4⟩
  have E4 : Hid (Below w.heap.size w w4) := E3.out.trans (hB4.mono E3.out.size)
  clear hB4 E3
  go_wp2_with fail
  go_ret
  exact ⟨rfl, E4.out⟩
theorem abb_no : opens 19 (upd (sealedF 3 fnAbc) 18 98) = false := by
  rw [Bool.eq_false_iff]
  intro h
  unfold opens at h
  have := (eqN_iff _ _ _).1 h 0 (by omega)
  rw [sealF_congr (19 - 16) _ fnAbb (fun j hj => by match j, hj with | 0, _ | 1, _ | 2, _ => rfl | j + 3, hj => omega), seal_Abb 0 (by omega)] at this
  have e : upd (sealedF 3 fnAbc) 18 98 0 = sAbc 0 := seal_Abc 0 (by omega)
  rw [e] at this
  revert this
  decide
theorem sealed_byte (n : Nat) (f : Nat → Int) (h : ∀ j, j < n → 0 ≤ f j ∧ f j < 256) (j : Nat) (hj : j < 16 + n) : 0 ≤ sealedF n f j ∧ sealedF n f j < 256 := by
  unfold sealedF
  by_cases e : j < 16
  · rw [if_pos e]; exact sealF_byte n f j
  · rw [if_neg e]; exact h _ (by omega)
set_option maxRecDepth 100000 in
set_option maxHeartbeats 1000000 in
theorem known_any (w : World) : Calls Try.prog 5 #[] w fun e w' => e = .returned (.bool true) ∧ Below w.heap.size w w' := by
  have hcv := abcConv
  have m1 : ∀ w, (Instr.makeSlice 22 (.int .i64 15) (.int .i64 15)).run Try.prog w = .ok (.slice (some ⟨w.heap.size, 0, none⟩) 15 15) (w.alloc (.cells (zeros 15) 5)) := make_bytes 15 (by decide)
  go_enter Try.func5, Try.ntmps5
  go_wp2_with fail
  refine (seal_any (some ⟨w.heap.size, 0, none⟩) 3 3 fnAbc _ (abcArg w) (by omega) (by omega)).mono ?_
  rintro e w1 ⟨g, rfl, hg, hR1, hB1⟩
  have E1 : Hid (Below w.heap.size w w1) := ((Below.refl _ _).alloc (Nat.le_refl _) _).trans (hB1.mono (by simp))
  have R1 : Hid (IRow w1 g .u8 19 (sealedF 3 fnAbc)) := hR1
  have hg' : w.heap.size ≤ g := by simp at hg; omega
  clear hB1 hR1 hg
  go_wp2_with fail
  refine (awake_any _).mono ?_
  rintro e w2 ⟨rfl, hB2⟩
  have E2 : Hid (Below w.heap.size w w2) := E1.out.trans (hB2.mono E1.out.size)
  have R2 : Hid (IRow w2 g .u8 19 (sealedF 3 fnAbc)) := R1.out.below hB2
  clear hB2 E1 R1
  go_wp2_with fail
  refine (open_ok (some ⟨g, 0, none⟩) 19 19 (sealedF 3 fnAbc) _ (Arg.of (R2.out.lies (sealed_byte 3 fnAbc abc_byte))) (by omega) (by omega) (by omega) (opens_sealed 3 fnAbc)).mono ?_
  rintro e w3 ⟨q, rfl, hq, hR3, hB3⟩
  have E3 : Hid (Below w.heap.size w w3) := E2.out.trans (hB3.mono E2.out.size)
  have R3 : Hid (IRow w3 g .u8 19 (sealedF 3 fnAbc)) := R2.out.below hB3
  have Q3 : Hid (IRow w3 q .u8 3 (fun j => sealedF 3 fnAbc (16 + j))) := hR3
  have hgq : g < q := by have := R2.out.2.2; omega
  clear hB3 E2 R2 hR3 hq
  have c18 : w3.cell? ⟨g, 18, none⟩ = some (.int .u8 99) := R3.out.1 18 (by omega)
  have f18 : w3.frozen? ⟨g, 18, none⟩ = false := R3.out.2.1 18
  have x98 : bits .xor .u8 99 1 = 98 := by kernel_rfl
  go_wp2_with fail
  have hl4 : IRow (w3.setCell ⟨g, 18, none⟩ (.int .u8 98)) g .u8 19 (upd (sealedF 3 fnAbc) 18 98) := R3.out.set 18 98
  have lb4 : ∀ j, j < 19 → 0 ≤ upd (sealedF 3 fnAbc) 18 98 j ∧ upd (sealedF 3 fnAbc) 18 98 j < 256 := fun j hj => by
    unfold upd
    by_cases e : j = 18
    · rw [if_pos e]; omega
    · rw [if_neg e]; exact sealed_byte 3 fnAbc abc_byte j (by omega)
  refine (open_no (some ⟨g, 0, none⟩) 19 19 (upd (sealedF 3 fnAbc) 18 98) _ (Arg.of (hl4.lies lb4)) (by omega) (by omega) (by omega) abb_no).mono ?_
  rintro e w4 ⟨rfl, hB4⟩
  have E4 : Hid (Below w.heap.size w w4) := (E3.out.setCell (by exact hg') _).trans (hB4.mono (by have := E3.out.size; simp [World.setCell]; omega))
  have Q4 : Hid (IRow w4 q .u8 3 (fun j => sealedF 3 fnAbc (16 + j))) := (Q3.out.but (But.set _ _ _) (by omega)).below hB4
  clear hB4 hl4 lb4 E3 Q3 R3 c18 f18
  go_wp2_with fail
  refine (open_few _ 15 15 _ (by omega)).mono ?_
  rintro e w5 ⟨rfl, rfl⟩
  have E5 : Hid (Below w.heap.size w (w4.alloc (.cells (zeros 15) 5))) := E4.out.alloc E4.out.size _
  have Q5 : IRow (w4.alloc (.cells (zeros 15) 5)) q .u8 3 (fun j => sealedF 3 fnAbc (16 + j)) := Q4.out.alloc _
  have hc5 : (convert 22 9 (.slice (some ⟨q, 0, none⟩) 3 3)).run Try.prog (w4.alloc (.cells (zeros 15) 5)) = .ok (.string ⟨#[97, 98, 99]⟩) (w4.alloc (.cells (zeros 15) 5)) := conv_arg _ _ 3 3 _ (Arg.of (Q5.lies (fun j hj => sealed_byte 3 fnAbc abc_byte (16 + j) (by omega))))
  clear Q5 Q4 E4
  generalize (w4.alloc (.cells (zeros 15) 5)) = W5 at E5 hc5 ⊢
  go_wp2_with fail
  refine (ofABC_any _).mono ?_
  rintro e w6 ⟨rfl, hB6⟩
  have A6 := (abcArg W5).below hB6
  have E6 : Hid (Below w.heap.size w w6) := (E5.out.alloc E5.out.size _).trans (hB6.mono (by have := E5.out.size; simp; omega))
  clear hB6 E5 hc5
  go_wp2_with fail
  refine (right16 (some ⟨W5.heap.size, 0, none⟩) 3 3 fnAbc sAbc _ A6 (by omega) (by omega)).mono ?_
  rintro e w7 ⟨rfl, hB7⟩
  rw [eqAbc]
  have E7 : Hid (Below w.heap.size w w7) := E6.out.trans (hB7.mono E6.out.size)
  clear hB7 E6 A6
  go_wp2_with fail
  refine (ofNone_any _).mono ?_
  rintro e w8 ⟨rfl, hB8⟩
  have A8 := (abcArg w7).below hB8
  have E8 : Hid (Below w.heap.size w w8) := (E7.out.alloc E7.out.size _).trans (hB8.mono (by have := E7.out.size; simp; omega))
  clear hB8 E7
  go_wp2_with fail
  refine (right16 (some ⟨w7.heap.size, 0, none⟩) 3 3 fnAbc sNil _ A8 (by omega) (by omega)).mono ?_
  rintro e w9 ⟨rfl, hB9⟩
  rw [neNil]
  have E9 : Hid (Below w.heap.size w w9) := E8.out.trans (hB9.mono E8.out.size)
  clear hB9 E8 A8
  go_wp2_with fail
  go_ret
  exact ⟨rfl, E9.out⟩
end Go.Proofs.Ytgcmlnjmfdoomaa
