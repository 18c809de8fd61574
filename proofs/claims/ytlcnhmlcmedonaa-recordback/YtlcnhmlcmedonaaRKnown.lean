/-
  Walks, not a claim by itself: the examples that the laws ask of every program ('awake'), and those of RecordKnown, come out true. By the verifier.
-/
import Derived.Test.YtlcnhmlcmedonaaABytes
import Derived.Test.YtlcnhmlcmedonaaTBytes
import Derived.Test.YtlcnhmlcmedonaaBNo
import Derived.Test.YtlcnhmlcmedonaaBNo2
import Derived.Test.YtlcnhmlcmedonaaBNil
namespace Go.Proofs.Ytlcnhmlcmedonaa
open Go.RowKit
def accEx : Fld := ⟨0, 1, 0, 0, 0, 0, 0, 0, 0, 0, 0, 0, 0, 0, 0, 2, 3, 0, 258⟩
def trEx : Fld := ⟨0, 0, 0, 0, 0, 0, 0, 9, 0, 0, 0, 0, 0, 0, 7, 0, 0, 0, 0⟩
theorem accEx_wf : accEx.wf := by unfold Fld.wf Word accEx; simp
theorem trEx_wf : trEx.wf := by unfold Fld.wf Word trEx; simp
set_option maxRecDepth 100000 in
theorem awake_any (w : World) : Calls Try.prog 12 #[] w fun e w' => e = .returned (.bool true) ∧ Below w.heap.size w w' := by
  go_enter Try.func12, Try.ntmps12
  go_wp2_with fail
  refine (abytes_any accEx _ accEx_wf).mono ?_
  rintro e w1 ⟨b, rfl, _, hR, hB⟩
  have c0 := (hR.1 0 (by decide)).trans (by kernel_rfl : _ = some (Value.int .u8 1))
  have c1 := (hR.1 112 (by decide)).trans (by kernel_rfl : _ = some (Value.int .u8 2))
  have c2 := (hR.1 116 (by decide)).trans (by kernel_rfl : _ = some (Value.int .u8 3))
  have c3 := (hR.1 120 (by decide)).trans (by kernel_rfl : _ = some (Value.int .u8 2))
  have c4 := (hR.1 121 (by decide)).trans (by kernel_rfl : _ = some (Value.int .u8 1))
  have B : Hid (Below w.heap.size w w1) := hB
  clear hR hB
  go_wp2_with fail
  go_ret
  exact ⟨rfl, B.out⟩

set_option maxRecDepth 100000 in
set_option maxHeartbeats 1000000 in
theorem known_any (w : World) : Calls Try.prog 25 #[] w fun e w' => e = .returned (.bool true) ∧ Below w.heap.size w w' := by
  have m1 : ∀ w, (Instr.makeSlice 31 (.int .i64 127) (.int .i64 127)).run Try.prog w = .ok (.slice (some ⟨w.heap.size, 0, none⟩) 127 127) (w.alloc (.cells (zeros 127) 5)) := make_bytes 127 (by decide)
  have m2 : ∀ w, (Instr.makeSlice 31 (.int .i64 129) (.int .i64 129)).run Try.prog w = .ok (.slice (some ⟨w.heap.size, 0, none⟩) 129 129) (w.alloc (.cells (zeros 129) 5)) := make_bytes 129 (by decide)
  have m3 : ∀ w, (Instr.makeSlice 31 (.int .i64 1152) (.int .i64 1152)).run Try.prog w = .ok (.slice (some ⟨w.heap.size, 0, none⟩) 1152 1152) (w.alloc (.cells (zeros 1152) 5)) := make_bytes 1152 (by decide)
  go_enter Try.func25, Try.ntmps25
  go_wp2_with fail
  refine (tbytes_any trEx _ trEx_wf).mono ?_
  rintro e w1 ⟨b, rfl, _, hR, hB⟩
  have c0 := (hR.1 48 (by decide)).trans (by kernel_rfl : _ = some (Value.int .u8 9))
  have c1 := (hR.1 108 (by decide)).trans (by kernel_rfl : _ = some (Value.int .u8 7))
  have hb := hR.2.2
  have B : Hid (Below w.heap.size w w1) := hB
  clear hR hB
  go_wp2_with fail
  refine (readAccount_no _ 127 127 _ (by decide)).mono ?_
  rintro e w2 ⟨rfl, hB2⟩
  have q2 : Below w1.heap.size w1 w2 := ((Below.refl _ _).alloc (Nat.le_refl _) _).trans (hB2.mono (by simp))
  clear hB2
  go_wp2_with (refine wpList_store_rec rfl 28 (.tmp 2) _ rfl w2.heap.size 0 zero19 zero19 rfl rfl (Rec19.new w2 28 zero19) rfl (by kernel_rfl) zero19_one ?_; intro W2 hR hB2; have q3 : Below w1.heap.size w1 W2 := (q2.alloc q2.size _).trans (hB2.below q2.size (by have := q2.size; simp; omega)); clear hB2 hR q2)
  refine (readAccounts_bytes _ 129 129 _ (by decide)).mono ?_
  rintro e w4 ⟨rfl, hB4⟩
  have q4 : Below w1.heap.size w1 w4 := (q3.alloc q3.size _).trans (hB4.mono (by have := q3.size; simp; omega))
  clear hB4 q3
  go_wp2_with fail
  refine (readAccounts_long _ 1152 1152 _ (by decide) (by decide) (by decide)).mono ?_
  rintro e w5 ⟨rfl, hB5⟩
  have q5 : Below w1.heap.size w1 w5 := (q4.alloc q4.size _).trans (hB5.mono (by have := q4.size; simp; omega))
  clear hB5 q4
  go_wp2_with fail
  refine (readTransfers_nil _).mono ?_
  rintro e w6 ⟨b6, rfl, hB6⟩
  have q6 : Below w1.heap.size w1 w6 := q5.trans (hB6.mono q5.size)
  clear hB6 q5
  go_wp2_with fail
  refine (awake_any _).mono ?_
  rintro e w7 ⟨rfl, hB7⟩
  have q7 : Below w1.heap.size w1 w7 := q6.trans (hB7.mono q6.size)
  clear hB7 q6
  have d0 := (q7.cell (p := ⟨b, 48, none⟩) hb).trans c0
  have d1 := (q7.cell (p := ⟨b, 108, none⟩) hb).trans c1
  have B7 : Hid (Below w.heap.size w w7) := B.out.trans (q7.mono B.out.size)
  clear q7 c0 c1 B
  go_wp2_with fail
  go_ret
  exact ⟨rfl, B7.out⟩
end Go.Proofs.Ytlcnhmlcmedonaa
