/-
  Proved: RecordBatches: for all lists of accounts and transfers and all bytes, in whatever memory, on every schedule, the statement's function returns true: which bytes batches have, and which batches bytes are, is as the document says; what is handed in stays, answers are new memory. No condition.
-/
import Derived.Test.YtlcnhmlcmedonaaYLaw
import Derived.Test.YtlcnhmlcmedonaaXFrame
namespace Go.Proofs.Ytlcnhmlcmedonaa
open Go.ChangeShapes Go.WideShapes Go.ChangeAt Go.RowKit Go.Joins
theorem batches_any (a0 a1 a2 : Option Addr) (n0 C0 n1 C1 n2 C2 : Nat) (acc tra : Nat → Fld) (f : Nat → Int) (w : World) (h0 : RArg w a0 n0 acc) (h1 : RArg w a1 n1 tra) (h2 : Arg w a2 n2 f) (hC : n2 ≤ C2) :
    Calls Try.prog 4 #[.slice a0 n0 C0, .slice a1 n1 C1, .slice a2 n2 C2] w fun e w' => e = .returned (.bool true) ∧ Below w.heap.size w w' := by
  by_cases l : 20 < n0 ∨ 20 < n1 ∨ 3000 < n2
  · exact batches_long a0 a1 a2 n0 C0 n1 C1 n2 C2 w l
  · exact batches_short a0 a1 a2 n0 C0 n1 C1 n2 C2 acc tra f w h0 h1 h2 hC (by omega) (by omega) (by omega)
set_option maxRecDepth 100000 in
theorem batches_lifted (os : Os) (started : os.Started) (H : Type) (enc : TypeId × Value → H) :
    ReturnsInHanded {} Try.checked os 4 .any (Rows.recordBatchesSpec.pre6 enc Try.prog Try.f4 Rows.recordBatchesRow.domain false) (Rows.recordBatchesSpec.post enc Try.prog Try.f4 false true false false) := by
  refine returnsInHanded_of_change (C := Try.checked) own_knob started (by kernel_rfl) Try.func4
    (ChangeSpec.witness6 (enc := enc) (C := Try.checked) false ⟨#[], #[.slice none 0 0, .slice none 0 0, .slice none 0 0], []⟩ 8 (by kernel_rfl) (by kernel_rfl) (by kernel_rfl) (by kernel_rfl)) ?_
  intro W base args ds gs before hval0 hW hcnd _
  have hval : ∀ (j : Nat) t v, Try.f4.params[j]? = some t → args[j]? = some v → Value.okWide Try.prog W .any base t v := hval0
  have hW' := hW
  obtain ⟨p, q, hA0, hV, rfl, hfz, hnd⟩ := hW
  have hA : DataW.TrodAll enc Try.prog W 0 (fun _ => true) true Try.f4.params.toList args.toList ds p := hA0
  rw [Try.params4] at hA hval
  obtain ⟨v0, v1, v2, d0, d1, d2, p0, p1, p2, rfl, rfl, rfl, h0, h1, h2⟩ := trodAll_three hA
  obtain ⟨rfl, rfl⟩ := trodVars_none hV
  have k0 := h0
  have k1 := h1
  have k2 := h2
  have lt0 : ∀ x ∈ p0, x.block < W.heap.size := by obtain ⟨m, hm⟩ := k0; exact DataW.trod_lt m _ _ _ hm
  have lt1 : ∀ x ∈ p1, x.block < W.heap.size := by obtain ⟨m, hm⟩ := k1; exact DataW.trod_lt m _ _ _ hm
  have lt2 : ∀ x ∈ p2, x.block < W.heap.size := by obtain ⟨m, hm⟩ := k2; exact DataW.trod_lt m _ _ _ hm
  obtain ⟨a0, len0, cap0, rfl⟩ := okWide_slice Try.underlying39 (hval 0 39 v0 rfl rfl)
  obtain ⟨a1, len1, cap1, rfl⟩ := okWide_slice Try.underlying40 (hval 1 40 v1 rfl rfl)
  obtain ⟨a2, len2, cap2, rfl⟩ := okWide_slice Try.underlying31 (hval 2 31 v2 rfl rfl)
  obtain ⟨acc, r0⟩ := open_accs h0
  obtain ⟨tra, r1⟩ := open_tras h1
  obtain ⟨z2, r2⟩ := open_row h2
  clear hA0 hval0
  refine (batches_any a0 a1 a2 len0 cap0 len1 cap1 len2 cap2 acc tra _ W r0 r1 r2.arg r2.cap).mono fun e W' ⟨he, bel⟩ => ?_
  subst he
  exact ⟨_, rfl, _, _, _, [], _, [], hW', trodAll_mk1 (shut_bool Try.underlying4 _), trodAll_mk3 (Below.trod laid_out (by kernel_rfl) (of_decide_eq_true (by kernel_rfl)) k0 bel lt0) (Below.trod laid_out (by kernel_rfl) (of_decide_eq_true (by kernel_rfl)) k1 bel lt1) (Below.trod laid_out (by kernel_rfl) (of_decide_eq_true (by kernel_rfl)) k2 bel lt2), rfl, bel.frame _, fun h => by cases h⟩

theorem batches_holds : Rows.RecordBatchesSaid :=
  OpenClaim.holds_of_wide 4 Try.f4 rfl rfl rfl rfl rfl rfl rfl ⟨rfl, rfl, rfl, rfl, rfl⟩ rfl rfl rfl rfl rfl (by kernel_rfl) Try.func4 (by kernel_rfl)
    (of_decide_eq_true (by kernel_rfl)) (by unfold Func.isWrapper; first | (rw [if_pos (by decide +kernel)]; kernel_rfl) | (rw [if_neg (by decide +kernel)]; exact ⟨rfl, rfl⟩))
    (fun os started H enc _ => batches_lifted os started H enc)
#print axioms batches_holds
end Go.Proofs.Ytlcnhmlcmedonaa
