/-
  Proved: RecordWrites: for every account and every transfer, in whatever memory, on every schedule, the statement's function returns true: their bytes are as the document says, in new memory. No condition.
-/
import Derived.Test.YthpcfbmnciijpaaQWr
import Derived.ProofKit
import Derived.OpenShut
import Derived.ShutString
import Derived.ChangeOld
import Derived.Below
import Derived.Lib.SmallJoins
namespace Go.Proofs.Ythpcfbmnciijpaa
open Go.ChangeShapes Go.WideShapes Go.ChangeAt Go.RowKit Go.Joins

theorem own_knob : ownKnob Try.prog.godebug = none := by kernel_rfl
theorem laid_out : laidOutB Try.prog = true := by kernel_rfl
theorem word_of_wf {x : Int} (h : (Lit.int .u64 x).wf = true) : Word x := by
  simp [Lit.wf, IntKind.min, IntKind.max, IntKind.signed, IntKind.bits] at h
  exact ⟨by omega, by omega⟩
theorem b32 {x : Int} (h : (Lit.int .u32 x).wf = true) : 0 ≤ x ∧ x < 4294967296 := by
  simp [Lit.wf, IntKind.min, IntKind.max, IntKind.signed, IntKind.bits] at h
  exact ⟨by omega, by omega⟩
theorem b16 {x : Int} (h : (Lit.int .u16 x).wf = true) : 0 ≤ x ∧ x < 65536 := by
  simp [Lit.wf, IntKind.min, IntKind.max, IntKind.signed, IntKind.bits] at h
  exact ⟨by omega, by omega⟩
variable {H : Type} {enc : TypeId × Value → H}
theorem first_of {L : List Value} {o n : Nat} {v : Value} (h : (L.drop o).take n = [v]) : L[o]? = some v := by
  have := congrArg (·[0]?) h
  simp only [List.getElem?_take, List.getElem?_drop] at this
  split at this
  · simpa using this
  · simp at this
theorem int_at {W : World} {L : List Value} {n : Nat} {t : TypeId} {k : IntKind} {y : DataW H × List MemPlace} (o : Nat) (ht : Try.prog.underlying t = some (.int k)) (_ : Try.prog.cellsOf t = 1)
    (h : DataW.trod enc Try.prog W 0 (fun _ => true) true n t ((L.drop o).take (Try.prog.cellsOf t)) = some y) : ∃ x : Int, L[o]? = some (.int k x) ∧ (Lit.int k x).wf = true := by
  obtain ⟨x, e, _, wf⟩ := DataW.trod_int ht h
  exact ⟨x, first_of e, wf⟩
theorem u128_at {W : World} {L : List Value} {n : Nat} {y : DataW H × List MemPlace} (o : Nat)
    (h : DataW.trod enc Try.prog W 0 (fun _ => true) true n 24 ((L.drop o).take (Try.prog.cellsOf 24)) = some y) : ∃ a b : Int, L[o]? = some (.int .u64 a) ∧ L[o + 1]? = some (.int .u64 b) ∧ Word a ∧ Word b := by
  have h2 : Try.prog.cellsOf 24 = 2 := by kernel_rfl
  rw [h2] at h
  obtain ⟨y0, y1, k, _, _, t0, t1⟩ := trod_struct2 Try.underlying24 h
  obtain ⟨a, e0, _, wa⟩ := DataW.trod_int Try.underlying22 t0
  obtain ⟨b, e1, _, wb⟩ := DataW.trod_int Try.underlying22 t1
  have f0 := first_of e0
  have f1 := first_of e1
  simp only [List.getElem?_take, List.getElem?_drop] at f0 f1
  refine ⟨a, b, by simpa using f0, by simpa using f1, word_of_wf wa, word_of_wf wb⟩
set_option maxRecDepth 10000 in
theorem open_acc {W : World} {base : Nat} {v : Value} {d : DataW H} {p : List MemPlace} (hv : Value.okWide Try.prog W .any base 28 v) (h : DataW.Trod enc Try.prog W 0 (fun _ => true) true 28 v d p) : ∃ a : Fld, v = a.val ∧ a.wf := by
  obtain ⟨cs, rfl, hsz⟩ := okWide_struct Try.underlying28 hv
  have h19 : Try.prog.cellsOf 28 = 19 := by kernel_rfl
  rw [h19] at hsz
  obtain ⟨fuel, hf⟩ := h
  obtain ⟨xs, m, _, _, _, hxl, hel⟩ := DataW.trod_struct Try.underlying28 hf
  have hL : (Value.agg cs).cells.toList = cs.toList := rfl
  rw [hL] at hel
  have hx : xs.length = 13 := hxl
  have g := fun (i : Nat) (f : Field) hfi (hi : i < 13) => (hel i f hfi).trans (List.getElem?_eq_getElem (l := xs) (i := i) (by omega))
  obtain ⟨h0, l0, c0, c1, w0, w1⟩ := u128_at 0 (g 0 _ rfl (by omega))
  obtain ⟨h1, l1, c2, c3, w2, w3⟩ := u128_at 2 (g 1 _ rfl (by omega))
  obtain ⟨h2, l2, c4, c5, w4, w5⟩ := u128_at 4 (g 2 _ rfl (by omega))
  obtain ⟨h3, l3, c6, c7, w6, w7⟩ := u128_at 6 (g 3 _ rfl (by omega))
  obtain ⟨h4, l4, c8, c9, w8, w9⟩ := u128_at 8 (g 4 _ rfl (by omega))
  obtain ⟨h5, l5, c10, c11, w10, w11⟩ := u128_at 10 (g 5 _ rfl (by omega))
  obtain ⟨p, c12, w12⟩ := int_at 12 Try.underlying22 (by kernel_rfl) (g 6 _ rfl (by omega))
  obtain ⟨q, c13, w13⟩ := int_at 13 Try.underlying25 (by kernel_rfl) (g 7 _ rfl (by omega))
  obtain ⟨r, c14, w14⟩ := int_at 14 Try.underlying25 (by kernel_rfl) (g 8 _ rfl (by omega))
  obtain ⟨s, c15, w15⟩ := int_at 15 Try.underlying25 (by kernel_rfl) (g 9 _ rfl (by omega))
  obtain ⟨t, c16, w16⟩ := int_at 16 Try.underlying26 (by kernel_rfl) (g 10 _ rfl (by omega))
  obtain ⟨u, c17, w17⟩ := int_at 17 Try.underlying26 (by kernel_rfl) (g 11 _ rfl (by omega))
  obtain ⟨v, c18, w18⟩ := int_at 18 Try.underlying22 (by kernel_rfl) (g 12 _ rfl (by omega))
  refine ⟨⟨h0, l0, h1, l1, h2, l2, h3, l3, h4, l4, h5, l5, p, q, r, s, t, u, v⟩, ?_, ⟨w0, w1, w2, w3, w4, w5, w6, w7, w8, w9, w10, w11, word_of_wf w12, b32 w13, b32 w14, b32 w15, b16 w16, b16 w17, word_of_wf w18⟩⟩
  have e : cs.toList = Fld.cs ⟨h0, l0, h1, l1, h2, l2, h3, l3, h4, l4, h5, l5, p, q, r, s, t, u, v⟩ := by
    refine List.ext_getElem? fun j => ?_
    match j with
    | 0 => exact c0
    | 1 => exact c1
    | 2 => exact c2
    | 3 => exact c3
    | 4 => exact c4
    | 5 => exact c5
    | 6 => exact c6
    | 7 => exact c7
    | 8 => exact c8
    | 9 => exact c9
    | 10 => exact c10
    | 11 => exact c11
    | 12 => exact c12
    | 13 => exact c13
    | 14 => exact c14
    | 15 => exact c15
    | 16 => exact c16
    | 17 => exact c17
    | 18 => exact c18
    | j + 19 => rw [List.getElem?_eq_none (by simp; omega), List.getElem?_eq_none (by simp [Fld.cs])]
  rw [Fld.val_cs, ← e]
set_option maxRecDepth 10000 in
theorem open_tra {W : World} {base : Nat} {v : Value} {d : DataW H} {p : List MemPlace} (hv : Value.okWide Try.prog W .any base 30 v) (h : DataW.Trod enc Try.prog W 0 (fun _ => true) true 30 v d p) : ∃ a : Fld, v = a.val ∧ a.wf := by
  obtain ⟨cs, rfl, hsz⟩ := okWide_struct Try.underlying30 hv
  have h19 : Try.prog.cellsOf 30 = 19 := by kernel_rfl
  rw [h19] at hsz
  obtain ⟨fuel, hf⟩ := h
  obtain ⟨xs, m, _, _, _, hxl, hel⟩ := DataW.trod_struct Try.underlying30 hf
  have hL : (Value.agg cs).cells.toList = cs.toList := rfl
  rw [hL] at hel
  have hx : xs.length = 13 := hxl
  have g := fun (i : Nat) (f : Field) hfi (hi : i < 13) => (hel i f hfi).trans (List.getElem?_eq_getElem (l := xs) (i := i) (by omega))
  obtain ⟨h0, l0, c0, c1, w0, w1⟩ := u128_at 0 (g 0 _ rfl (by omega))
  obtain ⟨h1, l1, c2, c3, w2, w3⟩ := u128_at 2 (g 1 _ rfl (by omega))
  obtain ⟨h2, l2, c4, c5, w4, w5⟩ := u128_at 4 (g 2 _ rfl (by omega))
  obtain ⟨h3, l3, c6, c7, w6, w7⟩ := u128_at 6 (g 3 _ rfl (by omega))
  obtain ⟨h4, l4, c8, c9, w8, w9⟩ := u128_at 8 (g 4 _ rfl (by omega))
  obtain ⟨h5, l5, c10, c11, w10, w11⟩ := u128_at 10 (g 5 _ rfl (by omega))
  obtain ⟨p, c12, w12⟩ := int_at 12 Try.underlying22 (by kernel_rfl) (g 6 _ rfl (by omega))
  obtain ⟨q, c13, w13⟩ := int_at 13 Try.underlying25 (by kernel_rfl) (g 7 _ rfl (by omega))
  obtain ⟨r, c14, w14⟩ := int_at 14 Try.underlying25 (by kernel_rfl) (g 8 _ rfl (by omega))
  obtain ⟨s, c15, w15⟩ := int_at 15 Try.underlying25 (by kernel_rfl) (g 9 _ rfl (by omega))
  obtain ⟨t, c16, w16⟩ := int_at 16 Try.underlying26 (by kernel_rfl) (g 10 _ rfl (by omega))
  obtain ⟨u, c17, w17⟩ := int_at 17 Try.underlying26 (by kernel_rfl) (g 11 _ rfl (by omega))
  obtain ⟨v, c18, w18⟩ := int_at 18 Try.underlying22 (by kernel_rfl) (g 12 _ rfl (by omega))
  refine ⟨⟨h0, l0, h1, l1, h2, l2, h3, l3, h4, l4, h5, l5, p, q, r, s, t, u, v⟩, ?_, ⟨w0, w1, w2, w3, w4, w5, w6, w7, w8, w9, w10, w11, word_of_wf w12, b32 w13, b32 w14, b32 w15, b16 w16, b16 w17, word_of_wf w18⟩⟩
  have e : cs.toList = Fld.cs ⟨h0, l0, h1, l1, h2, l2, h3, l3, h4, l4, h5, l5, p, q, r, s, t, u, v⟩ := by
    refine List.ext_getElem? fun j => ?_
    match j with
    | 0 => exact c0
    | 1 => exact c1
    | 2 => exact c2
    | 3 => exact c3
    | 4 => exact c4
    | 5 => exact c5
    | 6 => exact c6
    | 7 => exact c7
    | 8 => exact c8
    | 9 => exact c9
    | 10 => exact c10
    | 11 => exact c11
    | 12 => exact c12
    | 13 => exact c13
    | 14 => exact c14
    | 15 => exact c15
    | 16 => exact c16
    | 17 => exact c17
    | 18 => exact c18
    | j + 19 => rw [List.getElem?_eq_none (by simp; omega), List.getElem?_eq_none (by simp [Fld.cs])]
  rw [Fld.val_cs, ← e]
set_option maxRecDepth 100000 in
theorem writes_lifted (os : Os) (started : os.Started) (H : Type) (enc : TypeId × Value → H) :
    ReturnsInHanded {} Try.checked os 3 .any (Rows.recordWritesSpec.pre6 enc Try.prog Try.f3 Rows.recordWritesRow.domain false) (Rows.recordWritesSpec.post enc Try.prog Try.f3 false true false false) := by
  refine returnsInHanded_of_change (C := Try.checked) own_knob started (by kernel_rfl) Try.func3
    (ChangeSpec.witness6 (enc := enc) (C := Try.checked) false ⟨#[], #[.agg #[.int .u64 0, .int .u64 0, .int .u64 0, .int .u64 0, .int .u64 0, .int .u64 0, .int .u64 0, .int .u64 0, .int .u64 0, .int .u64 0, .int .u64 0, .int .u64 0, .int .u64 0, .int .u32 0, .int .u32 0, .int .u32 0, .int .u16 0, .int .u16 0, .int .u64 0], .agg #[.int .u64 0, .int .u64 0, .int .u64 0, .int .u64 0, .int .u64 0, .int .u64 0, .int .u64 0, .int .u64 0, .int .u64 0, .int .u64 0, .int .u64 0, .int .u64 0, .int .u64 0, .int .u32 0, .int .u32 0, .int .u32 0, .int .u16 0, .int .u16 0, .int .u64 0]], []⟩ 8 (by kernel_rfl) (by kernel_rfl) (by kernel_rfl) (by kernel_rfl)) ?_
  intro W base args ds gs before hval0 hW hcnd _
  have hval : ∀ (j : Nat) t v, Try.f3.params[j]? = some t → args[j]? = some v → Value.okWide Try.prog W .any base t v := hval0
  have hW' := hW
  obtain ⟨p, q, hA0, hV, rfl, hfz, hnd⟩ := hW
  have hA : DataW.TrodAll enc Try.prog W 0 (fun _ => true) true Try.f3.params.toList args.toList ds p := hA0
  rw [Try.params3] at hA hval
  obtain ⟨v0, v1, d0, d1, p0, p1, rfl, rfl, rfl, h0, h1⟩ := trodAll_two hA
  obtain ⟨rfl, rfl⟩ := trodVars_none hV
  have k0 := h0
  have k1 := h1
  have lt0 : ∀ x ∈ p0, x.block < W.heap.size := by obtain ⟨m, hm⟩ := k0; exact DataW.trod_lt m _ _ _ hm
  have lt1 : ∀ x ∈ p1, x.block < W.heap.size := by obtain ⟨m, hm⟩ := k1; exact DataW.trod_lt m _ _ _ hm
  obtain ⟨a, rfl, ha⟩ := open_acc (hval 0 28 v0 rfl rfl) h0
  obtain ⟨t, rfl, ht⟩ := open_tra (hval 1 30 v1 rfl rfl) h1
  clear hA0 hval0
  refine (writes_any a t W ha ht).mono fun e W' ⟨he, bel⟩ => ?_
  subst he
  exact ⟨_, rfl, _, _, _, [], _, [], hW', trodAll_mk1 (shut_bool Try.underlying4 _), trodAll_mk2 (Below.trod laid_out (by kernel_rfl) (of_decide_eq_true (by kernel_rfl)) k0 bel lt0) (Below.trod laid_out (by kernel_rfl) (of_decide_eq_true (by kernel_rfl)) k1 bel lt1), rfl, bel.frame _, fun h => by cases h⟩

theorem writes_holds : Rows.RecordWritesSaid :=
  OpenClaim.holds_of_wide 3 Try.f3 rfl rfl rfl rfl rfl rfl rfl ⟨rfl, rfl, rfl, rfl, rfl⟩ rfl rfl rfl rfl rfl (by kernel_rfl) Try.func3 (by kernel_rfl)
    (of_decide_eq_true (by kernel_rfl)) (by unfold Func.isWrapper; first | (rw [if_pos (by decide +kernel)]; kernel_rfl) | (rw [if_neg (by decide +kernel)]; exact ⟨rfl, rfl⟩))
    (fun os started H enc _ => writes_lifted os started H enc)
#print axioms writes_holds
end Go.Proofs.Ythpcfbmnciijpaa
