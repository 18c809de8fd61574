/-
  Walks, not a claim by itself: bytes.Clone. By the verifier.
-/
import Derived.Test.YtelcijfcgflagaaTxK
import Derived.Laws.Cover3
import Derived.Stop.Walk2
import Derived.Laws.IdiomStrings
import Derived.Lib.AppendZerosOnto
import Derived.Test.YtelcijfcgflagaaDRegW
import Derived.Test.YtelcijfcgflagaaReg2
import Derived.Test.YtelcijfcgflagaaCut
namespace Go.Proofs.Ytelcijfcgflagaa
open Go.RowKit
attribute [-go_sem] Builtin.append_
/-- A slice of bytes of its own, which may be one of no bytes. -/
def FrC (W : World) (base : Nat) (s : Value) (t : ByteArray) : Prop := Fr W base s t ∨ (t.size = 0 ∧ ∃ g, s = .slice (some ⟨g, 0, none⟩) 0 0)
theorem FrC.sl {W : World} {base : Nat} {s : Value} {t : ByteArray} (h : FrC W base s t) : ∃ a n C, s = .slice a n C := by
  rcases h with h | ⟨_, g, rfl⟩
  · exact h.sl
  · exact ⟨_, _, _, rfl⟩
theorem FrC.off {W W' : World} {base : Nat} {s : Value} {t : ByteArray} {N : List Nat} (h : FrC W base s t) (hO : Off N W W') (hN : ∀ b, b ∈ N → b < base) : FrC W' base s t := h.imp (fun h => h.off hO hN) id
theorem FrC.below {W W' : World} {base : Nat} {s : Value} {t : ByteArray} (h : FrC W base s t) (hB : Below W.heap.size W W') : FrC W' base s t := h.imp (fun h => h.below hB) id
theorem FrC.low {W : World} {base base' : Nat} {s : Value} {t : ByteArray} (h : FrC W base s t) (hb : base' ≤ base) : FrC W base' s t := h.imp (fun h => h.low hb) id
theorem FrC.offT {W W' : World} {base : Nat} {s : Value} {t : ByteArray} {N : List Nat} (h : FrC W base s t) (k : Txt W N s t) (hO : Off N W W') : FrC W' base s t := h.imp (fun h => h.offT k hO) id
theorem FrC.cks {W W' : World} {base : Nat} {s : Value} {t : ByteArray} (h : FrC W base s t) (k : Cks W W') : FrC W' base s t := h.imp (fun h => h.cks k) id
theorem FrC.txt {W : World} {base : Nat} {s : Value} {t : ByteArray} {N : List Nat} (h : FrC W base s t) (hN : ∀ b, b ∈ N → b < base) : Txt W N s t := by
  rcases h with h | ⟨h0, g, rfl⟩
  · exact h.txt hN
  · have e : t = ByteArray.empty := by
      apply ByteArray.ext
      exact Array.eq_empty_of_size_eq_zero h0
    subst e
    exact ⟨_, 0, fun _ => 0, rfl, .inl ⟨rfl, .inr ⟨_, rfl⟩⟩, rfl, fun q => absurd q (by decide)⟩
set_option maxRecDepth 100000 in
theorem bs0u_run {a : Act} {w : World} {o : Oper} (ho : o.op = .buildSlice 43 0 #[]) : (execOp a.eval o).run Try.prog w = .ok (.value (.slice (some ⟨w.heap.size, 0, none⟩) 0 0)) (w.alloc (.cells #[] 5)) := by
  obtain ⟨i0, hi, _, _, _⟩ := info_parts info_u8
  unfold execOp
  simp only [ho]
  simp [Instr.buildSlice, run_underlying Try.underlying43, sizeOf, typeInfo, hi, newRow, Instr.fill, Result.andThen]
  congr 2
  exact Array.eq_empty_of_size_eq_zero (by simp)
theorem empC_app {W : World} {N : List Nat} {s : Value} {t : ByteArray} (h : Txt W N s t) (hn : t.size ≤ 1000000) (ty : TypeId) (y : Nat) : ∃ a n C W', (Builtin.append_ #[43, 43] ty #[.slice (some ⟨y, 0, none⟩) 0 0, s]).run Try.prog W = .ok (.slice a n C) W' ∧ FrC W' W.heap.size (.slice a n C) t ∧ Below W.heap.size W W' := by
  obtain ⟨s', W', hr, hF, hB⟩ := fresh_run h hn ty
  obtain ⟨a, C, f, rfl, hA, ht, _⟩ := h
  obtain ⟨i0, hi, hz0, hz1, hz2⟩ := info_parts info_u8
  rcases hA with ⟨h0, hq⟩ | ⟨h0, b, off, rfl, hl⟩
  · refine ⟨some ⟨y, 0, none⟩, 0, 0, W, ?_, .inr ⟨h0, y, rfl⟩, Below.refl _ _⟩
    rw [h0]
    rcases hq with rfl | ⟨p, rfl⟩
    · simp [Builtin.append_, run_underlying Try.underlying43, sizeOf, typeInfo, hi, Builtin.lenOf, Builtin.firstCells, storeCells]
    · simp [Builtin.append_, run_underlying Try.underlying43, sizeOf, typeInfo, hi, Builtin.lenOf, Builtin.firstCells, loadCells, loadCellsFrom, storeCells]
  · obtain ⟨sa, sn, sC, rfl⟩ := hF.sl
    refine ⟨sa, sn, sC, W', ?_, .inl hF, hB⟩
    rw [← hr]
    have hA : ∀ j u, (cl .u8 t.size f)[j]? = some u → W.cell? ((⟨b, off, none⟩ : Addr).add j) = some u := fun j u hj => by obtain ⟨h, rfl⟩ := cl_at' hj; rw [Addr.add_mid]; exact hl.1 j h
    have hrN := run_append_nil (P := Try.prog) W 43 ty 5 i0 (.int .u8 0) Try.underlying43 hi hz0 ⟨b, off, none⟩ t.size C (cl .u8 t.size f) (by rw [cl_len, hz1, Nat.mul_one]) hA h0 (by omega) (by rw [hz2]; omega)
    have hfit : Builtin.nextslicecap (0 + t.size) 0 * i0.bytes ≤ 281474976710656 := growslice_fits (by omega) (by rw [hz2]; omega)
    have hrG := run_append_grow (P := Try.prog) W 43 ty 5 i0 (.int .u8 0) Try.underlying43 hi hz0 ⟨y, 0, none⟩ 0 0 [] (by simp) (fun j u hj => by cases hj) ⟨b, off, none⟩ t.size C (cl .u8 t.size f) (by rw [cl_len, hz1, Nat.mul_one]) hA (by omega) (by omega) hfit
    rw [hrG, hrN]
    simp
theorem eqb_nil (a : Addr) (n c : Nat) (w : World) : (binOp .eql 43 (.slice (some a) n c) (.slice none 0 0)).run Try.prog w = .ok (.bool false) w := by
  have h : (Op.equal 43 (.slice (some a) n c) (.slice none 0 0)).run Try.prog w = .ok false w := run_equal_slice_nil w 43 5 (some a) n c Try.underlying43
  simp only [binOp]
  simp [h]
theorem eqb_nil' (n c : Nat) (w : World) : (binOp .eql 43 (.slice none n c) (.slice none 0 0)).run Try.prog w = .ok (.bool true) w := by
  have h : (Op.equal 43 (.slice none n c) (.slice none 0 0)).run Try.prog w = .ok true w := run_equal_slice_nil w 43 5 none n c Try.underlying43
  simp only [binOp]
  simp [h]
/-- What Clone answers. -/
def ClPost (W : World) (t : ByteArray) (e : Ending) (w' : World) : Prop := ∃ a n C, e = .returned (.slice a n C) ∧ FrC w' W.heap.size (.slice a n C) t ∧ Below W.heap.size W w'
set_option maxRecDepth 100000 in
theorem clone_any {W : World} {N : List Nat} {s : Value} {t : ByteArray} (h : Txt W N s t) (hn : t.size ≤ 1000000) : Calls Try.prog 67 #[s] W (ClPost W t) := by
  have HT := hidIt h
  obtain ⟨a, C, f, rfl, hA, ht, hN⟩ := h
  cases a with
  | none =>
    have z : t.size = 0 := by
      rcases hA with h | ⟨_, b, off, h, _⟩
      · exact h.1
      · cases h
    have R : Hid (ClPost W t (.returned (.slice none 0 0)) W) := hidIt ⟨none, 0, 0, rfl, .inl (.inl ⟨z, rfl⟩), Below.refl _ _⟩
    clear HT hA hN ht hn z
    generalize t.size = n at *
    have Q := eqb_nil' n C W
    go_enter Try.func67, Try.ntmps67
    go_wp2
    go_ret
    exact R.out
  | some q =>
    have A1 : Below W.heap.size W (W.alloc (.cells #[] 5)) := (Below.refl _ _).alloc (Nat.le_refl _) _
    obtain ⟨a', n', C', W2, hr, hF, hB⟩ := empC_app (HT.out.below A1) hn 43 W.heap.size
    have R : Hid (ClPost W t (.returned (.slice a' n' C')) W2) := hidIt ⟨a', n', C', rfl, hF.low A1.size, A1.trans (hB.mono A1.size)⟩
    clear HT hA hN ht hn hF hB A1
    generalize t.size = n at *
    have Q := eqb_nil q n C W
    go_enter Try.func67, Try.ntmps67
    go_wp2_with (first
      | (refine wpList_run_w (by rfl) (.slice (some ⟨W.heap.size, 0, none⟩) 0 0) (W.alloc (.cells #[] 5)) (bs0u_run rfl) ?_)
      | (at_builtin; refine wpList_append_go rfl (.tmp 5) (.tmp 6) 43 43 rfl _ _ rfl rfl hr ?_))
    exact bodyPost_ret (by simp [results, Try.results67, go_sem]) rfl R.out
end Go.Proofs.Ytelcijfcgflagaa
