/-
  The frame of the rows' proofs, not a claim by itself: bytes as an argument. By the verifier.
-/
import Derived.Test.YtelcijfcgflagaaBArg
import Derived.ProofKit
import Derived.OpenShut
import Derived.ShutString
import Derived.ChangeOld
import Derived.Below
import Derived.Lib.SmallJoins
namespace Go.Proofs.Ytelcijfcgflagaa
open Go.ChangeShapes Go.WideShapes Go.ChangeAt Go.RowKit Go.Joins

theorem own_knob : ownKnob Try.prog.godebug = none := by kernel_rfl
theorem laid_out : laidOutB Try.prog = true := by kernel_rfl
/-- What the walk is told of bytes that came in. -/
def IsRow (w : World) (a : Option Addr) (len cap : Nat) (zs : List Int) : Prop :=
  (a = none ∧ len = 0 ∧ cap = 0 ∧ zs = []) ∨
  ∃ x, a = some x ∧ len ≤ cap ∧ zs.length = cap ∧ (∀ i, i < zs.length → w.cell? (x.add i) = some (.int .u8 (zs.getD i 0))) ∧ ∀ n ∈ zs, (Lit.int .u8 n).wf = true
theorem byte_of_wf {x : Int} (h : (Lit.int .u8 x).wf = true) : 0 ≤ x ∧ x < 256 := by
  simp [Lit.wf, IntKind.min, IntKind.max, IntKind.signed, IntKind.bits] at h
  exact ⟨by omega, by omega⟩
theorem IsRow.cap {w : World} {a : Option Addr} {len cap : Nat} {zs : List Int} (h : IsRow w a len cap zs) : len ≤ cap := by
  rcases h with ⟨_, rfl, rfl, _⟩ | ⟨x, _, hl, _⟩
  · exact Nat.le_refl _
  · exact hl
theorem IsRow.arg {w : World} {a : Option Addr} {len cap : Nat} {zs : List Int} (h : IsRow w a len cap zs) : Arg w a len (fun j => zs.getD j 0) := by
  rcases h with ⟨rfl, rfl, _, _⟩ | ⟨x, rfl, hl, hz, hcell, hwz⟩
  · exact .inl ⟨rfl, .inl rfl⟩
  · by_cases h0 : len = 0
    · exact .inl ⟨h0, .inr ⟨x, rfl⟩⟩
    · obtain ⟨b, off, spot⟩ := x
      have hc := hcell 0 (by omega)
      have hspot : spot = none := by simpa [Addr.add] using World.cell?_spot hc
      subst hspot
      have hc' : ∀ j, j < len → w.cell? ⟨b, off + j, none⟩ = some (.int .u8 (zs.getD j 0)) := fun j hj => by
        have := hcell j (by omega)
        rwa [Addr.add_mid] at this
      refine .inr ⟨by omega, b, off, rfl, hc', fun j hj => ?_, World.block_lt_of_cell? w _ (hc' 0 (by omega))⟩
      have hjl : j < zs.length := by omega
      show 0 ≤ zs.getD j 0 ∧ zs.getD j 0 < 256
      rw [List.getD_eq_getElem?_getD, List.getElem?_eq_getElem hjl]
      exact byte_of_wf (hwz _ (List.getElem_mem hjl))
variable {H : Type} {enc : TypeId × Value → H}
set_option maxRecDepth 100000 in
/-- Bytes that came in, opened. -/
theorem open_row {W : World} {a : Option Addr} {len cap : Nat} {d : DataW H} {p : List MemPlace} (h : DataW.Trod enc Try.prog W 0 (fun _ => true) true 43 (.slice a len cap) d p) : ∃ zs, IsRow W a len cap zs := by
  obtain ⟨fuel, hf⟩ := h
  rcases open_ints Try.underlying43 Try.underlying5 (by kernel_rfl) hf with ⟨hcs, _⟩ | ⟨x, l, c, zs, hcs, _, hl, hm, hz, _, hcell, hwz⟩
  · simp [Value.cells] at hcs
    obtain ⟨rfl, rfl, rfl⟩ := hcs
    exact ⟨[], .inl ⟨rfl, rfl, rfl, rfl⟩⟩
  · simp [Value.cells] at hcs
    obtain ⟨rfl, rfl, rfl⟩ := hcs
    exact ⟨zs, .inr ⟨_, rfl, hl, by simpa using hz, hcell, hwz⟩⟩
set_option maxRecDepth 100000 in
theorem okWide_arr {W : World} {base : Nat} {n : Nat} {e t : TypeId} {v : Value} (ht : Try.prog.underlying t = some (.array n e)) (h : Value.okWide Try.prog W .any base t v) : ∃ cs, v = .agg cs ∧ cs.size = Try.prog.cellsOf t := by
  unfold Value.okWide at h
  rw [ht] at h
  cases v <;> simp_all
set_option maxRecDepth 100000 in
/-- An array of bytes that came in, opened. -/
theorem open_arr {W : World} {base N : Nat} {t : TypeId} {v : Value} {d : DataW H} {p : List MemPlace} (ht : Try.prog.underlying t = some (.array N 5)) (hc : Try.prog.cellsOf t = N) (hc1 : Try.prog.cellsOf 5 = 1)
    (hv : Value.okWide Try.prog W .any base t v) (h : DataW.Trod enc Try.prog W 0 (fun _ => true) true t v d p) : ∃ s : Nat → Int, v = .agg (cl .u8 N s).toArray ∧ ∀ j, j < N → 0 ≤ s j ∧ s j < 256 := by
  obtain ⟨cs, rfl, hsz⟩ := okWide_arr ht hv
  obtain ⟨fuel, hf⟩ := h
  obtain ⟨xs, m, _, _, hl, hxl, hel⟩ := DataW.trod_array ht hf
  have key : ∀ i, i < N → ∃ k : Int, cs[i]? = some (.int .u8 k) ∧ 0 ≤ k ∧ k < 256 := by
    intro i hi
    have := hel i hi
    rw [hc1, Nat.mul_one, List.getElem?_eq_getElem (by omega)] at this
    obtain ⟨k, e, _, wf⟩ := DataW.trod_int Try.underlying5 this
    refine ⟨k, ?_, byte_of_wf wf⟩
    have h0 : ((Value.agg cs).cells.toList.drop i)[0]? = some (.int .u8 k) := by
      have := congrArg (fun l => l[0]?) e
      simpa using this
    simpa [Value.cells] using h0
  refine ⟨fun j => match cs[j]? with | some (.int .u8 k) => k | _ => 0, ?_, fun j hj => ?_⟩
  · congr 1
    apply Array.ext_getElem?
    intro j
    by_cases hj : j < N
    · obtain ⟨k, hk, _⟩ := key j hj
      rw [hk, List.getElem?_toArray, cl_at .u8 N _ j hj, hk]
    · rw [Array.getElem?_eq_none (by omega), List.getElem?_toArray, List.getElem?_eq_none (by rw [cl_len]; omega)]
  · obtain ⟨k, hk, hb⟩ := key j hj
    simp only [hk]
    exact hb
end Go.Proofs.Ytelcijfcgflagaa
