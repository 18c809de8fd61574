/-
  Walks, not a claim by itself: u128.Bytes, and the cursor's lay128. By the verifier.
-/
import Derived.Test.YtlcnhmlcmedonaaLay
namespace Go.Proofs.Ytlcnhmlcmedonaa
open Go.RowKit
/-- The bytes of a number as Go has them, the lowest first. -/
abbrev BytesOf (h l : Int) : Value := .agg #[.int .u8 (l % 256), .int .u8 (l / 256 % 256), .int .u8 (l / 65536 % 256), .int .u8 (l / 16777216 % 256), .int .u8 (l / 4294967296 % 256), .int .u8 (l / 1099511627776 % 256), .int .u8 (l / 281474976710656 % 256), .int .u8 (l / 72057594037927936), .int .u8 (h % 256), .int .u8 (h / 256 % 256), .int .u8 (h / 65536 % 256), .int .u8 (h / 16777216 % 256), .int .u8 (h / 4294967296 % 256), .int .u8 (h / 1099511627776 % 256), .int .u8 (h / 281474976710656 % 256), .int .u8 (h / 72057594037927936)]

set_option maxRecDepth 100000 in
set_option maxHeartbeats 4000000 in
theorem bytes_any (h l : Int) (w : World) (h1 : Word h) (h2 : Word l) :
    Calls Try.prog 45 #[U h l] w fun e w' => e = .returned (BytesOf h l) ∧ Below w.heap.size w w' := by
  obtain ⟨a1, a2⟩ := h1
  obtain ⟨b1, b2⟩ := h2
  go_enter Try.func45, Try.ntmps45
  go_wp2
  refine wp_loop_rounds 9 ?_
  iterate 9 (rw [rounds_succ]; go_wp2)
  exact bodyPost_ret (v := BytesOf h l) (by simp [results, Try.results45, go_sem]) rfl ⟨rfl, (((Below.refl _ _).alloc (Nat.le_refl _) _).alloc (by simp) _).alloc (by simp; omega) _⟩

/-- A number's bytes, as a function. -/
def wide (h l : Int) (j : Nat) : Int := if j < 8 then byt l j else byt h (j - 8)
/-- The cells of a number's bytes. -/
def cells16 (h l : Int) : List Value := (List.range 16).map fun j => .int .u8 (wide h l j)
theorem cells16_eq (h l : Int) (h1 : Word h) (h2 : Word l) : BytesOf h l = .agg (cells16 h l).toArray := by
  obtain ⟨a1, a2⟩ := h1
  obtain ⟨b1, b2⟩ := h2
  have e7 : l / 72057594037927936 = l / 72057594037927936 % 256 := by omega
  have e15 : h / 72057594037927936 = h / 72057594037927936 % 256 := by omega
  rw [BytesOf, e7, e15]
  simp [cells16, List.range, List.range.loop, wide, byt, up8]
theorem cells16_at (h l : Int) (j : Nat) (v : Value) (hj : (cells16 h l)[j]? = some v) : v = .int .u8 (wide h l j) := by
  unfold cells16 at hj
  rw [List.getElem?_map] at hj
  by_cases k : j < 16
  · rw [List.getElem?_range k] at hj
    exact (Option.some.inj hj).symm
  · rw [List.getElem?_eq_none (by simp; omega)] at hj
    cases hj
end Go.Proofs.Ytlcnhmlcmedonaa
