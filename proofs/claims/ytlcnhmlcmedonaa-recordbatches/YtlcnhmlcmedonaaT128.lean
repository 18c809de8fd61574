/-
  Walks, not a claim by itself: the cursor's take128. By the verifier.
-/
import Derived.Test.YtlcnhmlcmedonaaRdR
import Derived.Test.YtlcnhmlcmedonaaTake2
namespace Go.Proofs.Ytlcnhmlcmedonaa
open Go.RowKit
/-- The two words of sixteen bytes. -/
def hi16 (f : Nat → Int) : Int := le8 fun j => f (8 + j)
def lo16 (f : Nat → Int) : Int := le8 f
theorem Lies.row16 {u : World} {b off : Nat} {f : Nat → Int} (h : Lies u b off 16 f) : Row16 u b off f := h
set_option maxRecDepth 100000 in
set_option maxHeartbeats 1000000 in
theorem take128_mid (b off L C n o : Nat) (cs : List Value) (f : Nat → Int) (w : World) (h : Lies w b off 16 f) (hr : Rec19 w n 0 cs) (hc : o + 1 < cs.length) (hL : 16 ≤ L) (ho : 16 < C) :
    Calls Try.prog 49 #[.agg #[.slice (some ⟨b, off, none⟩) L C], .pointer (some ⟨n, o, none⟩)] w fun e w' => e = .returned (.agg #[.slice (some ⟨b, off + 16, none⟩) (L - 16) (C - 16)]) ∧ Rec19 w' n 0 ((cs.set o (.int .u64 (hi16 f))).set (o + 1) (.int .u64 (lo16 f))) ∧ But n w w' := by
  have LL : Hid (Lies w b off 16 f) := h
  have hnw := hr.2.2
  have RR : Hid (Rec19 w n 0 cs) := hr
  clear h hr
  have n0 : (16 : Int) ≤ C := by omega
  have n1 : (16 : Int) ≤ L := by omega
  have n2 : ¬ C = 16 := by omega
  go_enter Try.func49, Try.ntmps49
  go_wp2_with fail
  refine (read_ok b off C f _ (by omega) ((LL.out.alloc _).alloc _).row16).mono ?_
  rintro e w1 ⟨rfl, hB⟩
  have B1 : But n w w1 := (((But.refl _ _).alloc _).alloc _).trans (But.of hB)
  have R1 : Rec19 w1 n 0 cs := RR.out.below ((((Below.refl _ _).alloc (Nat.le_refl _) _).alloc (by simp) _).trans (hB.mono (by simp; omega)))
  have c0 := (hB.cell (p := ⟨w.heap.size, 0, none⟩) (by simp; omega)).trans (by simp [go_sem] : _ = some (.slice (some ⟨b, off, none⟩) L C))
  have c1 := (hB.cell (p := ⟨w.heap.size + 1, 0, none⟩) (by simp)).trans (by simp [go_sem] : _ = some (.slice none 0 0))
  have f1 := (hB.frozen (p := ⟨w.heap.size + 1, 0, none⟩) (by simp)).trans (by simp [go_sem] : _ = false)
  obtain ⟨⟨v0, d0⟩, g0⟩ := R1.at o (by omega)
  obtain ⟨⟨v1, d1⟩, g1⟩ := R1.at (o + 1) hc
  have RH : Hid (Rec19 w1 n 0 cs) := R1
  have BH : Hid (But n w w1) := B1
  have ne : ¬ n = w.heap.size + 1 := by omega
  have ne1 : ¬ n = w.heap.size := by omega
  have z2 : w.heap.size + 1 < w1.heap.size := by have := hB.size; simp at this; omega
  have z1 : n < w1.heap.size := by omega
  have eh : le8 (fun j => f (8 + j)) = hi16 f := rfl
  have el : le8 f = lo16 f := rfl
  clear hB B1 R1
  rw [eh, el]
  clear eh el
  go_wp2_with fail
  refine bodyPost_ret (v := .agg #[.slice (some ⟨b, off + 16, none⟩) (L - 16) (C - 16)]) (by simp [results, Try.results49, go_sem, c1]) rfl ⟨rfl, ?_, ?_⟩
  · exact (((RH.out.set o _ (by omega)).set (o + 1) _ (by simpa using hc)).but (But.set (b := w.heap.size + 1) _ 0 _) ne)
  · exact (((BH.out.put (.inl rfl) _).put (.inl rfl) _).put (.inr (Nat.le_succ _)) _)
end Go.Proofs.Ytlcnhmlcmedonaa
