/-
  Walks, not a claim by itself: the cursor's lay64, lay32, lay16. By the verifier.
-/
import Derived.Test.YtlcnhmlcmedonaaLay
namespace Go.Proofs.Ytlcnhmlcmedonaa
open Go.RowKit
theorem lay64_mid (b N off L : Nat) (f : Nat → Int) (x : Int) (w : World) (hr : Row w b N f) (hN : off + L = N) (ho : 8 < L) :
    Calls Try.prog 29 #[.agg #[.slice (some ⟨b, off, none⟩) L L], .int .u64 x] w fun e w' => e = .returned (.agg #[.slice (some ⟨b, off + 8, none⟩) (L - 8) (L - 8)]) ∧ Row w' b N (lay f off 8 (byt x)) ∧ But b w w' := by
  have RR : Hid (Row w b N f) := hr
  have hb := hr.2.2
  clear hr
  go_enter Try.func29, Try.ntmps29
  go_wp2_with fail
  refine (lay_mid b N off L 8 f x _ ((RR.out.alloc _).alloc _) (by omega) hN ho).mono ?_
  rintro e w1 ⟨rfl, hR, hB⟩
  have R1 : Hid (Row w1 b N (lay f off 8 (byt x))) := hR
  have B1 : Hid (But b w w1) := (((But.refl _ _).alloc _).alloc _).trans hB
  have c1 := (hB.cell (p := ⟨w.heap.size + 1, 0, none⟩) (by simp) (by show w.heap.size + 1 ≠ b; omega)).trans (by simp [go_sem] : _ = some (.slice none 0 0))
  have f1 := (hB.frozen (p := ⟨w.heap.size + 1, 0, none⟩) (by simp) (by show w.heap.size + 1 ≠ b; omega)).trans (by simp [go_sem] : _ = false)
  clear hR hB
  go_wp2_with fail
  refine bodyPost_ret (v := .agg #[.slice (some ⟨b, off + 8, none⟩) (L - 8) (L - 8)]) (by simp [results, Try.results29, go_sem, c1]) rfl ⟨rfl, ?_, ?_⟩
  · exact R1.out.but (But.set _ 0 _) (by omega)
  · exact B1.out.put (.inr (Nat.le_succ _)) _
theorem lay32_mid (b N off L : Nat) (f : Nat → Int) (x : Int) (hx : 0 ≤ x ∧ x < 4294967296) (w : World) (hr : Row w b N f) (hN : off + L = N) (ho : 4 < L) :
    Calls Try.prog 30 #[.agg #[.slice (some ⟨b, off, none⟩) L L], .int .u32 x] w fun e w' => e = .returned (.agg #[.slice (some ⟨b, off + 4, none⟩) (L - 4) (L - 4)]) ∧ Row w' b N (lay f off 4 (byt x)) ∧ But b w w' := by
  have RR : Hid (Row w b N f) := hr
  have hb := hr.2.2
  clear hr
  obtain ⟨x0, x1⟩ := hx
  have wx : IntKind.u64.wrap x = x := by rw [IntKind.wrap_u64]; omega
  go_enter Try.func30, Try.ntmps30
  go_wp2_with fail
  refine (lay_mid b N off L 4 f x _ ((RR.out.alloc _).alloc _) (by omega) hN ho).mono ?_
  rintro e w1 ⟨rfl, hR, hB⟩
  have R1 : Hid (Row w1 b N (lay f off 4 (byt x))) := hR
  have B1 : Hid (But b w w1) := (((But.refl _ _).alloc _).alloc _).trans hB
  have c1 := (hB.cell (p := ⟨w.heap.size + 1, 0, none⟩) (by simp) (by show w.heap.size + 1 ≠ b; omega)).trans (by simp [go_sem] : _ = some (.slice none 0 0))
  have f1 := (hB.frozen (p := ⟨w.heap.size + 1, 0, none⟩) (by simp) (by show w.heap.size + 1 ≠ b; omega)).trans (by simp [go_sem] : _ = false)
  clear hR hB
  go_wp2_with fail
  refine bodyPost_ret (v := .agg #[.slice (some ⟨b, off + 4, none⟩) (L - 4) (L - 4)]) (by simp [results, Try.results30, go_sem, c1]) rfl ⟨rfl, ?_, ?_⟩
  · exact R1.out.but (But.set _ 0 _) (by omega)
  · exact B1.out.put (.inr (Nat.le_succ _)) _
theorem lay16_mid (b N off L : Nat) (f : Nat → Int) (x : Int) (hx : 0 ≤ x ∧ x < 65536) (w : World) (hr : Row w b N f) (hN : off + L = N) (ho : 2 < L) :
    Calls Try.prog 31 #[.agg #[.slice (some ⟨b, off, none⟩) L L], .int .u16 x] w fun e w' => e = .returned (.agg #[.slice (some ⟨b, off + 2, none⟩) (L - 2) (L - 2)]) ∧ Row w' b N (lay f off 2 (byt x)) ∧ But b w w' := by
  have RR : Hid (Row w b N f) := hr
  have hb := hr.2.2
  clear hr
  obtain ⟨x0, x1⟩ := hx
  have wx : IntKind.u64.wrap x = x := by rw [IntKind.wrap_u64]; omega
  go_enter Try.func31, Try.ntmps31
  go_wp2_with fail
  refine (lay_mid b N off L 2 f x _ ((RR.out.alloc _).alloc _) (by omega) hN ho).mono ?_
  rintro e w1 ⟨rfl, hR, hB⟩
  have R1 : Hid (Row w1 b N (lay f off 2 (byt x))) := hR
  have B1 : Hid (But b w w1) := (((But.refl _ _).alloc _).alloc _).trans hB
  have c1 := (hB.cell (p := ⟨w.heap.size + 1, 0, none⟩) (by simp) (by show w.heap.size + 1 ≠ b; omega)).trans (by simp [go_sem] : _ = some (.slice none 0 0))
  have f1 := (hB.frozen (p := ⟨w.heap.size + 1, 0, none⟩) (by simp) (by show w.heap.size + 1 ≠ b; omega)).trans (by simp [go_sem] : _ = false)
  clear hR hB
  go_wp2_with fail
  refine bodyPost_ret (v := .agg #[.slice (some ⟨b, off + 2, none⟩) (L - 2) (L - 2)]) (by simp [results, Try.results31, go_sem, c1]) rfl ⟨rfl, ?_, ?_⟩
  · exact R1.out.but (But.set _ 0 _) (by omega)
  · exact B1.out.put (.inr (Nat.le_succ _)) _
theorem lay64_end (b N off L : Nat) (f : Nat → Int) (x : Int) (w : World) (hr : Row w b N f) (hN : off + L = N) (ho : 8 = L) :
    Calls Try.prog 29 #[.agg #[.slice (some ⟨b, off, none⟩) L L], .int .u64 x] w fun e w' => e = .returned (.agg #[.slice (some ⟨b, off, none⟩) 0 0]) ∧ Row w' b N (lay f off 8 (byt x)) ∧ But b w w' := by
  have RR : Hid (Row w b N f) := hr
  have hb := hr.2.2
  clear hr
  go_enter Try.func29, Try.ntmps29
  go_wp2_with fail
  refine (lay_end b N off L 8 f x _ ((RR.out.alloc _).alloc _) (by omega) hN ho).mono ?_
  rintro e w1 ⟨rfl, hR, hB⟩
  have R1 : Hid (Row w1 b N (lay f off 8 (byt x))) := hR
  have B1 : Hid (But b w w1) := (((But.refl _ _).alloc _).alloc _).trans hB
  have c1 := (hB.cell (p := ⟨w.heap.size + 1, 0, none⟩) (by simp) (by show w.heap.size + 1 ≠ b; omega)).trans (by simp [go_sem] : _ = some (.slice none 0 0))
  have f1 := (hB.frozen (p := ⟨w.heap.size + 1, 0, none⟩) (by simp) (by show w.heap.size + 1 ≠ b; omega)).trans (by simp [go_sem] : _ = false)
  clear hR hB
  go_wp2_with fail
  refine bodyPost_ret (v := .agg #[.slice (some ⟨b, off, none⟩) 0 0]) (by simp [results, Try.results29, go_sem, c1]) rfl ⟨rfl, ?_, ?_⟩
  · exact R1.out.but (But.set _ 0 _) (by omega)
  · exact B1.out.put (.inr (Nat.le_succ _)) _
end Go.Proofs.Ytlcnhmlcmedonaa
