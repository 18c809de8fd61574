/-
  Walks, not a claim by itself: record.TransferBytes. By the verifier.
-/
import Derived.Test.YtlcnhmlcmedonaaFld
import Derived.Deep.DeepFit
namespace Go.Proofs.Ytlcnhmlcmedonaa
open Go.RowKit
set_option maxRecDepth 100000 in
set_option maxHeartbeats 4000000 in
theorem tbytes_any (a : Fld) (w : World) (ha : a.wf) :
    Calls Try.prog 7 #[a.val] w fun e w' => ∃ b, e = .returned (.slice (some ⟨b, 0, none⟩) 128 128) ∧ w.heap.size ≤ b ∧ Row w' b 128 a.img ∧ Below w.heap.size w w' := by
  obtain ⟨k0, k1, k2, k3, k4, k5, k6, k7, k8, k9, k10, k11, k12, k13, k14, k15, k16, k17, k18⟩ := ha
  have hmk : ∀ w, (Instr.makeSlice 31 (.int .i64 128) (.int .i64 128)).run Try.prog w = .ok (.slice (some ⟨w.heap.size, 0, none⟩) 128 128) (w.alloc (.cells (zeros 128) 5)) := make_bytes 128 (by decide)
  go_enter Try.func7, Try.ntmps7
  go_wp2_with fail
  have hh := a.held_new w 30 (.cells (zeros 128) 5)
  have hR := Row.made (w.alloc (.cells #[.int .u64 a.h0, .int .u64 a.l0, .int .u64 a.h1, .int .u64 a.l1, .int .u64 a.h2, .int .u64 a.l2, .int .u64 a.h3, .int .u64 a.l3, .int .u64 a.h4, .int .u64 a.l4, .int .u64 a.h5, .int .u64 a.l5, .int .u64 a.p, .int .u32 a.q, .int .u32 a.r, .int .u32 a.s, .int .u16 a.t, .int .u16 a.u, .int .u64 a.v] 30)) 128 5
  have hB0 : Below w.heap.size w ((w.alloc (.cells #[.int .u64 a.h0, .int .u64 a.l0, .int .u64 a.h1, .int .u64 a.l1, .int .u64 a.h2, .int .u64 a.l2, .int .u64 a.h3, .int .u64 a.l3, .int .u64 a.h4, .int .u64 a.l4, .int .u64 a.h5, .int .u64 a.l5, .int .u64 a.p, .int .u32 a.q, .int .u32 a.r, .int .u32 a.s, .int .u16 a.t, .int .u16 a.u, .int .u64 a.v] 30)).alloc (.cells (zeros 128) 5)) := ((Below.refl _ _).alloc (Nat.le_refl _) _).alloc (by simp) _
  have hz : w.heap.size + 2 ≤ ((w.alloc (.cells #[.int .u64 a.h0, .int .u64 a.l0, .int .u64 a.h1, .int .u64 a.l1, .int .u64 a.h2, .int .u64 a.l2, .int .u64 a.h3, .int .u64 a.l3, .int .u64 a.h4, .int .u64 a.l4, .int .u64 a.h5, .int .u64 a.l5, .int .u64 a.p, .int .u32 a.q, .int .u32 a.r, .int .u32 a.s, .int .u16 a.t, .int .u16 a.u, .int .u64 a.v] 30)).alloc (.cells (zeros 128) 5)).heap.size := by simp
  rw [World.size_alloc] at hR
  generalize (w.alloc (.cells #[.int .u64 a.h0, .int .u64 a.l0, .int .u64 a.h1, .int .u64 a.l1, .int .u64 a.h2, .int .u64 a.l2, .int .u64 a.h3, .int .u64 a.l3, .int .u64 a.h4, .int .u64 a.l4, .int .u64 a.h5, .int .u64 a.l5, .int .u64 a.p, .int .u32 a.q, .int .u32 a.r, .int .u32 a.s, .int .u16 a.t, .int .u16 a.u, .int .u64 a.v] 30)).alloc (.cells (zeros 128) 5) = W at hh hR hB0 hz ⊢
  have B0 : Hid (Below w.heap.size w W) := hB0
  clear hB0 hmk
  have hR := hR.drew
  have hh' : W.drew.cell? ⟨w.heap.size, 0, none⟩ = some (.int .u64 a.h0) ∧ W.drew.cell? ⟨w.heap.size, 1, none⟩ = some (.int .u64 a.l0) ∧ W.drew.cell? ⟨w.heap.size, 2, none⟩ = some (.int .u64 a.h1) ∧ W.drew.cell? ⟨w.heap.size, 3, none⟩ = some (.int .u64 a.l1) ∧ W.drew.cell? ⟨w.heap.size, 4, none⟩ = some (.int .u64 a.h2) ∧ W.drew.cell? ⟨w.heap.size, 5, none⟩ = some (.int .u64 a.l2) ∧ W.drew.cell? ⟨w.heap.size, 6, none⟩ = some (.int .u64 a.h3) ∧ W.drew.cell? ⟨w.heap.size, 7, none⟩ = some (.int .u64 a.l3) ∧ W.drew.cell? ⟨w.heap.size, 8, none⟩ = some (.int .u64 a.h4) ∧ W.drew.cell? ⟨w.heap.size, 9, none⟩ = some (.int .u64 a.l4) ∧ W.drew.cell? ⟨w.heap.size, 10, none⟩ = some (.int .u64 a.h5) ∧ W.drew.cell? ⟨w.heap.size, 11, none⟩ = some (.int .u64 a.l5) ∧ W.drew.cell? ⟨w.heap.size, 12, none⟩ = some (.int .u64 a.p) ∧ W.drew.cell? ⟨w.heap.size, 13, none⟩ = some (.int .u32 a.q) ∧ W.drew.cell? ⟨w.heap.size, 14, none⟩ = some (.int .u32 a.r) ∧ W.drew.cell? ⟨w.heap.size, 15, none⟩ = some (.int .u32 a.s) ∧ W.drew.cell? ⟨w.heap.size, 16, none⟩ = some (.int .u16 a.t) ∧ W.drew.cell? ⟨w.heap.size, 17, none⟩ = some (.int .u16 a.u) ∧ W.drew.cell? ⟨w.heap.size, 18, none⟩ = some (.int .u64 a.v) ∧ w.heap.size + 2 ≤ W.drew.heap.size ∧ Hid (But (w.heap.size + 1) W W.drew) := by
    obtain ⟨c0, c1, c2, c3, c4, c5, c6, c7, c8, c9, c10, c11, c12, c13, c14, c15, c16, c17, c18⟩ := hh
    exact ⟨c0, c1, c2, c3, c4, c5, c6, c7, c8, c9, c10, c11, c12, c13, c14, c15, c16, c17, c18, hz, (But.refl _ _).drew⟩
  clear hh hz
  go_region_held3 (fun W' => W'.cell? ⟨w.heap.size, 0, none⟩ = some (.int .u64 a.h0) ∧ W'.cell? ⟨w.heap.size, 1, none⟩ = some (.int .u64 a.l0) ∧ W'.cell? ⟨w.heap.size, 2, none⟩ = some (.int .u64 a.h1) ∧ W'.cell? ⟨w.heap.size, 3, none⟩ = some (.int .u64 a.l1) ∧ W'.cell? ⟨w.heap.size, 4, none⟩ = some (.int .u64 a.h2) ∧ W'.cell? ⟨w.heap.size, 5, none⟩ = some (.int .u64 a.l2) ∧ W'.cell? ⟨w.heap.size, 6, none⟩ = some (.int .u64 a.h3) ∧ W'.cell? ⟨w.heap.size, 7, none⟩ = some (.int .u64 a.l3) ∧ W'.cell? ⟨w.heap.size, 8, none⟩ = some (.int .u64 a.h4) ∧ W'.cell? ⟨w.heap.size, 9, none⟩ = some (.int .u64 a.l4) ∧ W'.cell? ⟨w.heap.size, 10, none⟩ = some (.int .u64 a.h5) ∧ W'.cell? ⟨w.heap.size, 11, none⟩ = some (.int .u64 a.l5) ∧ W'.cell? ⟨w.heap.size, 12, none⟩ = some (.int .u64 a.p) ∧ W'.cell? ⟨w.heap.size, 13, none⟩ = some (.int .u32 a.q) ∧ W'.cell? ⟨w.heap.size, 14, none⟩ = some (.int .u32 a.r) ∧ W'.cell? ⟨w.heap.size, 15, none⟩ = some (.int .u32 a.s) ∧ W'.cell? ⟨w.heap.size, 16, none⟩ = some (.int .u16 a.t) ∧ W'.cell? ⟨w.heap.size, 17, none⟩ = some (.int .u16 a.u) ∧ W'.cell? ⟨w.heap.size, 18, none⟩ = some (.int .u64 a.v) ∧ w.heap.size + 2 ≤ W'.heap.size ∧ Hid (But (w.heap.size + 1) W W'))
    (first | exact hh' | exact Fld.held_but (by assumption) (by assumption) (by omega))
    (first
      | (go_at_call 28; refine (lay128_mid _ 128 _ _ _ _ _ _ (by assumption) (by assumption) (by assumption) rfl (by decide)).mono ?_; rintro e w' ⟨rfl, hR, hB⟩)
      | (go_at_call 29; refine (lay64_mid _ 128 _ _ _ _ _ (by assumption) rfl (by decide)).mono ?_; rintro e w' ⟨rfl, hR, hB⟩)
      | (go_at_call 30; refine (lay32_mid _ 128 _ _ _ _ (by assumption) _ (by assumption) rfl (by decide)).mono ?_; rintro e w' ⟨rfl, hR, hB⟩)
      | (go_at_call 31; refine (lay16_mid _ 128 _ _ _ _ (by assumption) _ (by assumption) rfl (by decide)).mono ?_; rintro e w' ⟨rfl, hR, hB⟩)
      | (go_at_call 29; refine (lay64_end _ 128 _ _ _ _ _ (by assumption) rfl (by decide)).mono ?_; rintro e w' ⟨rfl, hR, hB⟩))
  go_wp2_with fail
  go_ret
  refine ⟨w.heap.size + 1, rfl, by omega, ?_, ?_⟩
  · unfold Fld.img
    assumption
  · exact B0.out.trans ((Fld.held_end (a := a) (n := w.heap.size) (by assumption)).below (by omega) B0.out.size)
end Go.Proofs.Ytlcnhmlcmedonaa
