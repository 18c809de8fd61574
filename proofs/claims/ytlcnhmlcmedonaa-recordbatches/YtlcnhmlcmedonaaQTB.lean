/-
  Walks, not a claim by itself: the reference's TransferBytes. By the verifier.
-/
import Derived.Test.YtlcnhmlcmedonaaQAB
namespace Go.Proofs.Ytlcnhmlcmedonaa
open Go.RowKit
set_option maxRecDepth 100000 in
set_option maxHeartbeats 2000000 in
theorem qtbytes_any (a : Fld) (w : World) (ha : a.wf) :
    Calls Try.prog 10 #[a.val] w (PutPost w w.heap.size 128 (cat (cat (cat (cat (cat (cat (cat a.ws 96 (byt a.p)) 104 (byt a.q)) 108 (byt a.r)) 112 (byt a.s)) 116 (byt a.t)) 118 (byt a.u)) 120 (byt a.v))) := by
  have WF : Hid a.wf := ha
  go_enter Try.func10, Try.ntmps10
  go_wp2_with fail
  obtain ⟨W0, hW0⟩ : ∃ W0, W0 = (w.alloc (.cells #[.int .u64 a.h0, .int .u64 a.l0, .int .u64 a.h1, .int .u64 a.l1, .int .u64 a.h2, .int .u64 a.l2, .int .u64 a.h3, .int .u64 a.l3, .int .u64 a.h4, .int .u64 a.l4, .int .u64 a.h5, .int .u64 a.l5, .int .u64 a.p, .int .u32 a.q, .int .u32 a.r, .int .u32 a.s, .int .u16 a.t, .int .u16 a.u, .int .u64 a.v] 30)).alloc (.cells #[.int .u64 a.h0, .int .u64 a.l0, .int .u64 a.h1, .int .u64 a.l1, .int .u64 a.h2, .int .u64 a.l2, .int .u64 a.h3, .int .u64 a.l3, .int .u64 a.h4, .int .u64 a.l4, .int .u64 a.h5, .int .u64 a.l5] 24) := ⟨_, rfl⟩
  have C0 : Hid (∀ j, j < 12 → W0.cell? ⟨w.heap.size + 1, j, none⟩ = some (.int .u64 (a.wd j))) := by
    rw [hW0]
    intro j hj
    rw [World.cell?_alloc_at _ _ _ _ (by simp)]
    match j, hj with
    | 0, _ | 1, _ | 2, _ | 3, _ | 4, _ | 5, _ | 6, _ | 7, _ | 8, _ | 9, _ | 10, _ | 11, _ => rfl
    | j + 12, h => omega
  have D0 : Hid (W0.cell? ⟨w.heap.size, 12, none⟩ = some (.int .u64 a.p) ∧ W0.cell? ⟨w.heap.size, 13, none⟩ = some (.int .u32 a.q) ∧ W0.cell? ⟨w.heap.size, 14, none⟩ = some (.int .u32 a.r) ∧ W0.cell? ⟨w.heap.size, 15, none⟩ = some (.int .u32 a.s) ∧ W0.cell? ⟨w.heap.size, 16, none⟩ = some (.int .u16 a.t) ∧ W0.cell? ⟨w.heap.size, 17, none⟩ = some (.int .u16 a.u) ∧ W0.cell? ⟨w.heap.size, 18, none⟩ = some (.int .u64 a.v)) := by
    unfold Hid
    rw [hW0]
    simp [go_sem, World.cell?_alloc_past]
  have Z0 : Hid (W0.heap.size = w.heap.size + 2) := by unfold Hid; rw [hW0]; simp
  have E0 : Hid (Below w.heap.size w W0) := by rw [hW0]; exact ((Below.refl _ _).alloc (Nat.le_refl _) _).alloc (by simp) _
  rw [← hW0]
  clear hW0
  have ST : Hid (qabRel W0 W0.heap.size a (.slice none 0 0) (.int .i64 0) W0) := ⟨0, by omega, rfl, Own.nil W0 _ _, Below.refl _ _⟩
  go_loopw [3, 5] (fun v i wr => qabRel W0 W0.heap.size a v i wr) (fun _ i _ => 6 - (intOf i).toNat)
  case atStart => exact ST.out
  case round =>
    obtain ⟨k, hk, rfl, ho, hB⟩ := hrel
    clear ST
    have OE : Hid (Own wr W0.heap.size u3 (k * 16) a.ws) := ho
    have BE : Hid (Below W0.heap.size W0 wr) := hB
    by_cases hlt : k < 6
    · have c1 := (hB.cell (p := ⟨w.heap.size + 1, k * 2, none⟩) (by have := Z0.out; show w.heap.size + 1 < _; omega)).trans (C0.out (k * 2) (by omega))
      have c2 := (hB.cell (p := ⟨w.heap.size + 1, k * 2 + 1, none⟩) (by have := Z0.out; show w.heap.size + 1 < _; omega)).trans (C0.out (k * 2 + 1) (by omega))
      have i0 : (k : Int) < 6 := by omega
      have i1 : (0 : Int) ≤ (k : Int) := by omega
      clear ho hB
      go_wp2_with fail
      refine (qwide_any (a.wd (k * 2)) (a.wd (k * 2 + 1)) (k * 16) W0.heap.size _ _ _ (Fld.wd_word WF.out _) (Fld.wd_word WF.out _) (by omega) OE.out BE.out.size).mono ?_
      rintro e w1 ⟨v1, rfl, hO1, hB1⟩
      have RR : Hid (qabRel W0 W0.heap.size a v1 (.int .i64 ((k : Int) + 1)) w1) := ⟨k + 1, by omega, by go_num, (by rw [show (k + 1) * 16 = k * 16 + 16 by omega]; exact hO1.congr (ws_step a k)), BE.out.trans hB1⟩
      clear hO1 hB1
      go_wp2_with fail
      exact ⟨RR.out, by simp [intOf]; omega⟩
    · obtain rfl : k = 6 := by omega
      rw [show ((6 : Nat) : Int) = 6 from rfl]
      clear ho hB
      obtain ⟨_, _, _, _, _, _, _, _, _, _, _, _, ⟨p0, p1⟩, ⟨q0, q1⟩, ⟨r0, r1⟩, ⟨s0, s1⟩, ⟨t0, t1⟩, ⟨u0, u1⟩, ⟨x0, x1⟩⟩ := id WF.out
      have d1 := (BE.out.cell (p := ⟨w.heap.size, 12, none⟩) (by have := Z0.out; show w.heap.size < _; omega)).trans D0.out.1
      go_wp2_with fail
      refine (qput_any a.p 8 96 W0.heap.size _ _ _ (by omega) (by omega) OE.out BE.out.size).mono ?_
      rintro e w1 ⟨v1, rfl, hO1, hB1⟩
      have O1 : Hid _ := hO1
      have B1 : Hid (Below W0.heap.size W0 w1) := BE.out.trans hB1
      clear hO1 hB1 OE BE d1
      have d2 := (B1.out.cell (p := ⟨w.heap.size, 13, none⟩) (by have := Z0.out; show w.heap.size < _; omega)).trans D0.out.2.1
      go_wp2_with fail
      refine (qput_any a.q 4 104 W0.heap.size _ _ _ (by omega) (by omega) O1.out B1.out.size).mono ?_
      rintro e w2 ⟨v2, rfl, hO2, hB2⟩
      have O2 : Hid _ := hO2
      have B2 : Hid (Below W0.heap.size W0 w2) := B1.out.trans hB2
      clear hO2 hB2 O1 B1 d2
      have d3 := (B2.out.cell (p := ⟨w.heap.size, 14, none⟩) (by have := Z0.out; show w.heap.size < _; omega)).trans D0.out.2.2.1
      go_wp2_with fail
      refine (qput_any a.r 4 108 W0.heap.size _ _ _ (by omega) (by omega) O2.out B2.out.size).mono ?_
      rintro e w3 ⟨v3, rfl, hO3, hB3⟩
      have O3 : Hid _ := hO3
      have B3 : Hid (Below W0.heap.size W0 w3) := B2.out.trans hB3
      clear hO3 hB3 O2 B2 d3
      have d4 := (B3.out.cell (p := ⟨w.heap.size, 15, none⟩) (by have := Z0.out; show w.heap.size < _; omega)).trans D0.out.2.2.2.1
      go_wp2_with fail
      refine (qput_any a.s 4 112 W0.heap.size _ _ _ (by omega) (by omega) O3.out B3.out.size).mono ?_
      rintro e w4 ⟨v4, rfl, hO4, hB4⟩
      have O4 : Hid _ := hO4
      have B4 : Hid (Below W0.heap.size W0 w4) := B3.out.trans hB4
      clear hO4 hB4 O3 B3 d4
      have d5 := (B4.out.cell (p := ⟨w.heap.size, 16, none⟩) (by have := Z0.out; show w.heap.size < _; omega)).trans D0.out.2.2.2.2.1
      go_wp2_with fail
      refine (qput_any a.t 2 116 W0.heap.size _ _ _ (by omega) (by omega) O4.out B4.out.size).mono ?_
      rintro e w5 ⟨v5, rfl, hO5, hB5⟩
      have O5 : Hid _ := hO5
      have B5 : Hid (Below W0.heap.size W0 w5) := B4.out.trans hB5
      clear hO5 hB5 O4 B4 d5
      have d6 := (B5.out.cell (p := ⟨w.heap.size, 17, none⟩) (by have := Z0.out; show w.heap.size < _; omega)).trans D0.out.2.2.2.2.2.1
      go_wp2_with fail
      refine (qput_any a.u 2 118 W0.heap.size _ _ _ (by omega) (by omega) O5.out B5.out.size).mono ?_
      rintro e w6 ⟨v6, rfl, hO6, hB6⟩
      have O6 : Hid _ := hO6
      have B6 : Hid (Below W0.heap.size W0 w6) := B5.out.trans hB6
      clear hO6 hB6 O5 B5 d6
      have d7 := (B6.out.cell (p := ⟨w.heap.size, 18, none⟩) (by have := Z0.out; show w.heap.size < _; omega)).trans D0.out.2.2.2.2.2.2
      go_wp2_with fail
      refine (qput_any a.v 8 120 W0.heap.size _ _ _ (by omega) (by omega) O6.out B6.out.size).mono ?_
      rintro e w7 ⟨v7, rfl, hO7, hB7⟩
      have O7 : Hid _ := hO7
      have B7 : Hid (Below W0.heap.size W0 w7) := B6.out.trans hB7
      clear hO7 hB7 O6 B6 d7
      go_wp2_with fail
      exact bodyPost_ret (by simp [results, Try.results10, go_sem]) rfl ⟨_, rfl, Own.base_le O7.out (by have := Z0.out; omega), E0.out.trans (B7.out.mono E0.out.size)⟩
end Go.Proofs.Ytlcnhmlcmedonaa
