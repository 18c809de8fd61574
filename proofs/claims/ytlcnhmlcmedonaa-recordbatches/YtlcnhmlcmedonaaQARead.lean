/-
  Walks, not a claim by itself: the reference's ReadAccount. By the verifier.
-/
import Derived.Test.YtlcnhmlcmedonaaQAt
import Derived.Test.YtlcnhmlcmedonaaOfParts
namespace Go.Proofs.Ytlcnhmlcmedonaa
open Go.RowKit
set_option maxRecDepth 100000 in
theorem qreadAccount_no (a : Option Addr) (len cap : Nat) (w : World) (h : len ≠ 128) :
    Calls Try.prog 41 #[.slice a len cap] w fun e w' => e = .returned (.tuple #[.agg zero19.toArray, .int .i64 4]) ∧ Below w.heap.size w w' := by
  have h' : ((len : Int) != 128) = true := by simp; omega
  go_enter Try.func41, Try.ntmps41
  go_wp2_with (refine wpList_store_rec rfl 28 (.tmp 2) _ rfl w.heap.size 0 zero19 zero19 rfl rfl (Rec19.new w 28 zero19) rfl (by kernel_rfl) zero19_one ?_; intro W2 hR hB; have B : Hid (Below w.heap.size w W2) := ((Below.refl _ _).alloc (Nat.le_refl _) _).trans (hB.below (Nat.le_refl _) (by simp)); clear hB)
  have hl := hR.run_load 28 _ Try.underlying28 rfl (by kernel_rfl)
  refine bodyPost_ret (v := .tuple #[.agg zero19.toArray, .int .i64 4]) (by simp [results, Try.results41, asAddr, hl]) rfl ⟨rfl, B.out⟩

set_option maxRecDepth 100000 in
set_option maxHeartbeats 2000000 in
theorem qreadAccount_ok (b off C : Nat) (f : Nat → Int) (w : World) (h : Lies w b off 128 f) (hC : 128 ≤ C) :
    Calls Try.prog 41 #[.slice (some ⟨b, off, none⟩) 128 C] w fun e w' => e = .returned (.tuple #[.agg (recOf f).cells.toArray, .int .i64 0]) ∧ Below w.heap.size w w' := by
  have L0 : Lies (w.alloc (.cells #[.int .u64 0, .int .u64 0, .int .u64 0, .int .u64 0, .int .u64 0, .int .u64 0, .int .u64 0, .int .u64 0, .int .u64 0, .int .u64 0, .int .u64 0, .int .u64 0, .int .u64 0, .int .u32 0, .int .u32 0, .int .u32 0, .int .u16 0, .int .u16 0, .int .u64 0] 28)) b off 128 f := h.alloc _
  have Q0 : Rec19 (w.alloc (.cells #[.int .u64 0, .int .u64 0, .int .u64 0, .int .u64 0, .int .u64 0, .int .u64 0, .int .u64 0, .int .u64 0, .int .u64 0, .int .u64 0, .int .u64 0, .int .u64 0, .int .u64 0, .int .u32 0, .int .u32 0, .int .u32 0, .int .u16 0, .int .u16 0, .int .u64 0] 28)) w.heap.size 0 zero19 := Rec19.new w 28 zero19
  have B0 : Below w.heap.size w (w.alloc (.cells #[.int .u64 0, .int .u64 0, .int .u64 0, .int .u64 0, .int .u64 0, .int .u64 0, .int .u64 0, .int .u64 0, .int .u64 0, .int .u64 0, .int .u64 0, .int .u64 0, .int .u64 0, .int .u32 0, .int .u32 0, .int .u32 0, .int .u16 0, .int .u16 0, .int .u64 0] 28)) := (Below.refl _ _).alloc (Nat.le_refl _) _
  have hb := h.2.2
  clear h
  go_enter Try.func41, Try.ntmps41
  go_wp2_with fail
  refine (qbig_any b off C 0 f _ L0 (by decide) hC).mono ?_
  rintro e w1 ⟨rfl, K1⟩
  have L1 := L0.below K1
  have Q1 := Q0.below K1
  have B1 := B0.trans (K1.mono B0.size)
  clear L0 Q0 B0 K1
  go_wp2_with fail
  refine (qbig_any b off C 1 f _ L1 (by decide) hC).mono ?_
  rintro e w2 ⟨rfl, K2⟩
  have L2 := L1.below K2
  have Q2 := Q1.below K2
  have B2 := B1.trans (K2.mono B1.size)
  clear L1 Q1 B1 K2
  go_wp2_with fail
  refine (qbig_any b off C 2 f _ L2 (by decide) hC).mono ?_
  rintro e w3 ⟨rfl, K3⟩
  have L3 := L2.below K3
  have Q3 := Q2.below K3
  have B3 := B2.trans (K3.mono B2.size)
  clear L2 Q2 B2 K3
  go_wp2_with fail
  refine (qbig_any b off C 3 f _ L3 (by decide) hC).mono ?_
  rintro e w4 ⟨rfl, K4⟩
  have L4 := L3.below K4
  have Q4 := Q3.below K4
  have B4 := B3.trans (K4.mono B3.size)
  clear L3 Q3 B3 K4
  go_wp2_with fail
  refine (qbig_any b off C 4 f _ L4 (by decide) hC).mono ?_
  rintro e w5 ⟨rfl, K5⟩
  have L5 := L4.below K5
  have Q5 := Q4.below K5
  have B5 := B4.trans (K5.mono B4.size)
  clear L4 Q4 B4 K5
  go_wp2_with fail
  refine (qbig_any b off C 5 f _ L5 (by decide) hC).mono ?_
  rintro e w6 ⟨rfl, K6⟩
  have L6 := L5.below K6
  have Q6 := Q5.below K6
  have B6 := B5.trans (K6.mono B5.size)
  clear L5 Q5 B5 K6
  have n6 := Q6.2.2
  go_wp2_with (refine wpList_store_rec rfl 28 (.tmp 4) _ rfl w6.heap.size 0 zero19 [.int .u64 (hi16 (fun j => f (0 + j))), .int .u64 (lo16 (fun j => f (0 + j))), .int .u64 (hi16 (fun j => f (16 + j))), .int .u64 (lo16 (fun j => f (16 + j))), .int .u64 (hi16 (fun j => f (32 + j))), .int .u64 (lo16 (fun j => f (32 + j))), .int .u64 (hi16 (fun j => f (48 + j))), .int .u64 (lo16 (fun j => f (48 + j))), .int .u64 (hi16 (fun j => f (64 + j))), .int .u64 (lo16 (fun j => f (64 + j))), .int .u64 (hi16 (fun j => f (80 + j))), .int .u64 (lo16 (fun j => f (80 + j))), .int .u64 0, .int .u32 0, .int .u32 0, .int .u32 0, .int .u16 0, .int .u16 0, .int .u64 0] rfl rfl (Rec19.new w6 28 zero19) rfl (by kernel_rfl) (by intro v hv; simp only [List.mem_cons, List.not_mem_nil, or_false] at hv; rcases hv with rfl | rfl | rfl | rfl | rfl | rfl | rfl | rfl | rfl | rfl | rfl | rfl | rfl | rfl | rfl | rfl | rfl | rfl | rfl <;> rfl) ?_; intro w7 R7 K7; have L7 := (L6.alloc _).but K7 (by have := L6.2.2; omega); have Q7 := (Q6.below ((Below.refl _ _).alloc (Nat.le_refl _) _)).but K7 (by omega); have B7 := (B6.alloc B6.size _).trans (K7.below B6.size (by have := B6.size; simp; omega)); have n7 := R7.2.2; clear L6 Q6 B6 K7)
  refine (qat_any b off C 96 8 f _ L7 (by decide) (by decide) (by decide)).mono ?_
  rintro e w8 ⟨rfl, hw⟩
  rw [hw]
  clear hw w8
  obtain ⟨⟨v7, d7⟩, g7⟩ := R7.at 12 (by show 12 < 19; decide)
  obtain ⟨w8, hw8⟩ : ∃ u, w7.setCell ⟨w6.heap.size, 12, none⟩ (.int .u64 (ps (fun j => f (96 + j)) 8)) = u := ⟨_, rfl⟩
  have R8 : Rec19 w8 w6.heap.size 0 [.int .u64 (hi16 (fun j => f (0 + j))), .int .u64 (lo16 (fun j => f (0 + j))), .int .u64 (hi16 (fun j => f (16 + j))), .int .u64 (lo16 (fun j => f (16 + j))), .int .u64 (hi16 (fun j => f (32 + j))), .int .u64 (lo16 (fun j => f (32 + j))), .int .u64 (hi16 (fun j => f (48 + j))), .int .u64 (lo16 (fun j => f (48 + j))), .int .u64 (hi16 (fun j => f (64 + j))), .int .u64 (lo16 (fun j => f (64 + j))), .int .u64 (hi16 (fun j => f (80 + j))), .int .u64 (lo16 (fun j => f (80 + j))), .int .u64 (ps (fun j => f (96 + j)) 8), .int .u32 0, .int .u32 0, .int .u32 0, .int .u16 0, .int .u16 0, .int .u64 0] := by rw [← hw8]; exact R7.set 12 _ (by show 12 < 19; decide)
  have K8 : But w6.heap.size w7 w8 := by rw [← hw8]; exact But.set _ _ _
  have L8 := L7.but K8 (by omega)
  have Q8 := Q7.but K8 (by omega)
  have B8 := B7.trans (K8.below (by omega) (by omega))
  have n8 := R8.2.2
  have z8 := Q8.2.2
  go_wp2_with fail
  clear L7 Q7 B7 R7 K8 hw8 d7 g7 n7
  refine (qat_any b off C 104 4 f _ L8 (by decide) (by decide) (by decide)).mono ?_
  rintro e w9 ⟨rfl, hw⟩
  rw [hw]
  clear hw w9
  obtain ⟨⟨v8, d8⟩, g8⟩ := R8.at 13 (by show 13 < 19; decide)
  have wx8 : IntKind.u32.wrap (ps (fun j => f (104 + j)) 4) = ps (fun j => f (104 + j)) 4 := by
    have := ps_bound (fun j => f (104 + j)) 4 (fun i hi => L8.2.1 (104 + i) (by omega))
    rw [IntKind.wrap_u32]
    exact Int.emod_eq_of_lt this.1 this.2
  obtain ⟨w9, hw9⟩ : ∃ u, w8.setCell ⟨w6.heap.size, 13, none⟩ (.int .u32 (ps (fun j => f (104 + j)) 4)) = u := ⟨_, rfl⟩
  have R9 : Rec19 w9 w6.heap.size 0 [.int .u64 (hi16 (fun j => f (0 + j))), .int .u64 (lo16 (fun j => f (0 + j))), .int .u64 (hi16 (fun j => f (16 + j))), .int .u64 (lo16 (fun j => f (16 + j))), .int .u64 (hi16 (fun j => f (32 + j))), .int .u64 (lo16 (fun j => f (32 + j))), .int .u64 (hi16 (fun j => f (48 + j))), .int .u64 (lo16 (fun j => f (48 + j))), .int .u64 (hi16 (fun j => f (64 + j))), .int .u64 (lo16 (fun j => f (64 + j))), .int .u64 (hi16 (fun j => f (80 + j))), .int .u64 (lo16 (fun j => f (80 + j))), .int .u64 (ps (fun j => f (96 + j)) 8), .int .u32 (ps (fun j => f (104 + j)) 4), .int .u32 0, .int .u32 0, .int .u16 0, .int .u16 0, .int .u64 0] := by rw [← hw9]; exact R8.set 13 _ (by show 13 < 19; decide)
  have K9 : But w6.heap.size w8 w9 := by rw [← hw9]; exact But.set _ _ _
  have L9 := L8.but K9 (by omega)
  have Q9 := Q8.but K9 (by omega)
  have B9 := B8.trans (K9.below (by omega) (by omega))
  have n9 := R9.2.2
  have z9 := Q9.2.2
  go_wp2_with fail
  clear L8 Q8 B8 R8 K9 hw9 d8 g8 n8
  refine (qat_any b off C 108 4 f _ L9 (by decide) (by decide) (by decide)).mono ?_
  rintro e w10 ⟨rfl, hw⟩
  rw [hw]
  clear hw w10
  obtain ⟨⟨v9, d9⟩, g9⟩ := R9.at 14 (by show 14 < 19; decide)
  have wx9 : IntKind.u32.wrap (ps (fun j => f (108 + j)) 4) = ps (fun j => f (108 + j)) 4 := by
    have := ps_bound (fun j => f (108 + j)) 4 (fun i hi => L9.2.1 (108 + i) (by omega))
    rw [IntKind.wrap_u32]
    exact Int.emod_eq_of_lt this.1 this.2
  obtain ⟨w10, hw10⟩ : ∃ u, w9.setCell ⟨w6.heap.size, 14, none⟩ (.int .u32 (ps (fun j => f (108 + j)) 4)) = u := ⟨_, rfl⟩
  have R10 : Rec19 w10 w6.heap.size 0 [.int .u64 (hi16 (fun j => f (0 + j))), .int .u64 (lo16 (fun j => f (0 + j))), .int .u64 (hi16 (fun j => f (16 + j))), .int .u64 (lo16 (fun j => f (16 + j))), .int .u64 (hi16 (fun j => f (32 + j))), .int .u64 (lo16 (fun j => f (32 + j))), .int .u64 (hi16 (fun j => f (48 + j))), .int .u64 (lo16 (fun j => f (48 + j))), .int .u64 (hi16 (fun j => f (64 + j))), .int .u64 (lo16 (fun j => f (64 + j))), .int .u64 (hi16 (fun j => f (80 + j))), .int .u64 (lo16 (fun j => f (80 + j))), .int .u64 (ps (fun j => f (96 + j)) 8), .int .u32 (ps (fun j => f (104 + j)) 4), .int .u32 (ps (fun j => f (108 + j)) 4), .int .u32 0, .int .u16 0, .int .u16 0, .int .u64 0] := by rw [← hw10]; exact R9.set 14 _ (by show 14 < 19; decide)
  have K10 : But w6.heap.size w9 w10 := by rw [← hw10]; exact But.set _ _ _
  have L10 := L9.but K10 (by omega)
  have Q10 := Q9.but K10 (by omega)
  have B10 := B9.trans (K10.below (by omega) (by omega))
  have n10 := R10.2.2
  have z10 := Q10.2.2
  go_wp2_with fail
  clear L9 Q9 B9 R9 K10 hw10 d9 g9 n9
  refine (qat_any b off C 112 4 f _ L10 (by decide) (by decide) (by decide)).mono ?_
  rintro e w11 ⟨rfl, hw⟩
  rw [hw]
  clear hw w11
  obtain ⟨⟨v10, d10⟩, g10⟩ := R10.at 15 (by show 15 < 19; decide)
  have wx10 : IntKind.u32.wrap (ps (fun j => f (112 + j)) 4) = ps (fun j => f (112 + j)) 4 := by
    have := ps_bound (fun j => f (112 + j)) 4 (fun i hi => L10.2.1 (112 + i) (by omega))
    rw [IntKind.wrap_u32]
    exact Int.emod_eq_of_lt this.1 this.2
  obtain ⟨w11, hw11⟩ : ∃ u, w10.setCell ⟨w6.heap.size, 15, none⟩ (.int .u32 (ps (fun j => f (112 + j)) 4)) = u := ⟨_, rfl⟩
  have R11 : Rec19 w11 w6.heap.size 0 [.int .u64 (hi16 (fun j => f (0 + j))), .int .u64 (lo16 (fun j => f (0 + j))), .int .u64 (hi16 (fun j => f (16 + j))), .int .u64 (lo16 (fun j => f (16 + j))), .int .u64 (hi16 (fun j => f (32 + j))), .int .u64 (lo16 (fun j => f (32 + j))), .int .u64 (hi16 (fun j => f (48 + j))), .int .u64 (lo16 (fun j => f (48 + j))), .int .u64 (hi16 (fun j => f (64 + j))), .int .u64 (lo16 (fun j => f (64 + j))), .int .u64 (hi16 (fun j => f (80 + j))), .int .u64 (lo16 (fun j => f (80 + j))), .int .u64 (ps (fun j => f (96 + j)) 8), .int .u32 (ps (fun j => f (104 + j)) 4), .int .u32 (ps (fun j => f (108 + j)) 4), .int .u32 (ps (fun j => f (112 + j)) 4), .int .u16 0, .int .u16 0, .int .u64 0] := by rw [← hw11]; exact R10.set 15 _ (by show 15 < 19; decide)
  have K11 : But w6.heap.size w10 w11 := by rw [← hw11]; exact But.set _ _ _
  have L11 := L10.but K11 (by omega)
  have Q11 := Q10.but K11 (by omega)
  have B11 := B10.trans (K11.below (by omega) (by omega))
  have n11 := R11.2.2
  have z11 := Q11.2.2
  go_wp2_with fail
  clear L10 Q10 B10 R10 K11 hw11 d10 g10 n10
  refine (qat_any b off C 116 2 f _ L11 (by decide) (by decide) (by decide)).mono ?_
  rintro e w12 ⟨rfl, hw⟩
  rw [hw]
  clear hw w12
  obtain ⟨⟨v11, d11⟩, g11⟩ := R11.at 16 (by show 16 < 19; decide)
  have wx11 : IntKind.u16.wrap (ps (fun j => f (116 + j)) 2) = ps (fun j => f (116 + j)) 2 := by
    have := ps_bound (fun j => f (116 + j)) 2 (fun i hi => L11.2.1 (116 + i) (by omega))
    rw [IntKind.wrap_u16]
    exact Int.emod_eq_of_lt this.1 this.2
  obtain ⟨w12, hw12⟩ : ∃ u, w11.setCell ⟨w6.heap.size, 16, none⟩ (.int .u16 (ps (fun j => f (116 + j)) 2)) = u := ⟨_, rfl⟩
  have R12 : Rec19 w12 w6.heap.size 0 [.int .u64 (hi16 (fun j => f (0 + j))), .int .u64 (lo16 (fun j => f (0 + j))), .int .u64 (hi16 (fun j => f (16 + j))), .int .u64 (lo16 (fun j => f (16 + j))), .int .u64 (hi16 (fun j => f (32 + j))), .int .u64 (lo16 (fun j => f (32 + j))), .int .u64 (hi16 (fun j => f (48 + j))), .int .u64 (lo16 (fun j => f (48 + j))), .int .u64 (hi16 (fun j => f (64 + j))), .int .u64 (lo16 (fun j => f (64 + j))), .int .u64 (hi16 (fun j => f (80 + j))), .int .u64 (lo16 (fun j => f (80 + j))), .int .u64 (ps (fun j => f (96 + j)) 8), .int .u32 (ps (fun j => f (104 + j)) 4), .int .u32 (ps (fun j => f (108 + j)) 4), .int .u32 (ps (fun j => f (112 + j)) 4), .int .u16 (ps (fun j => f (116 + j)) 2), .int .u16 0, .int .u64 0] := by rw [← hw12]; exact R11.set 16 _ (by show 16 < 19; decide)
  have K12 : But w6.heap.size w11 w12 := by rw [← hw12]; exact But.set _ _ _
  have L12 := L11.but K12 (by omega)
  have Q12 := Q11.but K12 (by omega)
  have B12 := B11.trans (K12.below (by omega) (by omega))
  have n12 := R12.2.2
  have z12 := Q12.2.2
  go_wp2_with fail
  clear L11 Q11 B11 R11 K12 hw12 d11 g11 n11
  refine (qat_any b off C 118 2 f _ L12 (by decide) (by decide) (by decide)).mono ?_
  rintro e w13 ⟨rfl, hw⟩
  rw [hw]
  clear hw w13
  obtain ⟨⟨v12, d12⟩, g12⟩ := R12.at 17 (by show 17 < 19; decide)
  have wx12 : IntKind.u16.wrap (ps (fun j => f (118 + j)) 2) = ps (fun j => f (118 + j)) 2 := by
    have := ps_bound (fun j => f (118 + j)) 2 (fun i hi => L12.2.1 (118 + i) (by omega))
    rw [IntKind.wrap_u16]
    exact Int.emod_eq_of_lt this.1 this.2
  obtain ⟨w13, hw13⟩ : ∃ u, w12.setCell ⟨w6.heap.size, 17, none⟩ (.int .u16 (ps (fun j => f (118 + j)) 2)) = u := ⟨_, rfl⟩
  have R13 : Rec19 w13 w6.heap.size 0 [.int .u64 (hi16 (fun j => f (0 + j))), .int .u64 (lo16 (fun j => f (0 + j))), .int .u64 (hi16 (fun j => f (16 + j))), .int .u64 (lo16 (fun j => f (16 + j))), .int .u64 (hi16 (fun j => f (32 + j))), .int .u64 (lo16 (fun j => f (32 + j))), .int .u64 (hi16 (fun j => f (48 + j))), .int .u64 (lo16 (fun j => f (48 + j))), .int .u64 (hi16 (fun j => f (64 + j))), .int .u64 (lo16 (fun j => f (64 + j))), .int .u64 (hi16 (fun j => f (80 + j))), .int .u64 (lo16 (fun j => f (80 + j))), .int .u64 (ps (fun j => f (96 + j)) 8), .int .u32 (ps (fun j => f (104 + j)) 4), .int .u32 (ps (fun j => f (108 + j)) 4), .int .u32 (ps (fun j => f (112 + j)) 4), .int .u16 (ps (fun j => f (116 + j)) 2), .int .u16 (ps (fun j => f (118 + j)) 2), .int .u64 0] := by rw [← hw13]; exact R12.set 17 _ (by show 17 < 19; decide)
  have K13 : But w6.heap.size w12 w13 := by rw [← hw13]; exact But.set _ _ _
  have L13 := L12.but K13 (by omega)
  have Q13 := Q12.but K13 (by omega)
  have B13 := B12.trans (K13.below (by omega) (by omega))
  have n13 := R13.2.2
  have z13 := Q13.2.2
  go_wp2_with fail
  clear L12 Q12 B12 R12 K13 hw13 d12 g12 n12
  refine (qat_any b off C 120 8 f _ L13 (by decide) (by decide) (by decide)).mono ?_
  rintro e w14 ⟨rfl, hw⟩
  rw [hw]
  clear hw w14
  obtain ⟨⟨v13, d13⟩, g13⟩ := R13.at 18 (by show 18 < 19; decide)
  obtain ⟨w14, hw14⟩ : ∃ u, w13.setCell ⟨w6.heap.size, 18, none⟩ (.int .u64 (ps (fun j => f (120 + j)) 8)) = u := ⟨_, rfl⟩
  have R14 : Rec19 w14 w6.heap.size 0 [.int .u64 (hi16 (fun j => f (0 + j))), .int .u64 (lo16 (fun j => f (0 + j))), .int .u64 (hi16 (fun j => f (16 + j))), .int .u64 (lo16 (fun j => f (16 + j))), .int .u64 (hi16 (fun j => f (32 + j))), .int .u64 (lo16 (fun j => f (32 + j))), .int .u64 (hi16 (fun j => f (48 + j))), .int .u64 (lo16 (fun j => f (48 + j))), .int .u64 (hi16 (fun j => f (64 + j))), .int .u64 (lo16 (fun j => f (64 + j))), .int .u64 (hi16 (fun j => f (80 + j))), .int .u64 (lo16 (fun j => f (80 + j))), .int .u64 (ps (fun j => f (96 + j)) 8), .int .u32 (ps (fun j => f (104 + j)) 4), .int .u32 (ps (fun j => f (108 + j)) 4), .int .u32 (ps (fun j => f (112 + j)) 4), .int .u16 (ps (fun j => f (116 + j)) 2), .int .u16 (ps (fun j => f (118 + j)) 2), .int .u64 (ps (fun j => f (120 + j)) 8)] := by rw [← hw14]; exact R13.set 18 _ (by show 18 < 19; decide)
  have K14 : But w6.heap.size w13 w14 := by rw [← hw14]; exact But.set _ _ _
  have L14 := L13.but K14 (by omega)
  have Q14 := Q13.but K14 (by omega)
  have B14 := B13.trans (K14.below (by omega) (by omega))
  have n14 := R14.2.2
  have z14 := Q14.2.2
  rw [recOf_cells] at R14
  go_wp2_with (first
    | (refine wpList_load_rec rfl 28 (.tmp 4) rfl w6.heap.size 0 (recOf f).cells rfl _ Try.underlying28 rfl (by kernel_rfl) R14 ?_)
    | (refine wpList_store_rec rfl 28 (.tmp 2) _ rfl w.heap.size 0 zero19 (recOf f).cells rfl rfl Q14 rfl (by kernel_rfl) (recOf f).cells_one ?_; intro W2 hR2 hB2))
  clear L13 Q13 B13 R13 K14 hw14 d13 g13 n13
  have hl := hR2.run_load 28 _ Try.underlying28 rfl (by kernel_rfl)
  refine bodyPost_ret (v := .tuple #[.agg (recOf f).cells.toArray, .int .i64 0]) (by simp [results, Try.results41, asAddr, hl]) rfl ⟨rfl, ?_⟩
  exact B14.trans (hB2.below (Nat.le_refl _) B14.size)
end Go.Proofs.Ytlcnhmlcmedonaa
