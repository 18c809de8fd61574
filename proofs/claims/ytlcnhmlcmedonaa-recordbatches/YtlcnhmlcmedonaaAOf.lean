/-
  Walks, not a claim by itself: record.accountOf, and record.ReadAccount at 128 bytes. By the verifier.
-/
import Derived.Test.YtlcnhmlcmedonaaOfParts
namespace Go.Proofs.Ytlcnhmlcmedonaa
open Go.RowKit
set_option maxRecDepth 100000 in
set_option maxHeartbeats 2000000 in
theorem accountOf_any (b off C : Nat) (f : Nat → Int) (w : World) (h : Lies w b off 128 f) (hC : 128 ≤ C) :
    Calls Try.prog 39 #[.slice (some ⟨b, off, none⟩) 128 C] w fun e w' => e = .returned (.agg (recOf f).cells.toArray) ∧ Below w.heap.size w w' := by
  have LL : Hid (Lies w b off 128 f) := h
  have hb := h.2.2
  clear h
  go_enter Try.func39, Try.ntmps39
  go_wp2_with fail
  have R0 := Rec19.new (w.alloc (.cells zero19.toArray 28)) 28 zero19
  have Q0 := (Rec19.new w 28 zero19).below ((Below.refl _ _).alloc (Nat.le_refl _) (.cells zero19.toArray 28))
  have L0 := (LL.out.alloc (.cells zero19.toArray 28)).alloc (.cells zero19.toArray 28)
  have B0 : But (w.heap.size + 1) w ((w.alloc (.cells zero19.toArray 28)).alloc (.cells zero19.toArray 28)) := ((But.refl _ _).alloc _).alloc _
  rw [World.size_alloc] at R0
  have hW : (w.alloc (.cells zero19.toArray 28)).alloc (.cells zero19.toArray 28) = (w.alloc (.cells #[.int .u64 0, .int .u64 0, .int .u64 0, .int .u64 0, .int .u64 0, .int .u64 0, .int .u64 0, .int .u64 0, .int .u64 0, .int .u64 0, .int .u64 0, .int .u64 0, .int .u64 0, .int .u32 0, .int .u32 0, .int .u32 0, .int .u16 0, .int .u16 0, .int .u64 0] 28)).alloc (.cells #[.int .u64 0, .int .u64 0, .int .u64 0, .int .u64 0, .int .u64 0, .int .u64 0, .int .u64 0, .int .u64 0, .int .u64 0, .int .u64 0, .int .u64 0, .int .u64 0, .int .u64 0, .int .u32 0, .int .u32 0, .int .u32 0, .int .u16 0, .int .u16 0, .int .u64 0] 28) := rfl
  rw [hW] at R0 Q0 L0 B0
  clear hW
  generalize (w.alloc (.cells #[.int .u64 0, .int .u64 0, .int .u64 0, .int .u64 0, .int .u64 0, .int .u64 0, .int .u64 0, .int .u64 0, .int .u64 0, .int .u64 0, .int .u64 0, .int .u64 0, .int .u64 0, .int .u32 0, .int .u32 0, .int .u32 0, .int .u16 0, .int .u16 0, .int .u64 0] 28)).alloc (.cells #[.int .u64 0, .int .u64 0, .int .u64 0, .int .u64 0, .int .u64 0, .int .u64 0, .int .u64 0, .int .u64 0, .int .u64 0, .int .u64 0, .int .u64 0, .int .u64 0, .int .u64 0, .int .u32 0, .int .u32 0, .int .u32 0, .int .u16 0, .int .u16 0, .int .u64 0] 28) = W0 at R0 Q0 L0 B0 ⊢
  clear LL
  refine (take128_to b off (off + 16) 128 112 C (C - 16) (w.heap.size + 1) 0 zero19 [.int .u64 (hi16 (fun j => f (0 + j))), .int .u64 (lo16 (fun j => f (0 + j))), .int .u64 0, .int .u64 0, .int .u64 0, .int .u64 0, .int .u64 0, .int .u64 0, .int .u64 0, .int .u64 0, .int .u64 0, .int .u64 0, .int .u64 0, .int .u32 0, .int .u32 0, .int .u32 0, .int .u16 0, .int .u16 0, .int .u64 0] _ _ (L0.part 0 16 (by decide)) R0 (by show 0 + 1 < 19; decide) (by decide) (by omega) (by omega) (by omega) (by omega) rfl).mono ?_
  rintro e w1 ⟨rfl, R1, K1⟩
  have L1 := L0.but K1 (by omega)
  have Q1 := Q0.but K1 (by omega)
  have B1 := B0.trans K1
  clear L0 Q0 B0 R0 K1
  go_wp2_with fail
  refine (take128_to b (off + 16) (off + 32) 112 96 (C - 16) (C - 32) (w.heap.size + 1) 2 [.int .u64 (hi16 (fun j => f (0 + j))), .int .u64 (lo16 (fun j => f (0 + j))), .int .u64 0, .int .u64 0, .int .u64 0, .int .u64 0, .int .u64 0, .int .u64 0, .int .u64 0, .int .u64 0, .int .u64 0, .int .u64 0, .int .u64 0, .int .u32 0, .int .u32 0, .int .u32 0, .int .u16 0, .int .u16 0, .int .u64 0] [.int .u64 (hi16 (fun j => f (0 + j))), .int .u64 (lo16 (fun j => f (0 + j))), .int .u64 (hi16 (fun j => f (16 + j))), .int .u64 (lo16 (fun j => f (16 + j))), .int .u64 0, .int .u64 0, .int .u64 0, .int .u64 0, .int .u64 0, .int .u64 0, .int .u64 0, .int .u64 0, .int .u64 0, .int .u32 0, .int .u32 0, .int .u32 0, .int .u16 0, .int .u16 0, .int .u64 0] _ _ (L1.part 16 16 (by decide)) R1 (by show 2 + 1 < 19; decide) (by decide) (by omega) (by omega) (by omega) (by omega) rfl).mono ?_
  rintro e w2 ⟨rfl, R2, K2⟩
  have L2 := L1.but K2 (by omega)
  have Q2 := Q1.but K2 (by omega)
  have B2 := B1.trans K2
  clear L1 Q1 B1 R1 K2
  go_wp2_with fail
  refine (take128_to b (off + 32) (off + 48) 96 80 (C - 32) (C - 48) (w.heap.size + 1) 4 [.int .u64 (hi16 (fun j => f (0 + j))), .int .u64 (lo16 (fun j => f (0 + j))), .int .u64 (hi16 (fun j => f (16 + j))), .int .u64 (lo16 (fun j => f (16 + j))), .int .u64 0, .int .u64 0, .int .u64 0, .int .u64 0, .int .u64 0, .int .u64 0, .int .u64 0, .int .u64 0, .int .u64 0, .int .u32 0, .int .u32 0, .int .u32 0, .int .u16 0, .int .u16 0, .int .u64 0] [.int .u64 (hi16 (fun j => f (0 + j))), .int .u64 (lo16 (fun j => f (0 + j))), .int .u64 (hi16 (fun j => f (16 + j))), .int .u64 (lo16 (fun j => f (16 + j))), .int .u64 (hi16 (fun j => f (32 + j))), .int .u64 (lo16 (fun j => f (32 + j))), .int .u64 0, .int .u64 0, .int .u64 0, .int .u64 0, .int .u64 0, .int .u64 0, .int .u64 0, .int .u32 0, .int .u32 0, .int .u32 0, .int .u16 0, .int .u16 0, .int .u64 0] _ _ (L2.part 32 16 (by decide)) R2 (by show 4 + 1 < 19; decide) (by decide) (by omega) (by omega) (by omega) (by omega) rfl).mono ?_
  rintro e w3 ⟨rfl, R3, K3⟩
  have L3 := L2.but K3 (by omega)
  have Q3 := Q2.but K3 (by omega)
  have B3 := B2.trans K3
  clear L2 Q2 B2 R2 K3
  go_wp2_with fail
  refine (take128_to b (off + 48) (off + 64) 80 64 (C - 48) (C - 64) (w.heap.size + 1) 6 [.int .u64 (hi16 (fun j => f (0 + j))), .int .u64 (lo16 (fun j => f (0 + j))), .int .u64 (hi16 (fun j => f (16 + j))), .int .u64 (lo16 (fun j => f (16 + j))), .int .u64 (hi16 (fun j => f (32 + j))), .int .u64 (lo16 (fun j => f (32 + j))), .int .u64 0, .int .u64 0, .int .u64 0, .int .u64 0, .int .u64 0, .int .u64 0, .int .u64 0, .int .u32 0, .int .u32 0, .int .u32 0, .int .u16 0, .int .u16 0, .int .u64 0] [.int .u64 (hi16 (fun j => f (0 + j))), .int .u64 (lo16 (fun j => f (0 + j))), .int .u64 (hi16 (fun j => f (16 + j))), .int .u64 (lo16 (fun j => f (16 + j))), .int .u64 (hi16 (fun j => f (32 + j))), .int .u64 (lo16 (fun j => f (32 + j))), .int .u64 (hi16 (fun j => f (48 + j))), .int .u64 (lo16 (fun j => f (48 + j))), .int .u64 0, .int .u64 0, .int .u64 0, .int .u64 0, .int .u64 0, .int .u32 0, .int .u32 0, .int .u32 0, .int .u16 0, .int .u16 0, .int .u64 0] _ _ (L3.part 48 16 (by decide)) R3 (by show 6 + 1 < 19; decide) (by decide) (by omega) (by omega) (by omega) (by omega) rfl).mono ?_
  rintro e w4 ⟨rfl, R4, K4⟩
  have L4 := L3.but K4 (by omega)
  have Q4 := Q3.but K4 (by omega)
  have B4 := B3.trans K4
  clear L3 Q3 B3 R3 K4
  go_wp2_with fail
  refine (take128_to b (off + 64) (off + 80) 64 48 (C - 64) (C - 80) (w.heap.size + 1) 8 [.int .u64 (hi16 (fun j => f (0 + j))), .int .u64 (lo16 (fun j => f (0 + j))), .int .u64 (hi16 (fun j => f (16 + j))), .int .u64 (lo16 (fun j => f (16 + j))), .int .u64 (hi16 (fun j => f (32 + j))), .int .u64 (lo16 (fun j => f (32 + j))), .int .u64 (hi16 (fun j => f (48 + j))), .int .u64 (lo16 (fun j => f (48 + j))), .int .u64 0, .int .u64 0, .int .u64 0, .int .u64 0, .int .u64 0, .int .u32 0, .int .u32 0, .int .u32 0, .int .u16 0, .int .u16 0, .int .u64 0] [.int .u64 (hi16 (fun j => f (0 + j))), .int .u64 (lo16 (fun j => f (0 + j))), .int .u64 (hi16 (fun j => f (16 + j))), .int .u64 (lo16 (fun j => f (16 + j))), .int .u64 (hi16 (fun j => f (32 + j))), .int .u64 (lo16 (fun j => f (32 + j))), .int .u64 (hi16 (fun j => f (48 + j))), .int .u64 (lo16 (fun j => f (48 + j))), .int .u64 (hi16 (fun j => f (64 + j))), .int .u64 (lo16 (fun j => f (64 + j))), .int .u64 0, .int .u64 0, .int .u64 0, .int .u32 0, .int .u32 0, .int .u32 0, .int .u16 0, .int .u16 0, .int .u64 0] _ _ (L4.part 64 16 (by decide)) R4 (by show 8 + 1 < 19; decide) (by decide) (by omega) (by omega) (by omega) (by omega) rfl).mono ?_
  rintro e w5 ⟨rfl, R5, K5⟩
  have L5 := L4.but K5 (by omega)
  have Q5 := Q4.but K5 (by omega)
  have B5 := B4.trans K5
  clear L4 Q4 B4 R4 K5
  go_wp2_with fail
  refine (take128_to b (off + 80) (off + 96) 48 32 (C - 80) (C - 96) (w.heap.size + 1) 10 [.int .u64 (hi16 (fun j => f (0 + j))), .int .u64 (lo16 (fun j => f (0 + j))), .int .u64 (hi16 (fun j => f (16 + j))), .int .u64 (lo16 (fun j => f (16 + j))), .int .u64 (hi16 (fun j => f (32 + j))), .int .u64 (lo16 (fun j => f (32 + j))), .int .u64 (hi16 (fun j => f (48 + j))), .int .u64 (lo16 (fun j => f (48 + j))), .int .u64 (hi16 (fun j => f (64 + j))), .int .u64 (lo16 (fun j => f (64 + j))), .int .u64 0, .int .u64 0, .int .u64 0, .int .u32 0, .int .u32 0, .int .u32 0, .int .u16 0, .int .u16 0, .int .u64 0] [.int .u64 (hi16 (fun j => f (0 + j))), .int .u64 (lo16 (fun j => f (0 + j))), .int .u64 (hi16 (fun j => f (16 + j))), .int .u64 (lo16 (fun j => f (16 + j))), .int .u64 (hi16 (fun j => f (32 + j))), .int .u64 (lo16 (fun j => f (32 + j))), .int .u64 (hi16 (fun j => f (48 + j))), .int .u64 (lo16 (fun j => f (48 + j))), .int .u64 (hi16 (fun j => f (64 + j))), .int .u64 (lo16 (fun j => f (64 + j))), .int .u64 (hi16 (fun j => f (80 + j))), .int .u64 (lo16 (fun j => f (80 + j))), .int .u64 0, .int .u32 0, .int .u32 0, .int .u32 0, .int .u16 0, .int .u16 0, .int .u64 0] _ _ (L5.part 80 16 (by decide)) R5 (by show 10 + 1 < 19; decide) (by decide) (by omega) (by omega) (by omega) (by omega) rfl).mono ?_
  rintro e w6 ⟨rfl, R6, K6⟩
  have L6 := L5.but K6 (by omega)
  have Q6 := Q5.but K6 (by omega)
  have B6 := B5.trans K6
  clear L5 Q5 B5 R5 K6
  go_wp2_with fail
  refine (take64_to b (off + 96) (off + 104) 32 24 (C - 96) (C - 104) (w.heap.size + 1) 12 [.int .u64 (hi16 (fun j => f (0 + j))), .int .u64 (lo16 (fun j => f (0 + j))), .int .u64 (hi16 (fun j => f (16 + j))), .int .u64 (lo16 (fun j => f (16 + j))), .int .u64 (hi16 (fun j => f (32 + j))), .int .u64 (lo16 (fun j => f (32 + j))), .int .u64 (hi16 (fun j => f (48 + j))), .int .u64 (lo16 (fun j => f (48 + j))), .int .u64 (hi16 (fun j => f (64 + j))), .int .u64 (lo16 (fun j => f (64 + j))), .int .u64 (hi16 (fun j => f (80 + j))), .int .u64 (lo16 (fun j => f (80 + j))), .int .u64 0, .int .u32 0, .int .u32 0, .int .u32 0, .int .u16 0, .int .u16 0, .int .u64 0] [.int .u64 (hi16 (fun j => f (0 + j))), .int .u64 (lo16 (fun j => f (0 + j))), .int .u64 (hi16 (fun j => f (16 + j))), .int .u64 (lo16 (fun j => f (16 + j))), .int .u64 (hi16 (fun j => f (32 + j))), .int .u64 (lo16 (fun j => f (32 + j))), .int .u64 (hi16 (fun j => f (48 + j))), .int .u64 (lo16 (fun j => f (48 + j))), .int .u64 (hi16 (fun j => f (64 + j))), .int .u64 (lo16 (fun j => f (64 + j))), .int .u64 (hi16 (fun j => f (80 + j))), .int .u64 (lo16 (fun j => f (80 + j))), .int .u64 (ps (fun j => f (96 + j)) 8), .int .u32 0, .int .u32 0, .int .u32 0, .int .u16 0, .int .u16 0, .int .u64 0] _ _ (L6.part 96 8 (by decide)) R6 (by show 12 < 19; decide) (by decide) (by omega) (by omega) (by omega) (by omega) rfl).mono ?_
  rintro e w7 ⟨rfl, R7, K7⟩
  have L7 := L6.but K7 (by omega)
  have Q7 := Q6.but K7 (by omega)
  have B7 := B6.trans K7
  clear L6 Q6 B6 R6 K7
  go_wp2_with fail
  refine (take32_to b (off + 104) (off + 108) 24 20 (C - 104) (C - 108) (w.heap.size + 1) 13 [.int .u64 (hi16 (fun j => f (0 + j))), .int .u64 (lo16 (fun j => f (0 + j))), .int .u64 (hi16 (fun j => f (16 + j))), .int .u64 (lo16 (fun j => f (16 + j))), .int .u64 (hi16 (fun j => f (32 + j))), .int .u64 (lo16 (fun j => f (32 + j))), .int .u64 (hi16 (fun j => f (48 + j))), .int .u64 (lo16 (fun j => f (48 + j))), .int .u64 (hi16 (fun j => f (64 + j))), .int .u64 (lo16 (fun j => f (64 + j))), .int .u64 (hi16 (fun j => f (80 + j))), .int .u64 (lo16 (fun j => f (80 + j))), .int .u64 (ps (fun j => f (96 + j)) 8), .int .u32 0, .int .u32 0, .int .u32 0, .int .u16 0, .int .u16 0, .int .u64 0] [.int .u64 (hi16 (fun j => f (0 + j))), .int .u64 (lo16 (fun j => f (0 + j))), .int .u64 (hi16 (fun j => f (16 + j))), .int .u64 (lo16 (fun j => f (16 + j))), .int .u64 (hi16 (fun j => f (32 + j))), .int .u64 (lo16 (fun j => f (32 + j))), .int .u64 (hi16 (fun j => f (48 + j))), .int .u64 (lo16 (fun j => f (48 + j))), .int .u64 (hi16 (fun j => f (64 + j))), .int .u64 (lo16 (fun j => f (64 + j))), .int .u64 (hi16 (fun j => f (80 + j))), .int .u64 (lo16 (fun j => f (80 + j))), .int .u64 (ps (fun j => f (96 + j)) 8), .int .u32 (ps (fun j => f (104 + j)) 4), .int .u32 0, .int .u32 0, .int .u16 0, .int .u16 0, .int .u64 0] _ _ (L7.part 104 4 (by decide)) R7 (by show 13 < 19; decide) (by decide) (by omega) (by omega) (by omega) (by omega) rfl).mono ?_
  rintro e w8 ⟨rfl, R8, K8⟩
  have L8 := L7.but K8 (by omega)
  have Q8 := Q7.but K8 (by omega)
  have B8 := B7.trans K8
  clear L7 Q7 B7 R7 K8
  go_wp2_with fail
  refine (take32_to b (off + 108) (off + 112) 20 16 (C - 108) (C - 112) (w.heap.size + 1) 14 [.int .u64 (hi16 (fun j => f (0 + j))), .int .u64 (lo16 (fun j => f (0 + j))), .int .u64 (hi16 (fun j => f (16 + j))), .int .u64 (lo16 (fun j => f (16 + j))), .int .u64 (hi16 (fun j => f (32 + j))), .int .u64 (lo16 (fun j => f (32 + j))), .int .u64 (hi16 (fun j => f (48 + j))), .int .u64 (lo16 (fun j => f (48 + j))), .int .u64 (hi16 (fun j => f (64 + j))), .int .u64 (lo16 (fun j => f (64 + j))), .int .u64 (hi16 (fun j => f (80 + j))), .int .u64 (lo16 (fun j => f (80 + j))), .int .u64 (ps (fun j => f (96 + j)) 8), .int .u32 (ps (fun j => f (104 + j)) 4), .int .u32 0, .int .u32 0, .int .u16 0, .int .u16 0, .int .u64 0] [.int .u64 (hi16 (fun j => f (0 + j))), .int .u64 (lo16 (fun j => f (0 + j))), .int .u64 (hi16 (fun j => f (16 + j))), .int .u64 (lo16 (fun j => f (16 + j))), .int .u64 (hi16 (fun j => f (32 + j))), .int .u64 (lo16 (fun j => f (32 + j))), .int .u64 (hi16 (fun j => f (48 + j))), .int .u64 (lo16 (fun j => f (48 + j))), .int .u64 (hi16 (fun j => f (64 + j))), .int .u64 (lo16 (fun j => f (64 + j))), .int .u64 (hi16 (fun j => f (80 + j))), .int .u64 (lo16 (fun j => f (80 + j))), .int .u64 (ps (fun j => f (96 + j)) 8), .int .u32 (ps (fun j => f (104 + j)) 4), .int .u32 (ps (fun j => f (108 + j)) 4), .int .u32 0, .int .u16 0, .int .u16 0, .int .u64 0] _ _ (L8.part 108 4 (by decide)) R8 (by show 14 < 19; decide) (by decide) (by omega) (by omega) (by omega) (by omega) rfl).mono ?_
  rintro e w9 ⟨rfl, R9, K9⟩
  have L9 := L8.but K9 (by omega)
  have Q9 := Q8.but K9 (by omega)
  have B9 := B8.trans K9
  clear L8 Q8 B8 R8 K9
  go_wp2_with fail
  refine (take32_to b (off + 112) (off + 116) 16 12 (C - 112) (C - 116) (w.heap.size + 1) 15 [.int .u64 (hi16 (fun j => f (0 + j))), .int .u64 (lo16 (fun j => f (0 + j))), .int .u64 (hi16 (fun j => f (16 + j))), .int .u64 (lo16 (fun j => f (16 + j))), .int .u64 (hi16 (fun j => f (32 + j))), .int .u64 (lo16 (fun j => f (32 + j))), .int .u64 (hi16 (fun j => f (48 + j))), .int .u64 (lo16 (fun j => f (48 + j))), .int .u64 (hi16 (fun j => f (64 + j))), .int .u64 (lo16 (fun j => f (64 + j))), .int .u64 (hi16 (fun j => f (80 + j))), .int .u64 (lo16 (fun j => f (80 + j))), .int .u64 (ps (fun j => f (96 + j)) 8), .int .u32 (ps (fun j => f (104 + j)) 4), .int .u32 (ps (fun j => f (108 + j)) 4), .int .u32 0, .int .u16 0, .int .u16 0, .int .u64 0] [.int .u64 (hi16 (fun j => f (0 + j))), .int .u64 (lo16 (fun j => f (0 + j))), .int .u64 (hi16 (fun j => f (16 + j))), .int .u64 (lo16 (fun j => f (16 + j))), .int .u64 (hi16 (fun j => f (32 + j))), .int .u64 (lo16 (fun j => f (32 + j))), .int .u64 (hi16 (fun j => f (48 + j))), .int .u64 (lo16 (fun j => f (48 + j))), .int .u64 (hi16 (fun j => f (64 + j))), .int .u64 (lo16 (fun j => f (64 + j))), .int .u64 (hi16 (fun j => f (80 + j))), .int .u64 (lo16 (fun j => f (80 + j))), .int .u64 (ps (fun j => f (96 + j)) 8), .int .u32 (ps (fun j => f (104 + j)) 4), .int .u32 (ps (fun j => f (108 + j)) 4), .int .u32 (ps (fun j => f (112 + j)) 4), .int .u16 0, .int .u16 0, .int .u64 0] _ _ (L9.part 112 4 (by decide)) R9 (by show 15 < 19; decide) (by decide) (by omega) (by omega) (by omega) (by omega) rfl).mono ?_
  rintro e w10 ⟨rfl, R10, K10⟩
  have L10 := L9.but K10 (by omega)
  have Q10 := Q9.but K10 (by omega)
  have B10 := B9.trans K10
  clear L9 Q9 B9 R9 K10
  go_wp2_with fail
  refine (take16_to b (off + 116) (off + 118) 12 10 (C - 116) (C - 118) (w.heap.size + 1) 16 [.int .u64 (hi16 (fun j => f (0 + j))), .int .u64 (lo16 (fun j => f (0 + j))), .int .u64 (hi16 (fun j => f (16 + j))), .int .u64 (lo16 (fun j => f (16 + j))), .int .u64 (hi16 (fun j => f (32 + j))), .int .u64 (lo16 (fun j => f (32 + j))), .int .u64 (hi16 (fun j => f (48 + j))), .int .u64 (lo16 (fun j => f (48 + j))), .int .u64 (hi16 (fun j => f (64 + j))), .int .u64 (lo16 (fun j => f (64 + j))), .int .u64 (hi16 (fun j => f (80 + j))), .int .u64 (lo16 (fun j => f (80 + j))), .int .u64 (ps (fun j => f (96 + j)) 8), .int .u32 (ps (fun j => f (104 + j)) 4), .int .u32 (ps (fun j => f (108 + j)) 4), .int .u32 (ps (fun j => f (112 + j)) 4), .int .u16 0, .int .u16 0, .int .u64 0] [.int .u64 (hi16 (fun j => f (0 + j))), .int .u64 (lo16 (fun j => f (0 + j))), .int .u64 (hi16 (fun j => f (16 + j))), .int .u64 (lo16 (fun j => f (16 + j))), .int .u64 (hi16 (fun j => f (32 + j))), .int .u64 (lo16 (fun j => f (32 + j))), .int .u64 (hi16 (fun j => f (48 + j))), .int .u64 (lo16 (fun j => f (48 + j))), .int .u64 (hi16 (fun j => f (64 + j))), .int .u64 (lo16 (fun j => f (64 + j))), .int .u64 (hi16 (fun j => f (80 + j))), .int .u64 (lo16 (fun j => f (80 + j))), .int .u64 (ps (fun j => f (96 + j)) 8), .int .u32 (ps (fun j => f (104 + j)) 4), .int .u32 (ps (fun j => f (108 + j)) 4), .int .u32 (ps (fun j => f (112 + j)) 4), .int .u16 (ps (fun j => f (116 + j)) 2), .int .u16 0, .int .u64 0] _ _ (L10.part 116 2 (by decide)) R10 (by show 16 < 19; decide) (by decide) (by omega) (by omega) (by omega) (by omega) rfl).mono ?_
  rintro e w11 ⟨rfl, R11, K11⟩
  have L11 := L10.but K11 (by omega)
  have Q11 := Q10.but K11 (by omega)
  have B11 := B10.trans K11
  clear L10 Q10 B10 R10 K11
  go_wp2_with fail
  refine (take16_to b (off + 118) (off + 120) 10 8 (C - 118) (C - 120) (w.heap.size + 1) 17 [.int .u64 (hi16 (fun j => f (0 + j))), .int .u64 (lo16 (fun j => f (0 + j))), .int .u64 (hi16 (fun j => f (16 + j))), .int .u64 (lo16 (fun j => f (16 + j))), .int .u64 (hi16 (fun j => f (32 + j))), .int .u64 (lo16 (fun j => f (32 + j))), .int .u64 (hi16 (fun j => f (48 + j))), .int .u64 (lo16 (fun j => f (48 + j))), .int .u64 (hi16 (fun j => f (64 + j))), .int .u64 (lo16 (fun j => f (64 + j))), .int .u64 (hi16 (fun j => f (80 + j))), .int .u64 (lo16 (fun j => f (80 + j))), .int .u64 (ps (fun j => f (96 + j)) 8), .int .u32 (ps (fun j => f (104 + j)) 4), .int .u32 (ps (fun j => f (108 + j)) 4), .int .u32 (ps (fun j => f (112 + j)) 4), .int .u16 (ps (fun j => f (116 + j)) 2), .int .u16 0, .int .u64 0] [.int .u64 (hi16 (fun j => f (0 + j))), .int .u64 (lo16 (fun j => f (0 + j))), .int .u64 (hi16 (fun j => f (16 + j))), .int .u64 (lo16 (fun j => f (16 + j))), .int .u64 (hi16 (fun j => f (32 + j))), .int .u64 (lo16 (fun j => f (32 + j))), .int .u64 (hi16 (fun j => f (48 + j))), .int .u64 (lo16 (fun j => f (48 + j))), .int .u64 (hi16 (fun j => f (64 + j))), .int .u64 (lo16 (fun j => f (64 + j))), .int .u64 (hi16 (fun j => f (80 + j))), .int .u64 (lo16 (fun j => f (80 + j))), .int .u64 (ps (fun j => f (96 + j)) 8), .int .u32 (ps (fun j => f (104 + j)) 4), .int .u32 (ps (fun j => f (108 + j)) 4), .int .u32 (ps (fun j => f (112 + j)) 4), .int .u16 (ps (fun j => f (116 + j)) 2), .int .u16 (ps (fun j => f (118 + j)) 2), .int .u64 0] _ _ (L11.part 118 2 (by decide)) R11 (by show 17 < 19; decide) (by decide) (by omega) (by omega) (by omega) (by omega) rfl).mono ?_
  rintro e w12 ⟨rfl, R12, K12⟩
  have L12 := L11.but K12 (by omega)
  have Q12 := Q11.but K12 (by omega)
  have B12 := B11.trans K12
  clear L11 Q11 B11 R11 K12
  go_wp2_with fail
  refine (take64_last b (off + 120) (C - 120) (w.heap.size + 1) 18 [.int .u64 (hi16 (fun j => f (0 + j))), .int .u64 (lo16 (fun j => f (0 + j))), .int .u64 (hi16 (fun j => f (16 + j))), .int .u64 (lo16 (fun j => f (16 + j))), .int .u64 (hi16 (fun j => f (32 + j))), .int .u64 (lo16 (fun j => f (32 + j))), .int .u64 (hi16 (fun j => f (48 + j))), .int .u64 (lo16 (fun j => f (48 + j))), .int .u64 (hi16 (fun j => f (64 + j))), .int .u64 (lo16 (fun j => f (64 + j))), .int .u64 (hi16 (fun j => f (80 + j))), .int .u64 (lo16 (fun j => f (80 + j))), .int .u64 (ps (fun j => f (96 + j)) 8), .int .u32 (ps (fun j => f (104 + j)) 4), .int .u32 (ps (fun j => f (108 + j)) 4), .int .u32 (ps (fun j => f (112 + j)) 4), .int .u16 (ps (fun j => f (116 + j)) 2), .int .u16 (ps (fun j => f (118 + j)) 2), .int .u64 0] [.int .u64 (hi16 (fun j => f (0 + j))), .int .u64 (lo16 (fun j => f (0 + j))), .int .u64 (hi16 (fun j => f (16 + j))), .int .u64 (lo16 (fun j => f (16 + j))), .int .u64 (hi16 (fun j => f (32 + j))), .int .u64 (lo16 (fun j => f (32 + j))), .int .u64 (hi16 (fun j => f (48 + j))), .int .u64 (lo16 (fun j => f (48 + j))), .int .u64 (hi16 (fun j => f (64 + j))), .int .u64 (lo16 (fun j => f (64 + j))), .int .u64 (hi16 (fun j => f (80 + j))), .int .u64 (lo16 (fun j => f (80 + j))), .int .u64 (ps (fun j => f (96 + j)) 8), .int .u32 (ps (fun j => f (104 + j)) 4), .int .u32 (ps (fun j => f (108 + j)) 4), .int .u32 (ps (fun j => f (112 + j)) 4), .int .u16 (ps (fun j => f (116 + j)) 2), .int .u16 (ps (fun j => f (118 + j)) 2), .int .u64 (ps (fun j => f (120 + j)) 8)] _ _ (L12.part 120 8 (by decide)) R12 (by show 18 < 19; decide) (by omega) rfl).mono ?_
  rintro e w13 ⟨⟨o', C', rfl⟩, R13, K13⟩
  have L13 := L12.but K13 (by omega)
  have Q13 := Q12.but K13 (by omega)
  have B13 := B12.trans K13
  clear L12 Q12 B12 R12 K13
  rw [recOf_cells] at R13
  go_wp2_with (first
    | (refine wpList_load_rec rfl 28 (.tmp 3) rfl (w.heap.size + 1) 0 (recOf f).cells rfl _ Try.underlying28 rfl (by kernel_rfl) R13 ?_)
    | (refine wpList_store_rec rfl 28 (.tmp 2) _ rfl w.heap.size 0 zero19 (recOf f).cells rfl rfl Q13 rfl (by kernel_rfl) (recOf f).cells_one ?_; intro W2 hR2 hB2))
  have hl := hR2.run_load 28 _ Try.underlying28 rfl (by kernel_rfl)
  refine bodyPost_ret (v := .agg (recOf f).cells.toArray) (by simp [results, Try.results39, asAddr, Act.put, hl]) rfl ⟨rfl, ?_⟩
  exact (B13.below (Nat.le_succ _) (Nat.le_refl _)).trans (hB2.below (Nat.le_refl _) B13.size)

set_option maxRecDepth 100000 in
set_option maxHeartbeats 1000000 in
theorem readAccount_ok (b off C : Nat) (f : Nat → Int) (w : World) (h : Lies w b off 128 f) (hC : 128 ≤ C) :
    Calls Try.prog 26 #[.slice (some ⟨b, off, none⟩) 128 C] w fun e w' => e = .returned (.tuple #[.agg (recOf f).cells.toArray, .int .i64 0]) ∧ Below w.heap.size w w' := by
  have LL : Hid (Lies w b off 128 f) := h
  clear h
  go_enter Try.func26, Try.ntmps26
  go_wp2_with fail
  refine (accountOf_any b off C f _ (LL.out.alloc _) hC).mono ?_
  rintro e w1 ⟨rfl, hB⟩
  have R1 := (Rec19.new w 28 zero19).below hB
  have B1 : Hid (Below w.heap.size w w1) := ((Below.refl _ _).alloc (Nat.le_refl _) _).trans (hB.mono (by simp))
  clear hB
  go_wp2_with (refine wpList_store_rec rfl 28 (.tmp 2) _ rfl w.heap.size 0 zero19 (recOf f).cells rfl rfl R1 rfl (by kernel_rfl) (recOf f).cells_one ?_; intro W2 hR2 hB2)
  have hl := hR2.run_load 28 _ Try.underlying28 rfl (by kernel_rfl)
  refine bodyPost_ret (v := .tuple #[.agg (recOf f).cells.toArray, .int .i64 0]) (by simp [results, Try.results26, asAddr, hl]) rfl ⟨rfl, ?_⟩
  exact B1.out.trans (hB2.below (Nat.le_refl _) B1.out.size)
end Go.Proofs.Ytlcnhmlcmedonaa
