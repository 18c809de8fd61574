/-
  Walks, not a claim by itself: BlockKnown. By the verifier.
-/
import Derived.Test.YtmlllglgjpmicaaGAwk
namespace Go.Proofs.Ytmlllglgjpmicaa
open Go.RowKit
/-- One number of a row is stored: the world behind it is a letter. -/
theorem wpList_set_row {ops : Array Oper} {rest : List Oper} {op : Oper} {a : Act} {w : World} {Q : Exit → Act → World → Prop} (hgd : op.guard = none) (ty : TypeId) (x y : Operand) (ho : op.op = .store ty x y)
    (b i : Nat) (k : IntKind) (N : Nat) (f : Nat → Int) (v : Int) (hx : a.eval x = .pointer (some ⟨b, i, none⟩)) (hy : a.eval y = .int k v)
    (h : IRow w b k N f) (hiN : i < N) (hi : (Try.prog.info? ty).map (·.size) = some 1)
    (hK : ∀ W2, IRow W2 b k N (upd f i v) → But b w W2 → W2.heap.size = w.heap.size → wpList Try.prog ops Q rest (a.put op.dst undef) W2) : wpList Try.prog ops Q (op :: rest) a w := by
  refine wpList_plain hgd fun K hK' => ?_
  have st := run_storeCells_cells (P := Try.prog) b i [.int k v] 0 w (fun j hj => by (have hj' : j < 1 := hj); (have e : i + 0 + j = i := by omega); rw [e, h.1 i hiN]; rfl) (fun j hj => h.2.1 _) (fun u hu => by simp only [List.mem_cons, List.not_mem_nil, or_false] at hu; subst hu; rfl)
  unfold Oper.wp execOp
  cases hq : Try.prog.info? ty with
  | none => simp [hq] at hi
  | some i0 =>
    have hs : i0.size = 1 := by simpa [hq] using hi
    simp only [Nat.add_zero] at st
    simp only [ho, hx, hy, Instr.storeAt, Instr.sureAddr, Sem.run_bind, Sem.run_pure, Result.andThen_ok]
    simp [storeVar, sizeOf, typeInfo, hq, hs, st, Value.cells, Result.andThen]
    exact hK' _ _ (hK _ (h.set i v) (But.set _ _ _) (size_cells b [.int k v] i w))
theorem five_upd (j : Nat) (hj : j < 1024) : 0 ≤ upd five.img 900 1 j ∧ upd five.img 900 1 j < 256 := by
  unfold upd
  by_cases q : j = 900
  · rw [if_pos q]; omega
  · rw [if_neg q]; exact five.img_byte five_byt j hj
/-- The chapter's blocks that may not be. -/
def badK : Blk := ⟨fun i => if i = 0 then 0 else if i = 1 then 5 else 7, 1, five.h, 2, five.F⟩
def badP : Blk := ⟨fun i => if i = 0 then 1 else if i = 1 then 0 else 7, 1, five.h, 2, five.F⟩
def badB : Blk := ⟨five.x, 1, five.h, 861, fun _ => 0⟩
def badR : Blk := ⟨five.x, 17, fun _ => 0, 2, five.F⟩
theorem badK_not : ¬ badK.May := by decide
theorem badP_not : ¬ badP.May := by decide
theorem badB_not : ¬ badB.May := by decide
theorem badR_not : ¬ badR.May := by decide
/-- What stays at the end of BlockKnown: four blocks from p on, and the refs of three of them. -/
structure KnS (w : World) (p u1 u2 u3 : Nat) (c1 c2 c3 c4 : List Value) (W : World) : Prop where
  r1 : Rec19 W p 0 c1
  r2 : Rec19 W (p + 1) 0 c2
  r3 : Rec19 W (p + 2) 0 c3
  r4 : Rec19 W (p + 3) 0 c4
  h1 : HArg W (some ⟨u1, 0, none⟩) 1 five.h
  h2 : HArg W (some ⟨u2, 0, none⟩) 1 five.h
  h3 : HArg W (some ⟨u3, 0, none⟩) 1 five.h
  l1 : u1 < p
  l2 : u2 < p
  l3 : u3 < p
  wp : w.heap.size ≤ p
  bel : Below w.heap.size w W
theorem KnS.below {w : World} {p u1 u2 u3 : Nat} {c1 c2 c3 c4 : List Value} {W W' : World} (h : KnS w p u1 u2 u3 c1 c2 c3 c4 W) (hB : Below W.heap.size W W') : KnS w p u1 u2 u3 c1 c2 c3 c4 W' :=
  ⟨h.r1.below hB, h.r2.below hB, h.r3.below hB, h.r4.below hB, h.h1.below hB, h.h2.below hB, h.h3.below hB, h.l1, h.l2, h.l3, h.wp, below_sh (Nat.le_refl _) h.bel hB⟩
theorem lt_ne {u p c : Nat} (h : u < p) (hc : p ≤ c) : ∀ r : Addr, some (⟨u, 0, none⟩ : Addr) = some r → r.block ≠ c := fun r e => by
  injection e with e; subst e; show u ≠ c; omega
theorem KnS.put1 {w : World} {p u1 u2 u3 : Nat} {c1 c2 c3 c4 d : List Value} {W W' : World} (h : KnS w p u1 u2 u3 c1 c2 c3 c4 W) (hR : Rec19 W' p 0 d) (hB : But p W W') : KnS w p u1 u2 u3 d c2 c3 c4 W' :=
  ⟨hR, h.r2.but hB (by omega), h.r3.but hB (by omega), h.r4.but hB (by omega), h.h1.but hB (lt_ne h.l1 (by omega)), h.h2.but hB (lt_ne h.l2 (by omega)), h.h3.but hB (lt_ne h.l3 (by omega)), h.l1, h.l2, h.l3, h.wp, h.bel.trans (hB.below (by have := h.wp; omega) h.bel.size)⟩
theorem KnS.put2 {w : World} {p u1 u2 u3 : Nat} {c1 c2 c3 c4 d : List Value} {W W' : World} (h : KnS w p u1 u2 u3 c1 c2 c3 c4 W) (hR : Rec19 W' (p + 1) 0 d) (hB : But (p + 1) W W') : KnS w p u1 u2 u3 c1 d c3 c4 W' :=
  ⟨h.r1.but hB (by omega), hR, h.r3.but hB (by omega), h.r4.but hB (by omega), h.h1.but hB (lt_ne h.l1 (by omega)), h.h2.but hB (lt_ne h.l2 (by omega)), h.h3.but hB (lt_ne h.l3 (by omega)), h.l1, h.l2, h.l3, h.wp, h.bel.trans (hB.below (by have := h.wp; omega) h.bel.size)⟩
theorem KnS.put3 {w : World} {p u1 u2 u3 : Nat} {c1 c2 c3 c4 d : List Value} {W W' : World} (h : KnS w p u1 u2 u3 c1 c2 c3 c4 W) (hR : Rec19 W' (p + 2) 0 d) (hB : But (p + 2) W W') : KnS w p u1 u2 u3 c1 c2 d c4 W' :=
  ⟨h.r1.but hB (by omega), h.r2.but hB (by omega), hR, h.r4.but hB (by omega), h.h1.but hB (lt_ne h.l1 (by omega)), h.h2.but hB (lt_ne h.l2 (by omega)), h.h3.but hB (lt_ne h.l3 (by omega)), h.l1, h.l2, h.l3, h.wp, h.bel.trans (hB.below (by have := h.wp; omega) h.bel.size)⟩
theorem KnS.put4 {w : World} {p u1 u2 u3 : Nat} {c1 c2 c3 c4 d : List Value} {W W' : World} (h : KnS w p u1 u2 u3 c1 c2 c3 c4 W) (hR : Rec19 W' (p + 3) 0 d) (hB : But (p + 3) W W') : KnS w p u1 u2 u3 c1 c2 c3 d W' :=
  ⟨h.r1.but hB (by omega), h.r2.but hB (by omega), h.r3.but hB (by omega), hR, h.h1.but hB (lt_ne h.l1 (by omega)), h.h2.but hB (lt_ne h.l2 (by omega)), h.h3.but hB (lt_ne h.l3 (by omega)), h.l1, h.l2, h.l3, h.wp, h.bel.trans (hB.below (by have := h.wp; omega) h.bel.size)⟩
theorem BlkAt.ref1 {W : World} {x1 x2 : Nat} (h : BlkAt W five (some ⟨x1, 0, none⟩) 1 (some ⟨x2, 0, none⟩) 2) : HArg W (some ⟨x1, 0, none⟩) 1 five.h ∧ x1 < W.heap.size := by
  have q := h.refs
  refine ⟨q, ?_⟩
  rcases q with e | ⟨b, off, e, _, hb⟩
  · exact absurd e (by decide)
  · injection e with e; injection e with e _; subst e; exact hb
/-- The cells of the chapter's block. -/
def fC (x1 x2 : Nat) : List Value := blkC five (some ⟨x1, 0, none⟩) 1 (some ⟨x2, 0, none⟩) 2
set_option maxRecDepth 100000 in
set_option maxHeartbeats 2000000 in
theorem known_ok (w : World) : Calls Try.prog 5 #[] w fun e w' => e = .returned (.bool true) ∧ Below w.heap.size w w' := by
  have T0 : Hid True := trivial
  have D1 : Hid True := trivial
  have D2 : Hid True := trivial
  have F1 : Hid True := trivial
  have F2 : Hid True := trivial
  have F3 : Hid True := trivial
  have F4 : Hid True := trivial
  go_enter Try.func5, Try.ntmps5
  go_wp2_with (first
    | (go_at_call 22; have _q := T0; clear T0; refine (five_any _).mono ?_; rintro e w1 ⟨y1, y2, rfl, hA1, hB1⟩; unfold blkV; have A1 := hidIt hA1; have B1 := hidIt hB1; clear hA1 hB1)
    | (go_at_call 10; refine (bytes_ok five (some ⟨y1, 0, none⟩) (some ⟨y2, 0, none⟩) 1 2 _ A1.out five_may).mono ?_; rintro e w2 ⟨g, rfl, hg, hR2, hB2⟩; have R2 := hidIt hR2; have HG : Hid (w.heap.size ≤ g) := Nat.le_trans B1.out.size hg; have B2 := hidIt (below_sh (Nat.le_refl _) B1.out hB2); clear hR2 hB2 hg A1 B1)
    | (go_at_call 18; refine (awake_ok _).mono ?_; rintro e w3 ⟨rfl, hB3⟩; have R3 := hidIt (R2.out.below hB3); have B3 := hidIt (below_sh (Nat.le_refl _) B2.out hB3); clear hB3 R2 B2)
    | (go_at_call 19; have _q := D1; clear D1; refine (read_len (some ⟨g, 0, none⟩) 1023 1024 _ (by decide)).mono ?_; rintro e w4 ⟨rfl, hB4⟩; unfold blkV; have R4 := hidIt (R3.out.below hB4); have B4 := hidIt (below_sh (Nat.le_refl _) B3.out hB4); clear hB4 R3 B3)
    | (refine wpList_alloc_rec rfl 27 rfl (blkC blk0 none 0 none 0) w4.heap.size rfl zero_blk ?_; intro W5 R5 B5 z5)
    | (refine wpList_store_rec rfl 27 (.tmp 3) (.tmp 26) rfl w4.heap.size 0 _ (blkC blk0 none 0 none 0) rfl rfl R5 rfl (by kernel_rfl) (blkC_one _ _ _ _ _) ?_; intro W6 R6 B6
       have BX : Below w4.heap.size w4 W6 := B5.trans (B6.below (Nat.le_refl _) B5.size)
       have Q6 := hidIt (R4.out.below BX)
       have E6 := hidIt (below_sh (Nat.le_refl _) B4.out BX)
       have c900 := Q6.out.1 900 (by omega)
       rw [five_img 900 (by omega) (by omega), show fnA (900 - 16) = 0 from rfl] at c900
       clear R5 B5 z5 R6 B6 BX R4 B4)
    | (refine wpList_set_row rfl 5 (.tmp 33) (.tmp 32) rfl g 900 .u8 1024 five.img 1 rfl (by first | rfl | kernel_rfl) Q6.out (by omega) (by kernel_rfl) ?_; intro W7 R7 B7 z7
       have Q7 := hidIt R7
       have E7 := hidIt (E6.out.trans (B7.below HG.out E6.out.size))
       clear R7 B7 z7 Q6 E6 c900)
    | (go_at_call 19; have _q := D2; have _p := Q7.out; clear D2; refine (read_seal g 0 1024 (upd five.img 900 1) _ (Q7.out.lies five_upd) (Nat.le_refl _) (five_turned _ (fun j _ => rfl))).mono ?_; rintro e w8 ⟨rfl, hB8⟩; unfold blkV; have E8 := hidIt (below_sh (Nat.le_refl _) E7.out hB8); clear hB8 Q7 E7)
    | (refine wpList_alloc_rec rfl 27 rfl (blkC blk0 none 0 none 0) w8.heap.size rfl zero_blk ?_; intro W9 R9 B9 z9)
    | (refine wpList_store_rec rfl 27 (.tmp 5) (.tmp 37) rfl w8.heap.size 0 _ (blkC blk0 none 0 none 0) rfl rfl R9 rfl (by kernel_rfl) (blkC_one _ _ _ _ _) ?_; intro W10 R10 B10
       have BX : Below w8.heap.size w8 W10 := B9.trans (B10.below (Nat.le_refl _) B9.size)
       have E10 := hidIt (below_sh (Nat.le_refl _) E8.out BX)
       clear R9 B9 z9 R10 B10 BX E8)
    | (go_at_call 22; have _q := F1; have _p := E10.out; clear F1; refine (five_any _).mono ?_; rintro e w11 ⟨a1, b1, rfl, hA, hB⟩; unfold blkV; have H1 := hidIt hA.ref1; have E11 := hidIt (below_sh (Nat.le_refl _) E10.out hB); clear hA hB E10)
    | (go_at_call 22; have _q := F2; have _p := E11.out; clear F2; refine (five_any _).mono ?_; rintro e w12 ⟨a2, b2, rfl, hA, hB⟩; unfold blkV; have H12 : Hid (HArg w12 (some ⟨a1, 0, none⟩) 1 five.h ∧ a1 < w12.heap.size) := ⟨H1.out.1.below hB, Nat.lt_of_lt_of_le H1.out.2 hB.size⟩; have H2 := hidIt hA.ref1; have E12 := hidIt (below_sh (Nat.le_refl _) E11.out hB); clear hA hB E11 H1)
    | (go_at_call 22; have _q := F3; have _p := E12.out; clear F3; refine (five_any _).mono ?_; rintro e w13 ⟨a3, b3, rfl, hA, hB⟩; unfold blkV; have H13 : Hid (HArg w13 (some ⟨a1, 0, none⟩) 1 five.h ∧ a1 < w13.heap.size) := ⟨H12.out.1.below hB, Nat.lt_of_lt_of_le H12.out.2 hB.size⟩; have H23 : Hid (HArg w13 (some ⟨a2, 0, none⟩) 1 five.h ∧ a2 < w13.heap.size) := ⟨H2.out.1.below hB, Nat.lt_of_lt_of_le H2.out.2 hB.size⟩; have H3 := hidIt hA.ref1; have E13 := hidIt (below_sh (Nat.le_refl _) E12.out hB); clear hA hB E12 H12 H2)
    | (go_at_call 22; have _q := F4; have _p := E13.out; clear F4; refine (five_any _).mono ?_; rintro e w14 ⟨a4, b4, rfl, hA, hB⟩; unfold blkV; have H14 : Hid (HArg w14 (some ⟨a1, 0, none⟩) 1 five.h ∧ a1 < w14.heap.size) := ⟨H13.out.1.below hB, Nat.lt_of_lt_of_le H13.out.2 hB.size⟩; have H24 : Hid (HArg w14 (some ⟨a2, 0, none⟩) 1 five.h ∧ a2 < w14.heap.size) := ⟨H23.out.1.below hB, Nat.lt_of_lt_of_le H23.out.2 hB.size⟩; have H34 : Hid (HArg w14 (some ⟨a3, 0, none⟩) 1 five.h ∧ a3 < w14.heap.size) := ⟨H3.out.1.below hB, Nat.lt_of_lt_of_le H3.out.2 hB.size⟩; have E14 := hidIt (below_sh (Nat.le_refl _) E13.out hB); clear hA hB E13 H13 H23 H3)
    | (refine wpList_alloc_rec rfl 27 rfl (blkC blk0 none 0 none 0) w14.heap.size rfl zero_blk ?_; intro V1 S1 C1 x1)
    | (refine wpList_alloc_rec rfl 27 rfl (blkC blk0 none 0 none 0) (w14.heap.size + 1) x1 zero_blk ?_; intro V2 S2 C2 x2)
    | (refine wpList_alloc_rec rfl 27 rfl (blkC blk0 none 0 none 0) (w14.heap.size + 2) x2 zero_blk ?_; intro V3 S3 C3 x3)
    | (refine wpList_alloc_rec rfl 27 rfl (blkC blk0 none 0 none 0) (w14.heap.size + 3) x3 zero_blk ?_; intro V4 S4 C4 x4
       have q23 : Below V2.heap.size V2 V3 := C3.mono (by omega)
       have q34 : Below V3.heap.size V3 V4 := C4.mono (by omega)
       have q24 : Below V2.heap.size V2 V4 := q23.trans (q34.mono (by omega))
       have q14 : Below V1.heap.size V1 V4 := (C2.mono (by omega)).trans (q24.mono (by omega))
       have q04 : Below w14.heap.size w14 V4 := C1.trans (q14.mono (by omega))
       have K0 : Hid (KnS w w14.heap.size a1 a2 a3 (blkC blk0 none 0 none 0) (blkC blk0 none 0 none 0) (blkC blk0 none 0 none 0) (blkC blk0 none 0 none 0) V4) := ⟨S1.below q14, S2.below q24, S3.below q34, S4, H14.out.1.below q04, H24.out.1.below q04, H34.out.1.below q04, H14.out.2, H24.out.2, H34.out.2, E14.out.size, below_sh (Nat.le_refl _) E14.out q04⟩
       clear q23 q34 q24 q14 q04 S1 S2 S3 S4 C1 C2 C3 C4 x1 x2 x3 x4 H14 H24 H34 E14)
    | (refine wpList_store_rec rfl 27 (.tmp 7) (.tmp 39) rfl w14.heap.size 0 _ (fC a1 b1) rfl rfl K0.out.r1 rfl (by kernel_rfl) (blkC_one _ _ _ _ _) ?_; intro V5 S5 C5; have K1 := hidIt (K0.out.put1 S5 C5); clear S5 C5 K0)
    | (refine wpList_store_rec rfl 27 (.tmp 8) (.tmp 40) rfl (w14.heap.size + 1) 0 _ (fC a2 b2) rfl rfl K1.out.r2 rfl (by kernel_rfl) (blkC_one _ _ _ _ _) ?_; intro V6 S6 C6; have K2 := hidIt (K1.out.put2 S6 C6); clear S6 C6 K1)
    | (refine wpList_store_rec rfl 27 (.tmp 9) (.tmp 41) rfl (w14.heap.size + 2) 0 _ (fC a3 b3) rfl rfl K2.out.r3 rfl (by kernel_rfl) (blkC_one _ _ _ _ _) ?_; intro V7 S7 C7; have K3 := hidIt (K2.out.put3 S7 C7); clear S7 C7 K2)
    | (refine wpList_store_rec rfl 27 (.tmp 10) (.tmp 42) rfl (w14.heap.size + 3) 0 _ (fC a4 b4) rfl rfl K3.out.r4 rfl (by kernel_rfl) (blkC_one _ _ _ _ _) ?_; intro V8 S8 C8; have K4 := hidIt (K3.out.put4 S8 C8); clear S8 C8 K3)
    | (refine wpList_put_rec rfl 3 (.tmp 43) (.const (.int .i64 0)) rfl w14.heap.size 0 (fC a1 b1) [.int .i64 0] (blkC badK (some ⟨a1, 0, none⟩) 1 (some ⟨b1, 0, none⟩) 2) (.int .i64 0) rfl rfl rfl K4.out.r1 (by show 0 + 1 ≤ 5; omega) rfl (by kernel_rfl) (int_one 0) ?_; intro V9 S9 C9 x9; have K5 := hidIt (K4.out.put1 S9 C9); clear S9 C9 x9 K4)
    | (refine wpList_put_rec rfl 3 (.tmp 45) (.const (.int .i64 0)) rfl (w14.heap.size + 1) 1 (fC a2 b2) [.int .i64 0] (blkC badP (some ⟨a2, 0, none⟩) 1 (some ⟨b2, 0, none⟩) 2) (.int .i64 0) rfl rfl rfl K5.out.r2 (by show 1 + 1 ≤ 5; omega) rfl (by kernel_rfl) (int_one 0) ?_; intro V10 S10 C10 x10; have K6 := hidIt (K5.out.put2 S10 C10); clear S10 C10 x10 K5)
    | (refine wpList_make rfl (.const (.int .i64 861)) (.const (.int .i64 861)) rfl 861 V10.heap.size rfl _ rfl rfl rfl (by omega) ?_; intro V11 S11 C11 x11; have K7 := hidIt (K6.out.below C11); clear S11 C11 x11 K6)
    | (refine wpList_put_rec rfl 25 (.tmp 47) (.tmp 46) rfl (w14.heap.size + 2) 4 (fC a3 b3) [.slice (some ⟨V10.heap.size, 0, none⟩) 861 861] (blkC badB (some ⟨a3, 0, none⟩) 1 (some ⟨V10.heap.size, 0, none⟩) 861) _ rfl rfl rfl K7.out.r3 (by show 4 + 1 ≤ 5; omega) rfl (by kernel_rfl) (slice_one _ _ _) ?_; intro V12 S12 C12 x12; have K8 := hidIt (K7.out.put3 S12 C12); clear S12 C12 x12 K7)
    | (refine wpList_make_refs rfl (.const (.int .i64 17)) (.const (.int .i64 17)) rfl 17 V12.heap.size rfl rfl rfl (by omega) ?_; intro V13 S13 C13 x13; have K9 := hidIt (K8.out.below C13); have M9 := hidIt S13; have Z9 : Hid (w14.heap.size + 3 < V12.heap.size) := K8.out.r4.2.2; clear S13 C13 x13 K8)
    | (refine wpList_put_rec rfl 24 (.tmp 49) (.tmp 48) rfl (w14.heap.size + 3) 3 (fC a4 b4) [.slice (some ⟨V12.heap.size, 0, none⟩) 17 17] (blkC badR (some ⟨V12.heap.size, 0, none⟩) 17 (some ⟨b4, 0, none⟩) 2) _ rfl rfl rfl K9.out.r4 (by show 3 + 1 ≤ 5; omega) rfl (by kernel_rfl) (slice_one _ _ _) ?_; intro V14 S14 C14 x14; have K10 := hidIt (K9.out.put4 S14 C14); have M10 := hidIt (M9.out.but C14 (by have := Z9.out; omega)); clear S14 C14 x14 K9 M9)
    | (refine wpList_load_g (by rfl) 27 (.tmp 7) rfl w14.heap.size 0 (blkC badK (some ⟨a1, 0, none⟩) 1 (some ⟨b1, 0, none⟩) 2) rfl _ Try.underlying27 rfl (by kernel_rfl) K10.out.r1.1 ?_)
    | (go_at_call 13; have _q := K10.out; (refine (check_any badK (some ⟨a1, 0, none⟩) (some ⟨b1, 0, none⟩) 1 2 _ K10.out.h1).mono ?_; rintro e v0 ⟨rfl, hB⟩; rw [show chkE badK = 2 from if_neg badK_not]; have K11 := hidIt (K10.out.below hB); have M20 := hidIt (M10.out.below hB); clear hB K10))
    | (refine wpList_load_g (by rfl) 27 (.tmp 8) rfl (w14.heap.size + 1) 0 (blkC badP (some ⟨a2, 0, none⟩) 1 (some ⟨b2, 0, none⟩) 2) rfl _ Try.underlying27 rfl (by kernel_rfl) K11.out.r2.1 ?_)
    | (go_at_call 13; have _q := K11.out; (refine (check_any badP (some ⟨a2, 0, none⟩) (some ⟨b2, 0, none⟩) 1 2 _ K11.out.h2).mono ?_; rintro e v1 ⟨rfl, hB⟩; rw [show chkE badP = 2 from if_neg badP_not]; have K12 := hidIt (K11.out.below hB); have M21 := hidIt (M20.out.below hB); clear hB K11))
    | (refine wpList_load_g (by rfl) 27 (.tmp 9) rfl (w14.heap.size + 2) 0 (blkC badB (some ⟨a3, 0, none⟩) 1 (some ⟨V10.heap.size, 0, none⟩) 861) rfl _ Try.underlying27 rfl (by kernel_rfl) K12.out.r3.1 ?_)
    | (go_at_call 13; have _q := K12.out; (refine (check_any badB (some ⟨a3, 0, none⟩) (some ⟨V10.heap.size, 0, none⟩) 1 861 _ K12.out.h3).mono ?_; rintro e v2 ⟨rfl, hB⟩; rw [show chkE badB = 2 from if_neg badB_not]; have K13 := hidIt (K12.out.below hB); have M10' := hidIt (M21.out.below hB); clear hB K12))
    | (refine wpList_load_g (by rfl) 27 (.tmp 10) rfl (w14.heap.size + 3) 0 (blkC badR (some ⟨V12.heap.size, 0, none⟩) 17 (some ⟨b4, 0, none⟩) 2) rfl _ Try.underlying27 rfl (by kernel_rfl) K13.out.r4.1 ?_)
    | (go_at_call 13; have _q := K13.out; (refine (check_any badR (some ⟨V12.heap.size, 0, none⟩) (some ⟨b4, 0, none⟩) 17 2 _ (.inr ⟨_, 0, rfl, fun j hj => by have := M10'.out.1 j _ (cl_at .i64 34 _ j (show j < 34 from hj)); rw [Nat.zero_add] at this; rw [Nat.zero_add]; exact this, M10'.out.2.2⟩)).mono ?_; rintro e v3 ⟨rfl, hB⟩; rw [show chkE badR = 2 from if_neg badR_not]; have K14 := hidIt (K13.out.below hB); clear hB K13)))
  go_ret
  exact ⟨rfl, K14.out.bel⟩
end Go.Proofs.Ytmlllglgjpmicaa
