/-
  Walks, not a claim by itself: block's takeBlock. By the verifier.
-/
import Derived.Test.YtblphlcnbnklmaaGreatDoorGTk3
import Derived.Test.YtblphlcnbnklmaaGreatDoorGSl
namespace Go.Proofs.YtblphlcnbnklmaaGreatDoor
open Go.RowKit
theorem run_clip (T e : TypeId) (ht : Tryz.prog.underlying T = some (.slice e)) (hs : (Tryz.prog.info? e).map (·.size) = some 2) (b o len cap k : Nat) (hk : k ≤ cap) (w : World) :
    (Instr.slice T (.slice (some ⟨b, o, none⟩) len cap) none (some (.int .i64 (k : Int))) (some (.int .i64 (k : Int)))).run Tryz.prog w = .ok (.slice (some ⟨b, o, none⟩) k k) w := by
  cases hq : Tryz.prog.info? e with
  | none => simp [hq] at hs
  | some i =>
    have hz : i.size = 2 := by simpa [hq] using hs
    simp [Instr.slice, Instr.sliceBounds, run_underlying ht, Instr.sliceBound, asIntOf, hk, sizeOf, typeInfo, hq]
    try (intro _; rfl)
theorem wpList_clip {ops : Array Oper} {rest : List Oper} {op : Oper} {a : Act} {w : World} {Q : Exit → Act → World → Prop} (hw : Region.wanted op (yielded ops a.tmps) = true) (T e : TypeId) (x y y' : Operand) (ho : op.op = .slice T x none (some y) (some y'))
    (ht : Tryz.prog.underlying T = some (.slice e)) (he : Tryz.prog.underlying T = some (.slice (Tryz.prog.elem T))) (hs : (Tryz.prog.info? e).map (·.size) = some 2) (b o len cap k : Nat) (hx : a.eval x = .slice (some ⟨b, o, none⟩) len cap) (hy : a.eval y = .int .i64 (k : Int)) (hy' : a.eval y' = .int .i64 (k : Int)) (hk : k ≤ cap)
    (hK : wpList Tryz.prog ops Q rest (a.put op.dst (.slice (some ⟨b, o, none⟩) k k)) w) : wpList Tryz.prog ops Q (op :: rest) a w := by
  refine wpList_step fun K hK' => ?_
  rw [if_pos hw]
  unfold Oper.wp execOp
  simp only [ho, hx, Option.map_some, Option.map_none, hy, hy', Sem.run_bind, run_sliceAt_slice _ _ _ _ _ _ he, run_clip T e ht hs b o len cap k hk, Result.andThen_ok]
  exact hK' _ _ hK
/-- While a block is taken: the answer's place, and the block's so far. -/
structure TbAt (w : World) (cs : List Value) (u : World) : Prop where
  out : Rec19 u w.heap.size 0 (blkC blk0 none 0 none 0)
  b : Rec19 u (w.heap.size + 1) 0 cs
  bel : Below w.heap.size w u
theorem TbAt.below {w u v : World} {cs : List Value} (h : TbAt w cs u) (hB : Below u.heap.size u v) : TbAt w cs v := ⟨h.out.below hB, h.b.below hB, below_sh (Nat.le_refl _) h.bel hB⟩
theorem TbAt.put {w u v : World} {cs cs' : List Value} (h : TbAt w cs u) (hR : Rec19 v (w.heap.size + 1) 0 cs') (hB : But (w.heap.size + 1) u v) : TbAt w cs' v := ⟨h.out.but hB (by omega), hR, h.bel.trans (hB.below (by omega) h.bel.size)⟩
theorem TbAt.but {w u v : World} {cs : List Value} {c : Nat} (h : TbAt w cs u) (hB : But c u v) (hc : w.heap.size + 1 < c) : TbAt w cs v := ⟨h.out.but hB (by omega), h.b.but hB (by omega), h.bel.trans (hB.below (by omega) h.bel.size)⟩
/-- The cells of a block of which three numbers are known. -/
def pc (x0 x1 x2 : Int) : List Value := [.int .i64 x0, .int .i64 x1, .int .i64 x2, .slice none 0 0, .slice none 0 0]
theorem slice_one (a : Option Addr) (n C : Nat) : ∀ v ∈ [Value.slice a n C], v.oneCell' = true := by
  intro v hv
  simp only [List.mem_cons, List.not_mem_nil, or_false] at hv
  subst hv
  rfl
theorem lies_part {w : World} {r q n : Nat} {F : Nat → Int} (h : Lies w r q n F) (i k : Nat) (hk : i + k ≤ n) : Lies w r (q + i) k (fun j => F (i + j)) := h.part i k hk
/-- A number is taken of what stands behind a seal. -/
theorem tk_num (w W : World) (r q c i : Nat) (F : Nat → Int) (h : Lies w r q 1008 F) (hB : Below w.heap.size w W) (hc : 1008 ≤ c) (hi : i < 37) :
    Calls Tryz.prog 157 #[.slice (some ⟨r, q + 4 * i, none⟩) (1008 - 4 * i) (c - 4 * i)] W fun e w' => e = .returned (.tuple #[.int .i64 (rdN F i), .slice (some ⟨r, q + 4 * (i + 1), none⟩) (1008 - 4 * (i + 1)) (c - 4 * (i + 1))]) ∧ Below W.heap.size W w' := by
  have := take_any W r (q + 4 * i) (1008 - 4 * i) (c - 4 * i) (fun j => F (4 * i + j)) ((h.below hB).part (4 * i) 4 (by omega)) (by omega) (by omega)
  rwa [show q + 4 * i + 4 = q + 4 * (i + 1) by omega, show 1008 - 4 * i - 4 = 1008 - 4 * (i + 1) by omega, show c - 4 * i - 4 = c - 4 * (i + 1) by omega] at this
theorem tk_ref (w W : World) (r q c : Nat) (F : Nat → Int) (h : Lies w r q 1008 F) (hB : Below w.heap.size w W) (hc : 1008 ≤ c) :
    Calls Tryz.prog 158 #[.slice (some ⟨r, q + 4, none⟩) 1004 (c - 4)] W fun e w' => e = .returned (.tuple #[.agg (twoC (rdN F 1) (rdN F 2)).toArray, .slice (some ⟨r, q + 12, none⟩) 996 (c - 12)]) ∧ Below W.heap.size W w' := by
  have := takeref_any W r (q + 4) 1004 (c - 4) (fun j => F (4 + j)) ((h.below hB).part 4 8 (by omega)) (by omega) (by omega)
  rwa [show rdN (fun j => F (4 + j)) 0 = rdN F 1 from rfl, show rdN (fun j => F (4 + j)) 1 = rdN F 2 from ps_congr _ _ 4 fun j _ => by show F (4 + (4 * 1 + j)) = F (4 * 2 + j); congr 1; omega, show q + 4 + 8 = q + 12 by omega, show c - 4 - 8 = c - 12 by omega] at this
theorem tk_refs (w W : World) (r q c : Nat) (F : Nat → Int) (h : Lies w r q 1008 F) (hB : Below w.heap.size w W) (hc : 1008 ≤ c) :
    Calls Tryz.prog 159 #[.slice (some ⟨r, q + 20, none⟩) 988 (c - 20)] W fun e w' => e = .returned (.tuple #[.slice (some ⟨W.heap.size, 0, none⟩) 16 16, .slice (some ⟨r, q + 148, none⟩) 860 (c - 148)]) ∧ Rec19 w' W.heap.size 0 (cl .i64 32 (fun j => rdN F (5 + j))) ∧ Below W.heap.size W w' := by
  have := takerefs_any W r (q + 20) 988 (c - 20) (fun j => F (20 + j)) ((h.below hB).part 20 128 (by omega)) (by omega) (by omega)
  unfold TrsPost at this
  rwa [show q + 20 + 128 = q + 148 by omega, show c - 20 - 128 = c - 148 by omega, cl_congr .i64 32 (rdN fun j => F (20 + j)) (fun j => rdN F (5 + j)) (fun i _ => ps_congr _ _ 4 fun j _ => by show F (20 + (4 * i + j)) = F (4 * (5 + i) + j); congr 1; omega)] at this
/-- What takeBlock answers of bytes that are none of a block. -/
def TbNo (w : World) (e : Ending) (w' : World) : Prop := e = .returned (.tuple #[blkV blk0 none 0 none 0, .bool false]) ∧ Below w.heap.size w w'
/-- What it answers of bytes that are. -/
structure TbGot (w w' : World) (s : Blk) (g1 g2 : Nat) : Prop where
  refs : ∀ j, j < 2 * s.k → w'.cell? ⟨g1, j, none⟩ = some (.int .i64 (s.h j))
  l1 : g1 < w'.heap.size
  row : IRow w' g2 .u8 s.n s.F
  n1 : w.heap.size ≤ g1
  n2 : w.heap.size ≤ g2
  byt : s.Byt
theorem TbGot.at {w w' : World} {s : Blk} {g1 g2 : Nat} (h : TbGot w w' s g1 g2) : BlkAt w' s (some ⟨g1, 0, none⟩) s.k (some ⟨g2, 0, none⟩) s.n :=
  ⟨.inr ⟨g1, 0, rfl, fun j hj => by rw [Nat.zero_add]; exact h.refs j hj, h.l1⟩, Nat.le_refl _, Arg.of (h.row.lies h.byt), Nat.le_refl _⟩
theorem TbGot.below {w w' u : World} {s : Blk} {g1 g2 : Nat} (h : TbGot w w' s g1 g2) (hB : Below w'.heap.size w' u) : TbGot w u s g1 g2 :=
  ⟨fun j hj => (hB.cell (p := ⟨g1, j, none⟩) h.l1).trans (h.refs j hj), Nat.lt_of_lt_of_le h.l1 hB.size, h.row.below hB, h.n1, h.n2, h.byt⟩
def TbOk (w : World) (s : Blk) (e : Ending) (w' : World) : Prop := ∃ g1 g2, e = .returned (.tuple #[blkV s (some ⟨g1, 0, none⟩) s.k (some ⟨g2, 0, none⟩) s.n, .bool true]) ∧ TbGot w w' s g1 g2 ∧ Below w.heap.size w w'
set_option maxRecDepth 100000 in
set_option maxHeartbeats 1000000 in
theorem tb_no1 (w : World) (r q c : Nat) (F : Nat → Int) (h : Lies w r q 1008 F) (hc : 1008 ≤ c) (h3 : 16 < rdN F 3) : Calls Tryz.prog 96 #[.slice (some ⟨r, q, none⟩) 1008 c] w (TbNo w) := by
  have HL := hidIt h
  clear h
  have C0 : Hid (∀ W, Below w.heap.size w W → Calls Tryz.prog 157 #[.slice (some ⟨r, q, none⟩) 1008 c] W fun e w' => e = .returned (.tuple #[.int .i64 (rdN F 0), .slice (some ⟨r, q + 4, none⟩) 1004 (c - 4)]) ∧ Below W.heap.size W w') := fun W hB => tk_num w W r q c 0 F HL.out hB hc (by omega)
  have C3 : Hid (∀ W, Below w.heap.size w W → Calls Tryz.prog 157 #[.slice (some ⟨r, q + 12, none⟩) 996 (c - 12)] W fun e w' => e = .returned (.tuple #[.int .i64 (rdN F 3), .slice (some ⟨r, q + 16, none⟩) 992 (c - 16)]) ∧ Below W.heap.size W w') := fun W hB => by have := tk_num w W r q c 3 F HL.out hB hc (by omega); exact this
  have C4 : Hid (∀ W, Below w.heap.size w W → Calls Tryz.prog 157 #[.slice (some ⟨r, q + 16, none⟩) 992 (c - 16)] W fun e w' => e = .returned (.tuple #[.int .i64 (rdN F 4), .slice (some ⟨r, q + 20, none⟩) 988 (c - 20)]) ∧ Below W.heap.size W w') := fun W hB => by have := tk_num w W r q c 4 F HL.out hB hc (by omega); exact this
  obtain ⟨x0, e0⟩ : ∃ x, rdN F 0 = x := ⟨_, rfl⟩
  obtain ⟨x1, e1⟩ : ∃ x, rdN F 1 = x := ⟨_, rfl⟩
  obtain ⟨x2, e2⟩ : ∃ x, rdN F 2 = x := ⟨_, rfl⟩
  have E012 : Hid (rdN F 0 = x0 ∧ rdN F 1 = x1 ∧ rdN F 2 = x2) := ⟨e0, e1, e2⟩
  have CR : Hid (∀ W, Below w.heap.size w W → Calls Tryz.prog 158 #[.slice (some ⟨r, q + 4, none⟩) 1004 (c - 4)] W fun e w' => e = .returned (.tuple #[.agg (twoC x1 x2).toArray, .slice (some ⟨r, q + 12, none⟩) 996 (c - 12)]) ∧ Below W.heap.size W w') := fun W hB => by have := tk_ref w W r q c F HL.out hB hc; rwa [e1, e2] at this
  rw [e0] at C0
  clear e0 e1 e2
  have K1 : Hid True := trivial
  have K2 : Hid True := trivial
  have K3 : Hid True := trivial
  have T1 : Hid True := trivial
  have T2 : Hid True := trivial
  have i1 : ¬ rdN F 3 < 0 := by omega
  generalize rdN F 3 = x3 at h3 i1 C3
  go_enter Tryz.func96, Tryz.ntmps96
  go_wp2_with (first
    | (have _q := T1; clear T1; refine wpList_alloc_rec rfl 107 rfl (blkC blk0 none 0 none 0) w.heap.size rfl zero_blk ?_; intro W1 R1 B1 z1)
    | (have _q := T2; clear T2; refine wpList_alloc_rec rfl 107 rfl (blkC blk0 none 0 none 0) (w.heap.size + 1) z1 zero_blk ?_; intro W2 R2 B2 z2; have S2 : Hid (TbAt w (pc 0 0 0) W2) := ⟨R1.below (by rw [z1]; exact B2), R2, B1.trans (B2.mono (by omega))⟩; clear R1 B1 z1 R2 B2 z2)
    | (go_at_call 157; have _q := K1; clear K1; refine (C0.out _ S2.out.bel).mono ?_; rintro e w3 ⟨rfl, B3⟩; have S3 := hidIt (S2.out.below B3); clear B3 S2)
    | (refine wpList_put_rec rfl 3 (.tmp 13) (.tmp 11) rfl (w.heap.size + 1) 0 (pc 0 0 0) [.int .i64 x0] (pc x0 0 0) _ rfl rfl rfl S3.out.b (by show 0 + 1 ≤ 5; omega) rfl (by kernel_rfl) (int_one x0) ?_; intro W4 R4 B4 z4; have S4 := hidIt (S3.out.put R4 B4); clear R4 B4 z4 S3)
    | (go_at_call 158; refine (CR.out _ S4.out.bel).mono ?_; rintro e w5 ⟨rfl, B5⟩; have S5 := hidIt (S4.out.below B5); clear B5 S4)
    | (refine wpList_put_rec rfl 57 (.tmp 19) (.tmp 17) rfl (w.heap.size + 1) 1 (pc x0 0 0) (twoC x1 x2) (pc x0 x1 x2) _ rfl rfl rfl S5.out.b (by show 1 + 2 ≤ 5; omega) rfl (by kernel_rfl) (twoC_one _ _) ?_; intro W6 R6 B6 z6; have S6 := hidIt (S5.out.put R6 B6); clear R6 B6 z6 S5)
    | (go_at_call 157; have _q := K2; clear K2; refine (C3.out _ S6.out.bel).mono ?_; rintro e w7 ⟨rfl, B7⟩; have S7 := hidIt (S6.out.below B7); clear B7 S6)
    | (go_at_call 157; have _q := K3; clear K3; refine (C4.out _ S7.out.bel).mono ?_; rintro e w8 ⟨rfl, B8⟩; have S8 := hidIt (S7.out.below B8); clear B8 S7)
    | (refine wpList_build_to rfl 107 _ rfl (blkC blk0 none 0 none 0).toArray (by kernel_rfl) ?_)
    | (refine wpList_store_rec rfl 107 (.tmp 2) (.tmp 44) rfl w.heap.size 0 (blkC blk0 none 0 none 0) (blkC blk0 none 0 none 0) rfl rfl S8.out.out rfl (by kernel_rfl) (blkC_one _ _ _ _ _) ?_; intro W9 R9 B9; have E9 := hidIt (S8.out.bel.trans (B9.below (Nat.le_refl _) S8.out.bel.size)); have R9' := hidIt R9; clear R9 B9))
  have hl := R9'.out.run_load 107 _ Tryz.underlying107 rfl (by kernel_rfl)
  refine bodyPost_ret (v := .tuple #[.agg (blkC blk0 none 0 none 0).toArray, .bool false]) (by simp [results, Tryz.results96, asAddr, hl]) rfl ⟨rfl, E9.out⟩
set_option maxRecDepth 100000 in
set_option maxHeartbeats 1000000 in
theorem tb_no2 (w : World) (r q c : Nat) (F : Nat → Int) (h : Lies w r q 1008 F) (hc : 1008 ≤ c) (h30 : 0 ≤ rdN F 3) (h3 : rdN F 3 ≤ 16) (h4 : 860 < rdN F 4) : Calls Tryz.prog 96 #[.slice (some ⟨r, q, none⟩) 1008 c] w (TbNo w) := by
  have HL := hidIt h
  clear h
  have C0 : Hid (∀ W, Below w.heap.size w W → Calls Tryz.prog 157 #[.slice (some ⟨r, q, none⟩) 1008 c] W fun e w' => e = .returned (.tuple #[.int .i64 (rdN F 0), .slice (some ⟨r, q + 4, none⟩) 1004 (c - 4)]) ∧ Below W.heap.size W w') := fun W hB => tk_num w W r q c 0 F HL.out hB hc (by omega)
  have C3 : Hid (∀ W, Below w.heap.size w W → Calls Tryz.prog 157 #[.slice (some ⟨r, q + 12, none⟩) 996 (c - 12)] W fun e w' => e = .returned (.tuple #[.int .i64 (rdN F 3), .slice (some ⟨r, q + 16, none⟩) 992 (c - 16)]) ∧ Below W.heap.size W w') := fun W hB => by have := tk_num w W r q c 3 F HL.out hB hc (by omega); exact this
  have C4 : Hid (∀ W, Below w.heap.size w W → Calls Tryz.prog 157 #[.slice (some ⟨r, q + 16, none⟩) 992 (c - 16)] W fun e w' => e = .returned (.tuple #[.int .i64 (rdN F 4), .slice (some ⟨r, q + 20, none⟩) 988 (c - 20)]) ∧ Below W.heap.size W w') := fun W hB => by have := tk_num w W r q c 4 F HL.out hB hc (by omega); exact this
  obtain ⟨x0, e0⟩ : ∃ x, rdN F 0 = x := ⟨_, rfl⟩
  obtain ⟨x1, e1⟩ : ∃ x, rdN F 1 = x := ⟨_, rfl⟩
  obtain ⟨x2, e2⟩ : ∃ x, rdN F 2 = x := ⟨_, rfl⟩
  have E012 : Hid (rdN F 0 = x0 ∧ rdN F 1 = x1 ∧ rdN F 2 = x2) := ⟨e0, e1, e2⟩
  have CR : Hid (∀ W, Below w.heap.size w W → Calls Tryz.prog 158 #[.slice (some ⟨r, q + 4, none⟩) 1004 (c - 4)] W fun e w' => e = .returned (.tuple #[.agg (twoC x1 x2).toArray, .slice (some ⟨r, q + 12, none⟩) 996 (c - 12)]) ∧ Below W.heap.size W w') := fun W hB => by have := tk_ref w W r q c F HL.out hB hc; rwa [e1, e2] at this
  rw [e0] at C0
  clear e0 e1 e2
  have K1 : Hid True := trivial
  have K2 : Hid True := trivial
  have K3 : Hid True := trivial
  have T1 : Hid True := trivial
  have T2 : Hid True := trivial
  have i1 : ¬ rdN F 3 < 0 := by omega
  have i2 : ¬ 16 < rdN F 3 := by omega
  have i3 : ¬ rdN F 4 < 0 := by omega
  clear h30 h3
  generalize rdN F 3 = x3 at i1 i2 C3
  generalize rdN F 4 = x4 at i3 h4 C4
  go_enter Tryz.func96, Tryz.ntmps96
  go_wp2_with (first
    | (have _q := T1; clear T1; refine wpList_alloc_rec rfl 107 rfl (blkC blk0 none 0 none 0) w.heap.size rfl zero_blk ?_; intro W1 R1 B1 z1)
    | (have _q := T2; clear T2; refine wpList_alloc_rec rfl 107 rfl (blkC blk0 none 0 none 0) (w.heap.size + 1) z1 zero_blk ?_; intro W2 R2 B2 z2; have S2 : Hid (TbAt w (pc 0 0 0) W2) := ⟨R1.below (by rw [z1]; exact B2), R2, B1.trans (B2.mono (by omega))⟩; clear R1 B1 z1 R2 B2 z2)
    | (go_at_call 157; have _q := K1; clear K1; refine (C0.out _ S2.out.bel).mono ?_; rintro e w3 ⟨rfl, B3⟩; have S3 := hidIt (S2.out.below B3); clear B3 S2)
    | (refine wpList_put_rec rfl 3 (.tmp 13) (.tmp 11) rfl (w.heap.size + 1) 0 (pc 0 0 0) [.int .i64 x0] (pc x0 0 0) _ rfl rfl rfl S3.out.b (by show 0 + 1 ≤ 5; omega) rfl (by kernel_rfl) (int_one x0) ?_; intro W4 R4 B4 z4; have S4 := hidIt (S3.out.put R4 B4); clear R4 B4 z4 S3)
    | (go_at_call 158; refine (CR.out _ S4.out.bel).mono ?_; rintro e w5 ⟨rfl, B5⟩; have S5 := hidIt (S4.out.below B5); clear B5 S4)
    | (refine wpList_put_rec rfl 57 (.tmp 19) (.tmp 17) rfl (w.heap.size + 1) 1 (pc x0 0 0) (twoC x1 x2) (pc x0 x1 x2) _ rfl rfl rfl S5.out.b (by show 1 + 2 ≤ 5; omega) rfl (by kernel_rfl) (twoC_one _ _) ?_; intro W6 R6 B6 z6; have S6 := hidIt (S5.out.put R6 B6); clear R6 B6 z6 S5)
    | (go_at_call 157; have _q := K2; clear K2; refine (C3.out _ S6.out.bel).mono ?_; rintro e w7 ⟨rfl, B7⟩; have S7 := hidIt (S6.out.below B7); clear B7 S6)
    | (go_at_call 157; have _q := K3; clear K3; refine (C4.out _ S7.out.bel).mono ?_; rintro e w8 ⟨rfl, B8⟩; have S8 := hidIt (S7.out.below B8); clear B8 S7)
    | (refine wpList_build_to rfl 107 _ rfl (blkC blk0 none 0 none 0).toArray (by kernel_rfl) ?_)
    | (refine wpList_store_rec rfl 107 (.tmp 2) (.tmp 44) rfl w.heap.size 0 (blkC blk0 none 0 none 0) (blkC blk0 none 0 none 0) rfl rfl S8.out.out rfl (by kernel_rfl) (blkC_one _ _ _ _ _) ?_; intro W9 R9 B9; have E9 := hidIt (S8.out.bel.trans (B9.below (Nat.le_refl _) S8.out.bel.size)); have R9' := hidIt R9; clear R9 B9))
  have hl := R9'.out.run_load 107 _ Tryz.underlying107 rfl (by kernel_rfl)
  refine bodyPost_ret (v := .tuple #[.agg (blkC blk0 none 0 none 0).toArray, .bool false]) (by simp [results, Tryz.results96, asAddr, hl]) rfl ⟨rfl, E9.out⟩
theorem refsZ_iff (F : Nat → Int) (k : Nat) (hk : rdN F 3 = (k : Int)) (hk16 : k ≤ 16) : RefsZ (16 - k) (fun j => rdN F (5 + (2 * k + j))) ↔ NoRefs F := by
  have e : (rdN F 3).toNat = k := by omega
  constructor
  · intro h i hi hki
    rw [e] at hki
    have := h (i - k) (by omega)
    simp only at this
    rw [show 5 + (2 * k + 2 * (i - k)) = 5 + 2 * i by omega, show 5 + (2 * k + (2 * (i - k) + 1)) = 5 + 2 * i + 1 by omega] at this
    exact this
  · intro h i hi
    have := h (k + i) (by omega) (by omega)
    simp only
    rw [show 5 + (2 * k + 2 * i) = 5 + 2 * (k + i) by omega, show 5 + (2 * k + (2 * i + 1)) = 5 + 2 * (k + i) + 1 by omega]
    exact this
theorem allZ_iff (F : Nat → Int) (n : Nat) (hn : rdN F 4 = (n : Int)) (hn860 : n ≤ 860) : AllZ (860 - n) (fun j => F (148 + (n + j))) ↔ NoRest F := by
  have e : (rdN F 4).toNat = n := by omega
  constructor
  · intro h j hj hnj
    rw [e] at hnj
    have := h (j - n) (by omega)
    simp only at this
    rw [show 148 + (n + (j - n)) = 148 + j by omega] at this
    exact this
  · intro h j hj
    exact h (n + j) (by omega) (by omega)
set_option maxRecDepth 100000 in
set_option maxHeartbeats 1000000 in
theorem tb_no3 (w : World) (r q c : Nat) (F : Nat → Int) (h : Lies w r q 1008 F) (hc : 1008 ≤ c) (k n : Nat) (hk : rdN F 3 = (k : Int)) (hn : rdN F 4 = (n : Int)) (hk16 : k ≤ 16) (hn860 : n ≤ 860) (hz : ¬ NoRefs F) : Calls Tryz.prog 96 #[.slice (some ⟨r, q, none⟩) 1008 c] w (TbNo w) := by
  have NZ := hidIt (fun z => hz ((refsZ_iff F k hk hk16).1 z))
  clear hz
  have HL := hidIt h
  clear h
  have C0 : Hid (∀ W, Below w.heap.size w W → Calls Tryz.prog 157 #[.slice (some ⟨r, q, none⟩) 1008 c] W fun e w' => e = .returned (.tuple #[.int .i64 (rdN F 0), .slice (some ⟨r, q + 4, none⟩) 1004 (c - 4)]) ∧ Below W.heap.size W w') := fun W hB => tk_num w W r q c 0 F HL.out hB hc (by omega)
  have C3 : Hid (∀ W, Below w.heap.size w W → Calls Tryz.prog 157 #[.slice (some ⟨r, q + 12, none⟩) 996 (c - 12)] W fun e w' => e = .returned (.tuple #[.int .i64 (k : Int), .slice (some ⟨r, q + 16, none⟩) 992 (c - 16)]) ∧ Below W.heap.size W w') := fun W hB => by have := tk_num w W r q c 3 F HL.out hB hc (by omega); rwa [hk] at this
  have C4 : Hid (∀ W, Below w.heap.size w W → Calls Tryz.prog 157 #[.slice (some ⟨r, q + 16, none⟩) 992 (c - 16)] W fun e w' => e = .returned (.tuple #[.int .i64 (n : Int), .slice (some ⟨r, q + 20, none⟩) 988 (c - 20)]) ∧ Below W.heap.size W w') := fun W hB => by have := tk_num w W r q c 4 F HL.out hB hc (by omega); rwa [hn] at this
  obtain ⟨x0, e0⟩ : ∃ x, rdN F 0 = x := ⟨_, rfl⟩
  obtain ⟨x1, e1⟩ : ∃ x, rdN F 1 = x := ⟨_, rfl⟩
  obtain ⟨x2, e2⟩ : ∃ x, rdN F 2 = x := ⟨_, rfl⟩
  have E012 : Hid (rdN F 0 = x0 ∧ rdN F 1 = x1 ∧ rdN F 2 = x2) := ⟨e0, e1, e2⟩
  have CR : Hid (∀ W, Below w.heap.size w W → Calls Tryz.prog 158 #[.slice (some ⟨r, q + 4, none⟩) 1004 (c - 4)] W fun e w' => e = .returned (.tuple #[.agg (twoC x1 x2).toArray, .slice (some ⟨r, q + 12, none⟩) 996 (c - 12)]) ∧ Below W.heap.size W w') := fun W hB => by have := tk_ref w W r q c F HL.out hB hc; rwa [e1, e2] at this
  rw [e0] at C0
  clear e0 e1 e2
  have K1 : Hid True := trivial
  have K2 : Hid True := trivial
  have K3 : Hid True := trivial
  have T1 : Hid True := trivial
  have T2 : Hid True := trivial
  have i1 : ¬ (k : Int) < 0 := by omega
  have i2 : ¬ (16 : Int) < (k : Int) := by omega
  have i3 : ¬ (n : Int) < 0 := by omega
  have i4 : ¬ (860 : Int) < (n : Int) := by omega
  clear hk hn
  go_enter Tryz.func96, Tryz.ntmps96
  go_wp2_with (first
    | (have _q := T1; clear T1; refine wpList_alloc_rec rfl 107 rfl (blkC blk0 none 0 none 0) w.heap.size rfl zero_blk ?_; intro W1 R1 B1 z1)
    | (have _q := T2; clear T2; refine wpList_alloc_rec rfl 107 rfl (blkC blk0 none 0 none 0) (w.heap.size + 1) z1 zero_blk ?_; intro W2 R2 B2 z2; have S2 : Hid (TbAt w (pc 0 0 0) W2) := ⟨R1.below (by rw [z1]; exact B2), R2, B1.trans (B2.mono (by omega))⟩; clear R1 B1 z1 R2 B2 z2)
    | (go_at_call 157; have _q := K1; clear K1; refine (C0.out _ S2.out.bel).mono ?_; rintro e w3 ⟨rfl, B3⟩; have S3 := hidIt (S2.out.below B3); clear B3 S2)
    | (refine wpList_put_rec rfl 3 (.tmp 13) (.tmp 11) rfl (w.heap.size + 1) 0 (pc 0 0 0) [.int .i64 x0] (pc x0 0 0) _ rfl rfl rfl S3.out.b (by show 0 + 1 ≤ 5; omega) rfl (by kernel_rfl) (int_one x0) ?_; intro W4 R4 B4 z4; have S4 := hidIt (S3.out.put R4 B4); clear R4 B4 z4 S3)
    | (go_at_call 158; refine (CR.out _ S4.out.bel).mono ?_; rintro e w5 ⟨rfl, B5⟩; have S5 := hidIt (S4.out.below B5); clear B5 S4)
    | (refine wpList_put_rec rfl 57 (.tmp 19) (.tmp 17) rfl (w.heap.size + 1) 1 (pc x0 0 0) (twoC x1 x2) (pc x0 x1 x2) _ rfl rfl rfl S5.out.b (by show 1 + 2 ≤ 5; omega) rfl (by kernel_rfl) (twoC_one _ _) ?_; intro W6 R6 B6 z6; have S6 := hidIt (S5.out.put R6 B6); clear R6 B6 z6 S5)
    | (go_at_call 157; have _q := K2; clear K2; refine (C3.out _ S6.out.bel).mono ?_; rintro e w7 ⟨rfl, B7⟩; have S7 := hidIt (S6.out.below B7); clear B7 S6)
    | (go_at_call 157; have _q := K3; clear K3; refine (C4.out _ S7.out.bel).mono ?_; rintro e w8 ⟨rfl, B8⟩; have S8 := hidIt (S7.out.below B8); clear B8 S7)
    | (go_at_call 159; refine (tk_refs w _ r q c F HL.out S8.out.bel hc).mono ?_; rintro e w9 ⟨rfl, RA, B9⟩; have S9 := hidIt (S8.out.below B9); have A9 := hidIt RA; have H9 : Hid (w.heap.size + 1 < w8.heap.size) := S8.out.b.2.2; clear B9 RA)
    | (refine wpList_cut (by rfl) 66 57 (.tmp 50) (.tmp 51) rfl 2 Tryz.underlying66 Tryz.underlying66 size_ref w8.heap.size 0 16 16 k (k : Int) rfl rfl rfl hk16 ?_)
    | (go_at_call 160; refine (norefs_any (some (cutP w8.heap.size 0 k 2 16)) (16 - k) (16 - k) (fun j => rdN F (5 + (2 * k + j))) _ (cut_refs (fun j hj => by have := A9.out.1 j _ (cl_at .i64 32 _ j (by omega)); rwa [Nat.zero_add] at this) A9.out.2.2 (Nat.le_refl _) hk16) (by omega)).mono ?_; rintro e w10 ⟨rfl, B10⟩; rw [decide_eq_false NZ.out]; have S10 := hidIt (S9.out.below B10); have A10 := hidIt (A9.out.below B10); clear B10 S9 A9)
    | (refine wpList_build_to rfl 107 _ rfl (blkC blk0 none 0 none 0).toArray (by kernel_rfl) ?_)
    | (refine wpList_store_rec rfl 107 (.tmp 2) (.tmp 62) rfl w.heap.size 0 (blkC blk0 none 0 none 0) (blkC blk0 none 0 none 0) rfl rfl S10.out.out rfl (by kernel_rfl) (blkC_one _ _ _ _ _) ?_; intro W9 R9 B9; have E9 := hidIt (S10.out.bel.trans (B9.below (Nat.le_refl _) S10.out.bel.size)); have R9' := hidIt R9; clear R9 B9))
  have hl := R9'.out.run_load 107 _ Tryz.underlying107 rfl (by kernel_rfl)
  refine bodyPost_ret (v := .tuple #[.agg (blkC blk0 none 0 none 0).toArray, .bool false]) (by simp [results, Tryz.results96, asAddr, hl]) rfl ⟨rfl, E9.out⟩
set_option maxRecDepth 100000 in
set_option maxHeartbeats 1000000 in
theorem tb_no4 (w : World) (r q c : Nat) (F : Nat → Int) (h : Lies w r q 1008 F) (hc : 1008 ≤ c) (k n : Nat) (hk : rdN F 3 = (k : Int)) (hn : rdN F 4 = (n : Int)) (hk16 : k ≤ 16) (hn860 : n ≤ 860) (hz : NoRefs F) (hr : ¬ NoRest F) : Calls Tryz.prog 96 #[.slice (some ⟨r, q, none⟩) 1008 c] w (TbNo w) := by
  have NZ := hidIt ((refsZ_iff F k hk hk16).2 hz)
  have NR := hidIt (fun z => hr ((allZ_iff F n hn hn860).1 z))
  clear hz hr
  have HL := hidIt h
  clear h
  have C0 : Hid (∀ W, Below w.heap.size w W → Calls Tryz.prog 157 #[.slice (some ⟨r, q, none⟩) 1008 c] W fun e w' => e = .returned (.tuple #[.int .i64 (rdN F 0), .slice (some ⟨r, q + 4, none⟩) 1004 (c - 4)]) ∧ Below W.heap.size W w') := fun W hB => tk_num w W r q c 0 F HL.out hB hc (by omega)
  have C3 : Hid (∀ W, Below w.heap.size w W → Calls Tryz.prog 157 #[.slice (some ⟨r, q + 12, none⟩) 996 (c - 12)] W fun e w' => e = .returned (.tuple #[.int .i64 (k : Int), .slice (some ⟨r, q + 16, none⟩) 992 (c - 16)]) ∧ Below W.heap.size W w') := fun W hB => by have := tk_num w W r q c 3 F HL.out hB hc (by omega); rwa [hk] at this
  have C4 : Hid (∀ W, Below w.heap.size w W → Calls Tryz.prog 157 #[.slice (some ⟨r, q + 16, none⟩) 992 (c - 16)] W fun e w' => e = .returned (.tuple #[.int .i64 (n : Int), .slice (some ⟨r, q + 20, none⟩) 988 (c - 20)]) ∧ Below W.heap.size W w') := fun W hB => by have := tk_num w W r q c 4 F HL.out hB hc (by omega); rwa [hn] at this
  obtain ⟨x0, e0⟩ : ∃ x, rdN F 0 = x := ⟨_, rfl⟩
  obtain ⟨x1, e1⟩ : ∃ x, rdN F 1 = x := ⟨_, rfl⟩
  obtain ⟨x2, e2⟩ : ∃ x, rdN F 2 = x := ⟨_, rfl⟩
  have E012 : Hid (rdN F 0 = x0 ∧ rdN F 1 = x1 ∧ rdN F 2 = x2) := ⟨e0, e1, e2⟩
  have CR : Hid (∀ W, Below w.heap.size w W → Calls Tryz.prog 158 #[.slice (some ⟨r, q + 4, none⟩) 1004 (c - 4)] W fun e w' => e = .returned (.tuple #[.agg (twoC x1 x2).toArray, .slice (some ⟨r, q + 12, none⟩) 996 (c - 12)]) ∧ Below W.heap.size W w') := fun W hB => by have := tk_ref w W r q c F HL.out hB hc; rwa [e1, e2] at this
  rw [e0] at C0
  clear e0 e1 e2
  have K1 : Hid True := trivial
  have K2 : Hid True := trivial
  have K3 : Hid True := trivial
  have T1 : Hid True := trivial
  have T2 : Hid True := trivial
  have i1 : ¬ (k : Int) < 0 := by omega
  have i2 : ¬ (16 : Int) < (k : Int) := by omega
  have i3 : ¬ (n : Int) < 0 := by omega
  have i4 : ¬ (860 : Int) < (n : Int) := by omega
  clear hk hn
  go_enter Tryz.func96, Tryz.ntmps96
  go_wp2_with (first
    | (have _q := T1; clear T1; refine wpList_alloc_rec rfl 107 rfl (blkC blk0 none 0 none 0) w.heap.size rfl zero_blk ?_; intro W1 R1 B1 z1)
    | (have _q := T2; clear T2; refine wpList_alloc_rec rfl 107 rfl (blkC blk0 none 0 none 0) (w.heap.size + 1) z1 zero_blk ?_; intro W2 R2 B2 z2; have S2 : Hid (TbAt w (pc 0 0 0) W2) := ⟨R1.below (by rw [z1]; exact B2), R2, B1.trans (B2.mono (by omega))⟩; clear R1 B1 z1 R2 B2 z2)
    | (go_at_call 157; have _q := K1; clear K1; refine (C0.out _ S2.out.bel).mono ?_; rintro e w3 ⟨rfl, B3⟩; have S3 := hidIt (S2.out.below B3); clear B3 S2)
    | (refine wpList_put_rec rfl 3 (.tmp 13) (.tmp 11) rfl (w.heap.size + 1) 0 (pc 0 0 0) [.int .i64 x0] (pc x0 0 0) _ rfl rfl rfl S3.out.b (by show 0 + 1 ≤ 5; omega) rfl (by kernel_rfl) (int_one x0) ?_; intro W4 R4 B4 z4; have S4 := hidIt (S3.out.put R4 B4); clear R4 B4 z4 S3)
    | (go_at_call 158; refine (CR.out _ S4.out.bel).mono ?_; rintro e w5 ⟨rfl, B5⟩; have S5 := hidIt (S4.out.below B5); clear B5 S4)
    | (refine wpList_put_rec rfl 57 (.tmp 19) (.tmp 17) rfl (w.heap.size + 1) 1 (pc x0 0 0) (twoC x1 x2) (pc x0 x1 x2) _ rfl rfl rfl S5.out.b (by show 1 + 2 ≤ 5; omega) rfl (by kernel_rfl) (twoC_one _ _) ?_; intro W6 R6 B6 z6; have S6 := hidIt (S5.out.put R6 B6); clear R6 B6 z6 S5)
    | (go_at_call 157; have _q := K2; clear K2; refine (C3.out _ S6.out.bel).mono ?_; rintro e w7 ⟨rfl, B7⟩; have S7 := hidIt (S6.out.below B7); clear B7 S6)
    | (go_at_call 157; have _q := K3; clear K3; refine (C4.out _ S7.out.bel).mono ?_; rintro e w8 ⟨rfl, B8⟩; have S8 := hidIt (S7.out.below B8); clear B8 S7)
    | (go_at_call 159; refine (tk_refs w _ r q c F HL.out S8.out.bel hc).mono ?_; rintro e w9 ⟨rfl, RA, B9⟩; have S9 := hidIt (S8.out.below B9); have A9 := hidIt RA; have H9 : Hid (w.heap.size + 1 < w8.heap.size) := S8.out.b.2.2; clear B9 RA)
    | (refine wpList_cut (by rfl) 66 57 (.tmp 50) (.tmp 51) rfl 2 Tryz.underlying66 Tryz.underlying66 size_ref w8.heap.size 0 16 16 k (k : Int) rfl rfl rfl hk16 ?_)
    | (go_at_call 160; refine (norefs_any (some (cutP w8.heap.size 0 k 2 16)) (16 - k) (16 - k) (fun j => rdN F (5 + (2 * k + j))) _ (cut_refs (fun j hj => by have := A9.out.1 j _ (cl_at .i64 32 _ j (by omega)); rwa [Nat.zero_add] at this) A9.out.2.2 (Nat.le_refl _) hk16) (by omega)).mono ?_; rintro e w10 ⟨rfl, B10⟩; rw [decide_eq_true NZ.out]; have S10 := hidIt (S9.out.below B10); have A10 := hidIt (A9.out.below B10); clear B10 S9 A9)
    | (refine wpList_cut (by rfl) 23 5 (.tmp 56) (.tmp 57) rfl 1 Tryz.underlying23 Tryz.underlying23 (by kernel_rfl) r (q + 148) 860 (c - 148) n (n : Int) rfl rfl rfl hn860 ?_)
    | (go_at_call 161; refine (noughts_any (some (cutP r (q + 148) n 1 (c - 148))) (860 - n) (c - 148 - n) (fun j => F (148 + (n + j))) _ (cut_lies (f := fun j => F (148 + j)) (lies_part (HL.out.below S10.out.bel) 148 860 (by omega)) (by omega) hn860) (by omega)).mono ?_; rintro e w11 ⟨rfl, rfl⟩; rw [decide_eq_false NR.out])
    | (refine wpList_build_to rfl 107 _ rfl (blkC blk0 none 0 none 0).toArray (by kernel_rfl) ?_)
    | (refine wpList_store_rec rfl 107 (.tmp 2) (.tmp 62) rfl w.heap.size 0 (blkC blk0 none 0 none 0) (blkC blk0 none 0 none 0) rfl rfl S10.out.out rfl (by kernel_rfl) (blkC_one _ _ _ _ _) ?_; intro W9 R9 B9; have E9 := hidIt (S10.out.bel.trans (B9.below (Nat.le_refl _) S10.out.bel.size)); have R9' := hidIt R9; clear R9 B9))
  have hl := R9'.out.run_load 107 _ Tryz.underlying107 rfl (by kernel_rfl)
  refine bodyPost_ret (v := .tuple #[.agg (blkC blk0 none 0 none 0).toArray, .bool false]) (by simp [results, Tryz.results96, asAddr, hl]) rfl ⟨rfl, E9.out⟩
end Go.Proofs.YtblphlcnbnklmaaGreatDoor
