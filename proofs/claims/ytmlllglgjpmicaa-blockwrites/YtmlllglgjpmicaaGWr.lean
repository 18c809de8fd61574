/-
  Walks, not a claim by itself: BlockWrites. By the verifier.
-/
import Derived.Test.YtmlllglgjpmicaaGCp
import Derived.Test.YtmlllglgjpmicaaGAwk
import Derived.Test.YtmlllglgjpmicaaBLent
import Derived.Test.YtmlllglgjpmicaaNGate
namespace Go.Proofs.Ytmlllglgjpmicaa
open Go.RowKit
theorem harg_or {W W' : World} {a : Option Addr} {k c : Nat} {h : Nat → Int} (hA : HArg W a k h) (hB : But c W W') (hn : ∀ r : Addr, a = some r → k = 0 ∨ r.block ≠ c) : HArg W' a k h := by
  by_cases k0 : k = 0
  · exact .inl k0
  · exact hA.but hB (fun r hr => by rcases hn r hr with q | q; (· exact absurd q k0); (· exact q))
theorem harg_ne {W : World} {a : Option Addr} {k : Nat} {h : Nat → Int} (hA : HArg W a k h) : ∀ r : Addr, a = some r → k = 0 ∨ r.block ≠ W.heap.size := fun r hr => by
  rcases hA with q | ⟨g, o, e, _, hb⟩
  · exact .inl q
  · rw [e] at hr; injection hr with hr; subst hr; exact .inr (Nat.ne_of_lt hb)
theorem lst_low {B B' : Nat} {w : World} {L : Lst} {F : Nat → Int} (h : L.ok B w F) (hB : B' ≤ B) : L.ok B' w F := by
  obtain ⟨h1, h2, h3, h4⟩ := h
  refine ⟨h1, h2, h3, ?_⟩
  rcases h4 with q | ⟨g, e, hg, r⟩
  · exact .inl q
  · exact .inr ⟨g, e, by omega, r⟩
/-- What Bytes answers, be it one that may be or not. -/
def WbP (u : World) (N : Nat) (c : Int) (F : Nat → Int) (e : Ending) (w' : World) : Prop := ∃ ax, e = .returned (.tuple #[.slice ax N N, .int .i64 c]) ∧ Lst.ok u.heap.size w' ⟨ax, N, N⟩ F ∧ (∀ p, ax = some p → u.heap.size ≤ p.block ∧ p.block < w'.heap.size) ∧ Below u.heap.size u w'
def RbP (u : World) (N : Nat) (c : Int) (F : Nat → Int) (e : Ending) (w' : World) : Prop := ∃ ay cap, e = .returned (.tuple #[.slice ay N cap, .int .i64 c]) ∧ Arg w' ay N F ∧ Below u.heap.size u w'
/-- What stays in BlockWrites. -/
structure WrS (w : World) (s : Blk) (a b : Option Addr) (C D T : Nat) (a2 : Option Addr) (C2 g : Nat) (W : World) : Prop where
  box : Rec19 W w.heap.size 0 (blkC s a C b D)
  inn : Rec19 W T 0 (blkC s a2 C2 (some ⟨g, 0, none⟩) (s.n + 3))
  refs : HArg W a2 s.k s.h
  kC : s.k ≤ C2
  row : IRow W g .u8 (s.n + 3) (lentF s.n s.F 3)
  bel : Below w.heap.size w W
theorem WrS.below {w : World} {s : Blk} {a b a2 : Option Addr} {C D T C2 g : Nat} {W W' : World} (h : WrS w s a b C D T a2 C2 g W) (hB : Below W.heap.size W W') : WrS w s a b C D T a2 C2 g W' :=
  ⟨h.box.below hB, h.inn.below hB, h.refs.below hB, h.kC, h.row.below hB, below_sh (Nat.le_refl _) h.bel hB⟩
theorem WrS.at_ {w : World} {s : Blk} {a b a2 : Option Addr} {C D T C2 g : Nat} {W : World} (h : WrS w s a b C D T a2 C2 g W) (hb : s.Byt) : BlkAt W s a2 C2 (some ⟨g, 0, none⟩) (s.n + 3) :=
  ⟨h.refs, h.kC, Arg.of ⟨fun j hj => by rw [Nat.zero_add, h.row.1 j (by omega), lentF_low _ _ _ _ hj], hb, h.row.2.2⟩, by omega⟩
/-- What the drawn region loads. -/
def WrC (w : World) (s : Blk) (a b : Option Addr) (C D T : Nat) (a2 : Option Addr) (C2 g : Nat) (W : World) : Prop := W.cell? ⟨w.heap.size, 3, none⟩ = some (.slice a s.k C) ∧ W.cell? ⟨w.heap.size, 4, none⟩ = some (.slice b s.n D) ∧ W.cell? ⟨T, 3, none⟩ = some (.slice a2 s.k C2) ∧ W.cell? ⟨T, 4, none⟩ = some (.slice (some ⟨g, 0, none⟩) s.n (s.n + 3)) ∧ W.rangeAt w.heap.size 0 (blkC s a C b D) ∧ W.rangeAt T 0 (blkC s a2 C2 (some ⟨g, 0, none⟩) (s.n + 3))
theorem WrS.c {w : World} {s : Blk} {a b a2 : Option Addr} {C D T C2 g : Nat} {W : World} (h : WrS w s a b C D T a2 C2 g W) : WrC w s a b C D T a2 C2 g W := by
  have e1 := h.box.1 3 _ rfl
  have e2 := h.box.1 4 _ rfl
  have e3 := h.inn.1 3 _ rfl
  have e4 := h.inn.1 4 _ rfl
  simp only [Nat.zero_add] at e1 e2 e3 e4
  exact ⟨e1, e2, e3, e4, h.box.1, h.inn.1⟩
set_option maxRecDepth 100000 in
set_option maxHeartbeats 2000000 in
theorem writes_l1 (s : Blk) (a b : Option Addr) (C D : Nat) (w : World) (i1 : (40 : Int) < (s.k : Int)) :
    Calls Try.prog 3 #[blkV s a C b D] w fun e w' => e = .returned (.bool true) ∧ Below w.heap.size w w' := by
  unfold blkV
  go_enter Try.func3, Try.ntmps3
  go_wp2_with (refine wpList_box_rec rfl 27 (.tmp 0) rfl (blkC s a C b D) rfl w.heap.size rfl ?_; intro W0 R0 B0 z0; have c3 := R0.1 3 _ rfl; have c4 := R0.1 4 _ rfl; simp only [Nat.zero_add] at c3 c4; have RB := hidIt R0; have BB := hidIt B0; clear R0 B0 z0)
  go_ret
  exact ⟨rfl, BB.out⟩
set_option maxRecDepth 100000 in
set_option maxHeartbeats 2000000 in
theorem writes_l2 (s : Blk) (a b : Option Addr) (C D : Nat) (w : World) (i1 : ¬ (40 : Int) < (s.k : Int)) (i2 : (2000 : Int) < (s.n : Int)) :
    Calls Try.prog 3 #[blkV s a C b D] w fun e w' => e = .returned (.bool true) ∧ Below w.heap.size w w' := by
  unfold blkV
  go_enter Try.func3, Try.ntmps3
  go_wp2_with (refine wpList_box_rec rfl 27 (.tmp 0) rfl (blkC s a C b D) rfl w.heap.size rfl ?_; intro W0 R0 B0 z0; have c3 := R0.1 3 _ rfl; have c4 := R0.1 4 _ rfl; simp only [Nat.zero_add] at c3 c4; have RB := hidIt R0; have BB := hidIt B0; clear R0 B0 z0)
  go_ret
  exact ⟨rfl, BB.out⟩
set_option maxRecDepth 100000 in
set_option maxHeartbeats 2000000 in
theorem writes_main (s : Blk) (a b : Option Addr) (C D : Nat) (w : World) (hA : BlkAt w s a C b D) (hk : s.k ≤ 40) (hn : s.n ≤ 2000) (N : Nat) (c : Int) (F : Nat → Int) (hF : ∀ j, j < N → 0 ≤ F j ∧ F j < 256)
    (wb : ∀ u a2 C2 b2 D2, BlkAt u s a2 C2 b2 D2 → Calls Try.prog 10 #[blkV s a2 C2 b2 D2] u (WbP u N c F)) (rb : ∀ u, Below w.heap.size w u → Calls Try.prog 11 #[blkV s a C b D] u (RbP u N c F)) :
    Calls Try.prog 3 #[blkV s a C b D] w fun e w' => e = .returned (.bool true) ∧ Below w.heap.size w w' := by
  have HA := hidIt hA
  have WB := hidIt wb
  have RY := hidIt rb
  have HF := hidIt hF
  have i1 : ¬ (40 : Int) < (s.k : Int) := by omega
  have i2 : ¬ (2000 : Int) < (s.n : Int) := by omega
  have cc : (c != c) = false := by simp
  have K1 : Hid True := trivial
  clear hA wb rb hF
  unfold blkV
  go_enter Try.func3, Try.ntmps3
  go_wp2_with (first
    | (refine wpList_box_rec rfl 27 (.tmp 0) rfl (blkC s a C b D) rfl w.heap.size rfl ?_; intro W0 R0 B0 z0; have c3 := R0.1 3 _ rfl; have c4 := R0.1 4 _ rfl; simp only [Nat.zero_add] at c3 c4; have RB := hidIt R0; have BB := hidIt B0; clear R0 B0 z0)
    | (have _q := K1; clear K1; refine wpList_load_rec rfl 27 (.tmp 1) rfl w.heap.size 0 (blkC s a C b D) rfl _ Try.underlying27 rfl (by kernel_rfl) RB.out ?_)
    | (go_at_call 8; refine (copyblk_any s a b C D _ (HA.out.below BB.out) (by omega) (by omega)).mono ?_; rintro e w1 ⟨a2, C2, b2, D2, rfl, hA1, hB1⟩; unfold blkV; have A1 := hidIt hA1; have E1 := hidIt (below_sh (Nat.le_refl _) BB.out hB1); have R1 := hidIt (RB.out.below hB1); have WZ : Hid (w.heap.size < w1.heap.size) := R1.out.2.2; have NR : Hid (∀ r : Addr, a2 = some r → s.k = 0 ∨ r.block ≠ w1.heap.size) := harg_ne hA1.refs; clear hA1 hB1 RB BB c3 c4)
    | (refine wpList_alloc_rec rfl 27 rfl (blkC blk0 none 0 none 0) w1.heap.size rfl zero_blk ?_; intro W2 R2 B2 z2)
    | (refine wpList_store_rec rfl 27 (.tmp 3) (.tmp 19) rfl w1.heap.size 0 _ (blkC s a2 C2 b2 D2) rfl rfl R2 rfl (by kernel_rfl) (blkC_one _ _ _ _ _) ?_; intro W3 R3 B3
       have BX : Below w1.heap.size w1 W3 := B2.trans (B3.below (Nat.le_refl _) B2.size)
       have A3 := hidIt (A1.out.below BX)
       have E3 := hidIt (below_sh (Nat.le_refl _) E1.out BX)
       have R3' := hidIt (R1.out.below BX)
       have Y3 := hidIt R3
       have c4 := R3'.out.1 4 _ rfl
       simp only [Nat.zero_add] at c4
       clear R2 B2 z2 R3 B3 BX A1 R1)
    | (go_at_call 9; refine (lent_any b s.n D s.F _ (HA.out.body.below E3.out) (by omega)).mono ?_; rintro e w4 ⟨g, rfl, hg, hR4, hB4⟩
       have GT : Hid (w1.heap.size < g) := Nat.lt_of_lt_of_le Y3.out.2.2 hg
       have L4 := hidIt hR4
       have A4 := hidIt (A3.out.below hB4)
       have E4 := hidIt (below_sh (Nat.le_refl _) E3.out hB4)
       have R4 := hidIt (R3'.out.below hB4)
       have Y4 := hidIt (Y3.out.below hB4)
       clear hg hR4 hB4 A3 E3 R3' Y3 c4)
    | (refine wpList_put_rec rfl 25 (.tmp 23) (.tmp 22) rfl w1.heap.size 4 (blkC s a2 C2 b2 D2) [.slice (some ⟨g, 0, none⟩) s.n (s.n + 3)] (blkC s a2 C2 (some ⟨g, 0, none⟩) (s.n + 3)) _ rfl rfl rfl Y4.out (by show 4 + 1 ≤ 5; omega) rfl (by kernel_rfl) (sl_one _ _ _) ?_; intro W5 R5 B5 z5
       have WL : w.heap.size < w1.heap.size := WZ.out
       have S5 : Hid (WrS w s a b C D w1.heap.size a2 C2 g W5) := ⟨R4.out.but B5 (by omega), R5, harg_or A4.out.refs B5 NR.out, A4.out.kC, L4.out.but B5 (by have := GT.out; omega), E4.out.trans (B5.below E1.out.size E4.out.size)⟩
       clear R5 B5 z5 WL A4 R4 Y4 L4 E4)
    | (have _q := S5; refine wpList_load_rec rfl 27 (.tmp 3) rfl w1.heap.size 0 (blkC s a2 C2 (some ⟨g, 0, none⟩) (s.n + 3)) rfl _ Try.underlying27 rfl (by kernel_rfl) S5.out.inn ?_)
    | (go_at_call 10; refine (WB.out _ a2 C2 (some ⟨g, 0, none⟩) (s.n + 3) (S5.out.at_ HA.out.byt)).mono ?_; rintro e w6 ⟨ax, rfl, hL6, hx6, hB6⟩
       have S6 := hidIt (S5.out.below hB6)
       have X6 := hidIt hL6
       have N6 : Hid (∀ p, ax = some p → g < p.block ∧ p.block < w6.heap.size) := fun p hp => ⟨Nat.lt_of_lt_of_le S5.out.row.2.2 (hx6 p hp).1, (hx6 p hp).2⟩
       have B6 : Hid (w.heap.size ≤ W5.heap.size) := S5.out.bel.size
       clear hL6 hx6 hB6 S5)
    | (have _q := S6; refine wpList_load_rec rfl 27 (.tmp 1) rfl w.heap.size 0 (blkC s a C b D) rfl _ Try.underlying27 rfl (by kernel_rfl) S6.out.box ?_)
    | (go_at_call 11; refine (RY.out _ S6.out.bel).mono ?_; rintro e w7 ⟨ay, cap, rfl, hA7, hB7⟩
       have S7 := hidIt (S6.out.below hB7)
       have X7 := hidIt (X6.out.below hB7)
       have N7 : Hid (∀ p, ax = some p → g < p.block ∧ p.block < w7.heap.size) := fun p hp => ⟨(N6.out p hp).1, Nat.lt_of_lt_of_le (N6.out p hp).2 hB7.size⟩
       have Y7 := hidIt hA7
       clear hA7 hB7 S6 X6 N6))
  have hu := Try.underlying27
  have hi1 : (Try.prog.info? 27).map (·.size) = some (blkC s a C b D).length := by kernel_rfl
  have hi3 : (Try.prog.info? 27).map (·.size) = some (blkC s a2 C2 (some ⟨g, 0, none⟩) (s.n + 3)).length := by kernel_rfl
  refine wp_region_noPanic ?_
  refine wp_region_held_drew (S := WrC w s a b C D w1.heap.size a2 C2 g) (by kernel_rfl) ?_ (fun hHeld => ?_)
  · exact (S7.out.below (Below.refl _ _).drew).c
  replace S7 := hidIt (S7.out.below (Below.refl _ _).drew)
  replace X7 := hidIt (X7.out.below (Below.refl _ _).drew)
  replace Y7 := hidIt (Y7.out.below (Below.refl _ _).drew)
  refine take_at (i := 0) (v := ?_) (some 34) rfl rfl (by kernel_rfl) (by kernel_rfl) (by kernel_rfl) (fun _ _ _ h => h) (Or.inl ⟨by rfl, ?_⟩) (by assumption) ?_
  rotate_left
  · (intro w hSw; unfold WrC at hSw; (try obtain ⟨q1, q2, q3, q4, q5, q6⟩ := hSw); (try clear q5 q6); go_simp; try with_reducible rfl)
  simp only [Act.put, List.setIfInBounds_toArray, List.set_cons_zero, List.set_cons_succ]
  refine take_at (i := 1) (v := ?_) (some 35) rfl rfl (by kernel_rfl) (by kernel_rfl) (by kernel_rfl) (fun _ _ _ h => h) (Or.inl ⟨by rfl, ?_⟩) (by assumption) ?_
  rotate_left
  · (intro w hSw; unfold WrC at hSw; (try obtain ⟨q1, q2, q3, q4, q5, q6⟩ := hSw); (try clear q5 q6); go_simp; try with_reducible rfl)
  simp only [Act.put, List.setIfInBounds_toArray, List.set_cons_zero, List.set_cons_succ]
  refine call_at (i := 2) (some 36) 12 _ _ rfl rfl rfl (by rfl) (by kernel_rfl) #[.slice ax N N, .slice ay N cap] rfl Try.func12 (by kernel_rfl) (by kernel_rfl) ?_
  refine (same_any ax ay N N N cap F F _ X7.out.arg Y7.out).mono ?_
  rintro e w8 ⟨rfl, hw⟩
  subst hw
  rw [decide_eq_true rfl]
  refine ⟨_, rfl, S7.out.c, fun hHeld => ?_⟩
  simp only [Act.put, List.setIfInBounds_toArray, List.set_cons_zero, List.set_cons_succ]
  refine take_at (i := 3) (v := ?_) (some 37) rfl rfl (by kernel_rfl) (by kernel_rfl) (by kernel_rfl) (fun _ _ _ h => h) (Or.inl ⟨by rfl, ?_⟩) (by assumption) ?_
  rotate_left
  · (intro w hSw; unfold WrC at hSw; (try obtain ⟨q1, q2, q3, q4, q5, q6⟩ := hSw); (try clear q5 q6); go_simp; try with_reducible rfl)
  simp only [Act.put, List.setIfInBounds_toArray, List.set_cons_zero, List.set_cons_succ]
  refine take_at (i := 4) (v := ?_) (some 38) rfl rfl (by kernel_rfl) (by kernel_rfl) (by kernel_rfl) (fun _ _ _ h => h) (Or.inl ⟨by rfl, ?_⟩) (by assumption) ?_
  rotate_left
  · (intro w hSw; unfold WrC at hSw; (try obtain ⟨q1, q2, q3, q4, q5, q6⟩ := hSw); (try clear q5 q6); go_simp; try with_reducible rfl)
  simp only [Act.put, List.setIfInBounds_toArray, List.set_cons_zero, List.set_cons_succ]
  refine take_at (i := 5) (v := ?_) (some 39) rfl rfl (by kernel_rfl) (by kernel_rfl) (by kernel_rfl) (fun _ _ _ h => h) (Or.inl ⟨by rfl, ?_⟩) (by assumption) ?_
  rotate_left
  · (intro w hSw; unfold WrC at hSw; (try obtain ⟨q1, q2, q3, q4, q5, q6⟩ := hSw); (try clear q5 q6); go_simp; try with_reducible rfl)
  simp only [Act.put, List.setIfInBounds_toArray, List.set_cons_zero, List.set_cons_succ]
  refine take_at (i := 6) (v := ?_) (some 40) rfl rfl (by kernel_rfl) (by kernel_rfl) (by kernel_rfl) (fun _ _ _ h => h) (Or.inl ⟨by rfl, ?_⟩) (by assumption) ?_
  rotate_left
  · (intro w hSw; unfold WrC at hSw; (try obtain ⟨q1, q2, q3, q4, q5, q6⟩ := hSw); (try clear q5 q6); go_simp; try with_reducible rfl)
  simp only [Act.put, List.setIfInBounds_toArray, List.set_cons_zero, List.set_cons_succ]
  refine take_at (i := 7) (v := ?_) (some 41) rfl rfl (by kernel_rfl) (by kernel_rfl) (by kernel_rfl) (fun _ _ _ h => h) (Or.inl ⟨by rfl, ?_⟩) (by assumption) ?_
  rotate_left
  · (intro w hSw; unfold WrC at hSw; (try obtain ⟨q1, q2, q3, q4, q5, q6⟩ := hSw); (try clear q5 q6); go_simp; try with_reducible rfl)
  simp only [Act.put, List.setIfInBounds_toArray, List.set_cons_zero, List.set_cons_succ]
  refine take_at (i := 8) (v := ?_) (some 42) rfl rfl (by kernel_rfl) (by kernel_rfl) (by kernel_rfl) (fun _ _ _ h => h) (Or.inl ⟨by rfl, ?_⟩) (by assumption) ?_
  rotate_left
  · (intro w hSw; unfold WrC at hSw; (try obtain ⟨q1, q2, q3, q4, q5, q6⟩ := hSw); (try clear q5 q6); go_simp; try with_reducible rfl)
  simp only [Act.put, List.setIfInBounds_toArray, List.set_cons_zero, List.set_cons_succ]
  refine take_at (i := 9) (v := ?_) (some 43) rfl rfl (by kernel_rfl) (by kernel_rfl) (by kernel_rfl) (fun _ _ _ h => h) (Or.inl ⟨by rfl, ?_⟩) (by assumption) ?_
  rotate_left
  · (intro w hSw; unfold WrC at hSw; (try obtain ⟨q1, q2, q3, q4, q5, q6⟩ := hSw); (try clear q5 q6); go_simp; try with_reducible rfl)
  simp only [Act.put, List.setIfInBounds_toArray, List.set_cons_zero, List.set_cons_succ]
  refine take_at (i := 10) (v := _) (some 44) rfl rfl (by kernel_rfl) (by kernel_rfl) (by kernel_rfl) (fun _ _ _ h => h) (yieldsIf_load_mid (by rfl) _ _ rfl _ _ rfl _ _ (fun _ h => h.2.2.2.2.2) hu rfl hi3) (by assumption) ?_
  simp only [Act.put, List.setIfInBounds_toArray, List.set_cons_zero, List.set_cons_succ]
  refine take_at (i := 12) (v := _) (some 46) rfl rfl (by kernel_rfl) (by kernel_rfl) (by kernel_rfl) (fun _ _ _ h => h) (yieldsIf_load_mid (by rfl) _ _ rfl _ _ rfl _ _ (fun _ h => h.2.2.2.2.1) hu rfl hi1) (by assumption) ?_
  simp only [Act.put, List.setIfInBounds_toArray, List.set_cons_zero, List.set_cons_succ]
  refine call_at (i := 11) (some 45) 13 _ _ rfl rfl rfl (by rfl) (by kernel_rfl) #[.agg (blkC s a2 C2 (some ⟨g, 0, none⟩) (s.n + 3)).toArray] rfl Try.func13 (by kernel_rfl) (by kernel_rfl) ?_
  refine (check_any s a2 (some ⟨g, 0, none⟩) C2 (s.n + 3) _ S7.out.refs).mono ?_
  rintro e w9 ⟨rfl, hB⟩
  have S9 := hidIt (S7.out.below hB)
  have X9 := hidIt (X7.out.below hB)
  have N9 : Hid (∀ p, ax = some p → g < p.block ∧ p.block < w9.heap.size) := fun p hp => ⟨(N7.out p hp).1, Nat.lt_of_lt_of_le (N7.out p hp).2 hB.size⟩
  clear hB S7 X7 N7
  refine ⟨_, rfl, S9.out.c, fun hHeld => ?_⟩
  simp only [Act.put, List.setIfInBounds_toArray, List.set_cons_zero, List.set_cons_succ]
  refine call_at (i := 13) (some 47) 14 _ _ rfl rfl rfl (by rfl) (by kernel_rfl) #[.agg (blkC s a C b D).toArray] rfl Try.func14 (by kernel_rfl) (by kernel_rfl) ?_
  refine (rcheck_any s a b C D _ (HA.out.refs.below S9.out.bel) (by omega)).mono ?_
  rintro e w10 ⟨rfl, hB⟩
  have S10 := hidIt (S9.out.below hB)
  have X10 := hidIt (X9.out.below hB)
  have N10 : Hid (∀ p, ax = some p → g < p.block ∧ p.block < w10.heap.size) := fun p hp => ⟨(N9.out p hp).1, Nat.lt_of_lt_of_le (N9.out p hp).2 hB.size⟩
  clear hB S9 X9 N9
  refine ⟨_, rfl, S10.out.c, fun hHeld => ?_⟩
  simp only [Act.put, List.setIfInBounds_toArray, List.set_cons_zero, List.set_cons_succ]
  have cc2 : (chkE s != chkE s) = false := by simp
  refine take_at (i := 14) (v := ?_) (some 48) rfl rfl (by kernel_rfl) (by kernel_rfl) (by kernel_rfl) (fun _ _ _ h => h) (Or.inl ⟨by rfl, ?_⟩) (by assumption) ?_
  rotate_left
  · (intro w hSw; unfold WrC at hSw; (try obtain ⟨q1, q2, q3, q4, q5, q6⟩ := hSw); (try clear q5 q6); go_simp; try with_reducible rfl)
  simp only [Act.put, List.setIfInBounds_toArray, List.set_cons_zero, List.set_cons_succ]
  refine take_at (i := 15) (v := ?_) (some 49) rfl rfl (by kernel_rfl) (by kernel_rfl) (by kernel_rfl) (fun _ _ _ h => h) (Or.inl ⟨by rfl, ?_⟩) (by assumption) ?_
  rotate_left
  · (intro w hSw; unfold WrC at hSw; (try obtain ⟨q1, q2, q3, q4, q5, q6⟩ := hSw); (try clear q5 q6); go_simp; try with_reducible rfl)
  simp only [Act.put, List.setIfInBounds_toArray, List.set_cons_zero, List.set_cons_succ]
  refine take_at (i := 16) (v := ?_) (some 50) rfl rfl (by kernel_rfl) (by kernel_rfl) (by kernel_rfl) (fun _ _ _ h => h) (Or.inl ⟨by rfl, ?_⟩) (by assumption) ?_
  rotate_left
  · (intro w hSw; unfold WrC at hSw; (try obtain ⟨q1, q2, q3, q4, q5, q6⟩ := hSw); (try clear q5 q6); go_simp; try with_reducible rfl)
  simp only [Act.put, List.setIfInBounds_toArray, List.set_cons_zero, List.set_cons_succ]
  refine take_at (i := 17) (v := ?_) (some 51) rfl rfl (by kernel_rfl) (by kernel_rfl) (by kernel_rfl) (fun _ _ _ h => h) (Or.inl ⟨by rfl, ?_⟩) (by assumption) ?_
  rotate_left
  · (intro w hSw; unfold WrC at hSw; (try obtain ⟨q1, q2, q3, q4, q5, q6⟩ := hSw); (try clear q5 q6); go_simp; try with_reducible rfl)
  simp only [Act.put, List.setIfInBounds_toArray, List.set_cons_zero, List.set_cons_succ]
  refine take_at (i := 18) (v := ?_) (some 52) rfl rfl (by kernel_rfl) (by kernel_rfl) (by kernel_rfl) (fun _ _ _ h => h) (Or.inl ⟨by rfl, ?_⟩) (by assumption) ?_
  rotate_left
  · (intro w hSw; unfold WrC at hSw; (try obtain ⟨q1, q2, q3, q4, q5, q6⟩ := hSw); (try clear q5 q6); go_simp; try with_reducible rfl)
  simp only [Act.put, List.setIfInBounds_toArray, List.set_cons_zero, List.set_cons_succ]
  refine take_at (i := 19) (v := ?_) (some 53) rfl rfl (by kernel_rfl) (by kernel_rfl) (by kernel_rfl) (fun _ _ _ h => h) (Or.inl ⟨by rfl, ?_⟩) (by assumption) ?_
  rotate_left
  · (intro w hSw; unfold WrC at hSw; (try obtain ⟨q1, q2, q3, q4, q5, q6⟩ := hSw); (try clear q5 q6); go_simp; try with_reducible rfl)
  simp only [Act.put, List.setIfInBounds_toArray, List.set_cons_zero, List.set_cons_succ]
  refine take_at (i := 20) (v := ?_) (some 54) rfl rfl (by kernel_rfl) (by kernel_rfl) (by kernel_rfl) (fun _ _ _ h => h) (Or.inl ⟨by rfl, ?_⟩) (by assumption) ?_
  rotate_left
  · (intro w hSw; unfold WrC at hSw; (try obtain ⟨q1, q2, q3, q4, q5, q6⟩ := hSw); (try clear q5 q6); go_simp; try with_reducible rfl)
  simp only [Act.put, List.setIfInBounds_toArray, List.set_cons_zero, List.set_cons_succ]
  refine call_at (i := 21) (some 55) 15 _ _ rfl rfl rfl (by rfl) (by kernel_rfl) #[.slice (some ⟨g, 0, none⟩) s.n (s.n + 3), .slice b s.n D] rfl Try.func15 (by kernel_rfl) (by kernel_rfl) ?_
  refine (kept_any g b s.n D s.F _ (HA.out.body.below S10.out.bel) (by omega) S10.out.row).mono ?_
  rintro e w11 ⟨rfl, hB⟩
  have S11 := hidIt (S10.out.below hB)
  have X11 := hidIt (X10.out.below hB)
  have N11 : Hid (∀ p, ax = some p → g < p.block ∧ p.block < w11.heap.size) := fun p hp => ⟨(N10.out p hp).1, Nat.lt_of_lt_of_le (N10.out p hp).2 hB.size⟩
  clear hB S10 X10 N10
  refine ⟨_, rfl, S11.out.c, fun hHeld => ?_⟩
  simp only [Act.put, List.setIfInBounds_toArray, List.set_cons_zero, List.set_cons_succ]
  refine take_at (i := 22) (v := ?_) (some 56) rfl rfl (by kernel_rfl) (by kernel_rfl) (by kernel_rfl) (fun _ _ _ h => h) (Or.inl ⟨by rfl, ?_⟩) (by assumption) ?_
  rotate_left
  · (intro w hSw; unfold WrC at hSw; (try obtain ⟨q1, q2, q3, q4, q5, q6⟩ := hSw); (try clear q5 q6); go_simp; try with_reducible rfl)
  simp only [Act.put, List.setIfInBounds_toArray, List.set_cons_zero, List.set_cons_succ]
  refine take_at (i := 23) (v := ?_) (some 57) rfl rfl (by kernel_rfl) (by kernel_rfl) (by kernel_rfl) (fun _ _ _ h => h) (Or.inl ⟨by rfl, ?_⟩) (by assumption) ?_
  rotate_left
  · (intro w hSw; unfold WrC at hSw; (try obtain ⟨q1, q2, q3, q4, q5, q6⟩ := hSw); (try clear q5 q6); go_simp; try with_reducible rfl)
  simp only [Act.put, List.setIfInBounds_toArray, List.set_cons_zero, List.set_cons_succ]
  refine take_at (i := 24) (v := ?_) (some 58) rfl rfl (by kernel_rfl) (by kernel_rfl) (by kernel_rfl) (fun _ _ _ h => h) (Or.inl ⟨by rfl, ?_⟩) (by assumption) ?_
  rotate_left
  · (intro w hSw; unfold WrC at hSw; (try obtain ⟨q1, q2, q3, q4, q5, q6⟩ := hSw); (try clear q5 q6); go_simp; try with_reducible rfl)
  simp only [Act.put, List.setIfInBounds_toArray, List.set_cons_zero, List.set_cons_succ]
  refine take_at (i := 25) (v := ?_) (some 59) rfl rfl (by kernel_rfl) (by kernel_rfl) (by kernel_rfl) (fun _ _ _ h => h) (Or.inl ⟨by rfl, ?_⟩) (by assumption) ?_
  rotate_left
  · (intro w hSw; unfold WrC at hSw; (try obtain ⟨q1, q2, q3, q4, q5, q6⟩ := hSw); (try clear q5 q6); go_simp; try with_reducible rfl)
  simp only [Act.put, List.setIfInBounds_toArray, List.set_cons_zero, List.set_cons_succ]
  refine take_at (i := 26) (v := ?_) (some 60) rfl rfl (by kernel_rfl) (by kernel_rfl) (by kernel_rfl) (fun _ _ _ h => h) (Or.inl ⟨by rfl, ?_⟩) (by assumption) ?_
  rotate_left
  · (intro w hSw; unfold WrC at hSw; (try obtain ⟨q1, q2, q3, q4, q5, q6⟩ := hSw); (try clear q5 q6); go_simp; try with_reducible rfl)
  simp only [Act.put, List.setIfInBounds_toArray, List.set_cons_zero, List.set_cons_succ]
  refine take_at (i := 27) (v := ?_) (some 61) rfl rfl (by kernel_rfl) (by kernel_rfl) (by kernel_rfl) (fun _ _ _ h => h) (Or.inl ⟨by rfl, ?_⟩) (by assumption) ?_
  rotate_left
  · (intro w hSw; unfold WrC at hSw; (try obtain ⟨q1, q2, q3, q4, q5, q6⟩ := hSw); (try clear q5 q6); go_simp; try with_reducible rfl)
  simp only [Act.put, List.setIfInBounds_toArray, List.set_cons_zero, List.set_cons_succ]
  refine take_at (i := 28) (v := ?_) (some 62) rfl rfl (by kernel_rfl) (by kernel_rfl) (by kernel_rfl) (fun _ _ _ h => h) (Or.inl ⟨by rfl, ?_⟩) (by assumption) ?_
  rotate_left
  · (intro w hSw; unfold WrC at hSw; (try obtain ⟨q1, q2, q3, q4, q5, q6⟩ := hSw); (try clear q5 q6); go_simp; try with_reducible rfl)
  simp only [Act.put, List.setIfInBounds_toArray, List.set_cons_zero, List.set_cons_succ]
  refine call_at (i := 29) (some 63) 16 _ _ rfl rfl rfl (by rfl) (by kernel_rfl) #[.slice a2 s.k C2, .slice a s.k C] rfl Try.func16 (by kernel_rfl) (by kernel_rfl) ?_
  refine (refs_self a2 a s.k C2 C s.h _ S11.out.refs (HA.out.refs.below S11.out.bel) (by omega)).mono ?_
  rintro e w12 ⟨rfl, hB⟩
  have S12 := hidIt (S11.out.below hB)
  have X12 := hidIt (X11.out.below hB)
  have N12 : Hid (∀ p, ax = some p → g < p.block ∧ p.block < w12.heap.size) := fun p hp => ⟨(N11.out p hp).1, Nat.lt_of_lt_of_le (N11.out p hp).2 hB.size⟩
  clear hB S11 X11 N11
  refine ⟨_, rfl, S12.out.c, fun hHeld => ?_⟩
  simp only [Act.put, List.setIfInBounds_toArray, List.set_cons_zero, List.set_cons_succ]
  refine take_at (i := 30) (v := ?_) (some 64) rfl rfl (by kernel_rfl) (by kernel_rfl) (by kernel_rfl) (fun _ _ _ h => h) (Or.inl ⟨by rfl, ?_⟩) (by assumption) ?_
  rotate_left
  · (intro w hSw; unfold WrC at hSw; (try obtain ⟨q1, q2, q3, q4, q5, q6⟩ := hSw); (try clear q5 q6); go_simp; try with_reducible rfl)
  simp only [Act.put, List.setIfInBounds_toArray, List.set_cons_zero, List.set_cons_succ]
  refine take_at (i := 31) (v := ?_) (some 65) rfl rfl (by kernel_rfl) (by kernel_rfl) (by kernel_rfl) (fun _ _ _ h => h) (Or.inl ⟨by rfl, ?_⟩) (by assumption) ?_
  rotate_left
  · (intro w hSw; unfold WrC at hSw; (try obtain ⟨q1, q2, q3, q4, q5, q6⟩ := hSw); (try clear q5 q6); go_simp; try with_reducible rfl)
  simp only [Act.put, List.setIfInBounds_toArray, List.set_cons_zero, List.set_cons_succ]
  refine wpAnyH_done (by kernel_rfl) ?_ _
  refine NoPanic.normal ?_
  have AP : Hid (Calls Try.prog 17 #[.slice (some ⟨w12.heap.size, 0, none⟩) 2 2] (w12.alloc (.cells #[.slice ax N N, .slice (some ⟨g, 0, none⟩) s.n (s.n + 3)] 25)) fun e w' => e = .returned (.bool true) ∧ Below w.heap.size w12 w') := two_apart w.heap.size w12 ⟨ax, N, N⟩ ⟨some ⟨g, 0, none⟩, s.n, s.n + 3⟩ F (lentF s.n s.F 3) (lst_low X12.out B6.out) ⟨by show s.n ≤ s.n + 3; omega, by show s.n + 3 ≤ 1000000; omega, fun j _ => lentF_byte s.n s.F 3 HA.out.byt j, .inr ⟨g, rfl, by have := GT.out; have := WZ.out; omega, S12.out.row⟩⟩ S12.out.bel.size (fun p hp => (N12.out p hp).2) (fun p hp => by injection hp with hp; subst hp; exact S12.out.row.2.2) (fun p q hp hq => by injection hq with hq; subst hq; have := (N12.out p hp).1; show p.block ≠ g; omega)
  have c4 := S12.out.c.2.2.2.1
  go_wp2_with (first
    | (go_at_call 17; refine AP.out.mono ?_; rintro e w13 ⟨rfl, hB13⟩; have E13 := hidIt (S12.out.bel.trans hB13); clear hB13)
    | (go_at_call 18; refine (awake_ok _).mono ?_; rintro e w14 ⟨rfl, hB14⟩; have E14 := hidIt (below_sh (Nat.le_refl _) E13.out hB14); clear hB14))
  go_ret
  exact ⟨rfl, E14.out⟩
theorem writes_any (s : Blk) (a b : Option Addr) (C D : Nat) (w : World) (hA : BlkAt w s a C b D) :
    Calls Try.prog 3 #[blkV s a C b D] w fun e w' => e = .returned (.bool true) ∧ Below w.heap.size w w' := by
  by_cases h1 : 40 < s.k
  · exact writes_l1 s a b C D w (by omega)
  by_cases h2 : 2000 < s.n
  · exact writes_l2 s a b C D w (by omega) (by omega)
  by_cases m : s.May
  · refine writes_main s a b C D w hA (by omega) (by omega) 1024 0 s.img (fun j hj => s.img_byte hA.byt j hj) (fun u a2 C2 b2 D2 h => (bytes_ok s a2 b2 C2 D2 u h m).mono ?_) (fun u hB => (rbytes_ok s a b C D u (hA.below hB) m).mono ?_)
    · rintro e w' ⟨g, rfl, hg, hR, hB⟩
      exact ⟨_, rfl, ⟨Nat.le_refl _, by show 1024 ≤ 1000000; omega, fun j hj => s.img_byte hA.byt j hj, .inr ⟨g, rfl, hg, hR⟩⟩, fun p hp => by injection hp with hp; subst hp; exact ⟨hg, hR.2.2⟩, hB⟩
    · rintro e w' ⟨ay, cap, rfl, h1, h2⟩
      exact ⟨ay, cap, rfl, h1, h2⟩
  · refine writes_main s a b C D w hA (by omega) (by omega) 0 2 (fun _ => 0) (fun j hj => by omega) (fun u a2 C2 b2 D2 h => (bytes_no s a2 b2 C2 D2 u h.refs m).mono ?_) (fun u hB => (rbytes_no s a b C D u (hA.refs.below hB) (by omega) m).mono ?_)
    · rintro e w' ⟨rfl, hB⟩
      exact ⟨none, rfl, ⟨Nat.le_refl _, by show 0 ≤ 1000000; omega, fun j hj => by have : j < 0 := hj; omega, .inl ⟨rfl, rfl⟩⟩, fun p hp => (by cases hp), hB⟩
    · rintro e w' ⟨rfl, hB⟩
      exact ⟨none, 0, rfl, .inl ⟨rfl, .inl rfl⟩, hB⟩
end Go.Proofs.Ytmlllglgjpmicaa
