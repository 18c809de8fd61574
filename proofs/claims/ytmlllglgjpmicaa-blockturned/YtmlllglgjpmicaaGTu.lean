/-
  Walks, not a claim by itself: BlockTurned. By the verifier.
-/
import Derived.Test.YtmlllglgjpmicaaGKn
import Derived.Test.YtmlllglgjpmicaaBPick
namespace Go.Proofs.Ytmlllglgjpmicaa
open Go.RowKit
/-- Turns that lie in a block. -/
def TLies (w : World) (b off m : Nat) (X Y : Nat → Int) : Prop := (∀ i, i < m → w.cell? ⟨b, off + i * 2, none⟩ = some (.int .i64 (X i)) ∧ w.cell? ⟨b, off + i * 2 + 1, none⟩ = some (.int .u8 (Y i)) ∧ 0 ≤ Y i ∧ Y i < 256) ∧ b < w.heap.size
theorem TLies.below {u v : World} {b off m : Nat} {X Y : Nat → Int} (h : TLies u b off m X Y) (hb : Below u.heap.size u v) : TLies v b off m X Y :=
  ⟨fun i hi => ⟨(hb.cell (p := ⟨b, off + i * 2, none⟩) h.2).trans (h.1 i hi).1, (hb.cell (p := ⟨b, off + i * 2 + 1, none⟩) h.2).trans (h.1 i hi).2.1, (h.1 i hi).2.2⟩, Nat.lt_of_lt_of_le h.2 hb.size⟩
/-- A slice of turns. -/
def TArg (w : World) (a : Option Addr) (m : Nat) (X Y : Nat → Int) : Prop := m = 0 ∨ ∃ b off, a = some ⟨b, off, none⟩ ∧ TLies w b off m X Y
theorem TArg.below {u v : World} {a : Option Addr} {m : Nat} {X Y : Nat → Int} (h : TArg u a m X Y) (hb : Below u.heap.size u v) : TArg v a m X Y := by
  rcases h with h | ⟨b, off, e, hl⟩
  · exact .inl h
  · exact .inr ⟨b, off, e, hl.below hb⟩
theorem xor_byte (a b : Int) (h1 : 0 ≤ a ∧ a < 256) (h2 : 0 ≤ b ∧ b < 256) : 0 ≤ bits .xor .u8 a b ∧ bits .xor .u8 a b < 256 := by
  rw [u8_xor a b h1.1 h1.2 h2.1 h2.2]
  have : a.toNat ^^^ b.toNat < 2 ^ 8 := Nat.xor_lt_two_pow (by omega) (by omega)
  omega
/-- What holds at the head of the loop. -/
def turnRel (w : World) (g q m : Nat) (f : Nat → Int) (i : Value) (wr : World) : Prop := ∃ (k : Nat) (F : Nat → Int), k ≤ m ∧ i = .int .i64 k ∧ IRow wr g .u8 1024 F ∧ (∀ j, j < 1024 → 0 ≤ F j ∧ F j < 256) ∧ Lies wr q 0 1024 f ∧ Below w.heap.size w wr
theorem turn_step {w wr : World} {g q m k r : Nat} {f F : Nat → Int} {v : Int} (hk : k < m) (hR : IRow wr g .u8 1024 F) (hF : ∀ j, j < 1024 → 0 ≤ F j ∧ F j < 256) (hL : Lies wr q 0 1024 f) (hB : Below w.heap.size w wr) (hg : w.heap.size ≤ g) (hgq : g ≠ q) (hv : 0 ≤ v ∧ v < 256) :
    turnRel w g q m f (.int .i64 ((k : Int) + 1)) (wr.setCell ⟨g, r, none⟩ (.int .u8 v)).drew :=
  ⟨k + 1, upd F r v, by omega, by go_num, (hR.set r v).drew, fun j hj => by unfold upd; split; (· exact hv); (· exact hF j hj), (hL.but (But.set _ _ _) (Ne.symm hgq)).below (Below.refl _ _).drew, (hB.setCell hg _).drew⟩
/-- Read of any bytes: some block, and an answer of which Z is known. -/
def RdZ (w : World) (Z : Int → Prop) (e : Ending) (w' : World) : Prop := ∃ (cs : List Value) (c : Int), e = .returned (.tuple #[.agg cs.toArray, .int .i64 c]) ∧ cs.length = 5 ∧ (∀ v ∈ cs, v.oneCell' = true) ∧ Z c ∧ Below w.heap.size w w'
theorem RdOk.z {w w' : World} {s : Blk} {e : Ending} {Z : Int → Prop} (h : RdOk w s e w') (z : Z 0) : RdZ w Z e w' := by
  obtain ⟨g1, g2, rfl, _, hB⟩ := h
  exact ⟨_, 0, rfl, rfl, blkC_one _ _ _ _ _, z, hB⟩
theorem RdNo.z {w w' : World} {c : Int} {e : Ending} {Z : Int → Prop} (h : RdNo w c e w') (z : Z c) : RdZ w Z e w' := by
  obtain ⟨rfl, hB⟩ := h
  exact ⟨_, c, rfl, rfl, blkC_one _ _ _ _ _, z, hB⟩
set_option maxRecDepth 100000 in
set_option maxHeartbeats 1000000 in
theorem turned_l1 (s : Blk) (a b a' : Option Addr) (C D m C' : Nat) (w : World) (i1 : (40 : Int) < (s.k : Int)) :
    Calls Try.prog 7 #[blkV s a C b D, .slice a' m C'] w fun e w' => e = .returned (.bool true) ∧ Below w.heap.size w w' := by
  unfold blkV
  go_enter Try.func7, Try.ntmps7
  go_wp2_with (first
    | (refine wpList_box_rec rfl 27 (.tmp 0) rfl (blkC s a C b D) rfl w.heap.size rfl ?_; intro W0 R0 B0 z0)
    | (go_at_call 5; refine (known_ok _).mono ?_; rintro e w1 ⟨rfl, B1⟩
       have E1 := hidIt (below_sh (Nat.le_refl _) B0 B1)
       have R1 := hidIt (R0.below B1)
       have c3 := R1.out.1 3 _ rfl
       have c4 := R1.out.1 4 _ rfl
       simp only [Nat.zero_add] at c3 c4
       clear R0 B0 z0 B1))
  go_ret
  exact ⟨rfl, E1.out⟩
set_option maxRecDepth 100000 in
set_option maxHeartbeats 1000000 in
theorem turned_l2 (s : Blk) (a b a' : Option Addr) (C D m C' : Nat) (w : World) (i1 : ¬ (40 : Int) < (s.k : Int)) (i2 : (2000 : Int) < (s.n : Int)) :
    Calls Try.prog 7 #[blkV s a C b D, .slice a' m C'] w fun e w' => e = .returned (.bool true) ∧ Below w.heap.size w w' := by
  unfold blkV
  go_enter Try.func7, Try.ntmps7
  go_wp2_with (first
    | (refine wpList_box_rec rfl 27 (.tmp 0) rfl (blkC s a C b D) rfl w.heap.size rfl ?_; intro W0 R0 B0 z0)
    | (go_at_call 5; refine (known_ok _).mono ?_; rintro e w1 ⟨rfl, B1⟩
       have E1 := hidIt (below_sh (Nat.le_refl _) B0 B1)
       have R1 := hidIt (R0.below B1)
       have c3 := R1.out.1 3 _ rfl
       have c4 := R1.out.1 4 _ rfl
       simp only [Nat.zero_add] at c3 c4
       clear R0 B0 z0 B1))
  go_ret
  exact ⟨rfl, E1.out⟩
set_option maxRecDepth 100000 in
set_option maxHeartbeats 1000000 in
theorem turned_l3 (s : Blk) (a b a' : Option Addr) (C D m C' : Nat) (w : World) (i1 : ¬ (40 : Int) < (s.k : Int)) (i2 : ¬ (2000 : Int) < (s.n : Int)) (i3 : (40 : Int) < (m : Int)) :
    Calls Try.prog 7 #[blkV s a C b D, .slice a' m C'] w fun e w' => e = .returned (.bool true) ∧ Below w.heap.size w w' := by
  unfold blkV
  go_enter Try.func7, Try.ntmps7
  go_wp2_with (first
    | (refine wpList_box_rec rfl 27 (.tmp 0) rfl (blkC s a C b D) rfl w.heap.size rfl ?_; intro W0 R0 B0 z0)
    | (go_at_call 5; refine (known_ok _).mono ?_; rintro e w1 ⟨rfl, B1⟩
       have E1 := hidIt (below_sh (Nat.le_refl _) B0 B1)
       have R1 := hidIt (R0.below B1)
       have c3 := R1.out.1 3 _ rfl
       have c4 := R1.out.1 4 _ rfl
       simp only [Nat.zero_add] at c3 c4
       clear R0 B0 z0 B1))
  go_ret
  exact ⟨rfl, E1.out⟩
set_option maxRecDepth 100000 in
set_option maxHeartbeats 1000000 in
theorem turned_no (s : Blk) (a b a' : Option Addr) (C D m C' : Nat) (w : World) (hA : BlkAt w s a C b D) (i1 : ¬ (40 : Int) < (s.k : Int)) (i2 : ¬ (2000 : Int) < (s.n : Int)) (i3 : ¬ (40 : Int) < (m : Int)) (mm : ¬ s.May) :
    Calls Try.prog 7 #[blkV s a C b D, .slice a' m C'] w fun e w' => e = .returned (.bool true) ∧ Below w.heap.size w w' := by
  have HA := hidIt hA
  have MM := hidIt mm
  clear hA mm
  unfold blkV
  go_enter Try.func7, Try.ntmps7
  go_wp2_with (first
    | (refine wpList_box_rec rfl 27 (.tmp 0) rfl (blkC s a C b D) rfl w.heap.size rfl ?_; intro W0 R0 B0 z0)
    | (go_at_call 5; refine (known_ok _).mono ?_; rintro e w1 ⟨rfl, B1⟩
       have E1 := hidIt (below_sh (Nat.le_refl _) B0 B1)
       have R1 := hidIt (R0.below B1)
       have c3 := R1.out.1 3 _ rfl
       have c4 := R1.out.1 4 _ rfl
       simp only [Nat.zero_add] at c3 c4
       clear R0 B0 z0 B1)
    | (refine wpList_load_g (by rfl) 27 (.tmp 2) rfl w.heap.size 0 (blkC s a C b D) rfl _ Try.underlying27 rfl (by kernel_rfl) R1.out.1 ?_)
    | (go_at_call 10; refine (bytes_no s a b C D _ (HA.out.refs.below E1.out) MM.out).mono ?_; rintro e w2 ⟨rfl, hB2⟩; have E2 := hidIt (below_sh (Nat.le_refl _) E1.out hB2); clear hB2 R1 E1 c3 c4))
  go_ret
  exact ⟨rfl, E2.out⟩
set_option maxRecDepth 100000 in
set_option maxHeartbeats 4000000 in
theorem turned_ok (s : Blk) (a b a' : Option Addr) (C D m C' : Nat) (X Y : Nat → Int) (w : World) (hA : BlkAt w s a C b D) (hT : TArg w a' m X Y) (i1 : ¬ (40 : Int) < (s.k : Int)) (i2 : ¬ (2000 : Int) < (s.n : Int)) (i3 : ¬ (40 : Int) < (m : Int)) (mm : s.May) :
    Calls Try.prog 7 #[blkV s a C b D, .slice a' m C'] w fun e w' => e = .returned (.bool true) ∧ Below w.heap.size w w' := by
  have HA := hidIt hA
  have HT := hidIt hT
  have MM := hidIt mm
  clear hA hT mm
  unfold blkV
  go_enter Try.func7, Try.ntmps7
  go_wp2_with (first
    | (refine wpList_box_rec rfl 27 (.tmp 0) rfl (blkC s a C b D) rfl w.heap.size rfl ?_; intro W0 R0 B0 z0)
    | (go_at_call 5; refine (known_ok _).mono ?_; rintro e w1 ⟨rfl, B1⟩
       have E1 := hidIt (below_sh (Nat.le_refl _) B0 B1)
       have R1 := hidIt (R0.below B1)
       have c3 := R1.out.1 3 _ rfl
       have c4 := R1.out.1 4 _ rfl
       simp only [Nat.zero_add] at c3 c4
       clear R0 B0 z0 B1)
    | (refine wpList_load_g (by rfl) 27 (.tmp 2) rfl w.heap.size 0 (blkC s a C b D) rfl _ Try.underlying27 rfl (by kernel_rfl) R1.out.1 ?_)
    | (go_at_call 10; refine (bytes_ok s a b C D _ (HA.out.below E1.out) MM.out).mono ?_; rintro e w2 ⟨g, rfl, hg, hR2, hB2⟩; have HG : Hid (w.heap.size ≤ g) := Nat.le_trans E1.out.size hg; have R2 := hidIt hR2; have E2 := hidIt (below_sh (Nat.le_refl _) E1.out hB2); clear hg hR2 hB2 R1 E1 c3 c4)
    | (go_at_call 23; refine (copy_any (some ⟨g, 0, none⟩) 1024 1024 s.img _ (Arg.of (R2.out.lies (fun j hj => s.img_byte HA.out.byt j hj))) (by omega)).mono ?_; rintro e w3 ⟨v3, rfl, hO3, hB3⟩
       obtain ⟨q, capq, rfl, hq, _, hlq⟩ := hO3.form (by omega) (fun j hj => s.img_byte HA.out.byt j hj)
       have GQ : Hid (g ≠ q) := by have := R2.out.2.2; exact (by omega : g ≠ q)
       have ST : Hid (turnRel w g q m s.img (.int .i64 0) w3) := ⟨0, s.img, by omega, rfl, R2.out.below hB3, fun j hj => s.img_byte HA.out.byt j hj, hlq, below_sh (Nat.le_refl _) E2.out hB3⟩
       clear hO3 hB3 hq hlq R2 E2))
  go_loopw [9] (fun i wr => turnRel w g q m s.img i wr) (fun i _ => m - (RowKit.intOf i).toNat)
  case atStart => exact ST.out
  case round =>
    obtain ⟨k, F, hk, rfl, hR, hF, hL, hB⟩ := hrel
    clear ST
    have RR := hidIt hR
    have RF := hidIt hF
    have RL := hidIt hL
    have BE := hidIt hB
    clear hR hF hL hB
    by_cases hlt : k < m
    · rcases HT.out.below BE.out with h0 | ⟨tb, toff, rfl, ht⟩
      · omega
      have c1 := (ht.1 k hlt).1
      have c2 := hidIt (ht.1 k hlt).2.1
      have YB := hidIt (ht.1 k hlt).2.2
      have TB : Hid (tb < w.heap.size) := by
        rcases HT.out with h0 | ⟨tb', toff', e, ht'⟩
        · exact absurd h0 (by omega)
        · injection e with e; injection e with e _; subst e; exact ht'.2
      clear ht
      have j0 : (k : Int) < m := by omega
      go_wp2_with (go_at_call 24; refine (pick_any (X k) 1024 _ (by omega) (by omega)).mono ?_; rintro e w5 ⟨r, hr, rfl, hw⟩; subst hw; have cr := RR.out.1 r hr; have fr := RR.out.2.1 r; have c2' := c2.out; have ne : ¬ g = tb := (by have := HG.out; have := TB.out; omega); have j1 : (r : Int) < 1024 := by omega)
      go_region
      go_wp2_with fail
      exact ⟨turn_step hlt RR.out RF.out RL.out BE.out HG.out GQ.out (xor_byte _ _ (RF.out r hr) YB.out), by simp [RowKit.intOf]; omega⟩
    · obtain rfl : k = m := by omega
      cases ho : opens 1024 F
      · have HO : Hid (eqN 16 (sealF 1008 fun j => F (16 + j)) F = false) := ho
        have RZ : Hid (∀ u, Below wr.heap.size wr u → Calls Try.prog 19 #[.slice (some ⟨g, 0, none⟩) 1024 1024] u (RdZ u (fun c => c = 12))) := fun u hB => (read_seal g 0 1024 F u ((RR.out.below hB).lies RF.out) (Nat.le_refl _) ho).mono fun e w' h => h.z rfl
        clear ho
        go_wp2_with (first
          | (go_at_call 19; refine (RZ.out _ (Below.refl _ _)).mono ?_; rintro e w6 ⟨cs, c, rfl, hl6, ho6, hz6, hB6⟩; have CL := hidIt hl6; have CO := hidIt ho6; have CZ := hidIt hz6; have R6 := hidIt (RR.out.below hB6); have L6 := hidIt (RL.out.below hB6); have E6 := hidIt (below_sh (Nat.le_refl _) BE.out hB6); clear hl6 ho6 hz6 hB6)
          | (refine wpList_alloc_rec rfl 27 rfl (blkC blk0 none 0 none 0) w6.heap.size rfl zero_blk ?_; intro W7 R7 B7 z7)
          | (refine wpList_store_rec rfl 27 (.tmp 11) (.tmp 72) rfl w6.heap.size 0 _ cs rfl rfl R7 (by rw [CL.out]; rfl) (by rw [CL.out]; kernel_rfl) CO.out ?_; intro W8 R8 B8
             have BX : Below w6.heap.size w6 W8 := B7.trans (B8.below (Nat.le_refl _) B7.size)
             have Q8 := hidIt (R6.out.below BX)
             have L8 := hidIt (L6.out.below BX)
             have E8 := hidIt (below_sh (Nat.le_refl _) E6.out BX)
             clear R7 B7 z7 R8 B8 BX R6 L6 E6)
          | (refine wpList_alloc_row rfl 50 rfl .u8 16 W8.heap.size rfl zero8_16 ?_; intro W9 R9 B9 z9
             have S9 := hidIt R9
             have Q9 := hidIt (Q8.out.below B9)
             have L9 := hidIt (L8.out.below B9)
             have E9 := hidIt (below_sh (Nat.le_refl _) E8.out B9)
             have G9 : Hid (g < W8.heap.size) := Q8.out.2.2
             have P9 : Hid (q < W8.heap.size) := L8.out.2.2
             clear R9 B9 z9 Q8 L8))
        obtain ⟨W10, g1, g2, g3, g4⟩ := copy_row W9.drew W8.heap.size 16 0 16 16 16 1024 16 (some ⟨g, 0, none⟩) F (fun _ => 0) S9.out (by omega) rfl (Arg.of ⟨fun j hj => by rw [Nat.zero_add]; exact Q9.out.1 j (by omega), fun j hj => RF.out j (by omega), Q9.out.2.2⟩)
        have S10 := hidIt g2
        have Q10 := hidIt (IRow.but (u := W9.drew) Q9.out g3 (by have := G9.out; omega))
        have L10 := hidIt (Lies.but (u := W9.drew) L9.out g3 (by have := P9.out; omega))
        have E10 := hidIt (E9.out.drew.trans (g3.below E8.out.size (by show w.heap.size ≤ W9.heap.size; exact E9.out.size)))
        clear g2 g3 g4 S9 Q9 L9 E9
        refine wp_region_noPanic ?_
        refine wp_region_held_drew (S := fun _ => True) (by kernel_rfl) ?_ (fun hHeld => ?_)
        · trivial
        refine take_at (i := 0) (v := ?_) (some 74) rfl rfl (by kernel_rfl) (by kernel_rfl) (by kernel_rfl) (fun _ _ _ h => h) (Or.inl ⟨by rfl, ?_⟩) (by assumption) ?_
        rotate_left
        · (intro w hSw; (try dsimp only at hSw); (try obtain _q := hSw); go_simp; try with_reducible rfl)
        simp only [Act.put, List.setIfInBounds_toArray, List.set_cons_zero, List.set_cons_succ]
        refine take_at (i := 1) (v := ?_) (some 75) rfl rfl (by kernel_rfl) (by kernel_rfl) (by kernel_rfl) (fun _ _ _ h => h) (Or.inl ⟨by rfl, ?_⟩) (by assumption) ?_
        rotate_left
        · (intro w hSw; (try dsimp only at hSw); (try obtain _q := hSw); go_simp; try with_reducible rfl)
        simp only [Act.put, List.setIfInBounds_toArray, List.set_cons_zero, List.set_cons_succ]
        refine take_at (i := 2) (v := ?_) (some 76) rfl rfl (by kernel_rfl) (by kernel_rfl) (by kernel_rfl) (fun _ _ _ h => h) (Or.inl ⟨by rfl, ?_⟩) (by assumption) ?_
        rotate_left
        · (intro w hSw; (try dsimp only at hSw); (try obtain _q := hSw); go_simp; try with_reducible rfl)
        simp only [Act.put, List.setIfInBounds_toArray, List.set_cons_zero, List.set_cons_succ]
        refine step_at (i := 3) (some 77) rfl rfl (by rfl) (by kernel_rfl) (goInt 16) W10 (copy_run (.tmp 74) (.tmp 76) 25 25 rfl _ _ rfl rfl (g1 _)) trivial (fun hHeld => ?_)
        simp only [Act.put, List.setIfInBounds_toArray, List.set_cons_zero, List.set_cons_succ]
        refine wpAnyH_done (by kernel_rfl) ?_ _
        refine NoPanic.normal ?_
        clear g1
        go_wp2_with fail
        have hu := Try.underlying50
        have hi : (Try.prog.info? 50).map (·.size) = some (cl .u8 16 (over (fun _ => 0) 0 16 F)).length := by rw [cl_len]; kernel_rfl
        refine wp_region_noPanic ?_
        refine wp_region_held_drew (S := fun W' => W'.rangeAt W8.heap.size 0 (cl .u8 16 (over (fun _ => 0) 0 16 F))) (by kernel_rfl) ?_ (fun hHeld => ?_)
        · exact S10.out.rec.1
        refine take_at (i := 0) (v := ?_) (some 78) rfl rfl (by kernel_rfl) (by kernel_rfl) (by kernel_rfl) (fun _ _ _ h => h) (Or.inl ⟨by rfl, ?_⟩) (by assumption) ?_
        rotate_left
        · (intro w hSw; (try dsimp only at hSw); (try obtain _q := hSw); go_simp; try with_reducible rfl)
        simp only [Act.put, List.setIfInBounds_toArray, List.set_cons_zero, List.set_cons_succ]
        refine take_at (i := 1) (v := ?_) (some 79) rfl rfl (by kernel_rfl) (by kernel_rfl) (by kernel_rfl) (fun _ _ _ h => h) (Or.inl ⟨by rfl, ?_⟩) (by assumption) ?_
        rotate_left
        · (intro w hSw; (try dsimp only at hSw); (try obtain _q := hSw); go_simp; try with_reducible rfl)
        simp only [Act.put, List.setIfInBounds_toArray, List.set_cons_zero, List.set_cons_succ]
        refine take_at (i := 2) (v := _) (some 80) rfl rfl (by kernel_rfl) (by kernel_rfl) (by kernel_rfl) (fun _ _ _ h => h) (yieldsIf_load_mid (by rfl) _ _ rfl _ _ rfl _ _ (fun _ h => h) hu rfl hi) (by assumption) ?_
        simp only [Act.put, List.setIfInBounds_toArray, List.set_cons_zero, List.set_cons_succ]
        refine call_at (i := 3) (some 81) 25 _ _ rfl rfl rfl (by rfl) (by kernel_rfl) #[.slice (some ⟨g, 16, none⟩) 1008 1008, .agg (cl .u8 16 (over (fun _ => 0) 0 16 F)).toArray] rfl Try.func25 (by kernel_rfl) (by kernel_rfl) ?_
        refine (right16 (some ⟨g, 16, none⟩) 1008 1008 (fun j => F (16 + j)) (over (fun _ => 0) 0 16 F) W10.drew (by have := Arg.part (Q10.out.lies RF.out) 16 1008 (by omega); rwa [Nat.zero_add] at this) (by omega) (by omega)).mono ?_
        rintro e w11 ⟨rfl, hB11⟩
        rw [eqN_over, show eqN 16 (sealF 1008 fun j => F (16 + j)) F = false from HO.out]
        have Q11 := hidIt (IRow.below (u := W10.drew) Q10.out hB11)
        have L11 := hidIt (Lies.below (u := W10.drew) L10.out hB11)
        have S11 := hidIt (IRow.below (u := W10.drew) S10.out hB11)
        have E11 := hidIt (below_sh (Nat.le_refl _) E10.out.drew hB11)
        clear hB11
        refine ⟨_, rfl, S11.out.rec.1, fun hHeld => ?_⟩
        simp only [Act.put, List.setIfInBounds_toArray, List.set_cons_zero, List.set_cons_succ]
        refine wpAnyH_done (by kernel_rfl) ?_ _
        refine NoPanic.normal ?_
        obtain rfl : c = 12 := CZ.out
        go_wp2_with fail
        go_ret
        exact ⟨rfl, E11.out⟩
      · have HO : Hid (eqN 16 (sealF 1008 fun j => F (16 + j)) F = true) := ho
        by_cases te : txtN 1024 F = txtN 1024 s.img
        · have TE := hidIt te
          have RZ : Hid (∀ u, Below wr.heap.size wr u → Calls Try.prog 19 #[.slice (some ⟨g, 0, none⟩) 1024 1024] u (RdZ u (fun c => c = 0))) := fun u hB => (read_back s g 1024 u MM.out HA.out.byt ((RR.out.below hB).congr (txtN_inj RF.out (fun j hj => s.img_byte HA.out.byt j hj) te).2) (Nat.le_refl _)).mono fun e w' h => h.z rfl
          clear ho te
          go_wp2_with (first
            | (go_at_call 19; refine (RZ.out _ (Below.refl _ _)).mono ?_; rintro e w6 ⟨cs, c, rfl, hl6, ho6, hz6, hB6⟩; have CL := hidIt hl6; have CO := hidIt ho6; have CZ := hidIt hz6; have R6 := hidIt (RR.out.below hB6); have L6 := hidIt (RL.out.below hB6); have E6 := hidIt (below_sh (Nat.le_refl _) BE.out hB6); clear hl6 ho6 hz6 hB6)
            | (refine wpList_alloc_rec rfl 27 rfl (blkC blk0 none 0 none 0) w6.heap.size rfl zero_blk ?_; intro W7 R7 B7 z7)
            | (refine wpList_store_rec rfl 27 (.tmp 11) (.tmp 72) rfl w6.heap.size 0 _ cs rfl rfl R7 (by rw [CL.out]; rfl) (by rw [CL.out]; kernel_rfl) CO.out ?_; intro W8 R8 B8
               have BX : Below w6.heap.size w6 W8 := B7.trans (B8.below (Nat.le_refl _) B7.size)
               have Q8 := hidIt (R6.out.below BX)
               have L8 := hidIt (L6.out.below BX)
               have E8 := hidIt (below_sh (Nat.le_refl _) E6.out BX)
               clear R7 B7 z7 R8 B8 BX R6 L6 E6)
            | (refine wpList_alloc_row rfl 50 rfl .u8 16 W8.heap.size rfl zero8_16 ?_; intro W9 R9 B9 z9
               have S9 := hidIt R9
               have Q9 := hidIt (Q8.out.below B9)
               have L9 := hidIt (L8.out.below B9)
               have E9 := hidIt (below_sh (Nat.le_refl _) E8.out B9)
               have G9 : Hid (g < W8.heap.size) := Q8.out.2.2
               have P9 : Hid (q < W8.heap.size) := L8.out.2.2
               clear R9 B9 z9 Q8 L8))
          obtain ⟨W10, g1, g2, g3, g4⟩ := copy_row W9.drew W8.heap.size 16 0 16 16 16 1024 16 (some ⟨g, 0, none⟩) F (fun _ => 0) S9.out (by omega) rfl (Arg.of ⟨fun j hj => by rw [Nat.zero_add]; exact Q9.out.1 j (by omega), fun j hj => RF.out j (by omega), Q9.out.2.2⟩)
          have S10 := hidIt g2
          have Q10 := hidIt (IRow.but (u := W9.drew) Q9.out g3 (by have := G9.out; omega))
          have L10 := hidIt (Lies.but (u := W9.drew) L9.out g3 (by have := P9.out; omega))
          have E10 := hidIt (E9.out.drew.trans (g3.below E8.out.size (by show w.heap.size ≤ W9.heap.size; exact E9.out.size)))
          clear g2 g3 g4 S9 Q9 L9 E9
          refine wp_region_noPanic ?_
          refine wp_region_held_drew (S := fun _ => True) (by kernel_rfl) ?_ (fun hHeld => ?_)
          · trivial
          refine take_at (i := 0) (v := ?_) (some 74) rfl rfl (by kernel_rfl) (by kernel_rfl) (by kernel_rfl) (fun _ _ _ h => h) (Or.inl ⟨by rfl, ?_⟩) (by assumption) ?_
          rotate_left
          · (intro w hSw; (try dsimp only at hSw); (try obtain _q := hSw); go_simp; try with_reducible rfl)
          simp only [Act.put, List.setIfInBounds_toArray, List.set_cons_zero, List.set_cons_succ]
          refine take_at (i := 1) (v := ?_) (some 75) rfl rfl (by kernel_rfl) (by kernel_rfl) (by kernel_rfl) (fun _ _ _ h => h) (Or.inl ⟨by rfl, ?_⟩) (by assumption) ?_
          rotate_left
          · (intro w hSw; (try dsimp only at hSw); (try obtain _q := hSw); go_simp; try with_reducible rfl)
          simp only [Act.put, List.setIfInBounds_toArray, List.set_cons_zero, List.set_cons_succ]
          refine take_at (i := 2) (v := ?_) (some 76) rfl rfl (by kernel_rfl) (by kernel_rfl) (by kernel_rfl) (fun _ _ _ h => h) (Or.inl ⟨by rfl, ?_⟩) (by assumption) ?_
          rotate_left
          · (intro w hSw; (try dsimp only at hSw); (try obtain _q := hSw); go_simp; try with_reducible rfl)
          simp only [Act.put, List.setIfInBounds_toArray, List.set_cons_zero, List.set_cons_succ]
          refine step_at (i := 3) (some 77) rfl rfl (by rfl) (by kernel_rfl) (goInt 16) W10 (copy_run (.tmp 74) (.tmp 76) 25 25 rfl _ _ rfl rfl (g1 _)) trivial (fun hHeld => ?_)
          simp only [Act.put, List.setIfInBounds_toArray, List.set_cons_zero, List.set_cons_succ]
          refine wpAnyH_done (by kernel_rfl) ?_ _
          refine NoPanic.normal ?_
          clear g1
          go_wp2_with fail
          have hu := Try.underlying50
          have hi : (Try.prog.info? 50).map (·.size) = some (cl .u8 16 (over (fun _ => 0) 0 16 F)).length := by rw [cl_len]; kernel_rfl
          refine wp_region_noPanic ?_
          refine wp_region_held_drew (S := fun W' => W'.rangeAt W8.heap.size 0 (cl .u8 16 (over (fun _ => 0) 0 16 F))) (by kernel_rfl) ?_ (fun hHeld => ?_)
          · exact S10.out.rec.1
          refine take_at (i := 0) (v := ?_) (some 78) rfl rfl (by kernel_rfl) (by kernel_rfl) (by kernel_rfl) (fun _ _ _ h => h) (Or.inl ⟨by rfl, ?_⟩) (by assumption) ?_
          rotate_left
          · (intro w hSw; (try dsimp only at hSw); (try obtain _q := hSw); go_simp; try with_reducible rfl)
          simp only [Act.put, List.setIfInBounds_toArray, List.set_cons_zero, List.set_cons_succ]
          refine take_at (i := 1) (v := ?_) (some 79) rfl rfl (by kernel_rfl) (by kernel_rfl) (by kernel_rfl) (fun _ _ _ h => h) (Or.inl ⟨by rfl, ?_⟩) (by assumption) ?_
          rotate_left
          · (intro w hSw; (try dsimp only at hSw); (try obtain _q := hSw); go_simp; try with_reducible rfl)
          simp only [Act.put, List.setIfInBounds_toArray, List.set_cons_zero, List.set_cons_succ]
          refine take_at (i := 2) (v := _) (some 80) rfl rfl (by kernel_rfl) (by kernel_rfl) (by kernel_rfl) (fun _ _ _ h => h) (yieldsIf_load_mid (by rfl) _ _ rfl _ _ rfl _ _ (fun _ h => h) hu rfl hi) (by assumption) ?_
          simp only [Act.put, List.setIfInBounds_toArray, List.set_cons_zero, List.set_cons_succ]
          refine call_at (i := 3) (some 81) 25 _ _ rfl rfl rfl (by rfl) (by kernel_rfl) #[.slice (some ⟨g, 16, none⟩) 1008 1008, .agg (cl .u8 16 (over (fun _ => 0) 0 16 F)).toArray] rfl Try.func25 (by kernel_rfl) (by kernel_rfl) ?_
          refine (right16 (some ⟨g, 16, none⟩) 1008 1008 (fun j => F (16 + j)) (over (fun _ => 0) 0 16 F) W10.drew (by have := Arg.part (Q10.out.lies RF.out) 16 1008 (by omega); rwa [Nat.zero_add] at this) (by omega) (by omega)).mono ?_
          rintro e w11 ⟨rfl, hB11⟩
          rw [eqN_over, show eqN 16 (sealF 1008 fun j => F (16 + j)) F = true from HO.out]
          have Q11 := hidIt (IRow.below (u := W10.drew) Q10.out hB11)
          have L11 := hidIt (Lies.below (u := W10.drew) L10.out hB11)
          have S11 := hidIt (IRow.below (u := W10.drew) S10.out hB11)
          have E11 := hidIt (below_sh (Nat.le_refl _) E10.out.drew hB11)
          clear hB11
          refine ⟨_, rfl, S11.out.rec.1, fun hHeld => ?_⟩
          simp only [Act.put, List.setIfInBounds_toArray, List.set_cons_zero, List.set_cons_succ]
          refine wpAnyH_done (by kernel_rfl) ?_ _
          refine NoPanic.normal ?_
          obtain rfl : c = 0 := CZ.out
          go_wp2_with (go_at_call 12; refine (same_any (some ⟨g, 0, none⟩) (some ⟨q, 0, none⟩) 1024 1024 1024 capq F s.img _ (Arg.of (Q11.out.lies RF.out)) (Arg.of L11.out)).mono ?_; rintro e w12 ⟨rfl, hw⟩; subst hw; rw [decide_eq_true TE.out])
          go_ret
          exact ⟨rfl, E11.out⟩
        · have TE := hidIt te
          have RZ : Hid (∀ u, Below wr.heap.size wr u → Calls Try.prog 19 #[.slice (some ⟨g, 0, none⟩) 1024 1024] u (RdZ u (fun _ => True))) := fun u hB => (read_any (some ⟨g, 0, none⟩) 1024 1024 F u (Arg.of ((RR.out.below hB).lies RF.out)) (Nat.le_refl _)).mono fun e w' h => by
            rcases h with ⟨_, _, h⟩ | ⟨_, h⟩
            · exact h.z trivial
            · exact h.z trivial
          clear ho te
          go_wp2_with (first
            | (go_at_call 19; refine (RZ.out _ (Below.refl _ _)).mono ?_; rintro e w6 ⟨cs, c, rfl, hl6, ho6, hz6, hB6⟩; have CL := hidIt hl6; have CO := hidIt ho6; have CZ := hidIt hz6; have R6 := hidIt (RR.out.below hB6); have L6 := hidIt (RL.out.below hB6); have E6 := hidIt (below_sh (Nat.le_refl _) BE.out hB6); clear hl6 ho6 hz6 hB6)
            | (refine wpList_alloc_rec rfl 27 rfl (blkC blk0 none 0 none 0) w6.heap.size rfl zero_blk ?_; intro W7 R7 B7 z7)
            | (refine wpList_store_rec rfl 27 (.tmp 11) (.tmp 72) rfl w6.heap.size 0 _ cs rfl rfl R7 (by rw [CL.out]; rfl) (by rw [CL.out]; kernel_rfl) CO.out ?_; intro W8 R8 B8
               have BX : Below w6.heap.size w6 W8 := B7.trans (B8.below (Nat.le_refl _) B7.size)
               have Q8 := hidIt (R6.out.below BX)
               have L8 := hidIt (L6.out.below BX)
               have E8 := hidIt (below_sh (Nat.le_refl _) E6.out BX)
               clear R7 B7 z7 R8 B8 BX R6 L6 E6)
            | (refine wpList_alloc_row rfl 50 rfl .u8 16 W8.heap.size rfl zero8_16 ?_; intro W9 R9 B9 z9
               have S9 := hidIt R9
               have Q9 := hidIt (Q8.out.below B9)
               have L9 := hidIt (L8.out.below B9)
               have E9 := hidIt (below_sh (Nat.le_refl _) E8.out B9)
               have G9 : Hid (g < W8.heap.size) := Q8.out.2.2
               have P9 : Hid (q < W8.heap.size) := L8.out.2.2
               clear R9 B9 z9 Q8 L8))
          obtain ⟨W10, g1, g2, g3, g4⟩ := copy_row W9.drew W8.heap.size 16 0 16 16 16 1024 16 (some ⟨g, 0, none⟩) F (fun _ => 0) S9.out (by omega) rfl (Arg.of ⟨fun j hj => by rw [Nat.zero_add]; exact Q9.out.1 j (by omega), fun j hj => RF.out j (by omega), Q9.out.2.2⟩)
          have S10 := hidIt g2
          have Q10 := hidIt (IRow.but (u := W9.drew) Q9.out g3 (by have := G9.out; omega))
          have L10 := hidIt (Lies.but (u := W9.drew) L9.out g3 (by have := P9.out; omega))
          have E10 := hidIt (E9.out.drew.trans (g3.below E8.out.size (by show w.heap.size ≤ W9.heap.size; exact E9.out.size)))
          clear g2 g3 g4 S9 Q9 L9 E9
          refine wp_region_noPanic ?_
          refine wp_region_held_drew (S := fun _ => True) (by kernel_rfl) ?_ (fun hHeld => ?_)
          · trivial
          refine take_at (i := 0) (v := ?_) (some 74) rfl rfl (by kernel_rfl) (by kernel_rfl) (by kernel_rfl) (fun _ _ _ h => h) (Or.inl ⟨by rfl, ?_⟩) (by assumption) ?_
          rotate_left
          · (intro w hSw; (try dsimp only at hSw); (try obtain _q := hSw); go_simp; try with_reducible rfl)
          simp only [Act.put, List.setIfInBounds_toArray, List.set_cons_zero, List.set_cons_succ]
          refine take_at (i := 1) (v := ?_) (some 75) rfl rfl (by kernel_rfl) (by kernel_rfl) (by kernel_rfl) (fun _ _ _ h => h) (Or.inl ⟨by rfl, ?_⟩) (by assumption) ?_
          rotate_left
          · (intro w hSw; (try dsimp only at hSw); (try obtain _q := hSw); go_simp; try with_reducible rfl)
          simp only [Act.put, List.setIfInBounds_toArray, List.set_cons_zero, List.set_cons_succ]
          refine take_at (i := 2) (v := ?_) (some 76) rfl rfl (by kernel_rfl) (by kernel_rfl) (by kernel_rfl) (fun _ _ _ h => h) (Or.inl ⟨by rfl, ?_⟩) (by assumption) ?_
          rotate_left
          · (intro w hSw; (try dsimp only at hSw); (try obtain _q := hSw); go_simp; try with_reducible rfl)
          simp only [Act.put, List.setIfInBounds_toArray, List.set_cons_zero, List.set_cons_succ]
          refine step_at (i := 3) (some 77) rfl rfl (by rfl) (by kernel_rfl) (goInt 16) W10 (copy_run (.tmp 74) (.tmp 76) 25 25 rfl _ _ rfl rfl (g1 _)) trivial (fun hHeld => ?_)
          simp only [Act.put, List.setIfInBounds_toArray, List.set_cons_zero, List.set_cons_succ]
          refine wpAnyH_done (by kernel_rfl) ?_ _
          refine NoPanic.normal ?_
          clear g1
          go_wp2_with fail
          have hu := Try.underlying50
          have hi : (Try.prog.info? 50).map (·.size) = some (cl .u8 16 (over (fun _ => 0) 0 16 F)).length := by rw [cl_len]; kernel_rfl
          refine wp_region_noPanic ?_
          refine wp_region_held_drew (S := fun W' => W'.rangeAt W8.heap.size 0 (cl .u8 16 (over (fun _ => 0) 0 16 F))) (by kernel_rfl) ?_ (fun hHeld => ?_)
          · exact S10.out.rec.1
          refine take_at (i := 0) (v := ?_) (some 78) rfl rfl (by kernel_rfl) (by kernel_rfl) (by kernel_rfl) (fun _ _ _ h => h) (Or.inl ⟨by rfl, ?_⟩) (by assumption) ?_
          rotate_left
          · (intro w hSw; (try dsimp only at hSw); (try obtain _q := hSw); go_simp; try with_reducible rfl)
          simp only [Act.put, List.setIfInBounds_toArray, List.set_cons_zero, List.set_cons_succ]
          refine take_at (i := 1) (v := ?_) (some 79) rfl rfl (by kernel_rfl) (by kernel_rfl) (by kernel_rfl) (fun _ _ _ h => h) (Or.inl ⟨by rfl, ?_⟩) (by assumption) ?_
          rotate_left
          · (intro w hSw; (try dsimp only at hSw); (try obtain _q := hSw); go_simp; try with_reducible rfl)
          simp only [Act.put, List.setIfInBounds_toArray, List.set_cons_zero, List.set_cons_succ]
          refine take_at (i := 2) (v := _) (some 80) rfl rfl (by kernel_rfl) (by kernel_rfl) (by kernel_rfl) (fun _ _ _ h => h) (yieldsIf_load_mid (by rfl) _ _ rfl _ _ rfl _ _ (fun _ h => h) hu rfl hi) (by assumption) ?_
          simp only [Act.put, List.setIfInBounds_toArray, List.set_cons_zero, List.set_cons_succ]
          refine call_at (i := 3) (some 81) 25 _ _ rfl rfl rfl (by rfl) (by kernel_rfl) #[.slice (some ⟨g, 16, none⟩) 1008 1008, .agg (cl .u8 16 (over (fun _ => 0) 0 16 F)).toArray] rfl Try.func25 (by kernel_rfl) (by kernel_rfl) ?_
          refine (right16 (some ⟨g, 16, none⟩) 1008 1008 (fun j => F (16 + j)) (over (fun _ => 0) 0 16 F) W10.drew (by have := Arg.part (Q10.out.lies RF.out) 16 1008 (by omega); rwa [Nat.zero_add] at this) (by omega) (by omega)).mono ?_
          rintro e w11 ⟨rfl, hB11⟩
          rw [eqN_over, show eqN 16 (sealF 1008 fun j => F (16 + j)) F = true from HO.out]
          have Q11 := hidIt (IRow.below (u := W10.drew) Q10.out hB11)
          have L11 := hidIt (Lies.below (u := W10.drew) L10.out hB11)
          have S11 := hidIt (IRow.below (u := W10.drew) S10.out hB11)
          have E11 := hidIt (below_sh (Nat.le_refl _) E10.out.drew hB11)
          clear hB11
          refine ⟨_, rfl, S11.out.rec.1, fun hHeld => ?_⟩
          simp only [Act.put, List.setIfInBounds_toArray, List.set_cons_zero, List.set_cons_succ]
          refine wpAnyH_done (by kernel_rfl) ?_ _
          refine NoPanic.normal ?_
          go_wp2_with (go_at_call 12; refine (same_any (some ⟨g, 0, none⟩) (some ⟨q, 0, none⟩) 1024 1024 1024 capq F s.img _ (Arg.of (Q11.out.lies RF.out)) (Arg.of L11.out)).mono ?_; rintro e w12 ⟨rfl, hw⟩; subst hw; rw [decide_eq_false TE.out])
          go_ret
          exact ⟨rfl, E11.out⟩
theorem turned_any (s : Blk) (a b a' : Option Addr) (C D m C' : Nat) (X Y : Nat → Int) (w : World) (hA : BlkAt w s a C b D) (hT : TArg w a' m X Y) :
    Calls Try.prog 7 #[blkV s a C b D, .slice a' m C'] w fun e w' => e = .returned (.bool true) ∧ Below w.heap.size w w' := by
  by_cases h1 : 40 < s.k
  · exact turned_l1 s a b a' C D m C' w (by omega)
  by_cases h2 : 2000 < s.n
  · exact turned_l2 s a b a' C D m C' w (by omega) (by omega)
  by_cases h3 : 40 < m
  · exact turned_l3 s a b a' C D m C' w (by omega) (by omega) (by omega)
  by_cases mm : s.May
  · exact turned_ok s a b a' C D m C' X Y w hA hT (by omega) (by omega) (by omega) mm
  · exact turned_no s a b a' C D m C' w hA (by omega) (by omega) (by omega) mm
end Go.Proofs.Ytmlllglgjpmicaa
