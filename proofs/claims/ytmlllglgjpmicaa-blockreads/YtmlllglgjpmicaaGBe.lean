/-
  Walks, not a claim by itself: the reference's bytes behind a seal. By the verifier.
-/
import Derived.Test.YtmlllglgjpmicaaGPa
import Derived.Test.YtmlllglgjpmicaaGLay
namespace Go.Proofs.Ytmlllglgjpmicaa
open Go.RowKit
theorem zeros_none (ty : TypeId) (W : World) (base n g cap : Nat) (F : Nat → Int) (ho : Own W base (.slice (some ⟨g, 0, none⟩) n cap) n F) :
    (Builtin.append_ #[25, 3] ty #[.slice (some ⟨g, 0, none⟩) n cap, .int .i64 ((0 : Nat) : Int)]).run Try.prog W = .ok (.slice (some ⟨g, 0, none⟩) n cap) W := by
  obtain ⟨i0, hi, hz0, _, hz2⟩ := info_parts info_u8
  rcases ho.2 with ⟨h, _⟩ | ⟨g', cap', cur, hv, hbg, hg, hnc, hcm, hcs, htake⟩
  · cases h
  injection hv with hv _ hc
  subst hc
  have hw : IntKind.i64.wrap 0 = 0 := by rw [IntKind.wrap_i64]; rfl
  simp [Builtin.append_, run_underlying Try.underlying25, run_underlying Try.underlying3, sizeOf, typeInfo, zeroValue, hi, hz0, hz2, asInt, asIntOf, hw, hnc, storeCells]
/-- Noughts behind bytes of one's own, none of them too. -/
theorem zeros_any (W : World) (base n m g cap : Nat) (F : Nat → Int) (ho : Own W base (.slice (some ⟨g, 0, none⟩) n cap) n F) (hm : n + m ≤ 1000000) (hbase : base ≤ W.heap.size) (hg : base ≤ g) (z : Int) (hz : z = (m : Int)) :
    ∃ g' cap' W', (∀ ty, (Builtin.append_ #[25, 3] ty #[.slice (some ⟨g, 0, none⟩) n cap, .int .i64 z]).run Try.prog W = .ok (.slice (some ⟨g', 0, none⟩) (n + m) cap') W') ∧ Own W' base (.slice (some ⟨g', 0, none⟩) (n + m) cap') (n + m) (cat F n (fun _ => 0)) ∧ Below base W W' := by
  subst hz
  by_cases e : m = 0
  · subst e
    refine ⟨g, cap, W, fun ty => zeros_none ty W base n g cap F ho, Own.congr ho ?_, Below.refl _ _⟩
    intro j hj
    unfold cat
    rw [if_pos (by omega)]
  · obtain ⟨v', W', hr, g', cap', rfl, _, hO, hB⟩ := zeros_but 25 W base n m g cap F ho (by omega) hm hbase
    refine ⟨g', cap', W', fun ty => hr, hO, hB.below hg hbase⟩
theorem num_5 (s : Blk) : (cl .i64 5 s.num).toArray = #[.int .i64 (s.x 0), .int .i64 (s.x 1), .int .i64 (s.x 2), .int .i64 (s.k : Int), .int .i64 (s.n : Int)] := rfl
theorem beh_num (s : Blk) (p : Nat) (x : Int) (hp : p < 37) (hx : s.num p = x) (q : Nat) (hq : q < 4 * p + 4) : cat s.beh (4 * p) (byt x) q = s.beh q := by
  unfold cat
  by_cases g : q < 4 * p
  · rw [if_pos g]
  · rw [if_neg g]
    unfold Blk.beh
    rw [if_pos (by omega), show q / 4 = p by omega, hx, show q % 4 = q - 4 * p by omega]
/-- What behind answers. -/
def BehP (w : World) (s : Blk) (e : Ending) (w' : World) : Prop := ∃ g cap, e = .returned (.slice (some ⟨g, 0, none⟩) 1008 cap) ∧ w.heap.size ≤ g ∧ Arg w' (some ⟨g, 0, none⟩) 1008 s.beh ∧ Below w.heap.size w w'
theorem Rec19.low {W W' : World} {n o B : Nat} {cs : List Value} (h : Rec19 W n o cs) (hB : Below B W W') (hn : n < B) : Rec19 W' n o cs :=
  ⟨fun j v hj => (hB.cell (p := ⟨n, o + j, none⟩) hn).trans (h.1 j v hj), fun j hj => by rw [hB.cell (p := ⟨n, o + j, none⟩) hn, hB.frozen (p := ⟨n, o + j, none⟩) hn]; exact h.2.1 j hj, Nat.lt_of_lt_of_le h.2.2 hB.size⟩
theorem IRow.low {u v : World} {b B : Nat} {k : IntKind} {N : Nat} {f : Nat → Int} (h : IRow u b k N f) (hB : Below B u v) (hn : b < B) : IRow v b k N f :=
  ⟨fun j hj => (hB.cell (p := ⟨b, j, none⟩) hn).trans (h.1 j hj), fun j => (hB.frozen (p := ⟨b, j, none⟩) hn).trans (h.2.1 j), Nat.lt_of_lt_of_le h.2.2 hB.size⟩
theorem rangeAt_low {W W' : World} {b o : Nat} {cs : List Value} (h : W.rangeAt b o cs) (hB : Below W.heap.size W W') (hb : b < W.heap.size) : W'.rangeAt b o cs := fun j v hj => (hB.cell (p := ⟨b, o + j, none⟩) hb).trans (h j v hj)
def be1 (w : World) (s : Blk) (W2 : World) (v i : Value) (W : World) : Prop := ∃ k : Nat, k ≤ 5 ∧ i = .int .i64 k ∧ (∃ q cap, v = .slice q (4 * k) cap) ∧ Own W (w.heap.size + 2) v (4 * k) s.beh ∧ Below (w.heap.size + 2) W2 W
def be2 (w : World) (s : Blk) (W2 : World) (v i : Value) (W : World) : Prop := ∃ (k g cap : Nat), k ≤ 16 ∧ i = .int .i64 k ∧ v = .slice (some ⟨g, 0, none⟩) (20 + 8 * k) cap ∧ w.heap.size + 2 ≤ g ∧ g < W.heap.size ∧ Own W (w.heap.size + 2) v (20 + 8 * k) s.beh ∧ Below (w.heap.size + 2) W2 W
theorem beh_two (s : Blk) (k : Nat) (hk : k < 16) (x y : Int) (hx : s.num (5 + 2 * k) = x) (hy : s.num (5 + 2 * k + 1) = y) (q : Nat) (hq : q < 20 + 8 * k + 4 + 4) : cat (cat s.beh (20 + 8 * k) (byt x)) (20 + 8 * k + 4) (byt y) q = s.beh q := by
  by_cases g : q < 20 + 8 * k + 4
  · have := beh_num s (5 + 2 * k) x (by omega) hx q (by omega)
    rw [show 4 * (5 + 2 * k) = 20 + 8 * k by omega] at this
    rw [← this]
    show (if q < 20 + 8 * k + 4 then cat s.beh (20 + 8 * k) (byt x) q else _) = _
    rw [if_pos g]
  · have := beh_num s (5 + 2 * k + 1) y (by omega) hy q (by omega)
    rw [show 4 * (5 + 2 * k + 1) = 20 + 8 * k + 4 by omega] at this
    rw [← this]
    unfold cat
    rw [if_neg g, if_neg g]
theorem num_ref (s : Blk) (j : Nat) (h : j < 2 * s.k) : s.num (5 + j) = s.h j := by
  unfold Blk.num
  rw [if_neg (by omega), if_neg (by omega), if_neg (by omega), if_pos (by omega), show 5 + j - 5 = j by omega]
theorem num_none (s : Blk) (j : Nat) (h : 2 * s.k ≤ j) : s.num (5 + j) = 0 := by
  unfold Blk.num
  rw [if_neg (by omega), if_neg (by omega), if_neg (by omega), if_neg (by omega)]
theorem beh_body (s : Blk) (q : Nat) (hq : q < 148 + s.n) : cat s.beh 148 s.F q = s.beh q := by
  unfold cat
  by_cases g : q < 148
  · rw [if_pos g]
  · rw [if_neg g]
    unfold Blk.beh
    rw [if_neg g, if_pos (by omega)]
theorem beh_rest (s : Blk) (q : Nat) : cat s.beh (148 + s.n) (fun _ => 0) q = s.beh q := by
  unfold cat
  by_cases g : q < 148 + s.n
  · rw [if_pos g]
  · rw [if_neg g]
    unfold Blk.beh
    rw [if_neg (by omega), if_neg (by omega)]
set_option maxRecDepth 100000 in
set_option maxHeartbeats 4000000 in
theorem behind_any' (s : Blk) (a b : Option Addr) (C D : Nat) (w : World) (hA : BlkAt w s a C b D) (hn : s.n ≤ 860) : Calls Try.prog 29 #[blkV s a C b D] w (BehP w s) := by
  have HA := hidIt hA
  clear hA
  unfold blkV
  go_enter Try.func29, Try.ntmps29
  go_wp2_with (refine wpList_box_rec rfl 27 (.tmp 0) rfl (blkC s a C b D) rfl w.heap.size rfl ?_; intro W0 R0 B0 z0; have c0 := R0.1 0 _ rfl; have c1 := R0.1 1 _ rfl; have c2 := R0.1 2 _ rfl; have c3 := R0.1 3 _ rfl; have c4 := R0.1 4 _ rfl; simp only [Nat.zero_add] at c0 c1 c2 c3 c4; have RB := hidIt R0; have BB := hidIt B0; clear R0 B0)
  have I2 : Hid (IRow (W0.alloc (.cells #[.int .i64 (s.x 0), .int .i64 (s.x 1), .int .i64 (s.x 2), .int .i64 (s.k : Int), .int .i64 (s.n : Int)] 3)) (w.heap.size + 1) .i64 5 s.num) := by
    have := IRow.new W0 3 .i64 5 s.num
    rw [num_5, z0] at this
    exact this
  have BA : Below W0.heap.size W0 (W0.alloc (.cells #[.int .i64 (s.x 0), .int .i64 (s.x 1), .int .i64 (s.x 2), .int .i64 (s.k : Int), .int .i64 (s.n : Int)] 3)) := (Below.refl _ _).alloc (Nat.le_refl _) _
  have RX := hidIt (RB.out.below BA)
  have E2 := hidIt (below_sh (Nat.le_refl _) BB.out BA)
  have Z2 : Hid ((W0.alloc (.cells #[.int .i64 (s.x 0), .int .i64 (s.x 1), .int .i64 (s.x 2), .int .i64 (s.k : Int), .int .i64 (s.n : Int)] 3)).heap.size = w.heap.size + 2) := by
    show (W0.alloc _).heap.size = _
    simp [z0]
  clear BA RB BB c0 c1 c2 c3 c4 z0
  generalize W0.alloc (.cells #[.int .i64 (s.x 0), .int .i64 (s.x 1), .int .i64 (s.x 2), .int .i64 (s.k : Int), .int .i64 (s.n : Int)] 3) = W2 at I2 RX E2 Z2 ⊢
  have ST : Hid (be1 w s W2 (.slice none 0 0) (.int .i64 0) W2) := ⟨0, by omega, rfl, ⟨_, _, rfl⟩, Own.nil _ _ _, Below.refl _ _⟩
  go_loopw [3, 5] (fun v i wr => be1 w s W2 v i wr) (fun _ i _ => 5 - (RowKit.intOf i).toNat)
  case atStart => exact ST.out
  case round =>
    obtain ⟨k, hk5, rfl, ⟨q, cap, rfl⟩, hO, hB⟩ := hrel
    clear ST
    have OO := hidIt hO
    have BE := hidIt hB
    clear hO hB
    by_cases hlt : k < 5
    · have i0 : (k : Int) < 5 := by omega
      have ck := (I2.out.low BE.out (by omega)).1 k hlt
      go_wp2_with (go_at_call 41; refine (rput_own _ (4 * k) (w.heap.size + 2) s.beh (s.num k) _ OO.out (by have := BE.out.size; have := Z2.out; omega) (by omega)).mono ?_; rintro e w5 ⟨v5, rfl, hO5, hB5⟩
                   obtain ⟨q5, cap5, rfl⟩ := hO5.shape
                   have P5 : Hid (be1 w s W2 (.slice q5 (4 * k + 4) cap5) (.int .i64 ((k : Int) + 1)) w5) := ⟨k + 1, by omega, by go_num, ⟨q5, cap5, rfl⟩, hO5.congr (beh_num s k _ (by omega) rfl), BE.out.trans hB5⟩
                   clear hO5 hB5)
      go_roundw
      case rel => exact P5.out
      case measure => simp [RowKit.intOf]; omega
    · obtain rfl : k = 5 := by omega
      rw [show ((5 : Nat) : Int) = 5 from rfl]
      obtain ⟨g, cap', e, hg, hc, hl⟩ := OO.out.form (by omega) (fun j _ => s.beh_byte HA.out.byt j)
      injection e with e _ e2
      subst e e2
      have ST : Hid (be2 w s W2 (.slice (some ⟨g, 0, none⟩) (4 * 5) cap) (.int .i64 0) wr) := ⟨0, g, cap, by omega, rfl, rfl, hg, hl.2.2, OO.out, BE.out⟩
      clear hg hc hl OO BE
      go_wp2_with fail
      go_loopw [3, 6] (fun v i wr => be2 w s W2 v i wr) (fun _ i _ => 16 - (RowKit.intOf i).toNat)
      case atStart => exact ST.out
      case round =>
        obtain ⟨k, g, cap, hk16, rfl, rfl, hg, hgl, hO, hB⟩ := hrel
        clear ST
        have OO := hidIt hO
        have BE := hidIt hB
        have GG : Hid (w.heap.size + 2 ≤ g ∧ g < wr.heap.size) := ⟨hg, hgl⟩
        have RE := hidIt (RX.out.low hB (by omega))
        have c3 := RE.out.1 3 _ rfl
        have c4 := RE.out.1 4 _ rfl
        simp only [Nat.zero_add] at c3 c4
        clear hO hB hg hgl
        by_cases hlt : k < 16
        · have i0 : (k : Int) < 16 := by omega
          obtain ⟨y0, e0⟩ : ∃ y, s.num (5 + 2 * k) = y := ⟨_, rfl⟩
          obtain ⟨y1, e1⟩ : ∃ y, s.num (5 + 2 * k + 1) = y := ⟨_, rfl⟩
          have EE : Hid (s.num (5 + 2 * k) = y0 ∧ s.num (5 + 2 * k + 1) = y1) := ⟨e0, e1⟩
          have E0 : Hid (Below w.heap.size w wr) := E2.out.trans (BE.out.mono (by omega))
          by_cases hi : k < s.k
          · have i1 : (k : Int) < (s.k : Int) := by omega
            rcases HA.out.refs.below E0.out with e | ⟨p, o, rfl, hc, hb⟩
            · omega
            have r2 : Hid (wr.rangeAt p (o + k * 2) (twoC y0 y1)) := by
              have := HArg.two hc hi
              rw [← num_ref s (2 * k) (by omega), ← num_ref s (2 * k + 1) (by omega), e0, show 5 + (2 * k + 1) = 5 + 2 * k + 1 by omega, e1] at this
              exact this
            have PL : Hid (p < wr.heap.size) := hb
            clear hc hb e0 e1
            go_wp2_with (first
              | (refine wpList_alloc_rec rfl 23 rfl (twoC 0 0) wr.heap.size rfl zero_ref ?_; intro W3 R3 B3 z3; have r3 := hidIt (rangeAt_low r2.out B3 PL.out); have R3' := hidIt R3; have B3' := hidIt B3; have d3 := (B3.cell (p := ⟨w.heap.size, 3, none⟩) (by show w.heap.size < wr.heap.size; exact RE.out.2.2)).trans c3; clear R3 B3)
              | (refine wpList_load_g (by rfl) 23 (.tmp 47) rfl p (o + k * 2) _ (by first | rfl | simp) _ Try.underlying23 rfl (by kernel_rfl) r3.out ?_)
              | (refine wpList_store_rec rfl 23 (.tmp 7) (.tmp 48) rfl wr.heap.size 0 (twoC 0 0) (twoC y0 y1) rfl rfl R3'.out rfl (by kernel_rfl) (twoC_one _ _) ?_; intro W4 R4 B4; have R4' := hidIt R4; have B4' := hidIt (B3'.out.trans (B4.below (Nat.le_refl _) B3'.out.size)); clear R4 B4 d3))
            refine wp_region_noPanic ?_
            refine wp_region_held_drew (S := fun W' => W'.cell? ⟨wr.heap.size, 0, none⟩ = some (.int .i64 y0) ∧ W'.cell? ⟨wr.heap.size, 1, none⟩ = some (.int .i64 y1)) (by kernel_rfl) ?_ (fun hHeld => ?_)
            · exact ⟨R4'.out.1 0 _ rfl, R4'.out.1 1 _ rfl⟩
            refine take_at (i := 0) (v := ?_) (some 49) rfl rfl (by kernel_rfl) (by kernel_rfl) (by kernel_rfl) (fun _ _ _ h => h) (Or.inl ⟨by rfl, ?_⟩) (by assumption) ?_
            rotate_left
            · (intro w hSw; (try dsimp only at hSw); (try obtain ⟨q1, q2⟩ := hSw); go_simp; try with_reducible rfl)
            simp only [Act.put, List.setIfInBounds_toArray, List.set_cons_zero, List.set_cons_succ]
            refine take_at (i := 1) (v := ?_) (some 50) rfl rfl (by kernel_rfl) (by kernel_rfl) (by kernel_rfl) (fun _ _ _ h => h) (Or.inl ⟨by rfl, ?_⟩) (by assumption) ?_
            rotate_left
            · (intro w hSw; (try dsimp only at hSw); (try obtain ⟨q1, q2⟩ := hSw); go_simp; try with_reducible rfl)
            simp only [Act.put, List.setIfInBounds_toArray, List.set_cons_zero, List.set_cons_succ]
            refine take_at (i := 2) (v := ?_) (some 51) rfl rfl (by kernel_rfl) (by kernel_rfl) (by kernel_rfl) (fun _ _ _ h => h) (Or.inl ⟨by rfl, ?_⟩) (by assumption) ?_
            rotate_left
            · (intro w hSw; (try dsimp only at hSw); (try obtain ⟨q1, q2⟩ := hSw); go_simp; try with_reducible rfl)
            simp only [Act.put, List.setIfInBounds_toArray, List.set_cons_zero, List.set_cons_succ]
            refine take_at (i := 4) (v := ?_) (some 53) rfl rfl (by kernel_rfl) (by kernel_rfl) (by kernel_rfl) (fun _ _ _ h => h) (Or.inl ⟨by rfl, ?_⟩) (by assumption) ?_
            rotate_left
            · (intro w hSw; (try dsimp only at hSw); (try obtain ⟨q1, q2⟩ := hSw); go_simp; try with_reducible rfl)
            simp only [Act.put, List.setIfInBounds_toArray, List.set_cons_zero, List.set_cons_succ]
            refine take_at (i := 5) (v := ?_) (some 54) rfl rfl (by kernel_rfl) (by kernel_rfl) (by kernel_rfl) (fun _ _ _ h => h) (Or.inl ⟨by rfl, ?_⟩) (by assumption) ?_
            rotate_left
            · (intro w hSw; (try dsimp only at hSw); (try obtain ⟨q1, q2⟩ := hSw); go_simp; try with_reducible rfl)
            simp only [Act.put, List.setIfInBounds_toArray, List.set_cons_zero, List.set_cons_succ]
            refine call_at (i := 3) (some 52) 41 _ _ rfl rfl rfl (by rfl) (by kernel_rfl) #[.slice (some ⟨g, 0, none⟩) (20 + 8 * k) cap, .int .i64 y0] rfl Try.func41 (by kernel_rfl) (by kernel_rfl) ?_
            refine (rput_but g cap (20 + 8 * k) (w.heap.size + 2) s.beh y0 W4.drew (OO.out.below B4'.out.drew) (by have := BE.out.size; have := B4'.out.size; have := Z2.out; show w.heap.size + 2 ≤ W4.heap.size; omega) (by omega)).mono ?_
            rintro e w5 ⟨v5, rfl, g5, cap5, rfl, hg5, hO5, hB5⟩
            have XL : wr.heap.size < W4.heap.size := R4'.out.2.2
            have O5 := hidIt hO5
            have B5 := hidIt hB5
            have G5 : Hid (g5 = g ∨ W4.heap.size ≤ g5) := hg5
            have K5 : Hid (Rec19 w5 wr.heap.size 0 (twoC y0 y1)) := Rec19.but (W := W4.drew) R4'.out hB5 (by have := GG.out.2; omega)
            clear hO5 hB5 hg5
            refine ⟨_, rfl, ⟨K5.out.1 0 _ rfl, K5.out.1 1 _ rfl⟩, fun hHeld => ?_⟩
            simp only [Act.put, List.setIfInBounds_toArray, List.set_cons_zero, List.set_cons_succ]
            refine call_at (i := 6) (some 55) 41 _ _ rfl rfl rfl (by rfl) (by kernel_rfl) #[.slice (some ⟨g5, 0, none⟩) (20 + 8 * k + 4) cap5, .int .i64 y1] rfl Try.func41 (by kernel_rfl) (by kernel_rfl) ?_
            refine (rput_but g5 cap5 (20 + 8 * k + 4) (w.heap.size + 2) _ y1 w5 O5.out (by have := BE.out.size; have := B4'.out.size; have := B5.out.size; have := Z2.out; have q : W4.drew.heap.size = W4.heap.size := rfl; omega) (by omega)).mono ?_
            rintro e w6 ⟨v6, rfl, g6, cap6, rfl, hg6, hO6, hB6⟩
            have K6 : Hid (Rec19 w6 wr.heap.size 0 (twoC y0 y1)) := K5.out.but hB6 (by have := GG.out.2; have := G5.out; omega)
            have PP : Hid (be2 w s W2 (.slice (some ⟨g6, 0, none⟩) (20 + 8 * k + 4 + 4) cap6) (.int .i64 ((k : Int) + 1)) w6) := by
              have q0 : W4.drew.heap.size = W4.heap.size := rfl
              have q1 := B5.out.size
              have q2 := hO6.congr (beh_two s k hlt y0 y1 EE.out.1 EE.out.2)
              obtain ⟨g8, cap8, e8, hg8, hc8, hl8⟩ := q2.form (by omega) (fun j _ => s.beh_byte HA.out.byt j)
              injection e8 with e8 _ e9
              injection e8 with e8
              injection e8 with e8
              subst e8 e9
              refine ⟨k + 1, g6, cap6, by omega, by go_num, rfl, hg8, hl8.2.2, q2, ?_⟩
              have b1 : Below (w.heap.size + 2) W2 W4.drew := (BE.out.trans (B4'.out.mono (by have := BE.out.size; have := Z2.out; omega))).drew
              have b2 := b1.trans (B5.out.below GG.out.1 (by have := b1.size; have := Z2.out; omega))
              exact b2.trans (hB6.below (by have := G5.out; have := GG.out.1; have := BE.out.size; have := B4'.out.size; have := Z2.out; omega) (by have := b2.size; have := Z2.out; omega))
            clear hg6 hO6 hB6
            refine ⟨_, rfl, ⟨K6.out.1 0 _ rfl, K6.out.1 1 _ rfl⟩, fun hHeld => ?_⟩
            simp only [Act.put, List.setIfInBounds_toArray, List.set_cons_zero, List.set_cons_succ]
            refine take_at (i := 7) (v := ?_) (some 3) rfl rfl (by kernel_rfl) (by kernel_rfl) (by kernel_rfl) (fun _ _ _ h => h) (Or.inl ⟨by rfl, ?_⟩) (by assumption) ?_
            rotate_left
            · (intro w hSw; (try dsimp only at hSw); (try obtain ⟨q1, q2⟩ := hSw); go_simp; try with_reducible rfl)
            simp only [Act.put, List.setIfInBounds_toArray, List.set_cons_zero, List.set_cons_succ]
            refine wpAnyH_done (by kernel_rfl) ?_ _
            refine NoPanic.normal ?_
            go_wp2_with fail
            go_roundw
            case rel => exact PP.out
            case measure => simp [RowKit.intOf]; omega
          · have i1 : ¬ (k : Int) < (s.k : Int) := by omega
            rw [num_none s (2 * k) (by omega)] at e0
            rw [show 5 + 2 * k + 1 = 5 + (2 * k + 1) by omega, num_none s (2 * k + 1) (by omega)] at e1
            subst e0 e1
            go_wp2_with (refine wpList_alloc_rec rfl 23 rfl (twoC 0 0) wr.heap.size rfl zero_ref ?_; intro W4 R4 B4 z4; have R4' := hidIt R4; have B4' := hidIt B4; have d3 := (B4.cell (p := ⟨w.heap.size, 3, none⟩) (by show w.heap.size < wr.heap.size; exact RE.out.2.2)).trans c3; clear R4 B4 z4)
            refine wp_region_noPanic ?_
            refine wp_region_held_drew (S := fun W' => W'.cell? ⟨wr.heap.size, 0, none⟩ = some (.int .i64 0) ∧ W'.cell? ⟨wr.heap.size, 1, none⟩ = some (.int .i64 0)) (by kernel_rfl) ?_ (fun hHeld => ?_)
            · exact ⟨R4'.out.1 0 _ rfl, R4'.out.1 1 _ rfl⟩
            refine take_at (i := 0) (v := ?_) (some 49) rfl rfl (by kernel_rfl) (by kernel_rfl) (by kernel_rfl) (fun _ _ _ h => h) (Or.inl ⟨by rfl, ?_⟩) (by assumption) ?_
            rotate_left
            · (intro w hSw; (try dsimp only at hSw); (try obtain ⟨q1, q2⟩ := hSw); go_simp; try with_reducible rfl)
            simp only [Act.put, List.setIfInBounds_toArray, List.set_cons_zero, List.set_cons_succ]
            refine take_at (i := 1) (v := ?_) (some 50) rfl rfl (by kernel_rfl) (by kernel_rfl) (by kernel_rfl) (fun _ _ _ h => h) (Or.inl ⟨by rfl, ?_⟩) (by assumption) ?_
            rotate_left
            · (intro w hSw; (try dsimp only at hSw); (try obtain ⟨q1, q2⟩ := hSw); go_simp; try with_reducible rfl)
            simp only [Act.put, List.setIfInBounds_toArray, List.set_cons_zero, List.set_cons_succ]
            refine take_at (i := 2) (v := ?_) (some 51) rfl rfl (by kernel_rfl) (by kernel_rfl) (by kernel_rfl) (fun _ _ _ h => h) (Or.inl ⟨by rfl, ?_⟩) (by assumption) ?_
            rotate_left
            · (intro w hSw; (try dsimp only at hSw); (try obtain ⟨q1, q2⟩ := hSw); go_simp; try with_reducible rfl)
            simp only [Act.put, List.setIfInBounds_toArray, List.set_cons_zero, List.set_cons_succ]
            refine take_at (i := 4) (v := ?_) (some 53) rfl rfl (by kernel_rfl) (by kernel_rfl) (by kernel_rfl) (fun _ _ _ h => h) (Or.inl ⟨by rfl, ?_⟩) (by assumption) ?_
            rotate_left
            · (intro w hSw; (try dsimp only at hSw); (try obtain ⟨q1, q2⟩ := hSw); go_simp; try with_reducible rfl)
            simp only [Act.put, List.setIfInBounds_toArray, List.set_cons_zero, List.set_cons_succ]
            refine take_at (i := 5) (v := ?_) (some 54) rfl rfl (by kernel_rfl) (by kernel_rfl) (by kernel_rfl) (fun _ _ _ h => h) (Or.inl ⟨by rfl, ?_⟩) (by assumption) ?_
            rotate_left
            · (intro w hSw; (try dsimp only at hSw); (try obtain ⟨q1, q2⟩ := hSw); go_simp; try with_reducible rfl)
            simp only [Act.put, List.setIfInBounds_toArray, List.set_cons_zero, List.set_cons_succ]
            refine call_at (i := 3) (some 52) 41 _ _ rfl rfl rfl (by rfl) (by kernel_rfl) #[.slice (some ⟨g, 0, none⟩) (20 + 8 * k) cap, .int .i64 0] rfl Try.func41 (by kernel_rfl) (by kernel_rfl) ?_
            refine (rput_but g cap (20 + 8 * k) (w.heap.size + 2) s.beh 0 W4.drew (OO.out.below B4'.out.drew) (by have := BE.out.size; have := B4'.out.size; have := Z2.out; show w.heap.size + 2 ≤ W4.heap.size; omega) (by omega)).mono ?_
            rintro e w5 ⟨v5, rfl, g5, cap5, rfl, hg5, hO5, hB5⟩
            have XL : wr.heap.size < W4.heap.size := R4'.out.2.2
            have O5 := hidIt hO5
            have B5 := hidIt hB5
            have G5 : Hid (g5 = g ∨ W4.heap.size ≤ g5) := hg5
            have K5 : Hid (Rec19 w5 wr.heap.size 0 (twoC 0 0)) := Rec19.but (W := W4.drew) R4'.out hB5 (by have := GG.out.2; omega)
            clear hO5 hB5 hg5
            refine ⟨_, rfl, ⟨K5.out.1 0 _ rfl, K5.out.1 1 _ rfl⟩, fun hHeld => ?_⟩
            simp only [Act.put, List.setIfInBounds_toArray, List.set_cons_zero, List.set_cons_succ]
            refine call_at (i := 6) (some 55) 41 _ _ rfl rfl rfl (by rfl) (by kernel_rfl) #[.slice (some ⟨g5, 0, none⟩) (20 + 8 * k + 4) cap5, .int .i64 0] rfl Try.func41 (by kernel_rfl) (by kernel_rfl) ?_
            refine (rput_but g5 cap5 (20 + 8 * k + 4) (w.heap.size + 2) _ 0 w5 O5.out (by have := BE.out.size; have := B4'.out.size; have := B5.out.size; have := Z2.out; have q : W4.drew.heap.size = W4.heap.size := rfl; omega) (by omega)).mono ?_
            rintro e w6 ⟨v6, rfl, g6, cap6, rfl, hg6, hO6, hB6⟩
            have K6 : Hid (Rec19 w6 wr.heap.size 0 (twoC 0 0)) := K5.out.but hB6 (by have := GG.out.2; have := G5.out; omega)
            have PP : Hid (be2 w s W2 (.slice (some ⟨g6, 0, none⟩) (20 + 8 * k + 4 + 4) cap6) (.int .i64 ((k : Int) + 1)) w6) := by
              have q0 : W4.drew.heap.size = W4.heap.size := rfl
              have q1 := B5.out.size
              have q2 := hO6.congr (beh_two s k hlt 0 0 EE.out.1 EE.out.2)
              obtain ⟨g8, cap8, e8, hg8, hc8, hl8⟩ := q2.form (by omega) (fun j _ => s.beh_byte HA.out.byt j)
              injection e8 with e8 _ e9
              injection e8 with e8
              injection e8 with e8
              subst e8 e9
              refine ⟨k + 1, g6, cap6, by omega, by go_num, rfl, hg8, hl8.2.2, q2, ?_⟩
              have b1 : Below (w.heap.size + 2) W2 W4.drew := (BE.out.trans (B4'.out.mono (by have := BE.out.size; have := Z2.out; omega))).drew
              have b2 := b1.trans (B5.out.below GG.out.1 (by have := b1.size; have := Z2.out; omega))
              exact b2.trans (hB6.below (by have := G5.out; have := GG.out.1; have := BE.out.size; have := B4'.out.size; have := Z2.out; omega) (by have := b2.size; have := Z2.out; omega))
            clear hg6 hO6 hB6
            refine ⟨_, rfl, ⟨K6.out.1 0 _ rfl, K6.out.1 1 _ rfl⟩, fun hHeld => ?_⟩
            simp only [Act.put, List.setIfInBounds_toArray, List.set_cons_zero, List.set_cons_succ]
            refine take_at (i := 7) (v := ?_) (some 3) rfl rfl (by kernel_rfl) (by kernel_rfl) (by kernel_rfl) (fun _ _ _ h => h) (Or.inl ⟨by rfl, ?_⟩) (by assumption) ?_
            rotate_left
            · (intro w hSw; (try dsimp only at hSw); (try obtain ⟨q1, q2⟩ := hSw); go_simp; try with_reducible rfl)
            simp only [Act.put, List.setIfInBounds_toArray, List.set_cons_zero, List.set_cons_succ]
            refine wpAnyH_done (by kernel_rfl) ?_ _
            refine NoPanic.normal ?_
            go_wp2_with fail
            go_roundw
            case rel => exact PP.out
            case measure => simp [RowKit.intOf]; omega
        · obtain rfl : k = 16 := by omega
          rw [show ((16 : Nat) : Int) = 16 from rfl]
          have E0 : Hid (Below w.heap.size w wr) := E2.out.trans (BE.out.mono (by omega))
          obtain ⟨v6, W6, h6, hO6, hB6⟩ := app_arg 25 wr (w.heap.size + 2) 148 s.n D _ b s.beh s.F OO.out (HA.out.body.below E0.out) (by omega) (by have := BE.out.size; have := Z2.out; omega)
          have hO6' := hO6.congr (beh_body s)
          obtain ⟨g6, cap6, rfl, hg6, _, _⟩ := hO6'.form (by omega) (fun j _ => s.beh_byte HA.out.byt j)
          obtain ⟨m, hm⟩ : ∃ m, 860 - s.n = m := ⟨_, rfl⟩
          obtain ⟨N, hN⟩ : ∃ N, 148 + s.n = N := ⟨_, rfl⟩
          obtain ⟨g7, cap7, W7, h7, hO7, hB7⟩ := zeros_any W6 (w.heap.size + 2) (148 + s.n) m g6 cap6 s.beh hO6' (by omega) (by have := BE.out.size; have := hB6.size; have := Z2.out; omega) hg6 (m : Int) rfl
          have i2 : (1008 : Int) - (N : Int) = (m : Int) := by omega
          have i3 : IntKind.i64.wrap (m : Int) = (m : Int) := by rw [IntKind.wrap_i64]; omega
          have NM : Hid (N + m = 1008) := by show N + m = 1008; omega
          have PP : Hid (BehP w s (.returned (.slice (some ⟨g7, 0, none⟩) (N + m) cap7)) W7) := by
            have q1 : Own W7 (w.heap.size + 2) (.slice (some ⟨g7, 0, none⟩) (148 + s.n + m) cap7) (148 + s.n + m) s.beh := hO7.congr (fun j _ => beh_rest s j)
            rw [show 148 + s.n + m = 1008 by omega] at q1
            obtain ⟨g8, cap8, e8, hg8, hc8, hl8⟩ := q1.form (by omega) (fun j _ => s.beh_byte HA.out.byt j)
            injection e8 with e8 _ e9
            injection e8 with e8
            injection e8 with e8
            subst e8 e9
            refine ⟨g7, cap7, by rw [NM.out], by omega, Arg.of hl8, E0.out.trans ((hB6.trans hB7).mono (by omega))⟩
          rw [hN] at h6 h7
          clear hO6 hO6' hB6 hO7 hB7 hg6 hm
          go_wp2_with (first
            | (at_builtin; refine wpList_append_go rfl (.tmp 56) (.tmp 58) 25 25 rfl _ _ rfl rfl h6 ?_)
            | (at_builtin; refine wpList_append_go rfl (.tmp 60) (.tmp 63) 25 3 rfl _ _ rfl rfl (h7 _) ?_))
          go_ret
          exact PP.out
end Go.Proofs.Ytmlllglgjpmicaa
