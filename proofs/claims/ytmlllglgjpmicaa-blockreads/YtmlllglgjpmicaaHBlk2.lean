/-
  Walks, not a claim by itself: a block by the reference. By the verifier.
-/
import Derived.Test.YtmlllglgjpmicaaHBlk
namespace Go.Proofs.Ytmlllglgjpmicaa
open Go.RowKit
/-- What the world has. -/
def blkW (w : World) (s : S8) (F : Nat → Int) (wr : World) : Prop := IRow wr w.heap.size .u32 8 s.at ∧ IRow wr (w.heap.size + 1) .u32 64 KF ∧ IRow wr (w.heap.size + 1 + 1) .u32 8 (fun _ => 0) ∧ IRow wr (w.heap.size + 1 + 1 + 1) .u32 64 F ∧ Below w.heap.size w wr
theorem blkW.below {w : World} {s : S8} {F : Nat → Int} {u v : World} (h : blkW w s F u) (hb : Below u.heap.size u v) : blkW w s F v :=
  ⟨h.1.below hb, h.2.1.below hb, h.2.2.1.below hb, h.2.2.2.1.below hb, h.2.2.2.2.trans (hb.mono h.2.2.2.2.size)⟩
theorem blkW.set {w : World} {s : S8} {F : Nat → Int} {u : World} (h : blkW w s F u) (i : Nat) (v : Int) : blkW w s (upd F i v) (u.setCell ⟨w.heap.size + 1 + 1 + 1, i, none⟩ (.int .u32 v)) :=
  ⟨h.1.but (But.set _ _ _) (by omega), h.2.1.but (But.set _ _ _) (by omega), h.2.2.1.but (But.set _ _ _) (by omega), h.2.2.2.1.set i v, h.2.2.2.2.setCell (by show w.heap.size ≤ w.heap.size + 1 + 1 + 1; omega) _⟩
theorem blkW.drew {w : World} {s : S8} {F : Nat → Int} {u : World} (h : blkW w s F u) : blkW w s F u.drew := h.below (Below.refl _ _).drew
theorem blkW.congr {w : World} {s : S8} {F G : Nat → Int} {u : World} (h : blkW w s F u) (e : F = G) : blkW w s G u := e ▸ h
/-- What holds at the head of the first loop. -/
def blkRel1 (w : World) (s : S8) (g : Nat → Int) (i : Value) (wr : World) : Prop := ∃ t : Nat, t ≤ 64 ∧ i = .int .i64 t ∧ blkW w s (schT g t) wr
theorem zero32_8 : (Try.prog.info? 66).bind (·.zero) = some (.agg (cl .u32 8 fun _ => 0).toArray) := by kernel_rfl
/-- What holds at the head of the third loop. -/
def blkRel3 (w : World) (p : Nat) (s : S8) (X : Nat → Int) (i : Value) (wr : World) : Prop := ∃ t : Nat, t ≤ 64 ∧ i = .int .i64 t ∧ IRow wr p .u32 8 (rnds KF X s t).at ∧ blkW w s X wr
/-- What holds at the head of the loop in it. -/
def blkRel2 (w : World) (s : S8) (g : Nat → Int) (t : Nat) (i : Value) (wr : World) : Prop := ∃ k : Nat, k ≤ 4 ∧ i = .int .i64 k ∧ blkW w s (upd (schT g t) t (acc g t k)) wr
theorem blkW.but {w : World} {s : S8} {F : Nat → Int} {u v : World} {p : Nat} (h : blkW w s F u) (hp : w.heap.size + 1 + 1 + 1 < p) (hB : But p u v) : blkW w s F v := by
  obtain ⟨h1, h2, h3, h4, h5⟩ := h
  exact ⟨h1.but hB (by omega), h2.but hB (by omega), h3.but hB (by omega), h4.but hB (by omega), h5.trans (hB.below (by omega) h5.size)⟩
/-- The words, t of them added to. -/
def plusH (s r : S8) (t j : Nat) : Int := if j < t then (s.at j + r.at j) % 4294967296 else s.at j
theorem plusH_step (s r : S8) (t : Nat) : upd (plusH s r t) t ((plusH s r t t + r.at t) % 4294967296) = plusH s r (t + 1) := by
  funext j
  unfold upd plusH
  by_cases h : j = t
  · subst h; rw [if_pos rfl, if_neg (by omega), if_pos (by omega)]
  · rw [if_neg h]
    by_cases g : j < t
    · rw [if_pos g, if_pos (by omega)]
    · rw [if_neg g, if_neg (by omega)]
theorem plusH_end (s r : S8) : Value.agg (cl .u32 8 (plusH s r 8)).toArray = (s.plus r).val := by
  rw [cl_congr .u32 8 (plusH s r 8) (s.plus r).at (fun j hj => by
    unfold plusH
    rw [if_pos hj, Int.add_comm]
    match j, hj with
    | 0, _ | 1, _ | 2, _ | 3, _ | 4, _ | 5, _ | 6, _ | 7, _ => rfl
    | j + 8, hj => omega)]
  rfl
/-- What holds at the head of the fourth loop. -/
def blkRel4 (w : World) (p : Nat) (s r : S8) (i : Value) (wr : World) : Prop := ∃ t : Nat, t ≤ 8 ∧ i = .int .i64 t ∧ IRow wr w.heap.size .u32 8 (plusH s r t) ∧ IRow wr p .u32 8 r.at ∧ IRow wr (w.heap.size + 1 + 1) .u32 8 (fun _ => 0) ∧ Below w.heap.size w wr
theorem upd_same (F : Nat → Int) (i : Nat) (v u : Int) : upd (upd F i v) i u = upd F i u := by
  funext j; unfold upd; by_cases h : j = i
  · rw [if_pos h, if_pos h]
  · rw [if_neg h, if_neg h, if_neg h]
theorem upd_at (F : Nat → Int) (i : Nat) (v : Int) : upd F i v i = v := by unfold upd; rw [if_pos rfl]
set_option maxRecDepth 100000 in
set_option maxHeartbeats 2000000 in
theorem block_any (s : S8) (b off L C at' : Nat) (f : Nat → Int) (w : World) (h : Lies w b off L f) (hL : at' + 64 ≤ L) (hm : L ≤ 1000000) :
    Calls Try.prog 53 #[s.val, .agg (cl .u32 64 KF).toArray, .slice (some ⟨b, off, none⟩) L C, .int .i64 at'] w fun e w' => e = .returned (comp s (fun j => f (at' + j))).val ∧ Below w.heap.size w w' := by
  have LL : Hid (Lies w b off L f) := h
  have hb := h.2.2
  clear h
  go_enter Try.func53, Try.ntmps53
  go_wp2_with (refine wpList_alloc_row rfl 80 rfl .u32 64 (w.heap.size + 1 + 1 + 1) (by simp) zero32_64 ?_; intro W1 hR1 hB1 hz1)
  have ST : Hid (blkRel1 w s (fun j => f (at' + j)) (.int .i64 0) W1) := by
    have A := ((IRow.new w 66 .u32 8 s.at).alloc (.cells (cl .u32 64 KF).toArray 80)).alloc (.cells (cl .u32 8 fun _ => 0).toArray 66)
    have B := (IRow.new (w.alloc (.cells (cl .u32 8 s.at).toArray 66)) 80 .u32 64 KF).alloc (.cells (cl .u32 8 fun _ => 0).toArray 66)
    have C := IRow.new ((w.alloc (.cells (cl .u32 8 s.at).toArray 66)).alloc (.cells (cl .u32 64 KF).toArray 80)) 66 .u32 8 fun _ => 0
    have D : Below w.heap.size w (((w.alloc (.cells (cl .u32 8 s.at).toArray 66)).alloc (.cells (cl .u32 64 KF).toArray 80)).alloc (.cells (cl .u32 8 fun _ => 0).toArray 66)) := (((Below.refl _ _).alloc (Nat.le_refl _) _).alloc (by simp) _).alloc (by simp; omega) _
    simp only [World.size_alloc] at B C
    have hB1' : Below (((w.alloc (.cells (cl .u32 8 s.at).toArray 66)).alloc (.cells (cl .u32 64 KF).toArray 80)).alloc (.cells (cl .u32 8 fun _ => 0).toArray 66)).heap.size (((w.alloc (.cells (cl .u32 8 s.at).toArray 66)).alloc (.cells (cl .u32 64 KF).toArray 80)).alloc (.cells (cl .u32 8 fun _ => 0).toArray 66)) W1 := by simp only [World.size_alloc]; exact hB1
    exact ⟨0, by omega, rfl, A.below hB1', B.below hB1', C.below hB1', hR1.congr (fun j _ => (schT_zero _ 0 j (by omega) (by omega)).symm), D.trans (hB1'.mono (by simp; omega))⟩
  clear hR1 hB1 hz1
  go_loopw [10] (fun i wr => blkRel1 w s (fun j => f (at' + j)) i wr) (fun i _ => 64 - (intOf i).toNat)
  case atStart => exact ST.out
  case round =>
    obtain ⟨t, ht, rfl, HW⟩ := hrel
    clear ST
    have HH : Hid (blkW w s (schT (fun j => f (at' + j)) t) wr) := HW
    clear HW
    by_cases hlt : t < 64
    · by_cases h16 : t < 16
      · have k0 : (t : Int) < 64 := by omega
        have k1 : (t : Int) < 16 := by omega
        go_wp2_with fail
        have ST : Hid (blkRel2 w s (fun j => f (at' + j)) t (.int .i64 0) wr) := ⟨0, by omega, rfl, HH.out.congr (by
          funext j; unfold upd; by_cases e : j = t
          · rw [if_pos e, e, schT_zero _ t t h16 (Nat.le_refl _)]; rfl
          · rw [if_neg e])⟩
        clear HH
        go_loopw [11] (fun i wr => blkRel2 w s (fun j => f (at' + j)) t i wr) (fun i _ => 4 - (intOf i).toNat)
        case atStart => exact ST.out
        case round =>
          obtain ⟨k, hk, rfl, HW⟩ := hrel
          clear ST
          have HH : Hid (blkW w s (upd (schT (fun j => f (at' + j)) t) t (acc (fun j => f (at' + j)) t k)) wr) := HW
          by_cases hk4 : k < 4
          · have c1 := HW.2.2.2.1.1 t hlt
            have f1 := HW.2.2.2.1.2.1 t
            rw [upd_at] at c1
            have c2 : wr.cell? ⟨b, off + (at' + 4 * t + k), none⟩ = some (.int .u8 (f (at' + (4 * t + k)))) := by
              rw [show at' + (4 * t + k) = at' + 4 * t + k by omega]; exact (LL.out.below HW.2.2.2.2).1 (at' + 4 * t + k) (by omega)
            have fb := LL.out.2.1 (at' + (4 * t + k)) (by omega)
            clear HW
            have j0 : (k : Int) < 4 := by omega
            have j1 : (0 : Int) ≤ (at' : Int) + 4 * (t : Int) + (k : Int) := by omega
            have j2 : (at' : Int) + 4 * (t : Int) + (k : Int) < L := by omega
            have j3 : ((at' : Int) + 4 * (t : Int) + (k : Int)).toNat = at' + 4 * t + k := by omega
            have j4 : IntKind.i64.wrap (4 * (t : Int)) = 4 * (t : Int) := by rw [IntKind.wrap_i64]; omega
            have j5 : IntKind.i64.wrap ((at' : Int) + 4 * (t : Int)) = (at' : Int) + 4 * (t : Int) := by rw [IntKind.wrap_i64]; omega
            have j6 : IntKind.i64.wrap ((at' : Int) + 4 * (t : Int) + (k : Int)) = (at' : Int) + 4 * (t : Int) + (k : Int) := by rw [IntKind.wrap_i64]; omega
            have m1 : ¬ w.heap.size + 1 + 1 + 1 = b := by omega
            go_wp2_with fail
            go_region
            go_wp2_with fail
            exact ⟨⟨k + 1, by omega, by go_num, ((HH.out.set t _).congr (upd_same _ _ _ _)).drew⟩, by simp [intOf]; omega⟩
          · obtain rfl : k = 4 := by omega
            clear HW
            go_wp2_with fail
            exact ⟨⟨t + 1, by omega, by go_num, HH.out.congr (by rw [acc_word (fun j => f (at' + j)) t (fun i hi => LL.out.2.1 (at' + (4 * t + i)) (by omega)), schT_low _ t h16])⟩, by simp [intOf]; omega⟩
      · have HW := HH.out
        have g1 := HW.2.2.2.1.1 (t - 15) (by omega)
        have g2 := HW.2.2.2.1.1 (t - 2) (by omega)
        clear HW
        have HF : Hid (upd (schT (fun j => f (at' + j)) t) t (nxt (schT (fun j => f (at' + j)) t) t) = schT (fun j => f (at' + j)) (t + 1)) := schT_high _ t (by omega)
        generalize schT (fun j => f (at' + j)) t = F at HH HF g1 g2
        have k0 : (t : Int) < 64 := by omega
        have k1 : ¬ (t : Int) < 16 := by omega
        have n1 : (0 : Int) ≤ (t : Int) - 15 := by omega
        have n2 : (t : Int) - 15 < 64 := by omega
        have n3 : ((t : Int) - 15).toNat = t - 15 := by omega
        have n4 : (0 : Int) ≤ (t : Int) - 2 := by omega
        have n5 : (t : Int) - 2 < 64 := by omega
        have n6 : ((t : Int) - 2).toNat = t - 2 := by omega
        have n7 : (0 : Int) ≤ (t : Int) - 7 := by omega
        have n8 : (t : Int) - 7 < 64 := by omega
        have n9 : ((t : Int) - 7).toNat = t - 7 := by omega
        have p1 : (0 : Int) ≤ (t : Int) - 16 := by omega
        have p2 : (t : Int) - 16 < 64 := by omega
        have p3 : ((t : Int) - 16).toNat = t - 16 := by omega
        have p4 : (7 : Int) ≤ (t : Int) := by omega
        have p5 : (16 : Int) ≤ (t : Int) := by omega
        have p6 : (15 : Int) ≤ (t : Int) := by omega
        have p7 : (2 : Int) ≤ (t : Int) := by omega
        go_wp2_with fail
        go_quiet ((go_at_call 56; exact Calls.quiet_of (hright_of _ _ _ (by omega) (by omega))))
        rw [show bits .xor .u32 (bits .xor .u32 (rotr (F (t - 15)) 7) (rotr (F (t - 15)) 18)) (F (t - 15) / 8) = sig0 (F (t - 15)) from rfl]
        have HH1 : Hid (blkW w s F (wr.drewN nq)) := HH.out.below (below_drewN (Below.refl _ _) _)
        clear HH g1 g2
        generalize wr.drewN nq = wq at HH1 ⊢
        have g2 := HH1.out.2.2.2.1.1 (t - 2) (by omega)
        go_wp2_with fail
        go_quiet ((go_at_call 56; exact Calls.quiet_of (hright_of _ _ _ (by omega) (by omega))))
        rw [show bits .xor .u32 (bits .xor .u32 (rotr (F (t - 2)) 17) (rotr (F (t - 2)) 19)) (F (t - 2) / 1024) = sig1 (F (t - 2)) from rfl]
        have HH2 : Hid (blkW w s F (wq.drewN nq)) := HH1.out.below (below_drewN (Below.refl _ _) _)
        clear HH1 g2
        generalize wq.drewN nq = wp at HH2 ⊢
        have g3 := HH2.out.2.2.2.1.1 (t - 7) (by omega)
        have g4 := HH2.out.2.2.2.1.1 (t - 16) (by omega)
        have gk := HH2.out.2.2.2.1.1 t hlt
        have fk := HH2.out.2.2.2.1.2.1 t
        have q1 : ¬ t = t - 7 := by omega
        have q2 : ¬ t = t - 16 := by omega
        have v1 : IntKind.i64.wrap ((t : Int) - 7) = (t : Int) - 7 := by rw [IntKind.wrap_i64]; omega
        have v2 : IntKind.i64.wrap ((t : Int) - 16) = (t : Int) - 16 := by rw [IntKind.wrap_i64]; omega
        have v3 : (0 : Int) ≤ (t : Int) := by omega
        go_wp2_with fail
        go_region_held3 (fun w' => w'.cell? ⟨w.heap.size + 1 + 1 + 1, t - 7, none⟩ = some (.int .u32 (F (t - 7))) ∧ w'.cell? ⟨w.heap.size + 1 + 1 + 1, t - 16, none⟩ = some (.int .u32 (F (t - 16)))) (first | exact ⟨g3, g4⟩ | exact ⟨keep_off g3 q1, keep_off g4 q2⟩ | exact ⟨keep_off' g3 q1, keep_off' g4 q2⟩) (fail)
        go_wp2_with fail
        exact ⟨⟨t + 1, by omega, by go_num, ((HH2.out.set t _).congr HF.out).drew⟩, by simp [intOf]; omega⟩
    · obtain rfl : t = 64 := by omega
      rw [schT_end] at HH
      rw [show ((64 : Nat) : Int) = 64 from rfl]
      obtain ⟨X, hX⟩ : ∃ X, sch (fun j => f (at' + j)) 48 = X := ⟨_, rfl⟩
      rw [hX] at HH
      have HX : Hid (sch (fun j => f (at' + j)) 48 = X) := hX
      clear hX
      go_wp2_with (first
        | (refine wpList_load_irow rfl 66 (.tmp 4) rfl w.heap.size .u32 8 s.at rfl _ Try.underlying66 rfl (by kernel_rfl) HH.out.1 ?_)
        | (refine wpList_alloc_row rfl 66 rfl .u32 8 wr.heap.size rfl zero32_8 ?_; intro W2 hR2 hB2 hz2)
        | (refine wpList_store_row rfl 66 (.tmp 14) _ rfl wr.heap.size .u32 8 s.at (fun _ => 0) rfl rfl hR2 (by kernel_rfl) ?_; intro W3 hR3 hB3 hz3))
      have hsz := HH.out.2.2.2.1.2.2
      have H3 : blkW w s X W3 := by
        obtain ⟨h1, h2, h3, h4, h5⟩ := HH.out.below hB2
        exact ⟨h1.but hB3 (by omega), h2.but hB3 (by omega), h3.but hB3 (by omega), h4.but hB3 (by omega), h5.trans (hB3.below (by omega) (by omega))⟩
      have ST : Hid (blkRel3 w wr.heap.size s X (.int .i64 0) W3) := ⟨0, by omega, rfl, hR3, H3⟩
      clear H3 hR2 hB2 hz2 hR3 hB3 hz3 HH
      generalize wr.heap.size = p at ST hsz ⊢
      go_loopw [15] (fun i wr => blkRel3 w p s X i wr) (fun i _ => 64 - (intOf i).toNat)
      case atStart => exact ST.out
      case round =>
        obtain ⟨t, ht, rfl, hP, HW⟩ := hrel
        clear ST
        have HH : Hid (blkW w s X wr) := HW
        have RP : Hid (IRow wr p .u32 8 (rnds KF X s t).at) := hP
        clear HW hP
        by_cases hlt : t < 64
        · have hs : Hid (rnds KF X s (t + 1) = rnd (KF t) (X t) (rnds KF X s t)) := rfl
          generalize rnds KF X s t = r at hs RP
          have gk := HH.out.2.1.1 t hlt
          have gx := HH.out.2.2.2.1.1 t hlt
          obtain ⟨⟨p0, p1, p2, p3, p4, p5, p6, p7⟩, pf⟩ := RP.out.eight
          have k0 : (t : Int) < 64 := by omega
          have k1 : (0 : Int) ≤ (t : Int) := by omega
          go_wp2_with fail
          go_quiet ((go_at_call 56; exact Calls.quiet_of (hright_of _ _ _ (by omega) (by omega))))
          rw [show ((r.h + bits .xor .u32 (bits .xor .u32 (rotr r.e 6) (rotr r.e 11)) (rotr r.e 25) + bits .xor .u32 (bits .and .u32 r.e r.f) (bits .and .u32 (bits .xor .u32 (if IntKind.u32.signed = true then -1 else IntKind.u32.max) r.e) r.g) + KF t) % 4294967296 + X t) % 4294967296 = t1 (KF t) (X t) r from rfl]
          have HH1 : Hid (blkW w s X (wr.drewN nq)) := HH.out.below (below_drewN (Below.refl _ _) _)
          have RP1 : Hid (IRow (wr.drewN nq) p .u32 8 r.at) := RP.out.below (below_drewN (Below.refl _ _) _)
          clear HH RP gk gx p0 p1 p2 p3 p4 p5 p6 p7 pf
          generalize wr.drewN nq = wq at HH1 RP1 ⊢
          obtain ⟨⟨p0, p1, p2, p3, p4, p5, p6, p7⟩, pf⟩ := RP1.out.eight
          go_wp2_with fail
          go_quiet ((go_at_call 56; exact Calls.quiet_of (hright_of _ _ _ (by omega) (by omega))))
          rw [show (bits .xor .u32 (bits .xor .u32 (rotr r.a 2) (rotr r.a 13)) (rotr r.a 22) + bits .xor .u32 (bits .xor .u32 (bits .and .u32 r.a r.b) (bits .and .u32 r.a r.c)) (bits .and .u32 r.b r.c)) % 4294967296 = t2 r from rfl]
          have HH2 : Hid (blkW w s X (wq.drewN nq)) := HH1.out.below (below_drewN (Below.refl _ _) _)
          have RP2 : Hid (IRow (wq.drewN nq) p .u32 8 r.at) := RP1.out.below (below_drewN (Below.refl _ _) _)
          clear HH1 RP1 p0 p1 p2 p3 p4 p5 p6 p7 pf
          generalize wq.drewN nq = wp at HH2 RP2 ⊢
          obtain ⟨⟨p0, p1, p2, p3, p4, p5, p6, p7⟩, pf⟩ := RP2.out.eight
          go_wp2_with fail
          refine ⟨?_, by simp [intOf]; omega⟩
          show blkRel3 w p s X _ (st8 wp p (rnd (KF t) (X t) r))
          exact ⟨t + 1, by omega, by go_num, by rw [hs.out]; exact RP2.out.st8 _, HH2.out.but hsz (But.st8 _ _ _)⟩
        · obtain rfl : t = 64 := by omega
          obtain ⟨r, hr⟩ : ∃ r, rnds KF X s 64 = r := ⟨_, rfl⟩
          rw [hr] at RP
          have HR : Hid (rnds KF X s 64 = r) := hr
          clear hr
          rw [show ((64 : Nat) : Int) = 64 from rfl]
          go_wp2_with fail
          have ST : Hid (blkRel4 w p s r (.int .i64 0) wr) := ⟨0, by omega, rfl, HH.out.1.congr (fun j _ => by unfold plusH; rw [if_neg (by omega)]), RP.out, HH.out.2.2.1, HH.out.2.2.2.2⟩
          clear HH RP
          go_loopw [18] (fun i wr => blkRel4 w p s r i wr) (fun i _ => 8 - (intOf i).toNat)
          case atStart => exact ST.out
          case round =>
            obtain ⟨t, ht, rfl, hS, hP, hO, hB⟩ := hrel
            clear ST
            have RS : Hid (IRow wr w.heap.size .u32 8 (plusH s r t)) := hS
            have RP : Hid (IRow wr p .u32 8 r.at) := hP
            have RO : Hid (IRow wr (w.heap.size + 1 + 1) .u32 8 (fun _ => 0)) := hO
            have BE : Hid (Below w.heap.size w wr) := hB
            by_cases hlt : t < 8
            · have gs := hS.1 t hlt
              have fs := hS.2.1 t
              have gp := hP.1 t hlt
              clear hS hP hO hB
              have k0 : (t : Int) < 8 := by omega
              have k1 : (0 : Int) ≤ (t : Int) := by omega
              have k2 : ¬ w.heap.size = p := by omega
              go_wp2_with fail
              go_region
              go_wp2_with fail
              refine ⟨⟨t + 1, by omega, by go_num, ?_, (RP.out.but (But.set _ _ _) (by omega)).drew, (RO.out.but (But.set _ _ _) (by omega)).drew, (BE.out.setCell (Nat.le_refl _) _).drew⟩, by simp [intOf]; omega⟩
              rw [← plusH_step]
              exact (RS.out.set t _).drew
            · obtain rfl : t = 8 := by omega
              clear hS hP hO hB
              go_wp2_with (first
                | (refine wpList_load_irow rfl 66 (.tmp 4) rfl w.heap.size .u32 8 (plusH s r 8) rfl _ Try.underlying66 rfl (by kernel_rfl) RS.out ?_)
                | (refine wpList_store_row rfl 66 (.tmp 8) _ rfl (w.heap.size + 1 + 1) .u32 8 (plusH s r 8) (fun _ => 0) rfl rfl RO.out (by kernel_rfl) ?_; intro W5 hR5 hB5 hz5))
              have hl := hR5.run_load 66 _ Try.underlying66 rfl (by kernel_rfl)
              refine bodyPost_ret (v := .agg (cl .u32 8 (plusH s r 8)).toArray) (by simp [results, Try.results53, asAddr, Act.put, hl]) rfl ⟨?_, ?_⟩
              · unfold comp
                rw [HX.out, HR.out]
                exact congrArg _ (plusH_end s r)
              · exact BE.out.trans (hB5.below (by omega) BE.out.size)
end Go.Proofs.Ytmlllglgjpmicaa
