/-
  Walks, not a claim by itself: the 64 words of a block. By the verifier.
-/
import Derived.Test.YtblphlcnbnklmaaGreatDoorCRot
namespace Go.Proofs.YtblphlcnbnklmaaGreatDoor
open Go.RowKit

def sig0 (x : Int) : Int := bits .xor .u32 (bits .xor .u32 (rotr x 7) (rotr x 18)) (x / 8)
def sig1 (x : Int) : Int := bits .xor .u32 (bits .xor .u32 (rotr x 17) (rotr x 19)) (x / 1024)
/-- A block's word of four bytes. -/
def word4 (f : Nat → Int) (t : Nat) : Int := bits .or .u32 (bits .or .u32 (bits .or .u32 (f (4 * t) * 16777216) (f (4 * t + 1) * 65536)) (f (4 * t + 2) * 256)) (f (4 * t + 3))
/-- The words, t of them laid. -/
def wrds (f : Nat → Int) (t j : Nat) : Int := if j < t then word4 f j else 0
/-- The next word. -/
def nxt (v : Nat → Int) (t : Nat) : Int := (((sig1 (v (t - 2)) + v (t - 7)) % 4294967296 + sig0 (v (t - 15))) % 4294967296 + v (t - 16)) % 4294967296
/-- The words, t of those that follow laid. -/
def sch (f : Nat → Int) : Nat → Nat → Int
  | 0 => wrds f 16
  | t + 1 => upd (sch f t) (16 + t) (nxt (sch f t) (16 + t))
theorem nxt_at (v : Nat → Int) (t : Nat) : nxt v (16 + t) = (((sig1 (v (16 + t - 2)) + v (16 + t - 7)) % 4294967296 + sig0 (v (16 + t - 15))) % 4294967296 + v t) % 4294967296 := by
  unfold nxt; rw [show 16 + t - 16 = t by omega]
theorem wrds_upd (f : Nat → Int) (t : Nat) : upd (wrds f t) t (word4 f t) = wrds f (t + 1) := by
  funext j
  unfold upd wrds
  by_cases h : j = t
  · subst h; rw [if_pos rfl, if_pos (by omega)]
  · rw [if_neg h]
    by_cases g : j < t
    · rw [if_pos g, if_pos (by omega)]
    · rw [if_neg g, if_neg (by omega)]
theorem zero32_64 : (Tryz.prog.info? 274).bind (·.zero) = some (.agg (cl .u32 64 fun _ => 0).toArray) := by kernel_rfl
/-- What holds at the head of the first loop. -/
def schRel1 (w : World) (f : Nat → Int) (i : Value) (wr : World) : Prop := ∃ t : Nat, t ≤ 16 ∧ i = .int .i64 t ∧ IRow wr (w.heap.size + 1) .u32 64 (wrds f t) ∧ IRow wr w.heap.size .u32 64 (fun _ => 0) ∧ Below w.heap.size w wr
/-- What holds at the head of the second loop. -/
def schRel2 (w : World) (f : Nat → Int) (i : Value) (wr : World) : Prop := ∃ t : Nat, t ≤ 48 ∧ i = .int .i64 ((16 + t : Nat) : Int) ∧ IRow wr (w.heap.size + 1) .u32 64 (sch f t) ∧ IRow wr w.heap.size .u32 64 (fun _ => 0) ∧ Below w.heap.size w wr

theorem sch_rel1 (w wr : World) (f : Nat → Int) (t : Nat) (v : Int) (ht : t < 16) (hv : v = word4 f t) (hR : IRow wr (w.heap.size + 1) .u32 64 (wrds f t)) (h0 : IRow wr w.heap.size .u32 64 (fun _ => 0)) (hB : Below w.heap.size w wr) :
    schRel1 w f (.int .i64 ((t : Int) + 1)) (wr.setCell ⟨w.heap.size + 1, t, none⟩ (.int .u32 v)).drew := by
  subst hv
  have := hR.set t (word4 f t)
  rw [wrds_upd] at this
  exact ⟨t + 1, by omega, by go_num, this.drew, (h0.but (But.set _ t _) (by omega)).drew, (hB.setCell (by show w.heap.size ≤ w.heap.size + 1; omega) _).drew⟩
theorem sch_rel2 (w wr : World) (f : Nat → Int) (t : Nat) (v : Int) (ht : t < 48) (hv : v = nxt (sch f t) (16 + t)) (hR : IRow wr (w.heap.size + 1) .u32 64 (sch f t)) (h0 : IRow wr w.heap.size .u32 64 (fun _ => 0)) (hB : Below w.heap.size w wr) :
    schRel2 w f (.int .i64 (16 + (t : Int) + 1)) (wr.setCell ⟨w.heap.size + 1, 16 + t, none⟩ (.int .u32 v)).drew := by
  subst hv
  exact ⟨t + 1, by omega, by go_num, (hR.set (16 + t) _).drew, (h0.but (But.set _ (16 + t) _) (by omega)).drew, (hB.setCell (by show w.heap.size ≤ w.heap.size + 1; omega) _).drew⟩

set_option maxRecDepth 100000 in
set_option maxHeartbeats 2000000 in
theorem blockWords_any (b off L C : Nat) (f : Nat → Int) (w : World) (h : Lies w b off 64 f) (hL : 64 ≤ L) (hC : L ≤ C) :
    Calls Tryz.prog 210 #[.slice (some ⟨b, off, none⟩) L C] w fun e w' => e = .returned (.agg (cl .u32 64 (sch f 48)).toArray) ∧ Below w.heap.size w w' := by
  have LL : Hid (Lies w b off 64 f) := h
  have hb := h.2.2
  clear h
  go_enter Tryz.func210, Tryz.ntmps210
  go_wp2_with (first
    | (refine wpList_alloc_row rfl 274 rfl .u32 64 w.heap.size rfl zero32_64 ?_; intro W1 hR1 hB1 hz1)
    | (refine wpList_alloc_row rfl 274 rfl .u32 64 (w.heap.size + 1) hz1 zero32_64 ?_; intro W2 hR2 hB2 hz2))
  have ST : Hid (schRel1 w f (.int .i64 0) W2) := by
    refine ⟨0, by omega, rfl, hR2.congr (fun j _ => by unfold wrds; rw [if_neg (by omega)]), hR1.below (hz1 ▸ hB2), hB1.trans (hB2.mono (by omega))⟩
  clear hR1 hB1 hz1 hR2 hB2 hz2
  go_loopw [11] (fun i wr => schRel1 w f i wr) (fun i _ => 16 - (intOf i).toNat)
  case atStart => exact ST.out
  case round =>
    obtain ⟨t, ht, rfl, hR, hR0, hB⟩ := hrel
    clear ST
    have BE : Hid (Below w.heap.size w wr) := hB
    have RR : Hid (IRow wr (w.heap.size + 1) .u32 64 (wrds f t)) := hR
    have R0 : Hid (IRow wr w.heap.size .u32 64 (fun _ => 0)) := hR0
    by_cases hlt : t < 16
    · have l := (LL.out.below hB).1
      have l0 : wr.cell? ⟨b, off + t * 4, none⟩ = some (.int .u8 (f (4 * t))) := by rw [Nat.mul_comm]; exact l (4 * t) (by omega)
      have l1 : wr.cell? ⟨b, off + t * 4 + 1, none⟩ = some (.int .u8 (f (4 * t + 1))) := by rw [Nat.mul_comm]; exact l (4 * t + 1) (by omega)
      have l2 : wr.cell? ⟨b, off + t * 4 + 2, none⟩ = some (.int .u8 (f (4 * t + 2))) := by rw [Nat.mul_comm]; exact l (4 * t + 2) (by omega)
      have l3 : wr.cell? ⟨b, off + t * 4 + 3, none⟩ = some (.int .u8 (f (4 * t + 3))) := by rw [Nat.mul_comm]; exact l (4 * t + 3) (by omega)
      have b0 := LL.out.2.1 (4 * t) (by omega)
      have b1 := LL.out.2.1 (4 * t + 1) (by omega)
      have b2 := LL.out.2.1 (4 * t + 2) (by omega)
      have b3 := LL.out.2.1 (4 * t + 3) (by omega)
      have gk := hR.1 t (by omega)
      have fk := hR.2.1 t
      clear hR hR0 hB l
      have i0 : (t : Int) * 4 ≤ L := by omega
      have i1 : (t : Int) * 4 ≤ C := by omega
      have j0 : (0 : Int) < ((L - t * 4 : Nat) : Int) := by omega
      have j1 : (1 : Int) < ((L - t * 4 : Nat) : Int) := by omega
      have j2 : (2 : Int) < ((L - t * 4 : Nat) : Int) := by omega
      have j3 : (3 : Int) < ((L - t * 4 : Nat) : Int) := by omega
      have k0 : (t : Int) < 64 := by omega
      have k1 : (0 : Int) ≤ (t : Int) := by omega
      have m0 : ¬ b = w.heap.size + 1 := by omega
      have m1 : ¬ w.heap.size + 1 = b := by omega
      have j4 : 0 < L - t * 4 := by omega
      go_wp2_with fail
      go_region_held3 (fun w' => w'.cell? ⟨b, off + t * 4, none⟩ = some (.int .u8 (f (4 * t))) ∧ w'.cell? ⟨b, off + t * 4 + 1, none⟩ = some (.int .u8 (f (4 * t + 1))) ∧ w'.cell? ⟨b, off + t * 4 + 2, none⟩ = some (.int .u8 (f (4 * t + 2))) ∧ w'.cell? ⟨b, off + t * 4 + 3, none⟩ = some (.int .u8 (f (4 * t + 3)))) (go_keep) (fail)
      go_wp2_with fail
      exact ⟨sch_rel1 w wr f t _ hlt rfl RR.out R0.out BE.out, by simp [intOf]; omega⟩
    · obtain rfl : t = 16 := by omega
      clear hR hR0 hB
      rw [show ((16 : Nat) : Int) = 16 from rfl]
      go_wp2_with fail
      have ST : Hid (schRel2 w f (.int .i64 16) wr) := ⟨0, by omega, rfl, RR.out, R0.out, BE.out⟩
      clear RR R0 BE
      go_loopw [6] (fun i wr => schRel2 w f i wr) (fun i _ => 64 - (intOf i).toNat)
      case atStart => exact ST.out
      case round =>
        obtain ⟨t, ht, rfl, hR, hR0, hB⟩ := hrel
        clear ST
        have BE : Hid (Below w.heap.size w wr) := hB
        have RR : Hid (IRow wr (w.heap.size + 1) .u32 64 (sch f t)) := hR
        have R0 : Hid (IRow wr w.heap.size .u32 64 (fun _ => 0)) := hR0
        have e0 : ((16 + t : Nat) : Int) = 16 + (t : Int) := by omega
        rw [e0]
        by_cases hlt : t < 48
        · have g1 := hR.1 (16 + t - 15) (by omega)
          have g2 := hR.1 (16 + t - 2) (by omega)
          have g3 := hR.1 (16 + t - 7) (by omega)
          have gk := hR.1 (16 + t) (by omega)
          have fk := hR.2.1 (16 + t)
          clear hR hR0 hB
          have k0 : (16 : Int) + (t : Int) < 64 := by omega
          have k1 : (0 : Int) ≤ 16 + (t : Int) := by omega
          have k2 : ((16 : Int) + (t : Int)).toNat = 16 + t := by omega
          have n1 : (0 : Int) ≤ 16 + (t : Int) - 15 := by omega
          have n2 : (16 : Int) + (t : Int) - 15 < 64 := by omega
          have n3 : ((16 : Int) + (t : Int) - 15).toNat = 16 + t - 15 := by omega
          have n4 : (0 : Int) ≤ 16 + (t : Int) - 2 := by omega
          have n5 : (16 : Int) + (t : Int) - 2 < 64 := by omega
          have n6 : ((16 : Int) + (t : Int) - 2).toNat = 16 + t - 2 := by omega
          have n7 : (0 : Int) ≤ 16 + (t : Int) - 7 := by omega
          have n8 : (16 : Int) + (t : Int) - 7 < 64 := by omega
          have n9 : ((16 : Int) + (t : Int) - 7).toNat = 16 + t - 7 := by omega
          have p7 : (0 : Int) ≤ (t : Int) := by omega
          have p6 : (7 : Int) ≤ 16 + (t : Int) := by omega
          have p8 : (t : Int) < 64 := by omega
          go_wp2_with fail
          go_quiet (fail)
          go_wp2_with (go_at_call 222; refine (right_of _ _ _ (by omega) (by omega)).mono ?_; rintro e w' ⟨rfl, rfl⟩)
          rw [show bits .xor .u32 (bits .xor .u32 (rotr (sch f t (16 + t - 15)) 7) (rotr (sch f t (16 + t - 15)) 18)) (sch f t (16 + t - 15) / 8) = sig0 (sch f t (16 + t - 15)) from rfl]
          rw [show bits .xor .u32 (bits .xor .u32 (rotr (sch f t (16 + t - 2)) 17) (rotr (sch f t (16 + t - 2)) 19)) (sch f t (16 + t - 2) / 1024) = sig1 (sch f t (16 + t - 2)) from rfl]
          have G1 : Hid (IRow (wr.drewN nq) (w.heap.size + 1) .u32 64 (sch f t)) := RR.out.below (below_drewN (Below.refl _ _) _)
          have G0 : Hid (IRow (wr.drewN nq) w.heap.size .u32 64 (fun _ => 0)) := R0.out.below (below_drewN (Below.refl _ _) _)
          have GB : Hid (Below w.heap.size w (wr.drewN nq)) := below_drewN BE.out _
          clear RR R0 BE g1 g2 g3 gk fk
          generalize wr.drewN nq = wq at G1 G0 GB ⊢
          have g3 := G1.out.1 (16 + t - 7) (by omega)
          have g4 := G1.out.1 t (by omega)
          have gk := G1.out.1 (16 + t) (by omega)
          have fk := G1.out.2.1 (16 + t)
          have q1 : ¬ 16 + t = 16 + t - 7 := by omega
          have v1 : IntKind.i64.wrap (16 + (t : Int) - 7) = 16 + (t : Int) - 7 := by rw [IntKind.wrap_i64]; omega
          have v2 : IntKind.i64.wrap (t : Int) = (t : Int) := by rw [IntKind.wrap_i64]; omega
          have v3 : IntKind.i64.wrap (16 + (t : Int) - 16) = (t : Int) := by rw [IntKind.wrap_i64]; omega
          have q2 : ¬ 16 + t = t := by omega
          go_region_held3 (fun w' => w'.cell? ⟨w.heap.size + 1, 16 + t - 7, none⟩ = some (.int .u32 (sch f t (16 + t - 7))) ∧ w'.cell? ⟨w.heap.size + 1, t, none⟩ = some (.int .u32 (sch f t t))) (first | exact ⟨g3, g4⟩ | exact ⟨keep_off g3 q1, keep_off g4 q2⟩ | exact ⟨keep_off' g3 q1, keep_off' g4 q2⟩) (fail)
          go_wp2_with fail
          go_roundw
          case rel => exact sch_rel2 w wq f t _ hlt (nxt_at _ _).symm G1.out G0.out GB.out
          case measure => simp [intOf]; omega
        · obtain rfl : t = 48 := by omega
          clear hR hR0 hB
          go_wp2_with (first
            | (refine wpList_load_irow rfl 274 (.tmp 3) rfl (w.heap.size + 1) .u32 64 (sch f 48) rfl _ Tryz.underlying274 rfl (by kernel_rfl) RR.out ?_)
            | (refine wpList_store_row rfl 274 (.tmp 2) _ rfl w.heap.size .u32 64 (sch f 48) (fun _ => 0) rfl rfl R0.out (by kernel_rfl) ?_; intro W3 hR3 hB3 hz3))
          have hl := hR3.run_load 274 _ Tryz.underlying274 rfl (by kernel_rfl)
          refine bodyPost_ret (v := .agg (cl .u32 64 (sch f 48)).toArray) (by simp [results, Tryz.results210, asAddr, Act.put, hl]) rfl ⟨rfl, ?_⟩
          exact BE.out.trans (hB3.below (Nat.le_refl _) BE.out.size)
end Go.Proofs.YtblphlcnbnklmaaGreatDoor
