/-
  Walks, not a claim by itself: ChecksumTurned. By the verifier.
-/
import Derived.Test.YtgcmlnjmfdoomaaCKnown
import Derived.Test.YtgcmlnjmfdoomaaBPick
import Derived.Test.YtgcmlnjmfdoomaaReg
namespace Go.Proofs.Ytgcmlnjmfdoomaa
open Go.RowKit
/-- Turns that lie in a block. -/
def TLies (w : World) (b off m : Nat) (X Y : Nat → Int) : Prop := (∀ i, i < m → w.cell? ⟨b, off + i * 2, none⟩ = some (.int .i64 (X i)) ∧ w.cell? ⟨b, off + i * 2 + 1, none⟩ = some (.int .u8 (Y i)) ∧ 0 ≤ Y i ∧ Y i < 256) ∧ b < w.heap.size
theorem TLies.below {u v : World} {b off m : Nat} {X Y : Nat → Int} (h : TLies u b off m X Y) (hb : Below u.heap.size u v) : TLies v b off m X Y :=
  ⟨fun i hi => ⟨(hb.cell (p := ⟨b, off + i * 2, none⟩) h.2).trans (h.1 i hi).1, (hb.cell (p := ⟨b, off + i * 2 + 1, none⟩) h.2).trans (h.1 i hi).2.1, (h.1 i hi).2.2⟩, Nat.lt_of_lt_of_le h.2 hb.size⟩
/-- A slice of turns. -/
def TArg (w : World) (a : Option Addr) (m : Nat) (X Y : Nat → Int) : Prop := m = 0 ∨ ∃ b off, a = some ⟨b, off, none⟩ ∧ TLies w b off m X Y
/-- What holds at the head of the loop. -/
def turnRel (w : World) (g q N m : Nat) (f : Nat → Int) (i : Value) (wr : World) : Prop := ∃ (k : Nat) (F : Nat → Int), k ≤ m ∧ i = .int .i64 k ∧ IRow wr g .u8 N F ∧ (∀ j, j < N → 0 ≤ F j ∧ F j < 256) ∧ Lies wr q 0 N f ∧ Below w.heap.size w wr
theorem xor_byte (a b : Int) (h1 : 0 ≤ a ∧ a < 256) (h2 : 0 ≤ b ∧ b < 256) : 0 ≤ bits .xor .u8 a b ∧ bits .xor .u8 a b < 256 := by
  rw [u8_xor a b h1.1 h1.2 h2.1 h2.2]
  have : a.toNat ^^^ b.toNat < 2 ^ 8 := Nat.xor_lt_two_pow (by omega) (by omega)
  omega
theorem turn_step {w wr : World} {g q N m k r : Nat} {f F : Nat → Int} {v : Int} (hk : k < m) (hR : IRow wr g .u8 N F) (hF : ∀ j, j < N → 0 ≤ F j ∧ F j < 256) (hL : Lies wr q 0 N f) (hB : Below w.heap.size w wr) (hg : w.heap.size ≤ g) (hgq : g ≠ q) (hv : 0 ≤ v ∧ v < 256) :
    turnRel w g q N m f (.int .i64 ((k : Int) + 1)) (wr.setCell ⟨g, r, none⟩ (.int .u8 v)).drew :=
  ⟨k + 1, upd F r v, by omega, by go_num, (hR.set r v).drew, fun j hj => by unfold upd; split; (· exact hv); (· exact hF j hj), (hL.but (But.set _ _ _) (Ne.symm hgq)).below (Below.refl _ _).drew, (hB.setCell hg _).drew⟩
theorem pick_of (x : Int) (n : Nat) (i : Int) (w : World) (hi : i = n) (h1 : 1 ≤ n) (h2 : n ≤ 1000000) : Calls Try.prog 23 #[.int .i64 x, .int .i64 i] w (PickPost n w) := by
  subst hi
  exact pick_any x n w h1 h2
theorem turn_arg {w : World} {g N n : Nat} {F : Nat → Int} (h : IRow w g .u8 N F) (hF : ∀ j, j < N → 0 ≤ F j ∧ F j < 256) (hN : 16 + n = N) : Arg w (some ⟨g, 16, none⟩) n (fun j => F (16 + j)) := by
  have := Arg.part (h.lies hF) 16 n (by omega)
  rwa [Nat.zero_add] at this
theorem turn_arg0 {w : World} {g : Nat} {F : Nat → Int} (_ : IRow w g .u8 16 F) (_ : ∀ j, j < 16 → 0 ≤ F j ∧ F j < 256) : Arg w (some ⟨g, 0, none⟩) 0 (fun j => F (16 + j)) := .inl ⟨rfl, .inr ⟨_, rfl⟩⟩
theorem turn_head {w : World} {g N : Nat} {F : Nat → Int} (h : IRow w g .u8 N F) (hF : ∀ j, j < N → 0 ≤ F j ∧ F j < 256) (hN : 16 ≤ N) : Arg w (some ⟨g, 0, none⟩) 16 F :=
  Arg.of ⟨fun j hj => by rw [Nat.zero_add]; exact h.1 j (by omega), fun j hj => hF j (by omega), h.2.2⟩
theorem turn_yes {N n : Nat} {F : Nat → Int} (hN : 16 + n = N) (h : opens N F = true) : decide (txtN 16 (sealF n (fun j => F (16 + j))) = txtN 16 F) = true := by
  unfold opens at h
  rw [show N - 16 = n by omega] at h
  exact decide_eq_true (txtN_congr 16 _ _ ((eqN_iff _ _ _).1 h))
theorem turn_yes0 {F : Nat → Int} (h : opens 16 F = true) : decide (txtN 16 (sealF 0 (fun j => F (16 + j))) = txtN 16 F) = true := turn_yes (n := 0) rfl h
theorem turn_no {N n : Nat} {F : Nat → Int} (hF : ∀ j, j < N → 0 ≤ F j ∧ F j < 256) (hN : 16 + n = N) (h : opens N F = false) : decide (txtN 16 (sealF n (fun j => F (16 + j))) = txtN 16 F) = false := by
  refine decide_eq_false (fun e => ?_)
  unfold opens at h
  rw [show N - 16 = n by omega] at h
  have := (eqN_iff _ _ _).2 (txtN_inj (fun j _ => sealF_byte _ _ j) (fun j hj => hF j (by omega)) e).2
  rw [h] at this
  cases this
theorem turn_no0 {F : Nat → Int} (hF : ∀ j, j < 16 → 0 ≤ F j ∧ F j < 256) (h : opens 16 F = false) : decide (txtN 16 (sealF 0 (fun j => F (16 + j))) = txtN 16 F) = false := turn_no (n := 0) hF rfl h
theorem opens_congr {N : Nat} {F G : Nat → Int} (hN : 16 ≤ N) (h : ∀ j, j < N → F j = G j) : opens N F = opens N G := by
  unfold opens
  rw [sealF_congr (N - 16) (fun j => F (16 + j)) (fun j => G (16 + j)) (fun j hj => h _ (by omega)), Bool.eq_iff_iff, eqN_iff, eqN_iff]
  exact ⟨fun k i hi => (k i hi).trans (h i (by omega)), fun k i hi => (k i hi).trans (h i (by omega)).symm⟩
theorem turn_other {N n : Nat} {F f : Nat → Int} (hF : ∀ j, j < N → 0 ≤ F j ∧ F j < 256) (hS : ∀ j, j < N → 0 ≤ sealedF n f j ∧ sealedF n f j < 256) (hN : 16 + n = N) (h : opens N F = false) : decide (txtN N F = txtN N (sealedF n f)) = false := by
  refine decide_eq_false (fun e => ?_)
  have := opens_congr (by omega) (txtN_inj hF hS e).2
  rw [h, ← hN, opens_sealed] at this
  cases this
theorem turn_other0 {F f : Nat → Int} (hF : ∀ j, j < 16 → 0 ≤ F j ∧ F j < 256) (hS : ∀ j, j < 16 → 0 ≤ sealedF 0 f j ∧ sealedF 0 f j < 256) (h : opens 16 F = false) : decide (txtN 16 F = txtN 16 (sealedF 0 f)) = false := turn_other (n := 0) hF hS rfl h
set_option maxHeartbeats 1000000 in
theorem turned_long (a t : Option Addr) (n C m C' : Nat) (w : World) (h : 2000 < n ∨ 40 < m) :
    Calls Try.prog 7 #[.slice a n C, .slice t m C'] w fun e w' => e = .returned (.bool true) ∧ Below w.heap.size w w' := by
  by_cases h1 : 2000 < n
  · have e1 : (2000 : Int) < n := by omega
    clear h
    go_enter Try.func7, Try.ntmps7
    go_wp2_with (go_at_call 5; refine (known_any _).mono ?_; rintro e w1 ⟨rfl, hB1⟩)
    go_ret
    exact ⟨rfl, hB1⟩
  · have e1 : ¬ (2000 : Int) < n := by omega
    have e2 : (40 : Int) < m := by omega
    clear h
    go_enter Try.func7, Try.ntmps7
    go_wp2_with (go_at_call 5; refine (known_any _).mono ?_; rintro e w1 ⟨rfl, hB1⟩)
    go_ret
    exact ⟨rfl, hB1⟩
set_option maxRecDepth 100000 in
set_option maxHeartbeats 2000000 in
theorem turned_any (a t : Option Addr) (n C m C' : Nat) (f X Y : Nat → Int) (w : World) (h : Arg w a n f) (hC : n ≤ C) (hn : n ≤ 2000) (hT : TArg w t m X Y) (hm : m ≤ 40) :
    Calls Try.prog 7 #[.slice a n C, .slice t m C'] w fun e w' => e = .returned (.bool true) ∧ Below w.heap.size w w' := by
  have e1 : ¬ (2000 : Int) < n := by omega
  have e2 : ¬ (40 : Int) < m := by omega
  have HA : Hid (Arg w a n f) := h
  have HT : Hid (TArg w t m X Y) := hT
  have FB : Hid (∀ j, j < n → 0 ≤ f j ∧ f j < 256) := h.bytes
  clear h hT
  go_enter Try.func7, Try.ntmps7
  go_wp2_with (go_at_call 5; refine (known_any _).mono ?_; rintro e w1 ⟨rfl, hB1⟩)
  refine (seal_any a n C f _ (HA.out.below hB1) hC (by omega)).mono ?_
  rintro e w2 ⟨g, rfl, hg, hR2, hB2⟩
  have E2 : Below w.heap.size w w2 := hB1.trans (hB2.mono hB1.size)
  have hg' : w.heap.size ≤ g := Nat.le_trans hB1.size hg
  obtain ⟨N, hN⟩ : ∃ N, 16 + n = N := ⟨_, rfl⟩
  rw [hN] at hR2 ⊢
  have HN : Hid (16 + n = N) := hN
  have cN : (N : Int) = n + 16 := by omega
  have SB : Hid (∀ j, j < N → 0 ≤ sealedF n f j ∧ sealedF n f j < 256) := fun j hj => sealed_byte n f FB.out j (by omega)
  clear hN
  go_wp2_with fail
  refine (copy_any (some ⟨g, 0, none⟩) N N (sealedF n f) _ (Arg.of (hR2.lies SB.out)) (by have := HN.out; omega)).mono ?_
  rintro e w3 ⟨v3, rfl, hO3, hB3⟩
  obtain ⟨q, capq, rfl, hq, _, hlq⟩ := hO3.form (by have := HN.out; omega) SB.out
  have hgq : g ≠ q := by have := hR2.2.2; omega
  have E3 : Below w.heap.size w w3 := E2.trans (hB3.mono E2.size)
  have ST : Hid (turnRel w g q N m (sealedF n f) (.int .i64 0) w3) := ⟨0, sealedF n f, by omega, rfl, hR2.below hB3, SB.out, hlq, E3⟩
  clear hB1 hR2 hB2 E2 hO3 hB3 hlq hq hg E3
  go_wp2_with fail
  go_loopw [8] (fun i wr => turnRel w g q N m (sealedF n f) i wr) (fun i _ => m - (intOf i).toNat)
  case atStart => exact ST.out
  case round =>
    obtain ⟨k, F, hk, rfl, hR, hF, hL, hB⟩ := hrel
    clear ST
    have RR : Hid (IRow wr g .u8 N F) := hR
    have RF : Hid (∀ j, j < N → 0 ≤ F j ∧ F j < 256) := hF
    have RL : Hid (Lies wr q 0 N (sealedF n f)) := hL
    have BE : Hid (Below w.heap.size w wr) := hB
    clear hF hL
    by_cases hlt : k < m
    · rcases HT.out with h0 | ⟨tb, toff, rfl, ht⟩
      · omega
      have tl := (ht.1 k hlt)
      have htb := ht.2
      have c1 := (hB.cell (p := ⟨tb, toff + k * 2, none⟩) htb).trans tl.1
      have c2 := (hB.cell (p := ⟨tb, toff + k * 2 + 1, none⟩) htb).trans tl.2.1
      have YB : Hid (0 ≤ Y k ∧ Y k < 256) := tl.2.2
      clear tl ht hB
      have i0 : (k : Int) < m := by omega
      have i1 : (0 : Int) ≤ (k : Int) := by omega
      go_wp2_with fail
      refine (pick_of (X k) N ((n : Int) + 16) _ cN.symm (by have := HN.out; omega) (by have := HN.out; omega)).mono ?_
      rintro e w5 ⟨r, hr, rfl, rfl⟩
      have cr := hR.1 r hr
      have fr := hR.2.1 r
      have ne : ¬ g = tb := by omega
      have j0 : (r : Int) < n + 16 := by omega
      have j1 : (0 : Int) ≤ (r : Int) := by omega
      clear hR
      go_wp2_with fail
      go_region
      go_wp2_with fail
      exact ⟨turn_step hlt RR.out RF.out RL.out BE.out hg' hgq (xor_byte _ _ (RF.out r hr) YB.out), by simp [intOf]; omega⟩
    · obtain rfl : k = m := by omega
      clear hR hB
      have hN := HN.out
      by_cases hz : N = 16
      · obtain rfl : N = 16 := hz
        obtain rfl : n = 0 := by omega
        clear hN
        go_wp2_with fail
        cases ho : opens 16 F
        · skip
          refine (open_no (some ⟨g, 0, none⟩) 16 16 F _ (Arg.of (RR.out.lies RF.out)) (by omega) (Nat.le_refl _) (by omega) ho).mono ?_
          rintro e w6 ⟨rfl, hB6⟩
          have R6 : Hid (IRow w6 g .u8 16 F) := RR.out.below hB6
          have L6 : Hid (Lies w6 q 0 16 (sealedF 0 f)) := RL.out.below hB6
          have E6 : Hid (Below w.heap.size w w6) := BE.out.trans (hB6.mono BE.out.size)
          have HO : Hid (opens 16 F = false) := ho
          clear hB6 ho RR RL BE
          go_wp2_with fail
          refine (sum_any (some ⟨g, 0, none⟩) 0 0 (fun j => F (16 + j)) _ (turn_arg0 R6.out RF.out) (Nat.le_refl _) (by omega)).mono ?_
          rintro e w7 ⟨rfl, hB7⟩
          go_wp2_with (first
            | (refine wpList_alloc_row rfl 23 rfl .u8 16 w7.heap.size rfl zero8_16 ?_; intro w8 hR8 hB8 hz8)
            | (refine wpList_store_row rfl 23 (.tmp 12) _ rfl w7.heap.size .u8 16 (sealF 0 (fun j => F (16 + j))) (fun _ => 0) rfl rfl hR8 (by kernel_rfl) ?_; intro w9 hR9 hB9 hz9))
          have K9 : Below w6.heap.size w6 w9 := (hB7.trans (hB8.mono hB7.size)).trans (hB9.below hB7.size (by have := hB7.size; omega))
          have S9 : Hid (IRow w9 w7.heap.size .u8 16 (sealF 0 (fun j => F (16 + j)))) := hR9
          have R9 : Hid (IRow w9 g .u8 16 F) := R6.out.below K9
          have L9 : Hid (Lies w9 q 0 16 (sealedF 0 f)) := L6.out.below K9
          have E9 : Hid (Below w.heap.size w w9) := E6.out.trans (K9.mono E6.out.size)
          clear hB7 hR8 hB8 hz8 hR9 hB9 hz9 K9 R6 L6 E6
          go_wp2_with fail
          go_quiet ((go_at_call 17; exact Calls.quiet_of_same (same_any (some ⟨w7.heap.size, 0, none⟩) (some ⟨g, 0, none⟩) 16 16 16 16 (sealF 0 (fun j => F (16 + j))) F _ (Arg.of ((S9.out.below (below_drewN (Below.refl _ _) _)).lies (fun j _ => sealF_byte _ _ j))) (turn_head (R9.out.below (below_drewN (Below.refl _ _) _)) RF.out (by omega)))))
          have ht : decide (txtN 16 (sealF 0 (fun j => F (16 + j))) = txtN 16 F) = false := turn_no0 RF.out HO.out
          rw [ht]
          clear ht
          have L10 := L9.out.below (below_drewN (Below.refl _ _) nq)
          have R10 := R9.out.below (below_drewN (Below.refl _ _) nq)
          have E10 : Hid (Below w.heap.size w (w9.drewN nq)) := below_drewN E9.out _
          clear R9 E9 S9 L9
          generalize w9.drewN nq = w10 at L10 R10 E10 ⊢
          go_wp2_with fail
          refine (same_any (some ⟨g, 0, none⟩) (some ⟨q, 0, none⟩) 16 16 16 capq F (sealedF 0 f) _ (Arg.of (R10.lies RF.out)) (Arg.of L10)).mono ?_
          rintro e w11 ⟨rfl, hw⟩
          rw [hw, turn_other0 RF.out SB.out HO.out]
          clear hw w11
          go_wp2_with fail
          go_ret
          exact ⟨rfl, E10.out⟩
        · skip
          refine (open_ok (some ⟨g, 0, none⟩) 16 16 F _ (Arg.of (RR.out.lies RF.out)) (by omega) (Nat.le_refl _) (by omega) ho).mono ?_
          rintro e w6 ⟨x, rfl, hx, hR6, hB6⟩
          have X6 : Hid (IRow w6 x .u8 0 (fun j => F (16 + j))) := hR6
          have R6 : Hid (IRow w6 g .u8 16 F) := RR.out.below hB6
          have L6 : Hid (Lies w6 q 0 16 (sealedF 0 f)) := RL.out.below hB6
          have E6 : Hid (Below w.heap.size w w6) := BE.out.trans (hB6.mono BE.out.size)
          have HO : Hid (opens 16 F = true) := ho
          clear hB6 ho RR RL BE hR6 hx
          go_wp2_with fail
          refine (sum_any (some ⟨g, 0, none⟩) 0 0 (fun j => F (16 + j)) _ (turn_arg0 R6.out RF.out) (Nat.le_refl _) (by omega)).mono ?_
          rintro e w7 ⟨rfl, hB7⟩
          go_wp2_with (first
            | (refine wpList_alloc_row rfl 23 rfl .u8 16 w7.heap.size rfl zero8_16 ?_; intro w8 hR8 hB8 hz8)
            | (refine wpList_store_row rfl 23 (.tmp 12) _ rfl w7.heap.size .u8 16 (sealF 0 (fun j => F (16 + j))) (fun _ => 0) rfl rfl hR8 (by kernel_rfl) ?_; intro w9 hR9 hB9 hz9))
          have K9 : Below w6.heap.size w6 w9 := (hB7.trans (hB8.mono hB7.size)).trans (hB9.below hB7.size (by have := hB7.size; omega))
          have S9 : Hid (IRow w9 w7.heap.size .u8 16 (sealF 0 (fun j => F (16 + j)))) := hR9
          have R9 : Hid (IRow w9 g .u8 16 F) := R6.out.below K9
          have L9 : Hid (Lies w9 q 0 16 (sealedF 0 f)) := L6.out.below K9
          have E9 : Hid (Below w.heap.size w w9) := E6.out.trans (K9.mono E6.out.size)
          have X9 : Hid (IRow w9 x .u8 0 (fun j => F (16 + j))) := X6.out.below K9
          clear hB7 hR8 hB8 hz8 hR9 hB9 hz9 K9 R6 L6 E6 X6
          go_wp2_with fail
          go_quiet ((go_at_call 17; exact Calls.quiet_of_same (same_any (some ⟨w7.heap.size, 0, none⟩) (some ⟨g, 0, none⟩) 16 16 16 16 (sealF 0 (fun j => F (16 + j))) F _ (Arg.of ((S9.out.below (below_drewN (Below.refl _ _) _)).lies (fun j _ => sealF_byte _ _ j))) (turn_head (R9.out.below (below_drewN (Below.refl _ _) _)) RF.out (by omega)))))
          have ht : decide (txtN 16 (sealF 0 (fun j => F (16 + j))) = txtN 16 F) = true := turn_yes0 HO.out
          rw [ht]
          clear ht
          have X10 := X9.out.below (below_drewN (Below.refl _ _) nq)
          have R10 := R9.out.below (below_drewN (Below.refl _ _) nq)
          have E10 : Hid (Below w.heap.size w (w9.drewN nq)) := below_drewN E9.out _
          clear X9 R9 E9 S9 L9
          generalize w9.drewN nq = w10 at X10 R10 E10 ⊢
          go_wp2_with fail
          refine (same_any (some ⟨x, 0, none⟩) (some ⟨g, 0, none⟩) 0 0 0 0 (fun j => F (16 + j)) (fun j => F (16 + j)) _ (Arg.of (X10.lies (fun j hj => RF.out (16 + j) (by omega)))) (turn_arg0 R10 RF.out)).mono ?_
          rintro e w11 ⟨rfl, hw⟩
          rw [hw, decide_eq_true rfl]
          clear hw w11
          go_wp2_with fail
          go_ret
          exact ⟨rfl, E10.out⟩
      · have cn : N - 16 = n := by omega
        have c1 : (16 : Int) ≤ N := by omega
        have c2 : (16 : Int) ≤ (n : Int) + 16 := by omega
        have c3 : ¬ n = 0 := by omega
        have hN16 : 16 ≤ N := by omega
        clear hN
        go_wp2_with fail
        cases ho : opens N F
        · skip
          refine (open_no (some ⟨g, 0, none⟩) N N F _ (Arg.of (RR.out.lies RF.out)) (by omega) (Nat.le_refl _) (by omega) ho).mono ?_
          rintro e w6 ⟨rfl, hB6⟩
          have R6 : Hid (IRow w6 g .u8 N F) := RR.out.below hB6
          have L6 : Hid (Lies w6 q 0 N (sealedF n f)) := RL.out.below hB6
          have E6 : Hid (Below w.heap.size w w6) := BE.out.trans (hB6.mono BE.out.size)
          have HO : Hid (opens N F = false) := ho
          clear hB6 ho RR RL BE
          go_wp2_with fail
          refine (sum_any (some ⟨g, 16, none⟩) n n (fun j => F (16 + j)) _ (turn_arg R6.out RF.out HN.out) (Nat.le_refl _) (by omega)).mono ?_
          rintro e w7 ⟨rfl, hB7⟩
          go_wp2_with (first
            | (refine wpList_alloc_row rfl 23 rfl .u8 16 w7.heap.size rfl zero8_16 ?_; intro w8 hR8 hB8 hz8)
            | (refine wpList_store_row rfl 23 (.tmp 12) _ rfl w7.heap.size .u8 16 (sealF n (fun j => F (16 + j))) (fun _ => 0) rfl rfl hR8 (by kernel_rfl) ?_; intro w9 hR9 hB9 hz9))
          have K9 : Below w6.heap.size w6 w9 := (hB7.trans (hB8.mono hB7.size)).trans (hB9.below hB7.size (by have := hB7.size; omega))
          have S9 : Hid (IRow w9 w7.heap.size .u8 16 (sealF n (fun j => F (16 + j)))) := hR9
          have R9 : Hid (IRow w9 g .u8 N F) := R6.out.below K9
          have L9 : Hid (Lies w9 q 0 N (sealedF n f)) := L6.out.below K9
          have E9 : Hid (Below w.heap.size w w9) := E6.out.trans (K9.mono E6.out.size)
          clear hB7 hR8 hB8 hz8 hR9 hB9 hz9 K9 R6 L6 E6
          go_wp2_with fail
          go_quiet ((go_at_call 17; exact Calls.quiet_of_same (same_any (some ⟨w7.heap.size, 0, none⟩) (some ⟨g, 0, none⟩) 16 16 16 N (sealF n (fun j => F (16 + j))) F _ (Arg.of ((S9.out.below (below_drewN (Below.refl _ _) _)).lies (fun j _ => sealF_byte _ _ j))) (turn_head (R9.out.below (below_drewN (Below.refl _ _) _)) RF.out (by omega)))))
          have ht : decide (txtN 16 (sealF n (fun j => F (16 + j))) = txtN 16 F) = false := turn_no RF.out HN.out HO.out
          rw [ht]
          clear ht
          have L10 := L9.out.below (below_drewN (Below.refl _ _) nq)
          have R10 := R9.out.below (below_drewN (Below.refl _ _) nq)
          have E10 : Hid (Below w.heap.size w (w9.drewN nq)) := below_drewN E9.out _
          clear R9 E9 S9 L9
          generalize w9.drewN nq = w10 at L10 R10 E10 ⊢
          go_wp2_with fail
          refine (same_any (some ⟨g, 0, none⟩) (some ⟨q, 0, none⟩) N N N capq F (sealedF n f) _ (Arg.of (R10.lies RF.out)) (Arg.of L10)).mono ?_
          rintro e w11 ⟨rfl, hw⟩
          rw [hw, turn_other RF.out SB.out HN.out HO.out]
          clear hw w11
          go_wp2_with fail
          go_ret
          exact ⟨rfl, E10.out⟩
        · skip
          refine (open_ok (some ⟨g, 0, none⟩) N N F _ (Arg.of (RR.out.lies RF.out)) (by omega) (Nat.le_refl _) (by omega) ho).mono ?_
          rintro e w6 ⟨x, rfl, hx, hR6, hB6⟩
          rw [cn] at hR6 ⊢
          have X6 : Hid (IRow w6 x .u8 n (fun j => F (16 + j))) := hR6
          have R6 : Hid (IRow w6 g .u8 N F) := RR.out.below hB6
          have L6 : Hid (Lies w6 q 0 N (sealedF n f)) := RL.out.below hB6
          have E6 : Hid (Below w.heap.size w w6) := BE.out.trans (hB6.mono BE.out.size)
          have HO : Hid (opens N F = true) := ho
          clear hB6 ho RR RL BE hR6 hx
          go_wp2_with fail
          refine (sum_any (some ⟨g, 16, none⟩) n n (fun j => F (16 + j)) _ (turn_arg R6.out RF.out HN.out) (Nat.le_refl _) (by omega)).mono ?_
          rintro e w7 ⟨rfl, hB7⟩
          go_wp2_with (first
            | (refine wpList_alloc_row rfl 23 rfl .u8 16 w7.heap.size rfl zero8_16 ?_; intro w8 hR8 hB8 hz8)
            | (refine wpList_store_row rfl 23 (.tmp 12) _ rfl w7.heap.size .u8 16 (sealF n (fun j => F (16 + j))) (fun _ => 0) rfl rfl hR8 (by kernel_rfl) ?_; intro w9 hR9 hB9 hz9))
          have K9 : Below w6.heap.size w6 w9 := (hB7.trans (hB8.mono hB7.size)).trans (hB9.below hB7.size (by have := hB7.size; omega))
          have S9 : Hid (IRow w9 w7.heap.size .u8 16 (sealF n (fun j => F (16 + j)))) := hR9
          have R9 : Hid (IRow w9 g .u8 N F) := R6.out.below K9
          have L9 : Hid (Lies w9 q 0 N (sealedF n f)) := L6.out.below K9
          have E9 : Hid (Below w.heap.size w w9) := E6.out.trans (K9.mono E6.out.size)
          have X9 : Hid (IRow w9 x .u8 n (fun j => F (16 + j))) := X6.out.below K9
          clear hB7 hR8 hB8 hz8 hR9 hB9 hz9 K9 R6 L6 E6 X6
          go_wp2_with fail
          go_quiet ((go_at_call 17; exact Calls.quiet_of_same (same_any (some ⟨w7.heap.size, 0, none⟩) (some ⟨g, 0, none⟩) 16 16 16 N (sealF n (fun j => F (16 + j))) F _ (Arg.of ((S9.out.below (below_drewN (Below.refl _ _) _)).lies (fun j _ => sealF_byte _ _ j))) (turn_head (R9.out.below (below_drewN (Below.refl _ _) _)) RF.out (by omega)))))
          have ht : decide (txtN 16 (sealF n (fun j => F (16 + j))) = txtN 16 F) = true := turn_yes HN.out HO.out
          rw [ht]
          clear ht
          have X10 := X9.out.below (below_drewN (Below.refl _ _) nq)
          have R10 := R9.out.below (below_drewN (Below.refl _ _) nq)
          have E10 : Hid (Below w.heap.size w (w9.drewN nq)) := below_drewN E9.out _
          clear X9 R9 E9 S9 L9
          generalize w9.drewN nq = w10 at X10 R10 E10 ⊢
          go_wp2_with fail
          refine (same_any (some ⟨x, 0, none⟩) (some ⟨g, 16, none⟩) n n n n (fun j => F (16 + j)) (fun j => F (16 + j)) _ (Arg.of (X10.lies (fun j hj => RF.out (16 + j) (by have := HN.out; omega)))) (turn_arg R10 RF.out HN.out)).mono ?_
          rintro e w11 ⟨rfl, hw⟩
          rw [hw, decide_eq_true rfl]
          clear hw w11
          go_wp2_with fail
          go_ret
          exact ⟨rfl, E10.out⟩
theorem turned_all (a t : Option Addr) (n C m C' : Nat) (f X Y : Nat → Int) (w : World) (h : Arg w a n f) (hC : n ≤ C) (hT : TArg w t m X Y) :
    Calls Try.prog 7 #[.slice a n C, .slice t m C'] w fun e w' => e = .returned (.bool true) ∧ Below w.heap.size w w' := by
  by_cases h1 : 2000 < n ∨ 40 < m
  · exact turned_long a t n C m C' w h1
  · exact turned_any a t n C m C' f X Y w h hC (by omega) hT (by omega)
end Go.Proofs.Ytgcmlnjmfdoomaa
