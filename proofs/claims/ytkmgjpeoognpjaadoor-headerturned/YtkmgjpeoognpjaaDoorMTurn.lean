/-
  Walks, not a claim by itself: HeaderTurned. By the verifier.
-/
import Derived.Test.YtkmgjpeoognpjaaDoorMRight
import Derived.Test.YtkmgjpeoognpjaaDoorBPick
namespace Go.Proofs.YtkmgjpeoognpjaaDoor
open Go.RowKit
/-- Turns that lie in a block. -/
def TLies (w : World) (b off m : Nat) (X Y : Nat → Int) : Prop := (∀ i, i < m → w.cell? ⟨b, off + i * 2, none⟩ = some (.int .i64 (X i)) ∧ w.cell? ⟨b, off + i * 2 + 1, none⟩ = some (.int .u8 (Y i)) ∧ 0 ≤ Y i ∧ Y i < 256) ∧ b < w.heap.size
theorem TLies.below {u v : World} {b off m : Nat} {X Y : Nat → Int} (h : TLies u b off m X Y) (hb : Below u.heap.size u v) : TLies v b off m X Y :=
  ⟨fun i hi => ⟨(hb.cell (p := ⟨b, off + i * 2, none⟩) h.2).trans (h.1 i hi).1, (hb.cell (p := ⟨b, off + i * 2 + 1, none⟩) h.2).trans (h.1 i hi).2.1, (h.1 i hi).2.2⟩, Nat.lt_of_lt_of_le h.2 hb.size⟩
/-- A slice of turns. -/
def TArg (w : World) (a : Option Addr) (m : Nat) (X Y : Nat → Int) : Prop := m = 0 ∨ ∃ b off, a = some ⟨b, off, none⟩ ∧ TLies w b off m X Y
/-- What holds at the head of the loop. -/
def mtRel (w : World) (g q N m : Nat) (f : Nat → Int) (h : Nat → Int) (a : Option Addr) (n C : Nat) (i : Value) (wr : World) : Prop := ∃ (k : Nat) (F : Nat → Int), k ≤ m ∧ i = .int .i64 k ∧ IRow wr g .u8 N F ∧ (∀ j, j < N → 0 ≤ F j ∧ F j < 256) ∧ Lies wr q 0 N f ∧ Rec19 wr w.heap.size 0 (msg h a n C) ∧ Below w.heap.size w wr
theorem xor_byte (a b : Int) (h1 : 0 ≤ a ∧ a < 256) (h2 : 0 ≤ b ∧ b < 256) : 0 ≤ bits .xor .u8 a b ∧ bits .xor .u8 a b < 256 := by
  rw [u8_xor a b h1.1 h1.2 h2.1 h2.2]
  have : a.toNat ^^^ b.toNat < 2 ^ 8 := Nat.xor_lt_two_pow (by omega) (by omega)
  omega
theorem mt_step {w wr : World} {g q N m k r : Nat} {f F h : Nat → Int} {a : Option Addr} {n C : Nat} {v : Int} (hk : k < m) (hR : IRow wr g .u8 N F) (hF : ∀ j, j < N → 0 ≤ F j ∧ F j < 256) (hL : Lies wr q 0 N f) (hM : Rec19 wr w.heap.size 0 (msg h a n C)) (hB : Below w.heap.size w wr) (hg : w.heap.size < g) (hgq : g ≠ q) (hv : 0 ≤ v ∧ v < 256) :
    mtRel w g q N m f h a n C (.int .i64 ((k : Int) + 1)) (wr.setCell ⟨g, r, none⟩ (.int .u8 v)).drew :=
  ⟨k + 1, upd F r v, by omega, by go_num, (hR.set r v).drew, fun j hj => by unfold upd; split; (· exact hv); (· exact hF j hj), (hL.but (But.set _ _ _) (Ne.symm hgq)).below (Below.refl _ _).drew, (hM.but (But.set _ _ _) (by omega)).below (Below.refl _ _).drew, (hB.setCell (by show _ ≤ g; omega) _).drew⟩
theorem pick_of (x : Int) (n : Nat) (i : Int) (w : World) (hi : i = n) (h1 : 1 ≤ n) (h2 : n ≤ 1000000) : Calls Tryd.prog 25 #[.int .i64 x, .int .i64 i] w (PickPost n w) := by
  subst hi
  exact pick_any x n w h1 h2
set_option maxRecDepth 100000 in
set_option maxHeartbeats 400000 in
theorem turned_far_a (h : Nat → Int) (a t : Option Addr) (n C m C' : Nat) (w : World) (hT : Tab w) (hl : 3000 < n) : Calls Tryd.prog 7 #[.agg (msg h a n C).toArray, .slice t m C'] w fun e w' => e = .returned (.bool true) ∧ Below w.heap.size w w' := by
  have hT0 := hT.2
  have TT : Hid (Tab w) := hT
  have e1 : (3000 : Int) < n := by omega

  clear hT
  go_enter Tryd.func7, Tryd.ntmps7
  go_wp2_with (first
    | (refine wpList_box_rec rfl 29 (.tmp 0) rfl (msg h a n C) rfl w.heap.size rfl ?_; intro W0 R0 B0 z0
       have S0 : Hid (bkS w h a n C W0) := ⟨R0, TT.out.below B0 hT0, B0⟩
       clear R0 B0 z0)
    | (go_at_call 5; refine (known_any _ S0.out.2.1).mono ?_; rintro e W1 ⟨rfl, hB1⟩
       have S1 : Hid (bkS w h a n C W1) := S0.out.below hB1
       obtain ⟨c16, _⟩ := S1.out.1.at 16 _ (msg_body h a n C)
       clear hB1 S0))
  go_ret
  exact ⟨rfl, S1.out.2.2⟩
set_option maxRecDepth 100000 in
set_option maxHeartbeats 400000 in
theorem turned_far_b (h : Nat → Int) (a t : Option Addr) (n C m C' : Nat) (w : World) (hT : Tab w) (hl : ¬ 3000 < n ∧ 40 < m) : Calls Tryd.prog 7 #[.agg (msg h a n C).toArray, .slice t m C'] w fun e w' => e = .returned (.bool true) ∧ Below w.heap.size w w' := by
  have hT0 := hT.2
  have TT : Hid (Tab w) := hT
  have e1 : (40 : Int) < m := by omega
  have e0 : ¬ (3000 : Int) < n := by omega
  clear hT
  go_enter Tryd.func7, Tryd.ntmps7
  go_wp2_with (first
    | (refine wpList_box_rec rfl 29 (.tmp 0) rfl (msg h a n C) rfl w.heap.size rfl ?_; intro W0 R0 B0 z0
       have S0 : Hid (bkS w h a n C W0) := ⟨R0, TT.out.below B0 hT0, B0⟩
       clear R0 B0 z0)
    | (go_at_call 5; refine (known_any _ S0.out.2.1).mono ?_; rintro e W1 ⟨rfl, hB1⟩
       have S1 : Hid (bkS w h a n C W1) := S0.out.below hB1
       obtain ⟨c16, _⟩ := S1.out.1.at 16 _ (msg_body h a n C)
       clear hB1 S0))
  go_ret
  exact ⟨rfl, S1.out.2.2⟩
set_option maxRecDepth 100000 in
set_option maxHeartbeats 400000 in
theorem turned_long (h : Nat → Int) (a t : Option Addr) (n C m C' : Nat) (w : World) (hT : Tab w) (hn : n ≤ 3000) (hm : m ≤ 40) (hl : 1024 < n) : Calls Tryd.prog 7 #[.agg (msg h a n C).toArray, .slice t m C'] w fun e w' => e = .returned (.bool true) ∧ Below w.heap.size w w' := by
  have hT0 := hT.2
  have TT : Hid (Tab w) := hT

  clear hT
  have e0 : ¬ (3000 : Int) < n := by omega
  have e1 : ¬ (40 : Int) < m := by omega
  go_enter Tryd.func7, Tryd.ntmps7
  go_wp2_with (first
    | (refine wpList_box_rec rfl 29 (.tmp 0) rfl (msg h a n C) rfl w.heap.size rfl ?_; intro W0 R0 B0 z0
       have S0 : Hid (bkS w h a n C W0) := ⟨R0, TT.out.below B0 hT0, B0⟩
       clear R0 B0 z0)
    | (go_at_call 5; refine (known_any _ S0.out.2.1).mono ?_; rintro e W1 ⟨rfl, hB1⟩
       have S1 : Hid (bkS w h a n C W1) := S0.out.below hB1
       obtain ⟨c16, _⟩ := S1.out.1.at 16 _ (msg_body h a n C)
       clear hB1 S0)
    | (refine wpList_load_rec rfl 29 (.tmp 2) rfl w.heap.size 0 (msg h a n C) rfl _ Tryd.underlying29 rfl (by kernel_rfl) S1.out.1 ?_)
    | (have _q := S1; clear _q; go_at_call 9; refine (mseal_long h a n C _ hl).mono ?_; rintro e W2 ⟨rfl, hB2⟩
       have S2 : Hid (bkS w h a n C W2) := S1.out.below hB2
       clear hB2 S1 c16))
  go_ret
  exact ⟨rfl, S2.out.2.2⟩
set_option maxRecDepth 100000 in
set_option maxHeartbeats 400000 in
theorem turned_arg (h : Nat → Int) (a t : Option Addr) (n C m C' : Nat) (w : World) (hT : Tab w) (hn : n ≤ 3000) (hm : m ≤ 40) (hl : ¬ 1024 < n) (ho : okH (upd h 2 (n : Nat)) = false) : Calls Tryd.prog 7 #[.agg (msg h a n C).toArray, .slice t m C'] w fun e w' => e = .returned (.bool true) ∧ Below w.heap.size w w' := by
  have hT0 := hT.2
  have TT : Hid (Tab w) := hT
  have OK : Hid (okH (upd h 2 (n : Nat)) = false) := ho
  clear hT ho
  have e0 : ¬ (3000 : Int) < n := by omega
  have e1 : ¬ (40 : Int) < m := by omega
  go_enter Tryd.func7, Tryd.ntmps7
  go_wp2_with (first
    | (refine wpList_box_rec rfl 29 (.tmp 0) rfl (msg h a n C) rfl w.heap.size rfl ?_; intro W0 R0 B0 z0
       have S0 : Hid (bkS w h a n C W0) := ⟨R0, TT.out.below B0 hT0, B0⟩
       clear R0 B0 z0)
    | (go_at_call 5; refine (known_any _ S0.out.2.1).mono ?_; rintro e W1 ⟨rfl, hB1⟩
       have S1 : Hid (bkS w h a n C W1) := S0.out.below hB1
       obtain ⟨c16, _⟩ := S1.out.1.at 16 _ (msg_body h a n C)
       clear hB1 S0)
    | (refine wpList_load_rec rfl 29 (.tmp 2) rfl w.heap.size 0 (msg h a n C) rfl _ Tryd.underlying29 rfl (by kernel_rfl) S1.out.1 ?_)
    | (have _q := S1; clear _q; go_at_call 9; refine (mseal_arg h a n C _ (by omega) S1.out.2.1 OK.out).mono ?_; rintro e W2 ⟨rfl, hB2⟩
       have S2 : Hid (bkS w h a n C W2) := S1.out.below hB2
       clear hB2 S1 c16))
  go_ret
  exact ⟨rfl, S2.out.2.2⟩
theorem open_at (g N : Nat) (h : Nat → Int) (n : Nat) (f : Nat → Int) (w : World) (hT : Tab w) (hn : n ≤ 1024) (hf : ∀ j, j < n → 0 ≤ f j ∧ f j < 256) (hR : IRow w g .u8 N (msgF h n f)) (hk : okH h = true) (hw : Words h) (h2 : h 2 = n) (hN : 256 + n = N) :
    Calls Tryd.prog 17 #[.slice (some ⟨g, 0, none⟩) N N] w fun e w' => ∃ q, e = .returned (ME h (some ⟨q, 0, none⟩) n 0) ∧ w.heap.size ≤ q ∧ Arg w' (some ⟨q, 0, none⟩) n f ∧ Below w.heap.size w w' := by
  subst hN
  exact open_msg g h n f w hT hn hf hR hk hw h2
set_option maxRecDepth 100000 in
set_option maxHeartbeats 400000 in
theorem turned_ok (h : Nat → Int) (a t : Option Addr) (n C m C' : Nat) (f X Y : Nat → Int) (w : World) (hT : Tab w) (hA : Arg w a n f) (hC : n ≤ C) (ht : TArg w t m X Y) (hW : Words h) (hm : m ≤ 40) (hl : ¬ 1024 < n) (ho : okH (upd h 2 (n : Nat)) = true) : Calls Tryd.prog 7 #[.agg (msg h a n C).toArray, .slice t m C'] w fun e w' => e = .returned (.bool true) ∧ Below w.heap.size w w' := by
  have hT0 := hT.2
  have TT : Hid (Tab w) := hT
  have HA : Hid (Arg w a n f) := hA
  have HT : Hid (TArg w t m X Y) := ht
  have OK : Hid (okH (upd h 2 (n : Nat)) = true) := ho
  have HW : Hid (Words h) := hW
  obtain ⟨hh, hhe⟩ : ∃ x, upd h 2 ((n : Nat) : Int) = x := ⟨_, rfl⟩
  have HH : Hid (upd h 2 ((n : Nat) : Int) = hh) := hhe
  have OK2 : Hid (okH hh = true) := (by rw [← hhe]; exact ho : okH hh = true)
  have HW2 : Hid (Words hh) := (by rw [← hhe]; exact hW.size _ : Words hh)
  have H2 : Hid (hh 2 = (n : Int)) := (by rw [← hhe]; rfl : hh 2 = (n : Int))
  clear hT hA ht ho hhe hW
  have e0 : ¬ (3000 : Int) < n := by omega
  have e1 : ¬ (40 : Int) < m := by omega
  go_enter Tryd.func7, Tryd.ntmps7
  go_wp2_with (first
    | (refine wpList_box_rec rfl 29 (.tmp 0) rfl (msg h a n C) rfl w.heap.size rfl ?_; intro W0 R0 B0 z0
       have S0 : Hid (bkS w h a n C W0) := ⟨R0, TT.out.below B0 hT0, B0⟩
       clear R0 B0 z0)
    | (go_at_call 5; refine (known_any _ S0.out.2.1).mono ?_; rintro e W1 ⟨rfl, hB1⟩
       have S1 : Hid (bkS w h a n C W1) := S0.out.below hB1
       obtain ⟨c16, _⟩ := S1.out.1.at 16 _ (msg_body h a n C)
       clear hB1 S0)
    | (refine wpList_load_rec rfl 29 (.tmp 2) rfl w.heap.size 0 (msg h a n C) rfl _ Tryd.underlying29 rfl (by kernel_rfl) S1.out.1 ?_))
  refine (mseal_ok h a n C f _ (by omega) S1.out.2.1 (HA.out.below S1.out.2.2) hC HW.out OK.out).mono ?_
  rintro e W2 ⟨g, rfl, hg, hR2, hB2⟩
  rw [HH.out] at hR2
  have S2 := S1.out.below hB2
  have N2 : w.heap.size < g := by have := S1.out.1.2.2; omega
  obtain ⟨N, hN⟩ : ∃ N, 256 + n = N := ⟨_, rfl⟩
  rw [hN] at hR2 ⊢
  have HN : Hid (256 + n = N) := hN
  have SB : Hid (∀ j, j < N → 0 ≤ msgF hh n f j ∧ msgF hh n f j < 256) := fun j hj => msgF_byte hh n f HA.out.bytes j (by omega)
  have n1 : 256 ≤ N := by omega
  have n2 : N ≤ 1280 := by omega
  have n3 : ¬ (N : Int) < 256 := by omega
  clear hN S1 c16 hB2 hg
  go_wp2_with fail
  refine (copy_any (some ⟨g, 0, none⟩) N N (msgF hh n f) _ (Arg.of (hR2.lies SB.out)) (by omega)).mono ?_
  rintro e w3 ⟨v3, rfl, hO3, hB3⟩
  obtain ⟨q, capq, rfl, hq, _, hlq⟩ := hO3.form (by omega) SB.out
  have hgq : g ≠ q := by have := hR2.2.2; omega
  have hwq : w.heap.size < q := by have := S2.1.2.2; omega
  have ST : Hid (mtRel w g q N m (msgF hh n f) h a n C (.int .i64 0) w3) := ⟨0, msgF hh n f, by omega, rfl, hR2.below hB3, SB.out, hlq, S2.1.below hB3, S2.2.2.trans (hB3.mono S2.2.2.size)⟩
  clear hR2 hO3 hB3 hlq hq S2
  go_wp2_with fail
  go_loopw [9] (fun i wr => mtRel w g q N m (msgF hh n f) h a n C i wr) (fun i _ => m - (intOf i).toNat)
  case atStart => exact ST.out
  case round =>
    obtain ⟨k, F, hk, rfl, hR, hF, hL, hM, hB⟩ := hrel
    clear ST
    have RR : Hid (IRow wr g .u8 N F) := hR
    have RF : Hid (∀ j, j < N → 0 ≤ F j ∧ F j < 256) := hF
    have RL : Hid (Lies wr q 0 N (msgF hh n f)) := hL
    have RM : Hid (Rec19 wr w.heap.size 0 (msg h a n C)) := hM
    have BE : Hid (Below w.heap.size w wr) := hB
    clear hF hL hM
    by_cases hlt : k < m
    · rcases HT.out with h0 | ⟨tb, toff, rfl, ht⟩
      · omega
      have tl := (ht.1 k hlt)
      have htb := ht.2
      have c1 := (hB.cell (p := ⟨tb, toff + k * 2, none⟩) htb).trans tl.1
      have c2 := (hB.cell (p := ⟨tb, toff + k * 2 + 1, none⟩) htb).trans tl.2.1
      have YB : Hid (0 ≤ Y k ∧ Y k < 256) := tl.2.2
      clear tl ht hB
      have i0 : (k : Int) < m := by omega
      have i1 : (0 : Int) ≤ (k : Int) := by omega
      go_wp2_with fail
      refine (pick_of (X k) N (N : Int) _ rfl (by omega) (by omega)).mono ?_
      rintro e w5 ⟨r, hr, rfl, rfl⟩
      have cr := hR.1 r hr
      have fr := hR.2.1 r
      have ne : ¬ g = tb := by omega
      have j0 : (r : Int) < N := by omega
      have j1 : (0 : Int) ≤ (r : Int) := by omega
      clear hR
      go_wp2_with fail
      go_region
      go_wp2_with fail
      exact ⟨mt_step hlt RR.out RF.out RL.out RM.out BE.out N2 hgq (xor_byte _ _ (RF.out r hr) YB.out), by simp [intOf]; omega⟩
    · obtain rfl : k = m := by omega
      clear hR hB
      by_cases heq : ∀ j, j < N → F j = msgF hh n f j
      · have RR' : Hid (IRow wr g .u8 N (msgF hh n f)) := RR.out.congr heq
        clear RR RF heq
        have RR := RR'
        clear RR'
        go_wp2_with (first
          | (have _q := RR; clear _q; go_at_call 17; refine (open_at g N hh n f _ (TT.out.below BE.out hT0) (by omega) HA.out.bytes RR.out OK2.out HW2.out H2.out HN.out).mono ?_; rintro e W3 ⟨x, rfl, hx, Q3, hB3⟩
             have QN : Hid (w.heap.size < x) := (by have := RM.out.2.2; omega : w.heap.size < x)
             clear hx
             have R3 := RR.out.below hB3
             have L3 := RL.out.below hB3
             have M3 := RM.out.below hB3
             have E3 := BE.out.trans (hB3.mono BE.out.size)
             clear RR RL RM BE hB3)
          | (refine wpList_alloc_rec rfl 29 rfl (msg (fun _ => 0) none 0 0) W3.heap.size rfl zeroMsg ?_; intro W4 K4 B4 z4)
          | (refine wpList_store_rec rfl 29 (.tmp 11) (.tmp 67) rfl W3.heap.size 0 _ (msg hh (some ⟨x, 0, none⟩) n n) rfl rfl K4 rfl (by kernel_rfl) (msg_one _ _ _ _) ?_; intro W5 K5 B5
             have F5 : Below W3.heap.size W3 W5 := B4.trans (B5.below (Nat.le_refl _) (by omega))
             have R5 := R3.below F5
             have L5 := L3.below F5
             have M5 := M3.below F5
             have E5 := E3.trans (F5.mono E3.size)
             have N5 : w.heap.size < W3.heap.size := M3.2.2
             obtain ⟨d16, _⟩ := M5.at 16 _ (msg_body h a n C)
             obtain ⟨d2, f2'⟩ := M5.at 2 (.int .i64 (h 2)) rfl
             have BS : Below w.heap.size W5 (W5.setCell ⟨w.heap.size, 2, none⟩ (.int .i64 n)) := (Below.refl w.heap.size W5).setCell (p := ⟨w.heap.size, 2, none⟩) (Nat.le_refl _) _
             have E6 : Hid (Below w.heap.size w (W5.setCell ⟨w.heap.size, 2, none⟩ (.int .i64 n))) := E5.trans BS
             have R6 : Hid (IRow (W5.setCell ⟨w.heap.size, 2, none⟩ (.int .i64 n)) g .u8 N (msgF hh n f)) := R5.but (But.set _ _ _) (by omega)
             have L6 : Hid (Lies (W5.setCell ⟨w.heap.size, 2, none⟩ (.int .i64 n)) q 0 N (msgF hh n f)) := L5.but (But.set _ _ _) (by omega)
             have Q5 := Q3.below F5
             have M6 : Hid (Rec19 (W5.setCell ⟨w.heap.size, 2, none⟩ (.int .i64 n)) W3.heap.size 0 (msg hh (some ⟨x, 0, none⟩) n n)) := K5.but (But.set _ _ _) (by omega)
             have Q6 : Hid (Arg (W5.setCell ⟨w.heap.size, 2, none⟩ (.int .i64 n)) (some ⟨x, 0, none⟩) n f) := Q5.keep (But.set _ _ _) (fun r hr => by injection hr with hr; subst hr; have := QN.out; show x ≠ w.heap.size; omega)
             have S6 : Hid (Rec19 (W5.setCell ⟨w.heap.size, 2, none⟩ (.int .i64 n)) w.heap.size 0 (msg hh a n C)) := (by rw [← HH.out, ← msg_size]; exact M5.set 2 (.int .i64 n) (by rw [msg_len]; omega) : Rec19 (W5.setCell ⟨w.heap.size, 2, none⟩ (.int .i64 n)) w.heap.size 0 (msg hh a n C))
             clear Q5 Q3
             clear F5 R5 L5 M5 E5 BS K4 B4 z4 K5 B5 R3 L3 M3 E3)
          | (go_at_call 11; refine (same_any (some ⟨g, 0, none⟩) (some ⟨q, 0, none⟩) N N N capq (msgF hh n f) (msgF hh n f) _ (Arg.of (R6.out.lies SB.out)) (Arg.of L6.out)).mono ?_; rintro e W7 ⟨rfl, hW7⟩; rw [hW7, decide_eq_true rfl]; clear hW7 W7)
          | (refine wpList_load_w (by rfl) 29 (.tmp 11) rfl W3.heap.size 0 (msg hh (some ⟨x, 0, none⟩) n n) rfl _ Tryd.underlying29 rfl (by kernel_rfl) M6.out ?_)
          | (refine wpList_load_w (by rfl) 29 (.tmp 2) rfl w.heap.size 0 (msg hh a n C) rfl _ Tryd.underlying29 rfl (by kernel_rfl) S6.out ?_)
          | (go_at_call 21; refine (sameMsg_any hh (some ⟨x, 0, none⟩) a n n n C f f _ Q6.out (HA.out.below E6.out) rfl (fun _ _ => rfl)).mono ?_; rintro e W8 ⟨rfl, hB8⟩
             have E8 : Hid (Below w.heap.size w W8) := E6.out.trans (hB8.mono E6.out.size)
             clear hB8))
        go_ret
        exact ⟨rfl, E8.out⟩
      · have NE : Hid (decide (txtN N F = txtN N (msgF hh n f)) = false) := decide_eq_false (fun e => heq (txtN_inj RF.out SB.out e).2)
        clear heq
        by_cases hc : openCode N F = 0
        · have OC : Hid (openCode N F = 0) := hc
          have RV : Hid ((headSeal F && bodySeal N F) = true) := (by
            obtain ⟨_, h1, _, h3⟩ := openCode_zero hc
            rw [(headCode_zero h1).1, h3]; rfl : (headSeal F && bodySeal N F) = true)
          clear hc
          go_wp2_with (first
            | (have _q := RR; clear _q; go_at_call 17; refine (mopen_ok (some ⟨g, 0, none⟩) N N F _ (TT.out.below BE.out hT0) (Arg.of (RR.out.lies RF.out)) (Nat.le_refl _) (by omega) OC.out).mono ?_; rintro e W3 ⟨x, rfl, hx, Q3, hB3⟩; clear hx Q3
               have R3 := RR.out.below hB3
               have L3 := RL.out.below hB3
               have M3 := RM.out.below hB3
               have E3 := BE.out.trans (hB3.mono BE.out.size)
               clear RR RL RM BE hB3)
            | (refine wpList_alloc_rec rfl 29 rfl (msg (fun _ => 0) none 0 0) W3.heap.size rfl zeroMsg ?_; intro W4 K4 B4 z4)
            | (refine wpList_store_rec rfl 29 (.tmp 11) (.tmp 67) rfl W3.heap.size 0 _ (msg (hdrF F) (some ⟨x, 0, none⟩) (N - 256) (N - 256)) rfl rfl K4 rfl (by kernel_rfl) (msg_one _ _ _ _) ?_; intro W5 K5 B5
               have F5 : Below W3.heap.size W3 W5 := B4.trans (B5.below (Nat.le_refl _) (by omega))
               have R5 := R3.below F5
               have L5 := L3.below F5
               have M5 := M3.below F5
               have E5 := E3.trans (F5.mono E3.size)
               have N5 : w.heap.size < W3.heap.size := M3.2.2
               obtain ⟨d16, _⟩ := M5.at 16 _ (msg_body h a n C)
               obtain ⟨d2, f2'⟩ := M5.at 2 (.int .i64 (h 2)) rfl
               have BS : Below w.heap.size W5 (W5.setCell ⟨w.heap.size, 2, none⟩ (.int .i64 n)) := (Below.refl w.heap.size W5).setCell (p := ⟨w.heap.size, 2, none⟩) (Nat.le_refl _) _
               have E6 : Hid (Below w.heap.size w (W5.setCell ⟨w.heap.size, 2, none⟩ (.int .i64 n))) := E5.trans BS
               have R6 : Hid (IRow (W5.setCell ⟨w.heap.size, 2, none⟩ (.int .i64 n)) g .u8 N F) := R5.but (But.set _ _ _) (by omega)
               have L6 : Hid (Lies (W5.setCell ⟨w.heap.size, 2, none⟩ (.int .i64 n)) q 0 N (msgF hh n f)) := L5.but (But.set _ _ _) (by omega)
               clear F5 R5 L5 M5 E5 BS K4 B4 z4 K5 B5 R3 L3 M3 E3)
            | (go_at_call 11; refine (same_any (some ⟨g, 0, none⟩) (some ⟨q, 0, none⟩) N N N capq F (msgF hh n f) _ (Arg.of (R6.out.lies RF.out)) (Arg.of L6.out)).mono ?_; rintro e W7 ⟨rfl, hW7⟩; rw [hW7, NE.out]; clear hW7 W7)
            | (go_at_call 26; refine (rgt_any g N F _ R6.out RF.out (by omega) (by omega)).mono ?_; rintro e W8 ⟨rfl, hB8⟩; rw [RV.out]
               have E8 : Hid (Below w.heap.size w W8) := E6.out.trans (hB8.mono E6.out.size)
               clear hB8))
          go_ret
          exact ⟨rfl, E8.out⟩
        · have OC : Hid (openCode N F ≠ 0) := hc
          obtain ⟨c, hce⟩ : ∃ c, openCode N F = c := ⟨_, rfl⟩
          have OV : Hid (openCode N F = c) := hce
          have c0 : (c != 0) = true := by rw [← hce]; simpa using hc
          clear hc hce
          cases hr : (headSeal F && bodySeal N F) with
          | false =>
            have RV : Hid ((headSeal F && bodySeal N F) = false) := hr
            clear hr
            go_wp2_with (first
              | (have _q := RR; clear _q; go_at_call 17; refine (mopen_no (some ⟨g, 0, none⟩) N N F _ (TT.out.below BE.out hT0) (Arg.of (RR.out.lies RF.out)) (Nat.le_refl _) (by omega) OC.out).mono ?_; rintro e W3 ⟨rfl, hB3⟩; rw [OV.out]
                 have R3 := RR.out.below hB3
                 have L3 := RL.out.below hB3
                 have M3 := RM.out.below hB3
                 have E3 := BE.out.trans (hB3.mono BE.out.size)
                 clear RR RL RM BE hB3)
              | (refine wpList_alloc_rec rfl 29 rfl (msg (fun _ => 0) none 0 0) W3.heap.size rfl zeroMsg ?_; intro W4 K4 B4 z4)
              | (refine wpList_store_rec rfl 29 (.tmp 11) (.tmp 67) rfl W3.heap.size 0 _ (msg (fun _ => 0) none 0 0) rfl rfl K4 rfl (by kernel_rfl) (msg_one _ _ _ _) ?_; intro W5 K5 B5
                 have F5 : Below W3.heap.size W3 W5 := B4.trans (B5.below (Nat.le_refl _) (by omega))
                 have R5 := R3.below F5
                 have L5 := L3.below F5
                 have M5 := M3.below F5
                 have E5 := E3.trans (F5.mono E3.size)
                 have N5 : w.heap.size < W3.heap.size := M3.2.2
                 obtain ⟨d16, _⟩ := M5.at 16 _ (msg_body h a n C)
                 obtain ⟨d2, f2'⟩ := M5.at 2 (.int .i64 (h 2)) rfl
                 have BS : Below w.heap.size W5 (W5.setCell ⟨w.heap.size, 2, none⟩ (.int .i64 n)) := (Below.refl w.heap.size W5).setCell (p := ⟨w.heap.size, 2, none⟩) (Nat.le_refl _) _
                 have E6 : Hid (Below w.heap.size w (W5.setCell ⟨w.heap.size, 2, none⟩ (.int .i64 n))) := E5.trans BS
                 have R6 : Hid (IRow (W5.setCell ⟨w.heap.size, 2, none⟩ (.int .i64 n)) g .u8 N F) := R5.but (But.set _ _ _) (by omega)
                 have L6 : Hid (Lies (W5.setCell ⟨w.heap.size, 2, none⟩ (.int .i64 n)) q 0 N (msgF hh n f)) := L5.but (But.set _ _ _) (by omega)
                 clear F5 R5 L5 M5 E5 BS K4 B4 z4 K5 B5 R3 L3 M3 E3)
              | (go_at_call 11; refine (same_any (some ⟨g, 0, none⟩) (some ⟨q, 0, none⟩) N N N capq F (msgF hh n f) _ (Arg.of (R6.out.lies RF.out)) (Arg.of L6.out)).mono ?_; rintro e W7 ⟨rfl, hW7⟩; rw [hW7, NE.out]; clear hW7 W7)
              | (go_at_call 26; refine (rgt_any g N F _ R6.out RF.out (by omega) (by omega)).mono ?_; rintro e W8 ⟨rfl, hB8⟩; rw [RV.out]
                 have E8 : Hid (Below w.heap.size w W8) := E6.out.trans (hB8.mono E6.out.size)
                 clear hB8))
            go_ret
            exact ⟨rfl, E8.out⟩
          | true =>
            have RV : Hid ((headSeal F && bodySeal N F) = true) := hr
            clear hr
            go_wp2_with (first
              | (have _q := RR; clear _q; go_at_call 17; refine (mopen_no (some ⟨g, 0, none⟩) N N F _ (TT.out.below BE.out hT0) (Arg.of (RR.out.lies RF.out)) (Nat.le_refl _) (by omega) OC.out).mono ?_; rintro e W3 ⟨rfl, hB3⟩; rw [OV.out]
                 have R3 := RR.out.below hB3
                 have L3 := RL.out.below hB3
                 have M3 := RM.out.below hB3
                 have E3 := BE.out.trans (hB3.mono BE.out.size)
                 clear RR RL RM BE hB3)
              | (refine wpList_alloc_rec rfl 29 rfl (msg (fun _ => 0) none 0 0) W3.heap.size rfl zeroMsg ?_; intro W4 K4 B4 z4)
              | (refine wpList_store_rec rfl 29 (.tmp 11) (.tmp 67) rfl W3.heap.size 0 _ (msg (fun _ => 0) none 0 0) rfl rfl K4 rfl (by kernel_rfl) (msg_one _ _ _ _) ?_; intro W5 K5 B5
                 have F5 : Below W3.heap.size W3 W5 := B4.trans (B5.below (Nat.le_refl _) (by omega))
                 have R5 := R3.below F5
                 have L5 := L3.below F5
                 have M5 := M3.below F5
                 have E5 := E3.trans (F5.mono E3.size)
                 have N5 : w.heap.size < W3.heap.size := M3.2.2
                 obtain ⟨d16, _⟩ := M5.at 16 _ (msg_body h a n C)
                 obtain ⟨d2, f2'⟩ := M5.at 2 (.int .i64 (h 2)) rfl
                 have BS : Below w.heap.size W5 (W5.setCell ⟨w.heap.size, 2, none⟩ (.int .i64 n)) := (Below.refl w.heap.size W5).setCell (p := ⟨w.heap.size, 2, none⟩) (Nat.le_refl _) _
                 have E6 : Hid (Below w.heap.size w (W5.setCell ⟨w.heap.size, 2, none⟩ (.int .i64 n))) := E5.trans BS
                 have R6 : Hid (IRow (W5.setCell ⟨w.heap.size, 2, none⟩ (.int .i64 n)) g .u8 N F) := R5.but (But.set _ _ _) (by omega)
                 have L6 : Hid (Lies (W5.setCell ⟨w.heap.size, 2, none⟩ (.int .i64 n)) q 0 N (msgF hh n f)) := L5.but (But.set _ _ _) (by omega)
                 clear F5 R5 L5 M5 E5 BS K4 B4 z4 K5 B5 R3 L3 M3 E3)
              | (go_at_call 11; refine (same_any (some ⟨g, 0, none⟩) (some ⟨q, 0, none⟩) N N N capq F (msgF hh n f) _ (Arg.of (R6.out.lies RF.out)) (Arg.of L6.out)).mono ?_; rintro e W7 ⟨rfl, hW7⟩; rw [hW7, NE.out]; clear hW7 W7)
              | (go_at_call 26; refine (rgt_any g N F _ R6.out RF.out (by omega) (by omega)).mono ?_; rintro e W8 ⟨rfl, hB8⟩; rw [RV.out]
                 have E8 : Hid (Below w.heap.size w W8) := E6.out.trans (hB8.mono E6.out.size)
                 clear hB8))
            go_ret
            exact ⟨rfl, E8.out⟩
end Go.Proofs.YtkmgjpeoognpjaaDoor
