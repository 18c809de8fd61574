/-
  Walks, not a claim by itself: SlotTurned. By the verifier.
-/
import Derived.Test.YtfpgkckcifjkcaaDoorOTu0
namespace Go.Proofs.YtfpgkckcifjkcaaDoor
open Go.RowKit
/-- What stays at first. -/
def bkS (w : World) (h : Nat → Int) (a : Option Addr) (n C : Nat) (W : World) : Prop := Rec19 W w.heap.size 0 (msg h a n C) ∧ Tab W ∧ Below w.heap.size w W
theorem bkS.below {w : World} {h : Nat → Int} {a : Option Addr} {n C : Nat} {W W' : World} (s : bkS w h a n C W) (hB : Below W.heap.size W W') : bkS w h a n C W' :=
  ⟨s.1.below hB, s.2.1.below hB s.2.1.2, s.2.2.trans (hB.mono s.2.2.size)⟩
set_option maxRecDepth 100000 in
set_option maxHeartbeats 1000000 in
theorem tu_far_a (h : Nat → Int) (a t : Option Addr) (n C m C' : Nat) (w : World) (hT : Tab w) (hl : 1024 < n) : Calls Tryd.prog 7 #[.agg (msg h a n C).toArray, .slice t m C'] w fun e w' => e = .returned (.bool true) ∧ Below w.heap.size w w' := by
  have hT0 := hT.2
  have TT : Hid (Tab w) := hT
  have T0 : Hid True := trivial
  have e1 : (1024 : Int) < n := by omega
  clear hT
  go_enter Tryd.func7, Tryd.ntmps7
  go_wp2_with (first
    | (have _q := T0; clear _q; refine wpList_box_rec rfl 29 (.tmp 0) rfl (msg h a n C) rfl w.heap.size rfl ?_; intro W0 R0 B0 z0
       have S0 : Hid (bkS w h a n C W0) := ⟨R0, TT.out.below B0 hT0, B0⟩
       clear R0 B0 z0 T0)
    | (have _q := S0; clear _q; go_at_call 5; refine (known_ok _ S0.out.2.1).mono ?_; rintro e W1 ⟨rfl, hB1⟩
       have S1 : Hid (bkS w h a n C W1) := S0.out.below hB1
       have c16 := (S1.out.1.at 16 _ (msg_body h a n C)).1
       clear hB1 S0))
  go_ret
  exact ⟨rfl, S1.out.2.2⟩
set_option maxRecDepth 100000 in
set_option maxHeartbeats 1000000 in
theorem tu_far_b (h : Nat → Int) (a t : Option Addr) (n C m C' : Nat) (w : World) (hT : Tab w) (hl : n ≤ 1024) (hm : 40 < m) : Calls Tryd.prog 7 #[.agg (msg h a n C).toArray, .slice t m C'] w fun e w' => e = .returned (.bool true) ∧ Below w.heap.size w w' := by
  have hT0 := hT.2
  have TT : Hid (Tab w) := hT
  have T0 : Hid True := trivial
  have e0 : ¬ (1024 : Int) < n := by omega
  have e1 : (40 : Int) < m := by omega
  clear hT
  go_enter Tryd.func7, Tryd.ntmps7
  go_wp2_with (first
    | (have _q := T0; clear _q; refine wpList_box_rec rfl 29 (.tmp 0) rfl (msg h a n C) rfl w.heap.size rfl ?_; intro W0 R0 B0 z0
       have S0 : Hid (bkS w h a n C W0) := ⟨R0, TT.out.below B0 hT0, B0⟩
       clear R0 B0 z0 T0)
    | (have _q := S0; clear _q; go_at_call 5; refine (known_ok _ S0.out.2.1).mono ?_; rintro e W1 ⟨rfl, hB1⟩
       have S1 : Hid (bkS w h a n C W1) := S0.out.below hB1
       have c16 := (S1.out.1.at 16 _ (msg_body h a n C)).1
       clear hB1 S0))
  go_ret
  exact ⟨rfl, S1.out.2.2⟩
set_option maxRecDepth 100000 in
set_option maxHeartbeats 1000000 in
theorem tu_arg (h : Nat → Int) (a t : Option Addr) (n C m C' : Nat) (w : World) (hT : Tab w) (hl : n ≤ 1024) (hm : m ≤ 40) (ho : okH (upd h 2 n) = false) : Calls Tryd.prog 7 #[.agg (msg h a n C).toArray, .slice t m C'] w fun e w' => e = .returned (.bool true) ∧ Below w.heap.size w w' := by
  have hT0 := hT.2
  have TT : Hid (Tab w) := hT
  have T0 : Hid True := trivial
  have e0 : ¬ (1024 : Int) < n := by omega
  have e1 : ¬ (40 : Int) < m := by omega
  have HO : Hid (okH (upd h 2 n) = false) := ho
  clear hT ho
  go_enter Tryd.func7, Tryd.ntmps7
  go_wp2_with (first
    | (have _q := T0; clear _q; refine wpList_box_rec rfl 29 (.tmp 0) rfl (msg h a n C) rfl w.heap.size rfl ?_; intro W0 R0 B0 z0
       have S0 : Hid (bkS w h a n C W0) := ⟨R0, TT.out.below B0 hT0, B0⟩
       clear R0 B0 z0 T0)
    | (have _q := S0; clear _q; go_at_call 5; refine (known_ok _ S0.out.2.1).mono ?_; rintro e W1 ⟨rfl, hB1⟩
       have S1 : Hid (bkS w h a n C W1) := S0.out.below hB1
       have c16 := (S1.out.1.at 16 _ (msg_body h a n C)).1
       clear hB1 S0)
    | (have _q := S1; clear _q; refine wpList_load_rec rfl 29 (.tmp 2) rfl w.heap.size 0 (msg h a n C) rfl _ Tryd.underlying29 rfl (by kernel_rfl) S1.out.1 ?_)
    | (have _q := S1; clear _q; go_at_call 9; refine (sbytes_arg h a n C _ hl S1.out.2.1 HO.out).mono ?_; rintro e W2 ⟨rfl, hB2⟩
       have S2 : Hid (bkS w h a n C W2) := S1.out.below hB2
       clear hB2 S1))
  go_ret
  exact ⟨rfl, S2.out.2.2⟩
set_option maxRecDepth 100000 in
set_option maxHeartbeats 1000000 in
theorem tu_not (h : Nat → Int) (a t : Option Addr) (n C m C' : Nat) (f : Nat → Int) (w : World) (hT : Tab w) (hA : Arg w a n f) (hC : n ≤ C) (hW : Words h) (hl : n ≤ 1024) (hm : m ≤ 40) (ho : okH (upd h 2 (n : Nat)) = true) (hp : isPrep h (ofI (h 5)) = false) : Calls Tryd.prog 7 #[.agg (msg h a n C).toArray, .slice t m C'] w fun e w' => e = .returned (.bool true) ∧ Below w.heap.size w w' := by
  have hT0 := hT.2
  have TT : Hid (Tab w) := hT
  have T0 : Hid True := trivial
  have e0 : ¬ (1024 : Int) < n := by omega
  have e1 : ¬ (40 : Int) < m := by omega
  have HO : Hid (okH (upd h 2 (n : Nat)) = true) := ho
  have HA : Hid (Arg w a n f) := hA
  have HW : Hid (Words h) := hW
  have HP : Hid (isPrep h (ofI (h 5)) = false) := hp
  clear hT ho hA hW hp
  go_enter Tryd.func7, Tryd.ntmps7
  go_wp2_with (first
    | (have _q := T0; clear _q; refine wpList_box_rec rfl 29 (.tmp 0) rfl (msg h a n C) rfl w.heap.size rfl ?_; intro W0 R0 B0 z0
       have S0 : Hid (bkS w h a n C W0) := ⟨R0, TT.out.below B0 hT0, B0⟩
       clear R0 B0 z0 T0)
    | (have _q := S0; clear _q; go_at_call 5; refine (known_ok _ S0.out.2.1).mono ?_; rintro e W1 ⟨rfl, hB1⟩
       have S1 : Hid (bkS w h a n C W1) := S0.out.below hB1
       have c16 := (S1.out.1.at 16 _ (msg_body h a n C)).1
       clear hB1 S0)
    | (have _q := S1; clear _q; refine wpList_load_rec rfl 29 (.tmp 2) rfl w.heap.size 0 (msg h a n C) rfl _ Tryd.underlying29 rfl (by kernel_rfl) S1.out.1 ?_)
    | (have _q := S1; clear _q; go_at_call 9; refine (sbytes_not h a n C f _ hl S1.out.2.1 (HA.out.below S1.out.2.2) hC HW.out HO.out HP.out).mono ?_; rintro e W2 ⟨rfl, hB2⟩
       have S2 : Hid (bkS w h a n C W2) := S1.out.below hB2
       clear hB2 S1))
  go_ret
  exact ⟨rfl, S2.out.2.2⟩
theorem is_of (s1 o1 v1 : Int) (m1 : Bool) (s2 o2 v2 : Int) (m2 : Bool) (h : s1 = s2 ∧ o1 = o2 ∧ v1 = v2 ∧ m1 = m2) (w : World) : Calls Tryd.prog 25 #[.agg (ss s1 o1 v1 m1).toArray, .int .i64 s2, .int .i64 o2, .int .i64 v2, .bool m2] w fun e w' => e = .returned (.bool true) ∧ Below w.heap.size w w' := by
  obtain ⟨rfl, rfl, rfl, rfl⟩ := h
  exact is_true _ _ _ _ w
set_option maxRecDepth 100000 in
set_option maxHeartbeats 4000000 in
theorem tu_main (h : Nat → Int) (a t : Option Addr) (n C m C' : Nat) (f : Nat → Int) (Hd : Nat → Bool) (X Y : Nat → Int) (w : World) (hT : Tab w) (hA : Arg w a n f) (hC : n ≤ C) (ht : TArg3 w t m Hd X Y) (hW : Words h) (hl : n ≤ 1024) (hm : m ≤ 40) (ho : okH (upd h 2 (n : Nat)) = true) (hp : isPrep h (ofI (h 5)) = true) : Calls Tryd.prog 7 #[.agg (msg h a n C).toArray, .slice t m C'] w fun e w' => e = .returned (.bool true) ∧ Below w.heap.size w w' := by
  have hT0 := hT.2
  have TT : Hid (Tab w) := hT
  have T0 : Hid True := trivial
  have e0 : ¬ (1024 : Int) < n := by omega
  have e1 : ¬ (40 : Int) < m := by omega
  have OK : Hid (okH (upd h 2 (n : Nat)) = true) := ho
  have HA : Hid (Arg w a n f) := hA
  have HW : Hid (Words h) := hW
  have HT : Hid (TArg3 w t m Hd X Y) := ht
  obtain ⟨k, hk⟩ : ∃ k, ofI (h 5) = k := ⟨_, rfl⟩
  have HK : Hid (ofI (h 5) = k) := hk
  have SK : Hid (isSl k = true) := (by rw [← hk]; exact isSl_of _ : isSl k = true)
  have HP : Hid (isPrep h k = true) := (by rw [← hk]; exact hp : isPrep h k = true)
  have HP0 : Hid (isPrep h (ofI (h 5)) = true) := hp
  obtain ⟨hh, hhe⟩ : ∃ x, upd h 2 ((n : Nat) : Int) = x := ⟨_, rfl⟩
  have HH : Hid (upd h 2 ((n : Nat) : Int) = hh) := hhe
  obtain ⟨S, hS⟩ : ∃ S, slotF h n f = S := ⟨_, rfl⟩
  have HS : Hid (slotF h n f = S) := hS
  have BS : Hid (∀ j, 0 ≤ S j ∧ S j < 256) := (by rw [← hS]; exact fun j => slotF_byte h n f hA.bytes j : ∀ j, 0 ≤ S j ∧ S j < 256)
  clear hT ho hA hW hp ht hk hhe hS
  go_enter Tryd.func7, Tryd.ntmps7
  go_wp2_with (first
    | (have _q := T0; clear _q; refine wpList_box_rec rfl 29 (.tmp 0) rfl (msg h a n C) rfl w.heap.size rfl ?_; intro W0 R0 B0 z0
       have S0 : Hid (bkS w h a n C W0) := ⟨R0, TT.out.below B0 hT0, B0⟩
       clear R0 B0 z0 T0)
    | (have _q := S0; clear _q; go_at_call 5; refine (known_ok _ S0.out.2.1).mono ?_; rintro e W1 ⟨rfl, hB1⟩
       have S1 : Hid (bkS w h a n C W1) := S0.out.below hB1
       have c16 := (S1.out.1.at 16 _ (msg_body h a n C)).1
       clear hB1 S0)
    | (have _q := S1; clear _q; refine wpList_load_rec rfl 29 (.tmp 2) rfl w.heap.size 0 (msg h a n C) rfl _ Tryd.underlying29 rfl (by kernel_rfl) S1.out.1 ?_)
    | (have _q := S1; clear _q; go_at_call 9; refine (sbytes_ok h a n C f _ hl S1.out.2.1 (HA.out.below S1.out.2.2) hC HW.out OK.out HP0.out).mono ?_; rintro e W2 ⟨g, rfl, hg, hR2, hB2⟩
       rw [HS.out] at hR2
       have S2 : Hid (bkS w h a n C W2) := S1.out.below hB2
       have G2 : Hid (IRow W2 g .u8 1280 S) := hR2
       have N2 : Hid (w.heap.size < g) := Nat.lt_of_lt_of_le S1.out.1.2.2 hg
       have c5 := (S2.out.1.at 5 (.int .i64 (h 5)) rfl).1
       have c16' := (S2.out.1.at 16 _ (msg_body h a n C)).1
       obtain ⟨c2, f2⟩ := S2.out.1.at 2 (.int .i64 (h 2)) rfl
       clear hg hR2 hB2 S1 c16)
    | (have _q := S2; clear _q; go_at_call 14; refine (of_any (h 5) _).mono ?_; rintro e w3 ⟨rfl, rfl⟩; rw [HK.out]
       have S3 : Hid (bkS w hh a n C (w3.setCell ⟨w.heap.size, 2, none⟩ (.int .i64 n))) := ⟨(by rw [← HH.out, ← msg_size]; exact S2.out.1.set 2 (.int .i64 n) (by rw [msg_len]; omega)), S2.out.2.1.below ((Below.refl w.heap.size w3).setCell (Nat.le_refl _) _) hT0, S2.out.2.2.setCell (Nat.le_refl _) _⟩
       have G3 : Hid (IRow (w3.setCell ⟨w.heap.size, 2, none⟩ (.int .i64 n)) g .u8 1280 S) := G2.out.but (But.set _ _ _) (by have := N2.out; omega)
       clear S2 G2)
    | (have _q := S3; clear _q; go_at_call 28; refine (copy_any (some ⟨g, 0, none⟩) 1280 1280 S _ (G3.out.front BS.out 1280 (by omega)) (by omega)).mono ?_; rintro e W4 ⟨v4, rfl, hO4, hB4⟩
       obtain ⟨q, cq, rfl, hq, hcq, Q4⟩ := hO4.row (by omega)
       have S4 : Hid (bkS w hh a n C W4) := S3.out.below hB4
       have G4 : Hid (IRow W4 g .u8 1280 S) := G3.out.below hB4
       have Q4' : Hid (IRow W4 q .u8 1280 S) := Q4
       have NQ : Hid (g < q) := Nat.lt_of_lt_of_le G3.out.2.2 hq
       clear hO4 hB4 Q4 S3 G3 c5 c16' c2 f2 hq)
    | (have _q := S4; clear _q; go_at_call 28; refine (copy_any (some ⟨g, 0, none⟩) 256 1280 S _ (G4.out.front BS.out 256 (by omega)) (by omega)).mono ?_; rintro e W5 ⟨v5, rfl, hO5, hB5⟩
       obtain ⟨e, ce, rfl, he, hce, E5⟩ := hO5.row (by omega)
       have U5 : Hid (uS w g q e hh a n C S S S W5) := ⟨S4.out.1.below hB5, G4.out.below hB5, Q4'.out.below hB5, E5, S4.out.2.1.below hB5 S4.out.2.1.2, S4.out.2.2.trans (hB5.mono S4.out.2.2.size)⟩
       have NE : Hid (q < e) := Nat.lt_of_lt_of_le Q4'.out.2.2 he
       clear hO5 hB5 E5 S4 G4 Q4' he))
  have ST : Hid (tuRel w g q e m hh a n C S (.int .i64 0) W5) := ⟨0, S, S, by omega, rfl, U5.out, BS.out, BS.out⟩
  clear U5
  go_loopw [11] (fun i wr => tuRel w g q e m hh a n C S i wr) (fun i _ => m - (intOf i).toNat)
  case atStart => exact ST.out
  case round =>
    obtain ⟨i, F1, F2, hi, rfl, hU, hF1, hF2⟩ := hrel
    clear ST
    have U0 : Hid (uS w g q e hh a n C S F1 F2 wr) := hU
    have B1 : Hid (∀ j, 0 ≤ F1 j ∧ F1 j < 256) := hF1
    have B2 : Hid (∀ j, 0 ≤ F2 j ∧ F2 j < 256) := hF2
    clear hF1 hF2
    by_cases hlt : i < m
    · rcases HT.out with h0 | ⟨tb, toff, rfl, ht⟩
      · omega
      have tl := (ht.1 i hlt)
      have htb := ht.2
      have hB := hU.2.2.2.2.2
      have c0 := (hB.cell (p := ⟨tb, toff + i * 3, none⟩) htb).trans tl.1
      have c1 := (hB.cell (p := ⟨tb, toff + i * 3 + 1, none⟩) htb).trans tl.2.1
      have c2 := (hB.cell (p := ⟨tb, toff + i * 3 + 2, none⟩) htb).trans tl.2.2.1
      have YB : Hid (0 ≤ Y i ∧ Y i < 256) := tl.2.2.2
      have n1 := N2.out
      have n2 := NQ.out
      have n3 := NE.out
      have NN : Hid ((w.heap.size < e ∧ g ≠ e ∧ q ≠ e) ∧ (w.heap.size < g ∧ q ≠ g ∧ e ≠ g)) := ⟨⟨by omega, by omega, by omega⟩, by omega, by omega, by omega⟩
      have ne1 : ¬ e = tb := by omega
      have ne2 : ¬ g = tb := by omega
      have ML : Hid (m - (intOf (.int .i64 ((i : Int) + 1))).toNat < m - (intOf (.int .i64 (i : Int))).toNat) := tu_less i m hlt
      clear tl ht hB
      have i0 : (i : Int) < m := by omega
      have i1 : (0 : Int) ≤ (i : Int) := by omega
      cases hd : Hd i with
      | true =>
        rw [hd] at c0
        go_wp2_with fail
        refine (pick_any (X i) 256 _ (by omega) (by omega)).mono ?_
        rintro e' w5 ⟨r, hr, rfl, rfl⟩
        have cr := hU.2.2.2.1.1 r hr
        have fr := hU.2.2.2.1.2.1 r
        have j0 : (r : Int) < 256 := by omega
        have j1 : (0 : Int) ≤ (r : Int) := by omega
        have LT : Hid (i < m) := hlt
        clear hU hlt n1 n2 n3 hi
        go_wp2_with fail
        go_region
        go_wp2_with fail
        exact ⟨tu_step1 LT.out U0.out B1.out B2.out (xor_byte _ _ (B1.out r) YB.out) hT0 NN.out.1, ML.out⟩
      | false =>
        rw [hd] at c0
        go_wp2_with fail
        refine (pick_any (X i) 1280 _ (by omega) (by omega)).mono ?_
        rintro e' w5 ⟨r, hr, rfl, rfl⟩
        have cr := hU.2.1.1 r hr
        have fr := hU.2.1.2.1 r
        have j0 : (r : Int) < 1280 := by omega
        have j1 : (0 : Int) ≤ (r : Int) := by omega
        have LT : Hid (i < m) := hlt
        clear hU hlt n1 n2 n3 hi
        go_wp2_with fail
        go_region
        go_wp2_with fail
        exact ⟨tu_step2 LT.out U0.out B1.out B2.out (xor_byte _ _ (B2.out r) YB.out) hT0 NN.out.2, ML.out⟩
    · obtain rfl : i = m := by omega
      clear hU hlt hi HT
      obtain ⟨a1, a2, a3, a4, a5, a6⟩ := tu_ar n cq hl hcq
      obtain ⟨hv, hve⟩ : ∃ x, headV 256 F1 = x := ⟨_, rfl⟩
      have HV : Hid (headV 256 F1 = hv) := hve
      clear hve
      by_cases hsame : Same n F2 S
      · have EQ : Hid (decide (txtN (256 + n) F2 = txtN (256 + n) S) = true) := decide_eq_true ((same_txt B2.out BS.out).2 hsame)
        have SA : Hid (Same n F2 (slotF h n f)) := (by rw [HS.out]; exact hsame : Same n F2 (slotF h n f))
        clear hsame
        by_cases hc : headC 256 F1 = 0
        · have HC : Hid (headC 256 F1 = 0) := hc
          clear hc
          by_cases hh1 : ∀ j, j < 256 → F1 j = S j
          · have EH : Hid (decide (txtN 256 F1 = txtN 256 S) = true) := decide_eq_true ((head_txt B1.out BS.out).2 hh1)
            obtain ⟨st, op, vw, mm, hj, hJ⟩ : ∃ st op vw mm, (st = 1 ∧ op = hh 5 ∧ vw = hh 3 ∧ mm = false) ∧ judgeL 256 F1 1280 F2 k = ss st op vw mm := ⟨_, _, _, _, ⟨rfl, rfl, rfl, rfl⟩, (by rw [← HH.out]; exact turn_jB SK.out hl OK.out HW.out HP.out SA.out (by rw [HS.out]; exact hh1))⟩
            have JL : Hid (judgeL 256 F1 1280 F2 k = ss st op vw mm) := hJ
            have IS : Hid (st = 1 ∧ op = hh 5 ∧ vw = hh 3 ∧ mm = false) := hj
            clear hh1 hJ hj
            go_wp2_with (first
                | (have _q := U0; clear _q; go_at_call 22; refine (judge_row e g ce F1 F2 k _ _ U0.out.2.2.2.2.1 (U0.out.2.2.2.1.front B1.out 256 (by omega)) (U0.out.2.1.front B2.out 1280 (by omega)) hce JL.out).mono ?_; rintro e' X1 ⟨rfl, hB⟩
                   have U1 : Hid (uS w g q e hh a n C S F1 F2 X1) := U0.out.below hB
                   clear hB U0 )
                | (have _q := U1; clear _q; refine wpList_alloc_rec rfl 45 rfl (ss 0 0 0 false) X1.heap.size rfl zeroSs ?_; intro X2 r2 b2 z2)
                | (have _q := U1; clear _q; refine wpList_store_rec rfl 45 (.tmp 14) (.tmp 108) rfl X1.heap.size 0 _ (ss st op vw mm) rfl rfl r2 rfl (by kernel_rfl) (ss_one _ _ _ _) ?_; intro X3 r3 b3
                   have hB : Below X1.heap.size X1 X3 := b2.trans (b3.below (Nat.le_refl _) (by omega))
                   have U3 : Hid (uS w g q e hh a n C S F1 F2 X3) := U1.out.below hB
                   have D3 : Hid (Rec19 X3 X1.heap.size 0 (ss st op vw mm)) := r3
                   clear hB b2 b3 r2 r3 z2 U1
                   generalize X1.heap.size = d at D3 ⊢)
                | (have _q := U3; clear _q; go_at_call 19; refine (prep_same (h := h) (f := f) hl OK.out HW.out HP.out B2.out SA.out g _ U3.out.2.2.2.2.1 U3.out.2.1).mono ?_; rintro e' X4 ⟨x, he, hXB, hB⟩; rw [HH.out] at he; subst he; have XB4 : Hid (Arg X4 (some ⟨x, 0, none⟩) n f) := hXB; clear hXB
                   have U4 : Hid (uS w g q e hh a n C S F1 F2 X4) := U3.out.below hB
                   have D4 : Hid (Rec19 X4 d 0 (ss st op vw mm)) := D3.out.below hB
                   clear hB U3 D3)
                | (have _q := U4; clear _q; refine wpList_alloc_rec rfl 29 rfl (msg (fun _ => 0) none 0 0) X4.heap.size rfl zeroMsg ?_; intro X5 r5 b5 z5)
                | (have _q := U4; clear _q; refine wpList_store_rec rfl 29 (.tmp 15) (.tmp 113) rfl X4.heap.size 0 _ (msg hh (some ⟨x, 0, none⟩) n n) rfl rfl r5 rfl (by kernel_rfl) (msg_one _ _ _ _) ?_; intro X6 r6 b6
                   have hB : Below X4.heap.size X4 X6 := b5.trans (b6.below (Nat.le_refl _) (by omega))
                   have U6 : Hid (uS w g q e hh a n C S F1 F2 X6) := U4.out.below hB
                   have D6 : Hid (Rec19 X6 d 0 (ss st op vw mm)) := D4.out.below hB
                   have M6 : Hid (Rec19 X6 X4.heap.size 0 (msg hh (some ⟨x, 0, none⟩) n n)) := r6
                   have XB6 : Hid (Arg X6 (some ⟨x, 0, none⟩) n f) := XB4.out.below hB
                   clear XB4
                   clear hB b5 b6 r5 r6 z5 U4 D4
                   generalize X4.heap.size = xm at M6 ⊢))
            have c16 : X6.drew.cell? ⟨w.heap.size, 16, none⟩ = some (.slice a n C) := (U6.out.1.at 16 _ (msg_body hh a n C)).1
            refine wp_region_noPanic ?_
            refine wp_region_held_drew (S := fun W' => W'.cell? ⟨w.heap.size, 16, none⟩ = some (.slice a n C)) (by kernel_rfl) ?_ (fun hHeld => ?_)
            · exact c16
            refine take_at (i := 0) (v := ?_) (some 115) rfl rfl (by kernel_rfl) (by kernel_rfl) (by kernel_rfl) (fun _ _ _ h => h) (Or.inl ⟨by rfl, ?_⟩) (by assumption) ?_
            rotate_left
            · (intro w hSw; (try dsimp only at hSw); go_simp; try with_reducible rfl)
            simp only [Act.put, List.setIfInBounds_toArray, List.set_cons_zero, List.set_cons_succ]
            refine take_at (i := 1) (v := ?_) (some 116) rfl rfl (by kernel_rfl) (by kernel_rfl) (by kernel_rfl) (fun _ _ _ h => h) (Or.inl ⟨by rfl, ?_⟩) (by assumption) ?_
            rotate_left
            · (intro w hSw; (try dsimp only at hSw); go_simp; try with_reducible rfl)
            simp only [Act.put, List.setIfInBounds_toArray, List.set_cons_zero, List.set_cons_succ]
            refine take_at (i := 2) (v := ?_) (some 117) rfl rfl (by kernel_rfl) (by kernel_rfl) (by kernel_rfl) (fun _ _ _ h => h) (Or.inl ⟨by rfl, ?_⟩) (by assumption) ?_
            rotate_left
            · (intro w hSw; (try dsimp only at hSw); go_simp; try with_reducible rfl)
            simp only [Act.put, List.setIfInBounds_toArray, List.set_cons_zero, List.set_cons_succ]
            refine take_at (i := 3) (v := ?_) (some 118) rfl rfl (by kernel_rfl) (by kernel_rfl) (by kernel_rfl) (fun _ _ _ h => h) (Or.inl ⟨by rfl, ?_⟩) (by assumption) ?_
            rotate_left
            · (intro w hSw; (try dsimp only at hSw); go_simp; try with_reducible rfl)
            simp only [Act.put, List.setIfInBounds_toArray, List.set_cons_zero, List.set_cons_succ]
            refine take_at (i := 4) (v := ?_) (some 119) rfl rfl (by kernel_rfl) (by kernel_rfl) (by kernel_rfl) (fun _ _ _ h => h) (Or.inl ⟨by rfl, ?_⟩) (by assumption) ?_
            rotate_left
            · (intro w hSw; (try dsimp only at hSw); go_simp; try with_reducible rfl)
            simp only [Act.put, List.setIfInBounds_toArray, List.set_cons_zero, List.set_cons_succ]
            refine take_at (i := 5) (v := ?_) (some 120) rfl rfl (by kernel_rfl) (by kernel_rfl) (by kernel_rfl) (fun _ _ _ h => h) (Or.inl ⟨by rfl, ?_⟩) (by assumption) ?_
            rotate_left
            · (intro w hSw; (try dsimp only at hSw); go_simp; try with_reducible rfl)
            simp only [Act.put, List.setIfInBounds_toArray, List.set_cons_zero, List.set_cons_succ]
            refine take_at (i := 6) (v := ?_) (some 121) rfl rfl (by kernel_rfl) (by kernel_rfl) (by kernel_rfl) (fun _ _ _ h => h) (Or.inl ⟨by rfl, ?_⟩) (by assumption) ?_
            rotate_left
            · (intro w hSw; (try dsimp only at hSw); go_simp; try with_reducible rfl)
            simp only [Act.put, List.setIfInBounds_toArray, List.set_cons_zero, List.set_cons_succ]
            refine take_at (i := 7) (v := ?_) (some 122) rfl rfl (by kernel_rfl) (by kernel_rfl) (by kernel_rfl) (fun _ _ _ h => h) (Or.inl ⟨by rfl, ?_⟩) (by assumption) ?_
            rotate_left
            · (intro w hSw; (try dsimp only at hSw); go_simp; try with_reducible rfl)
            simp only [Act.put, List.setIfInBounds_toArray, List.set_cons_zero, List.set_cons_succ]
            refine take_at (i := 8) (v := ?_) (some 123) rfl rfl (by kernel_rfl) (by kernel_rfl) (by kernel_rfl) (fun _ _ _ h => h) (Or.inl ⟨by rfl, ?_⟩) (by assumption) ?_
            rotate_left
            · (intro w hSw; (try dsimp only at hSw); go_simp; try with_reducible rfl)
            simp only [Act.put, List.setIfInBounds_toArray, List.set_cons_zero, List.set_cons_succ]
            refine take_at (i := 9) (v := ?_) (some 124) rfl rfl (by kernel_rfl) (by kernel_rfl) (by kernel_rfl) (fun _ _ _ h => h) (Or.inl ⟨by rfl, ?_⟩) (by assumption) ?_
            rotate_left
            · (intro w hSw; (try dsimp only at hSw); go_simp; try with_reducible rfl)
            simp only [Act.put, List.setIfInBounds_toArray, List.set_cons_zero, List.set_cons_succ]
            refine take_at (i := 10) (v := ?_) (some 125) rfl rfl (by kernel_rfl) (by kernel_rfl) (by kernel_rfl) (fun _ _ _ h => h) (Or.inl ⟨by rfl, ?_⟩) (by assumption) ?_
            rotate_left
            · (intro w hSw; (try dsimp only at hSw); go_simp; try with_reducible rfl)
            simp only [Act.put, List.setIfInBounds_toArray, List.set_cons_zero, List.set_cons_succ]
            refine take_at (i := 11) (v := ?_) (some 126) rfl rfl (by kernel_rfl) (by kernel_rfl) (by kernel_rfl) (fun _ _ _ h => h) (Or.inl ⟨by rfl, ?_⟩) (by assumption) ?_
            rotate_left
            · (intro w hSw; (try dsimp only at hSw); go_simp; try with_reducible rfl)
            simp only [Act.put, List.setIfInBounds_toArray, List.set_cons_zero, List.set_cons_succ]
            refine call_at (i := 12) (some 127) 13 _ _ rfl rfl rfl (by rfl) (by kernel_rfl) #[.slice (some ⟨g, 0, none⟩) (256 + n) 1280, .slice (some ⟨q, 0, none⟩) (256 + n) cq] rfl Tryd.func13 (by kernel_rfl) (by kernel_rfl) ?_
            refine (same_any (some ⟨g, 0, none⟩) (some ⟨q, 0, none⟩) (256 + n) (256 + n) 1280 cq F2 S _ (show Arg X6.drew _ _ _ from U6.out.2.1.front B2.out (256 + n) (by omega)) (show Arg X6.drew _ _ _ from U6.out.2.2.1.front BS.out (256 + n) (by omega))).mono ?_
            rintro e' X7 ⟨rfl, rfl⟩
            rw [EQ.out]
            refine ⟨_, rfl, c16, fun hHeld => ?_⟩
            simp only [Act.put, List.setIfInBounds_toArray, List.set_cons_zero, List.set_cons_succ]
            refine take_at (i := 13) (v := ?_) (some 17) rfl rfl (by kernel_rfl) (by kernel_rfl) (by kernel_rfl) (fun _ _ _ h => h) (Or.inl ⟨by rfl, ?_⟩) (by assumption) ?_
            rotate_left
            · (intro w hSw; (try dsimp only at hSw); go_simp; try with_reducible rfl)
            simp only [Act.put, List.setIfInBounds_toArray, List.set_cons_zero, List.set_cons_succ]
            refine wpAnyH_done (by kernel_rfl) ?_ _
            refine NoPanic.normal ?_
            have U8 : Hid (uS w g q e hh a n C S F1 F2 X6.drew) := U6.out.below (Below.refl _ _).drew
            have D8 : Hid (Rec19 X6.drew d 0 (ss st op vw mm)) := D6.out
            have M8 : Hid (Rec19 X6.drew xm 0 (msg hh (some ⟨x, 0, none⟩) n n)) := M6.out
            have XB8 : Hid (Arg X6.drew (some ⟨x, 0, none⟩) n f) := XB6.out
            clear XB6
            clear U6 D6 M6 c16 hHeld
            generalize X6.drew = X8 at U8 D8 M8 XB8 ⊢
            go_wp2_with (first
                | (have _q := U8; clear _q; refine wpList_load_w (by rfl) 29 (.tmp 15) rfl xm 0 (msg hh (some ⟨x, 0, none⟩) n n) rfl _ Tryd.underlying29 rfl (by kernel_rfl) M8.out ?_)
                | (have _q := U8; clear _q; refine wpList_load_w (by rfl) 29 (.tmp 2) rfl w.heap.size 0 (msg hh a n C) rfl _ Tryd.underlying29 rfl (by kernel_rfl) U8.out.1 ?_)
                | (have _q := U8; clear _q; go_at_call 21; refine (sameMsg_any hh (some ⟨x, 0, none⟩) a n n n C f f _ XB8.out (HA.out.below U8.out.2.2.2.2.2) rfl (fun _ _ => rfl)).mono ?_; rintro e' X9 ⟨rfl, hB⟩
                   have U9 : Hid (uS w g q e hh a n C S F1 F2 X9) := U8.out.below hB
                   have D9 : Hid (Rec19 X9 d 0 (ss st op vw mm)) := D8.out.below hB
                   clear hB U8 D8; clear M8 XB8)
                | (have _q := U9; clear _q; go_at_call 27; refine (head_gen (some ⟨e, 0, none⟩) 256 ce F1 _ U9.out.2.2.2.2.1 (U9.out.2.2.2.1.front B1.out 256 (by omega)) hce).mono ?_; rintro e' Y1 ⟨rfl, hB⟩; rw [HV.out, HC.out]
                   have V1 : Hid (uS w g q e hh a n C S F1 F2 Y1) := U9.out.below hB
                   have G1 : Hid (Rec19 Y1 d 0 (ss st op vw mm)) := D9.out.below hB
                   clear hB U9 D9)
                | (have _q := V1; clear _q; refine wpList_alloc_rec rfl 26 rfl (hcs fun _ => 0) Y1.heap.size rfl zeroHdr ?_; intro Y2 r2 b2 z2)
                | (have _q := V1; clear _q; refine wpList_store_rec rfl 26 (.tmp 18) (.tmp 150) rfl Y1.heap.size 0 _ (hcs hv) rfl rfl r2 rfl (by kernel_rfl) (hcs_one _) ?_; intro Y3 r3 b3
                   have hB : Below Y1.heap.size Y1 Y3 := b2.trans (b3.below (Nat.le_refl _) (by omega))
                   have V3 : Hid (uS w g q e hh a n C S F1 F2 Y3) := V1.out.below hB
                   have G3 : Hid (Rec19 Y3 d 0 (ss st op vw mm)) := G1.out.below hB
                   have c5 : Y3.cell? ⟨w.heap.size, 5, none⟩ = some (.int .i64 (hh 5)) := (V3.out.1.at 5 _ rfl).1
                   have c3 : Y3.cell? ⟨w.heap.size, 3, none⟩ = some (.int .i64 (hh 3)) := (V3.out.1.at 3 _ rfl).1
                   have d0 : Y3.cell? ⟨d, 0, none⟩ = some (.int .i64 st) := (G3.out.at 0 _ rfl).1
                   clear hB b2 b3 r2 r3 z2 V1 G1)
                | (have _q := V3; clear _q; go_at_call 13; refine (same_any (some ⟨e, 0, none⟩) (some ⟨q, 0, none⟩) 256 256 ce cq F1 S _ (V3.out.2.2.2.1.front B1.out 256 (by omega)) (V3.out.2.2.1.front BS.out 256 (by omega))).mono ?_; rintro e' Y4 ⟨rfl, rfl⟩; rw [EH.out])
                | (have _q := V3; clear _q; refine wpList_load_w (by rfl) 45 (.tmp 14) rfl d 0 (ss st op vw mm) rfl _ Tryd.underlying45 rfl (by kernel_rfl) G3.out ?_)
                | (have _q := V3; clear _q; go_at_call 25; refine (is_of _ _ _ _ _ _ _ _ IS.out _).mono ?_; rintro e' Y5 ⟨rfl, hB⟩
                   have V5 : Hid (Below w.heap.size w Y5) := V3.out.2.2.2.2.2.trans (hB.mono V3.out.2.2.2.2.2.size)
                   clear hB V3))
            go_ret
            exact ⟨rfl, V5.out⟩
          · have EH : Hid (decide (txtN 256 F1 = txtN 256 S) = false) := decide_eq_false (fun q => hh1 ((head_txt B1.out BS.out).1 q))
            obtain ⟨st, op, vw, mm, hJ⟩ := judgeL_ss 256 F1 1280 F2 k
            have JL : Hid (judgeL 256 F1 1280 F2 k = ss st op vw mm) := hJ
            clear hh1 hJ
            go_wp2_with (first
                | (have _q := U0; clear _q; go_at_call 22; refine (judge_row e g ce F1 F2 k _ _ U0.out.2.2.2.2.1 (U0.out.2.2.2.1.front B1.out 256 (by omega)) (U0.out.2.1.front B2.out 1280 (by omega)) hce JL.out).mono ?_; rintro e' X1 ⟨rfl, hB⟩
                   have U1 : Hid (uS w g q e hh a n C S F1 F2 X1) := U0.out.below hB
                   clear hB U0 )
                | (have _q := U1; clear _q; refine wpList_alloc_rec rfl 45 rfl (ss 0 0 0 false) X1.heap.size rfl zeroSs ?_; intro X2 r2 b2 z2)
                | (have _q := U1; clear _q; refine wpList_store_rec rfl 45 (.tmp 14) (.tmp 108) rfl X1.heap.size 0 _ (ss st op vw mm) rfl rfl r2 rfl (by kernel_rfl) (ss_one _ _ _ _) ?_; intro X3 r3 b3
                   have hB : Below X1.heap.size X1 X3 := b2.trans (b3.below (Nat.le_refl _) (by omega))
                   have U3 : Hid (uS w g q e hh a n C S F1 F2 X3) := U1.out.below hB
                   have D3 : Hid (Rec19 X3 X1.heap.size 0 (ss st op vw mm)) := r3
                   clear hB b2 b3 r2 r3 z2 U1
                   generalize X1.heap.size = d at D3 ⊢)
                | (have _q := U3; clear _q; go_at_call 19; refine (prep_same (h := h) (f := f) hl OK.out HW.out HP.out B2.out SA.out g _ U3.out.2.2.2.2.1 U3.out.2.1).mono ?_; rintro e' X4 ⟨x, he, hXB, hB⟩; rw [HH.out] at he; subst he; have XB4 : Hid (Arg X4 (some ⟨x, 0, none⟩) n f) := hXB; clear hXB
                   have U4 : Hid (uS w g q e hh a n C S F1 F2 X4) := U3.out.below hB
                   have D4 : Hid (Rec19 X4 d 0 (ss st op vw mm)) := D3.out.below hB
                   clear hB U3 D3)
                | (have _q := U4; clear _q; refine wpList_alloc_rec rfl 29 rfl (msg (fun _ => 0) none 0 0) X4.heap.size rfl zeroMsg ?_; intro X5 r5 b5 z5)
                | (have _q := U4; clear _q; refine wpList_store_rec rfl 29 (.tmp 15) (.tmp 113) rfl X4.heap.size 0 _ (msg hh (some ⟨x, 0, none⟩) n n) rfl rfl r5 rfl (by kernel_rfl) (msg_one _ _ _ _) ?_; intro X6 r6 b6
                   have hB : Below X4.heap.size X4 X6 := b5.trans (b6.below (Nat.le_refl _) (by omega))
                   have U6 : Hid (uS w g q e hh a n C S F1 F2 X6) := U4.out.below hB
                   have D6 : Hid (Rec19 X6 d 0 (ss st op vw mm)) := D4.out.below hB
                   have M6 : Hid (Rec19 X6 X4.heap.size 0 (msg hh (some ⟨x, 0, none⟩) n n)) := r6
                   have XB6 : Hid (Arg X6 (some ⟨x, 0, none⟩) n f) := XB4.out.below hB
                   clear XB4
                   clear hB b5 b6 r5 r6 z5 U4 D4
                   generalize X4.heap.size = xm at M6 ⊢))
            have c16 : X6.drew.cell? ⟨w.heap.size, 16, none⟩ = some (.slice a n C) := (U6.out.1.at 16 _ (msg_body hh a n C)).1
            refine wp_region_noPanic ?_
            refine wp_region_held_drew (S := fun W' => W'.cell? ⟨w.heap.size, 16, none⟩ = some (.slice a n C)) (by kernel_rfl) ?_ (fun hHeld => ?_)
            · exact c16
            refine take_at (i := 0) (v := ?_) (some 115) rfl rfl (by kernel_rfl) (by kernel_rfl) (by kernel_rfl) (fun _ _ _ h => h) (Or.inl ⟨by rfl, ?_⟩) (by assumption) ?_
            rotate_left
            · (intro w hSw; (try dsimp only at hSw); go_simp; try with_reducible rfl)
            simp only [Act.put, List.setIfInBounds_toArray, List.set_cons_zero, List.set_cons_succ]
            refine take_at (i := 1) (v := ?_) (some 116) rfl rfl (by kernel_rfl) (by kernel_rfl) (by kernel_rfl) (fun _ _ _ h => h) (Or.inl ⟨by rfl, ?_⟩) (by assumption) ?_
            rotate_left
            · (intro w hSw; (try dsimp only at hSw); go_simp; try with_reducible rfl)
            simp only [Act.put, List.setIfInBounds_toArray, List.set_cons_zero, List.set_cons_succ]
            refine take_at (i := 2) (v := ?_) (some 117) rfl rfl (by kernel_rfl) (by kernel_rfl) (by kernel_rfl) (fun _ _ _ h => h) (Or.inl ⟨by rfl, ?_⟩) (by assumption) ?_
            rotate_left
            · (intro w hSw; (try dsimp only at hSw); go_simp; try with_reducible rfl)
            simp only [Act.put, List.setIfInBounds_toArray, List.set_cons_zero, List.set_cons_succ]
            refine take_at (i := 3) (v := ?_) (some 118) rfl rfl (by kernel_rfl) (by kernel_rfl) (by kernel_rfl) (fun _ _ _ h => h) (Or.inl ⟨by rfl, ?_⟩) (by assumption) ?_
            rotate_left
            · (intro w hSw; (try dsimp only at hSw); go_simp; try with_reducible rfl)
            simp only [Act.put, List.setIfInBounds_toArray, List.set_cons_zero, List.set_cons_succ]
            refine take_at (i := 4) (v := ?_) (some 119) rfl rfl (by kernel_rfl) (by kernel_rfl) (by kernel_rfl) (fun _ _ _ h => h) (Or.inl ⟨by rfl, ?_⟩) (by assumption) ?_
            rotate_left
            · (intro w hSw; (try dsimp only at hSw); go_simp; try with_reducible rfl)
            simp only [Act.put, List.setIfInBounds_toArray, List.set_cons_zero, List.set_cons_succ]
            refine take_at (i := 5) (v := ?_) (some 120) rfl rfl (by kernel_rfl) (by kernel_rfl) (by kernel_rfl) (fun _ _ _ h => h) (Or.inl ⟨by rfl, ?_⟩) (by assumption) ?_
            rotate_left
            · (intro w hSw; (try dsimp only at hSw); go_simp; try with_reducible rfl)
            simp only [Act.put, List.setIfInBounds_toArray, List.set_cons_zero, List.set_cons_succ]
            refine take_at (i := 6) (v := ?_) (some 121) rfl rfl (by kernel_rfl) (by kernel_rfl) (by kernel_rfl) (fun _ _ _ h => h) (Or.inl ⟨by rfl, ?_⟩) (by assumption) ?_
            rotate_left
            · (intro w hSw; (try dsimp only at hSw); go_simp; try with_reducible rfl)
            simp only [Act.put, List.setIfInBounds_toArray, List.set_cons_zero, List.set_cons_succ]
            refine take_at (i := 7) (v := ?_) (some 122) rfl rfl (by kernel_rfl) (by kernel_rfl) (by kernel_rfl) (fun _ _ _ h => h) (Or.inl ⟨by rfl, ?_⟩) (by assumption) ?_
            rotate_left
            · (intro w hSw; (try dsimp only at hSw); go_simp; try with_reducible rfl)
            simp only [Act.put, List.setIfInBounds_toArray, List.set_cons_zero, List.set_cons_succ]
            refine take_at (i := 8) (v := ?_) (some 123) rfl rfl (by kernel_rfl) (by kernel_rfl) (by kernel_rfl) (fun _ _ _ h => h) (Or.inl ⟨by rfl, ?_⟩) (by assumption) ?_
            rotate_left
            · (intro w hSw; (try dsimp only at hSw); go_simp; try with_reducible rfl)
            simp only [Act.put, List.setIfInBounds_toArray, List.set_cons_zero, List.set_cons_succ]
            refine take_at (i := 9) (v := ?_) (some 124) rfl rfl (by kernel_rfl) (by kernel_rfl) (by kernel_rfl) (fun _ _ _ h => h) (Or.inl ⟨by rfl, ?_⟩) (by assumption) ?_
            rotate_left
            · (intro w hSw; (try dsimp only at hSw); go_simp; try with_reducible rfl)
            simp only [Act.put, List.setIfInBounds_toArray, List.set_cons_zero, List.set_cons_succ]
            refine take_at (i := 10) (v := ?_) (some 125) rfl rfl (by kernel_rfl) (by kernel_rfl) (by kernel_rfl) (fun _ _ _ h => h) (Or.inl ⟨by rfl, ?_⟩) (by assumption) ?_
            rotate_left
            · (intro w hSw; (try dsimp only at hSw); go_simp; try with_reducible rfl)
            simp only [Act.put, List.setIfInBounds_toArray, List.set_cons_zero, List.set_cons_succ]
            refine take_at (i := 11) (v := ?_) (some 126) rfl rfl (by kernel_rfl) (by kernel_rfl) (by kernel_rfl) (fun _ _ _ h => h) (Or.inl ⟨by rfl, ?_⟩) (by assumption) ?_
            rotate_left
            · (intro w hSw; (try dsimp only at hSw); go_simp; try with_reducible rfl)
            simp only [Act.put, List.setIfInBounds_toArray, List.set_cons_zero, List.set_cons_succ]
            refine call_at (i := 12) (some 127) 13 _ _ rfl rfl rfl (by rfl) (by kernel_rfl) #[.slice (some ⟨g, 0, none⟩) (256 + n) 1280, .slice (some ⟨q, 0, none⟩) (256 + n) cq] rfl Tryd.func13 (by kernel_rfl) (by kernel_rfl) ?_
            refine (same_any (some ⟨g, 0, none⟩) (some ⟨q, 0, none⟩) (256 + n) (256 + n) 1280 cq F2 S _ (show Arg X6.drew _ _ _ from U6.out.2.1.front B2.out (256 + n) (by omega)) (show Arg X6.drew _ _ _ from U6.out.2.2.1.front BS.out (256 + n) (by omega))).mono ?_
            rintro e' X7 ⟨rfl, rfl⟩
            rw [EQ.out]
            refine ⟨_, rfl, c16, fun hHeld => ?_⟩
            simp only [Act.put, List.setIfInBounds_toArray, List.set_cons_zero, List.set_cons_succ]
            refine take_at (i := 13) (v := ?_) (some 17) rfl rfl (by kernel_rfl) (by kernel_rfl) (by kernel_rfl) (fun _ _ _ h => h) (Or.inl ⟨by rfl, ?_⟩) (by assumption) ?_
            rotate_left
            · (intro w hSw; (try dsimp only at hSw); go_simp; try with_reducible rfl)
            simp only [Act.put, List.setIfInBounds_toArray, List.set_cons_zero, List.set_cons_succ]
            refine wpAnyH_done (by kernel_rfl) ?_ _
            refine NoPanic.normal ?_
            have U8 : Hid (uS w g q e hh a n C S F1 F2 X6.drew) := U6.out.below (Below.refl _ _).drew
            have D8 : Hid (Rec19 X6.drew d 0 (ss st op vw mm)) := D6.out
            have M8 : Hid (Rec19 X6.drew xm 0 (msg hh (some ⟨x, 0, none⟩) n n)) := M6.out
            have XB8 : Hid (Arg X6.drew (some ⟨x, 0, none⟩) n f) := XB6.out
            clear XB6
            clear U6 D6 M6 c16 hHeld
            generalize X6.drew = X8 at U8 D8 M8 XB8 ⊢
            go_wp2_with (first
                | (have _q := U8; clear _q; refine wpList_load_w (by rfl) 29 (.tmp 15) rfl xm 0 (msg hh (some ⟨x, 0, none⟩) n n) rfl _ Tryd.underlying29 rfl (by kernel_rfl) M8.out ?_)
                | (have _q := U8; clear _q; refine wpList_load_w (by rfl) 29 (.tmp 2) rfl w.heap.size 0 (msg hh a n C) rfl _ Tryd.underlying29 rfl (by kernel_rfl) U8.out.1 ?_)
                | (have _q := U8; clear _q; go_at_call 21; refine (sameMsg_any hh (some ⟨x, 0, none⟩) a n n n C f f _ XB8.out (HA.out.below U8.out.2.2.2.2.2) rfl (fun _ _ => rfl)).mono ?_; rintro e' X9 ⟨rfl, hB⟩
                   have U9 : Hid (uS w g q e hh a n C S F1 F2 X9) := U8.out.below hB
                   have D9 : Hid (Rec19 X9 d 0 (ss st op vw mm)) := D8.out.below hB
                   clear hB U8 D8; clear M8 XB8)
                | (have _q := U9; clear _q; go_at_call 27; refine (head_gen (some ⟨e, 0, none⟩) 256 ce F1 _ U9.out.2.2.2.2.1 (U9.out.2.2.2.1.front B1.out 256 (by omega)) hce).mono ?_; rintro e' Y1 ⟨rfl, hB⟩; rw [HV.out, HC.out]
                   have V1 : Hid (uS w g q e hh a n C S F1 F2 Y1) := U9.out.below hB
                   have G1 : Hid (Rec19 Y1 d 0 (ss st op vw mm)) := D9.out.below hB
                   clear hB U9 D9)
                | (have _q := V1; clear _q; refine wpList_alloc_rec rfl 26 rfl (hcs fun _ => 0) Y1.heap.size rfl zeroHdr ?_; intro Y2 r2 b2 z2)
                | (have _q := V1; clear _q; refine wpList_store_rec rfl 26 (.tmp 18) (.tmp 150) rfl Y1.heap.size 0 _ (hcs hv) rfl rfl r2 rfl (by kernel_rfl) (hcs_one _) ?_; intro Y3 r3 b3
                   have hB : Below Y1.heap.size Y1 Y3 := b2.trans (b3.below (Nat.le_refl _) (by omega))
                   have V3 : Hid (uS w g q e hh a n C S F1 F2 Y3) := V1.out.below hB
                   have G3 : Hid (Rec19 Y3 d 0 (ss st op vw mm)) := G1.out.below hB
                   have c5 : Y3.cell? ⟨w.heap.size, 5, none⟩ = some (.int .i64 (hh 5)) := (V3.out.1.at 5 _ rfl).1
                   have c3 : Y3.cell? ⟨w.heap.size, 3, none⟩ = some (.int .i64 (hh 3)) := (V3.out.1.at 3 _ rfl).1
                   have d0 : Y3.cell? ⟨d, 0, none⟩ = some (.int .i64 st) := (G3.out.at 0 _ rfl).1
                   clear hB b2 b3 r2 r3 z2 V1 G1)
                | (have _q := V3; clear _q; go_at_call 13; refine (same_any (some ⟨e, 0, none⟩) (some ⟨q, 0, none⟩) 256 256 ce cq F1 S _ (V3.out.2.2.2.1.front B1.out 256 (by omega)) (V3.out.2.2.1.front BS.out 256 (by omega))).mono ?_; rintro e' Y4 ⟨rfl, rfl⟩; rw [EH.out]))
            go_ret
            exact ⟨rfl, V3.out.2.2.2.2.2⟩
        · obtain ⟨c, hce'⟩ : ∃ c, headC 256 F1 = c := ⟨_, rfl⟩
          have HC : Hid (headC 256 F1 = c) := hce'
          have z1 : (c == 0) = false := by rw [hce'] at hc; simpa using hc
          have z2 : (c != 0) = true := by rw [hce'] at hc; simpa using hc
          obtain ⟨st, op, vw, mm, hj, hJ⟩ : ∃ st op vw mm, (st = 1 ∧ op = hh 5 ∧ vw = hh 3 ∧ mm = true) ∧ judgeL 256 F1 1280 F2 k = ss st op vw mm := ⟨_, _, _, _, ⟨rfl, rfl, rfl, rfl⟩, (by rw [← HH.out]; exact turn_jC SK.out hl OK.out HW.out HP.out SA.out hc)⟩
          have JL : Hid (judgeL 256 F1 1280 F2 k = ss st op vw mm) := hJ
          have IS : Hid (st = 1 ∧ op = hh 5 ∧ vw = hh 3 ∧ mm = true) := hj
          clear hJ hj hc hce'
          go_wp2_with (first
              | (have _q := U0; clear _q; go_at_call 22; refine (judge_row e g ce F1 F2 k _ _ U0.out.2.2.2.2.1 (U0.out.2.2.2.1.front B1.out 256 (by omega)) (U0.out.2.1.front B2.out 1280 (by omega)) hce JL.out).mono ?_; rintro e' X1 ⟨rfl, hB⟩
                 have U1 : Hid (uS w g q e hh a n C S F1 F2 X1) := U0.out.below hB
                 clear hB U0 )
              | (have _q := U1; clear _q; refine wpList_alloc_rec rfl 45 rfl (ss 0 0 0 false) X1.heap.size rfl zeroSs ?_; intro X2 r2 b2 z2)
              | (have _q := U1; clear _q; refine wpList_store_rec rfl 45 (.tmp 14) (.tmp 108) rfl X1.heap.size 0 _ (ss st op vw mm) rfl rfl r2 rfl (by kernel_rfl) (ss_one _ _ _ _) ?_; intro X3 r3 b3
                 have hB : Below X1.heap.size X1 X3 := b2.trans (b3.below (Nat.le_refl _) (by omega))
                 have U3 : Hid (uS w g q e hh a n C S F1 F2 X3) := U1.out.below hB
                 have D3 : Hid (Rec19 X3 X1.heap.size 0 (ss st op vw mm)) := r3
                 clear hB b2 b3 r2 r3 z2 U1
                 generalize X1.heap.size = d at D3 ⊢)
              | (have _q := U3; clear _q; go_at_call 19; refine (prep_same (h := h) (f := f) hl OK.out HW.out HP.out B2.out SA.out g _ U3.out.2.2.2.2.1 U3.out.2.1).mono ?_; rintro e' X4 ⟨x, he, hXB, hB⟩; rw [HH.out] at he; subst he; have XB4 : Hid (Arg X4 (some ⟨x, 0, none⟩) n f) := hXB; clear hXB
                 have U4 : Hid (uS w g q e hh a n C S F1 F2 X4) := U3.out.below hB
                 have D4 : Hid (Rec19 X4 d 0 (ss st op vw mm)) := D3.out.below hB
                 clear hB U3 D3)
              | (have _q := U4; clear _q; refine wpList_alloc_rec rfl 29 rfl (msg (fun _ => 0) none 0 0) X4.heap.size rfl zeroMsg ?_; intro X5 r5 b5 z5)
              | (have _q := U4; clear _q; refine wpList_store_rec rfl 29 (.tmp 15) (.tmp 113) rfl X4.heap.size 0 _ (msg hh (some ⟨x, 0, none⟩) n n) rfl rfl r5 rfl (by kernel_rfl) (msg_one _ _ _ _) ?_; intro X6 r6 b6
                 have hB : Below X4.heap.size X4 X6 := b5.trans (b6.below (Nat.le_refl _) (by omega))
                 have U6 : Hid (uS w g q e hh a n C S F1 F2 X6) := U4.out.below hB
                 have D6 : Hid (Rec19 X6 d 0 (ss st op vw mm)) := D4.out.below hB
                 have M6 : Hid (Rec19 X6 X4.heap.size 0 (msg hh (some ⟨x, 0, none⟩) n n)) := r6
                 have XB6 : Hid (Arg X6 (some ⟨x, 0, none⟩) n f) := XB4.out.below hB
                 clear XB4
                 clear hB b5 b6 r5 r6 z5 U4 D4
                 generalize X4.heap.size = xm at M6 ⊢))
          have c16 : X6.drew.cell? ⟨w.heap.size, 16, none⟩ = some (.slice a n C) := (U6.out.1.at 16 _ (msg_body hh a n C)).1
          refine wp_region_noPanic ?_
          refine wp_region_held_drew (S := fun W' => W'.cell? ⟨w.heap.size, 16, none⟩ = some (.slice a n C)) (by kernel_rfl) ?_ (fun hHeld => ?_)
          · exact c16
          refine take_at (i := 0) (v := ?_) (some 115) rfl rfl (by kernel_rfl) (by kernel_rfl) (by kernel_rfl) (fun _ _ _ h => h) (Or.inl ⟨by rfl, ?_⟩) (by assumption) ?_
          rotate_left
          · (intro w hSw; (try dsimp only at hSw); go_simp; try with_reducible rfl)
          simp only [Act.put, List.setIfInBounds_toArray, List.set_cons_zero, List.set_cons_succ]
          refine take_at (i := 1) (v := ?_) (some 116) rfl rfl (by kernel_rfl) (by kernel_rfl) (by kernel_rfl) (fun _ _ _ h => h) (Or.inl ⟨by rfl, ?_⟩) (by assumption) ?_
          rotate_left
          · (intro w hSw; (try dsimp only at hSw); go_simp; try with_reducible rfl)
          simp only [Act.put, List.setIfInBounds_toArray, List.set_cons_zero, List.set_cons_succ]
          refine take_at (i := 2) (v := ?_) (some 117) rfl rfl (by kernel_rfl) (by kernel_rfl) (by kernel_rfl) (fun _ _ _ h => h) (Or.inl ⟨by rfl, ?_⟩) (by assumption) ?_
          rotate_left
          · (intro w hSw; (try dsimp only at hSw); go_simp; try with_reducible rfl)
          simp only [Act.put, List.setIfInBounds_toArray, List.set_cons_zero, List.set_cons_succ]
          refine take_at (i := 3) (v := ?_) (some 118) rfl rfl (by kernel_rfl) (by kernel_rfl) (by kernel_rfl) (fun _ _ _ h => h) (Or.inl ⟨by rfl, ?_⟩) (by assumption) ?_
          rotate_left
          · (intro w hSw; (try dsimp only at hSw); go_simp; try with_reducible rfl)
          simp only [Act.put, List.setIfInBounds_toArray, List.set_cons_zero, List.set_cons_succ]
          refine take_at (i := 4) (v := ?_) (some 119) rfl rfl (by kernel_rfl) (by kernel_rfl) (by kernel_rfl) (fun _ _ _ h => h) (Or.inl ⟨by rfl, ?_⟩) (by assumption) ?_
          rotate_left
          · (intro w hSw; (try dsimp only at hSw); go_simp; try with_reducible rfl)
          simp only [Act.put, List.setIfInBounds_toArray, List.set_cons_zero, List.set_cons_succ]
          refine take_at (i := 5) (v := ?_) (some 120) rfl rfl (by kernel_rfl) (by kernel_rfl) (by kernel_rfl) (fun _ _ _ h => h) (Or.inl ⟨by rfl, ?_⟩) (by assumption) ?_
          rotate_left
          · (intro w hSw; (try dsimp only at hSw); go_simp; try with_reducible rfl)
          simp only [Act.put, List.setIfInBounds_toArray, List.set_cons_zero, List.set_cons_succ]
          refine take_at (i := 6) (v := ?_) (some 121) rfl rfl (by kernel_rfl) (by kernel_rfl) (by kernel_rfl) (fun _ _ _ h => h) (Or.inl ⟨by rfl, ?_⟩) (by assumption) ?_
          rotate_left
          · (intro w hSw; (try dsimp only at hSw); go_simp; try with_reducible rfl)
          simp only [Act.put, List.setIfInBounds_toArray, List.set_cons_zero, List.set_cons_succ]
          refine take_at (i := 7) (v := ?_) (some 122) rfl rfl (by kernel_rfl) (by kernel_rfl) (by kernel_rfl) (fun _ _ _ h => h) (Or.inl ⟨by rfl, ?_⟩) (by assumption) ?_
          rotate_left
          · (intro w hSw; (try dsimp only at hSw); go_simp; try with_reducible rfl)
          simp only [Act.put, List.setIfInBounds_toArray, List.set_cons_zero, List.set_cons_succ]
          refine take_at (i := 8) (v := ?_) (some 123) rfl rfl (by kernel_rfl) (by kernel_rfl) (by kernel_rfl) (fun _ _ _ h => h) (Or.inl ⟨by rfl, ?_⟩) (by assumption) ?_
          rotate_left
          · (intro w hSw; (try dsimp only at hSw); go_simp; try with_reducible rfl)
          simp only [Act.put, List.setIfInBounds_toArray, List.set_cons_zero, List.set_cons_succ]
          refine take_at (i := 9) (v := ?_) (some 124) rfl rfl (by kernel_rfl) (by kernel_rfl) (by kernel_rfl) (fun _ _ _ h => h) (Or.inl ⟨by rfl, ?_⟩) (by assumption) ?_
          rotate_left
          · (intro w hSw; (try dsimp only at hSw); go_simp; try with_reducible rfl)
          simp only [Act.put, List.setIfInBounds_toArray, List.set_cons_zero, List.set_cons_succ]
          refine take_at (i := 10) (v := ?_) (some 125) rfl rfl (by kernel_rfl) (by kernel_rfl) (by kernel_rfl) (fun _ _ _ h => h) (Or.inl ⟨by rfl, ?_⟩) (by assumption) ?_
          rotate_left
          · (intro w hSw; (try dsimp only at hSw); go_simp; try with_reducible rfl)
          simp only [Act.put, List.setIfInBounds_toArray, List.set_cons_zero, List.set_cons_succ]
          refine take_at (i := 11) (v := ?_) (some 126) rfl rfl (by kernel_rfl) (by kernel_rfl) (by kernel_rfl) (fun _ _ _ h => h) (Or.inl ⟨by rfl, ?_⟩) (by assumption) ?_
          rotate_left
          · (intro w hSw; (try dsimp only at hSw); go_simp; try with_reducible rfl)
          simp only [Act.put, List.setIfInBounds_toArray, List.set_cons_zero, List.set_cons_succ]
          refine call_at (i := 12) (some 127) 13 _ _ rfl rfl rfl (by rfl) (by kernel_rfl) #[.slice (some ⟨g, 0, none⟩) (256 + n) 1280, .slice (some ⟨q, 0, none⟩) (256 + n) cq] rfl Tryd.func13 (by kernel_rfl) (by kernel_rfl) ?_
          refine (same_any (some ⟨g, 0, none⟩) (some ⟨q, 0, none⟩) (256 + n) (256 + n) 1280 cq F2 S _ (show Arg X6.drew _ _ _ from U6.out.2.1.front B2.out (256 + n) (by omega)) (show Arg X6.drew _ _ _ from U6.out.2.2.1.front BS.out (256 + n) (by omega))).mono ?_
          rintro e' X7 ⟨rfl, rfl⟩
          rw [EQ.out]
          refine ⟨_, rfl, c16, fun hHeld => ?_⟩
          simp only [Act.put, List.setIfInBounds_toArray, List.set_cons_zero, List.set_cons_succ]
          refine take_at (i := 13) (v := ?_) (some 17) rfl rfl (by kernel_rfl) (by kernel_rfl) (by kernel_rfl) (fun _ _ _ h => h) (Or.inl ⟨by rfl, ?_⟩) (by assumption) ?_
          rotate_left
          · (intro w hSw; (try dsimp only at hSw); go_simp; try with_reducible rfl)
          simp only [Act.put, List.setIfInBounds_toArray, List.set_cons_zero, List.set_cons_succ]
          refine wpAnyH_done (by kernel_rfl) ?_ _
          refine NoPanic.normal ?_
          have U8 : Hid (uS w g q e hh a n C S F1 F2 X6.drew) := U6.out.below (Below.refl _ _).drew
          have D8 : Hid (Rec19 X6.drew d 0 (ss st op vw mm)) := D6.out
          have M8 : Hid (Rec19 X6.drew xm 0 (msg hh (some ⟨x, 0, none⟩) n n)) := M6.out
          have XB8 : Hid (Arg X6.drew (some ⟨x, 0, none⟩) n f) := XB6.out
          clear XB6
          clear U6 D6 M6 c16 hHeld
          generalize X6.drew = X8 at U8 D8 M8 XB8 ⊢
          go_wp2_with (first
              | (have _q := U8; clear _q; refine wpList_load_w (by rfl) 29 (.tmp 15) rfl xm 0 (msg hh (some ⟨x, 0, none⟩) n n) rfl _ Tryd.underlying29 rfl (by kernel_rfl) M8.out ?_)
              | (have _q := U8; clear _q; refine wpList_load_w (by rfl) 29 (.tmp 2) rfl w.heap.size 0 (msg hh a n C) rfl _ Tryd.underlying29 rfl (by kernel_rfl) U8.out.1 ?_)
              | (have _q := U8; clear _q; go_at_call 21; refine (sameMsg_any hh (some ⟨x, 0, none⟩) a n n n C f f _ XB8.out (HA.out.below U8.out.2.2.2.2.2) rfl (fun _ _ => rfl)).mono ?_; rintro e' X9 ⟨rfl, hB⟩
                 have U9 : Hid (uS w g q e hh a n C S F1 F2 X9) := U8.out.below hB
                 have D9 : Hid (Rec19 X9 d 0 (ss st op vw mm)) := D8.out.below hB
                 clear hB U8 D8; clear M8 XB8)
              | (have _q := U9; clear _q; go_at_call 27; refine (head_gen (some ⟨e, 0, none⟩) 256 ce F1 _ U9.out.2.2.2.2.1 (U9.out.2.2.2.1.front B1.out 256 (by omega)) hce).mono ?_; rintro e' Y1 ⟨rfl, hB⟩; rw [HV.out, HC.out]
                 have V1 : Hid (uS w g q e hh a n C S F1 F2 Y1) := U9.out.below hB
                 have G1 : Hid (Rec19 Y1 d 0 (ss st op vw mm)) := D9.out.below hB
                 clear hB U9 D9)
              | (have _q := V1; clear _q; refine wpList_alloc_rec rfl 26 rfl (hcs fun _ => 0) Y1.heap.size rfl zeroHdr ?_; intro Y2 r2 b2 z2)
              | (have _q := V1; clear _q; refine wpList_store_rec rfl 26 (.tmp 18) (.tmp 150) rfl Y1.heap.size 0 _ (hcs hv) rfl rfl r2 rfl (by kernel_rfl) (hcs_one _) ?_; intro Y3 r3 b3
                 have hB : Below Y1.heap.size Y1 Y3 := b2.trans (b3.below (Nat.le_refl _) (by omega))
                 have V3 : Hid (uS w g q e hh a n C S F1 F2 Y3) := V1.out.below hB
                 have G3 : Hid (Rec19 Y3 d 0 (ss st op vw mm)) := G1.out.below hB
                 have c5 : Y3.cell? ⟨w.heap.size, 5, none⟩ = some (.int .i64 (hh 5)) := (V3.out.1.at 5 _ rfl).1
                 have c3 : Y3.cell? ⟨w.heap.size, 3, none⟩ = some (.int .i64 (hh 3)) := (V3.out.1.at 3 _ rfl).1
                 have d0 : Y3.cell? ⟨d, 0, none⟩ = some (.int .i64 st) := (G3.out.at 0 _ rfl).1
                 clear hB b2 b3 r2 r3 z2 V1 G1)
              | (have _q := V3; clear _q; refine wpList_load_w (by rfl) 45 (.tmp 14) rfl d 0 (ss st op vw mm) rfl _ Tryd.underlying45 rfl (by kernel_rfl) G3.out ?_)
              | (have _q := V3; clear _q; go_at_call 25; refine (is_of _ _ _ _ _ _ _ _ IS.out _).mono ?_; rintro e' Y5 ⟨rfl, hB⟩
                 have V5 : Hid (Below w.heap.size w Y5) := V3.out.2.2.2.2.2.trans (hB.mono V3.out.2.2.2.2.2.size)
                 clear hB V3))
          go_ret
          exact ⟨rfl, V5.out⟩
      · have EQ : Hid (decide (txtN (256 + n) F2 = txtN (256 + n) S) = false) := decide_eq_false (fun q => hsame ((same_txt B2.out BS.out).1 q))
        clear hsame
        by_cases hsb : sealB F2 = true
        · have SB : Hid (sealB F2 = true) := hsb
          obtain ⟨st, op, vw, mm, hJ⟩ := judgeL_ss 256 F1 1280 F2 k
          have JL : Hid (judgeL 256 F1 1280 F2 k = ss st op vw mm) := hJ
          clear hJ hsb
          by_cases hpn : prepOK 1280 F2 k = true
          · have PN : Hid (prepOK 1280 F2 k = true) := hpn
            clear hpn
            go_wp2_with (first
                | (have _q := U0; clear _q; go_at_call 22; refine (judge_row e g ce F1 F2 k _ _ U0.out.2.2.2.2.1 (U0.out.2.2.2.1.front B1.out 256 (by omega)) (U0.out.2.1.front B2.out 1280 (by omega)) hce JL.out).mono ?_; rintro e' X1 ⟨rfl, hB⟩
                   have U1 : Hid (uS w g q e hh a n C S F1 F2 X1) := U0.out.below hB
                   clear hB U0 )
                | (have _q := U1; clear _q; refine wpList_alloc_rec rfl 45 rfl (ss 0 0 0 false) X1.heap.size rfl zeroSs ?_; intro X2 r2 b2 z2)
                | (have _q := U1; clear _q; refine wpList_store_rec rfl 45 (.tmp 14) (.tmp 108) rfl X1.heap.size 0 _ (ss st op vw mm) rfl rfl r2 rfl (by kernel_rfl) (ss_one _ _ _ _) ?_; intro X3 r3 b3
                   have hB : Below X1.heap.size X1 X3 := b2.trans (b3.below (Nat.le_refl _) (by omega))
                   have U3 : Hid (uS w g q e hh a n C S F1 F2 X3) := U1.out.below hB
                   have D3 : Hid (Rec19 X3 X1.heap.size 0 (ss st op vw mm)) := r3
                   clear hB b2 b3 r2 r3 z2 U1
                   generalize X1.heap.size = d at D3 ⊢)
                | (have _q := U3; clear _q; go_at_call 19; refine (prep_ok (some ⟨g, 0, none⟩) 1280 1280 F2 k _ U3.out.2.2.2.2.1 (U3.out.2.1.front B2.out 1280 (by omega)) (Nat.le_refl _) (by omega) PN.out).mono ?_; rintro e' X4 ⟨x, rfl, _, _, hB⟩
                   have U4 : Hid (uS w g q e hh a n C S F1 F2 X4) := U3.out.below hB
                   have D4 : Hid (Rec19 X4 d 0 (ss st op vw mm)) := D3.out.below hB
                   clear hB U3 D3)
                | (have _q := U4; clear _q; refine wpList_alloc_rec rfl 29 rfl (msg (fun _ => 0) none 0 0) X4.heap.size rfl zeroMsg ?_; intro X5 r5 b5 z5)
                | (have _q := U4; clear _q; refine wpList_store_rec rfl 29 (.tmp 15) (.tmp 113) rfl X4.heap.size 0 _ (msg (hdrF F2) (some ⟨x, 0, none⟩) (hdrF F2 2).toNat (hdrF F2 2).toNat) rfl rfl r5 rfl (by kernel_rfl) (msg_one _ _ _ _) ?_; intro X6 r6 b6
                   have hB : Below X4.heap.size X4 X6 := b5.trans (b6.below (Nat.le_refl _) (by omega))
                   have U6 : Hid (uS w g q e hh a n C S F1 F2 X6) := U4.out.below hB
                   have D6 : Hid (Rec19 X6 d 0 (ss st op vw mm)) := D4.out.below hB
                   have M6 : Hid (Rec19 X6 X4.heap.size 0 (msg (hdrF F2) (some ⟨x, 0, none⟩) (hdrF F2 2).toNat (hdrF F2 2).toNat)) := r6
                   clear hB b5 b6 r5 r6 z5 U4 D4
                   generalize X4.heap.size = xm at M6 ⊢))
            have c16 : X6.drew.cell? ⟨w.heap.size, 16, none⟩ = some (.slice a n C) := (U6.out.1.at 16 _ (msg_body hh a n C)).1
            refine wp_region_noPanic ?_
            refine wp_region_held_drew (S := fun W' => W'.cell? ⟨w.heap.size, 16, none⟩ = some (.slice a n C)) (by kernel_rfl) ?_ (fun hHeld => ?_)
            · exact c16
            refine take_at (i := 0) (v := ?_) (some 115) rfl rfl (by kernel_rfl) (by kernel_rfl) (by kernel_rfl) (fun _ _ _ h => h) (Or.inl ⟨by rfl, ?_⟩) (by assumption) ?_
            rotate_left
            · (intro w hSw; (try dsimp only at hSw); go_simp; try with_reducible rfl)
            simp only [Act.put, List.setIfInBounds_toArray, List.set_cons_zero, List.set_cons_succ]
            refine take_at (i := 1) (v := ?_) (some 116) rfl rfl (by kernel_rfl) (by kernel_rfl) (by kernel_rfl) (fun _ _ _ h => h) (Or.inl ⟨by rfl, ?_⟩) (by assumption) ?_
            rotate_left
            · (intro w hSw; (try dsimp only at hSw); go_simp; try with_reducible rfl)
            simp only [Act.put, List.setIfInBounds_toArray, List.set_cons_zero, List.set_cons_succ]
            refine take_at (i := 2) (v := ?_) (some 117) rfl rfl (by kernel_rfl) (by kernel_rfl) (by kernel_rfl) (fun _ _ _ h => h) (Or.inl ⟨by rfl, ?_⟩) (by assumption) ?_
            rotate_left
            · (intro w hSw; (try dsimp only at hSw); go_simp; try with_reducible rfl)
            simp only [Act.put, List.setIfInBounds_toArray, List.set_cons_zero, List.set_cons_succ]
            refine take_at (i := 3) (v := ?_) (some 118) rfl rfl (by kernel_rfl) (by kernel_rfl) (by kernel_rfl) (fun _ _ _ h => h) (Or.inl ⟨by rfl, ?_⟩) (by assumption) ?_
            rotate_left
            · (intro w hSw; (try dsimp only at hSw); go_simp; try with_reducible rfl)
            simp only [Act.put, List.setIfInBounds_toArray, List.set_cons_zero, List.set_cons_succ]
            refine take_at (i := 4) (v := ?_) (some 119) rfl rfl (by kernel_rfl) (by kernel_rfl) (by kernel_rfl) (fun _ _ _ h => h) (Or.inl ⟨by rfl, ?_⟩) (by assumption) ?_
            rotate_left
            · (intro w hSw; (try dsimp only at hSw); go_simp; try with_reducible rfl)
            simp only [Act.put, List.setIfInBounds_toArray, List.set_cons_zero, List.set_cons_succ]
            refine take_at (i := 5) (v := ?_) (some 120) rfl rfl (by kernel_rfl) (by kernel_rfl) (by kernel_rfl) (fun _ _ _ h => h) (Or.inl ⟨by rfl, ?_⟩) (by assumption) ?_
            rotate_left
            · (intro w hSw; (try dsimp only at hSw); go_simp; try with_reducible rfl)
            simp only [Act.put, List.setIfInBounds_toArray, List.set_cons_zero, List.set_cons_succ]
            refine take_at (i := 6) (v := ?_) (some 121) rfl rfl (by kernel_rfl) (by kernel_rfl) (by kernel_rfl) (fun _ _ _ h => h) (Or.inl ⟨by rfl, ?_⟩) (by assumption) ?_
            rotate_left
            · (intro w hSw; (try dsimp only at hSw); go_simp; try with_reducible rfl)
            simp only [Act.put, List.setIfInBounds_toArray, List.set_cons_zero, List.set_cons_succ]
            refine take_at (i := 7) (v := ?_) (some 122) rfl rfl (by kernel_rfl) (by kernel_rfl) (by kernel_rfl) (fun _ _ _ h => h) (Or.inl ⟨by rfl, ?_⟩) (by assumption) ?_
            rotate_left
            · (intro w hSw; (try dsimp only at hSw); go_simp; try with_reducible rfl)
            simp only [Act.put, List.setIfInBounds_toArray, List.set_cons_zero, List.set_cons_succ]
            refine take_at (i := 8) (v := ?_) (some 123) rfl rfl (by kernel_rfl) (by kernel_rfl) (by kernel_rfl) (fun _ _ _ h => h) (Or.inl ⟨by rfl, ?_⟩) (by assumption) ?_
            rotate_left
            · (intro w hSw; (try dsimp only at hSw); go_simp; try with_reducible rfl)
            simp only [Act.put, List.setIfInBounds_toArray, List.set_cons_zero, List.set_cons_succ]
            refine take_at (i := 9) (v := ?_) (some 124) rfl rfl (by kernel_rfl) (by kernel_rfl) (by kernel_rfl) (fun _ _ _ h => h) (Or.inl ⟨by rfl, ?_⟩) (by assumption) ?_
            rotate_left
            · (intro w hSw; (try dsimp only at hSw); go_simp; try with_reducible rfl)
            simp only [Act.put, List.setIfInBounds_toArray, List.set_cons_zero, List.set_cons_succ]
            refine take_at (i := 10) (v := ?_) (some 125) rfl rfl (by kernel_rfl) (by kernel_rfl) (by kernel_rfl) (fun _ _ _ h => h) (Or.inl ⟨by rfl, ?_⟩) (by assumption) ?_
            rotate_left
            · (intro w hSw; (try dsimp only at hSw); go_simp; try with_reducible rfl)
            simp only [Act.put, List.setIfInBounds_toArray, List.set_cons_zero, List.set_cons_succ]
            refine take_at (i := 11) (v := ?_) (some 126) rfl rfl (by kernel_rfl) (by kernel_rfl) (by kernel_rfl) (fun _ _ _ h => h) (Or.inl ⟨by rfl, ?_⟩) (by assumption) ?_
            rotate_left
            · (intro w hSw; (try dsimp only at hSw); go_simp; try with_reducible rfl)
            simp only [Act.put, List.setIfInBounds_toArray, List.set_cons_zero, List.set_cons_succ]
            refine call_at (i := 12) (some 127) 13 _ _ rfl rfl rfl (by rfl) (by kernel_rfl) #[.slice (some ⟨g, 0, none⟩) (256 + n) 1280, .slice (some ⟨q, 0, none⟩) (256 + n) cq] rfl Tryd.func13 (by kernel_rfl) (by kernel_rfl) ?_
            refine (same_any (some ⟨g, 0, none⟩) (some ⟨q, 0, none⟩) (256 + n) (256 + n) 1280 cq F2 S _ (show Arg X6.drew _ _ _ from U6.out.2.1.front B2.out (256 + n) (by omega)) (show Arg X6.drew _ _ _ from U6.out.2.2.1.front BS.out (256 + n) (by omega))).mono ?_
            rintro e' X7 ⟨rfl, rfl⟩
            rw [EQ.out]
            refine ⟨_, rfl, c16, fun hHeld => ?_⟩
            simp only [Act.put, List.setIfInBounds_toArray, List.set_cons_zero, List.set_cons_succ]
            refine take_at (i := 13) (v := ?_) (some 17) rfl rfl (by kernel_rfl) (by kernel_rfl) (by kernel_rfl) (fun _ _ _ h => h) (Or.inl ⟨by rfl, ?_⟩) (by assumption) ?_
            rotate_left
            · (intro w hSw; (try dsimp only at hSw); go_simp; try with_reducible rfl)
            simp only [Act.put, List.setIfInBounds_toArray, List.set_cons_zero, List.set_cons_succ]
            refine wpAnyH_done (by kernel_rfl) ?_ _
            refine NoPanic.normal ?_
            have U8 : Hid (uS w g q e hh a n C S F1 F2 X6.drew) := U6.out.below (Below.refl _ _).drew
            have D8 : Hid (Rec19 X6.drew d 0 (ss st op vw mm)) := D6.out
            have M8 : Hid (Rec19 X6.drew xm 0 (msg (hdrF F2) (some ⟨x, 0, none⟩) (hdrF F2 2).toNat (hdrF F2 2).toNat)) := M6.out
            clear U6 D6 M6 c16 hHeld
            generalize X6.drew = X8 at U8 D8 M8 ⊢
            go_wp2_with (first
                | (have _q := U8; clear _q; go_at_call 30; refine (sealed_any g F2 _ U8.out.2.2.2.2.1 U8.out.2.1 B2.out).mono ?_; rintro e' X9 ⟨rfl, hB⟩; rw [SB.out]
                   have U9 : Hid (uS w g q e hh a n C S F1 F2 X9) := U8.out.below hB
                   have D9 : Hid (Rec19 X9 d 0 (ss st op vw mm)) := D8.out.below hB
                   clear hB U8 D8))
            go_ret
            exact ⟨rfl, U9.out.2.2.2.2.2⟩
          · have PN : Hid (prepOK 1280 F2 k = false) := (by simpa using hpn : prepOK 1280 F2 k = false)
            clear hpn
            go_wp2_with (first
                | (have _q := U0; clear _q; go_at_call 22; refine (judge_row e g ce F1 F2 k _ _ U0.out.2.2.2.2.1 (U0.out.2.2.2.1.front B1.out 256 (by omega)) (U0.out.2.1.front B2.out 1280 (by omega)) hce JL.out).mono ?_; rintro e' X1 ⟨rfl, hB⟩
                   have U1 : Hid (uS w g q e hh a n C S F1 F2 X1) := U0.out.below hB
                   clear hB U0 )
                | (have _q := U1; clear _q; refine wpList_alloc_rec rfl 45 rfl (ss 0 0 0 false) X1.heap.size rfl zeroSs ?_; intro X2 r2 b2 z2)
                | (have _q := U1; clear _q; refine wpList_store_rec rfl 45 (.tmp 14) (.tmp 108) rfl X1.heap.size 0 _ (ss st op vw mm) rfl rfl r2 rfl (by kernel_rfl) (ss_one _ _ _ _) ?_; intro X3 r3 b3
                   have hB : Below X1.heap.size X1 X3 := b2.trans (b3.below (Nat.le_refl _) (by omega))
                   have U3 : Hid (uS w g q e hh a n C S F1 F2 X3) := U1.out.below hB
                   have D3 : Hid (Rec19 X3 X1.heap.size 0 (ss st op vw mm)) := r3
                   clear hB b2 b3 r2 r3 z2 U1
                   generalize X1.heap.size = d at D3 ⊢)
                | (have _q := U3; clear _q; go_at_call 19; refine (prep_no (some ⟨g, 0, none⟩) 1280 1280 F2 k _ U3.out.2.2.2.2.1 (U3.out.2.1.front B2.out 1280 (by omega)) (Nat.le_refl _) (by omega) PN.out).mono ?_; rintro e' X4 ⟨rfl, hB⟩
                   have U4 : Hid (uS w g q e hh a n C S F1 F2 X4) := U3.out.below hB
                   have D4 : Hid (Rec19 X4 d 0 (ss st op vw mm)) := D3.out.below hB
                   clear hB U3 D3)
                | (have _q := U4; clear _q; refine wpList_alloc_rec rfl 29 rfl (msg (fun _ => 0) none 0 0) X4.heap.size rfl zeroMsg ?_; intro X5 r5 b5 z5)
                | (have _q := U4; clear _q; refine wpList_store_rec rfl 29 (.tmp 15) (.tmp 113) rfl X4.heap.size 0 _ (msg (fun _ => 0) none 0 0) rfl rfl r5 rfl (by kernel_rfl) (msg_one _ _ _ _) ?_; intro X6 r6 b6
                   have hB : Below X4.heap.size X4 X6 := b5.trans (b6.below (Nat.le_refl _) (by omega))
                   have U6 : Hid (uS w g q e hh a n C S F1 F2 X6) := U4.out.below hB
                   have D6 : Hid (Rec19 X6 d 0 (ss st op vw mm)) := D4.out.below hB
                   have M6 : Hid (Rec19 X6 X4.heap.size 0 (msg (fun _ => 0) none 0 0)) := r6
                   clear hB b5 b6 r5 r6 z5 U4 D4
                   generalize X4.heap.size = xm at M6 ⊢))
            have c16 : X6.drew.cell? ⟨w.heap.size, 16, none⟩ = some (.slice a n C) := (U6.out.1.at 16 _ (msg_body hh a n C)).1
            refine wp_region_noPanic ?_
            refine wp_region_held_drew (S := fun W' => W'.cell? ⟨w.heap.size, 16, none⟩ = some (.slice a n C)) (by kernel_rfl) ?_ (fun hHeld => ?_)
            · exact c16
            refine take_at (i := 0) (v := ?_) (some 115) rfl rfl (by kernel_rfl) (by kernel_rfl) (by kernel_rfl) (fun _ _ _ h => h) (Or.inl ⟨by rfl, ?_⟩) (by assumption) ?_
            rotate_left
            · (intro w hSw; (try dsimp only at hSw); go_simp; try with_reducible rfl)
            simp only [Act.put, List.setIfInBounds_toArray, List.set_cons_zero, List.set_cons_succ]
            refine take_at (i := 1) (v := ?_) (some 116) rfl rfl (by kernel_rfl) (by kernel_rfl) (by kernel_rfl) (fun _ _ _ h => h) (Or.inl ⟨by rfl, ?_⟩) (by assumption) ?_
            rotate_left
            · (intro w hSw; (try dsimp only at hSw); go_simp; try with_reducible rfl)
            simp only [Act.put, List.setIfInBounds_toArray, List.set_cons_zero, List.set_cons_succ]
            refine take_at (i := 2) (v := ?_) (some 117) rfl rfl (by kernel_rfl) (by kernel_rfl) (by kernel_rfl) (fun _ _ _ h => h) (Or.inl ⟨by rfl, ?_⟩) (by assumption) ?_
            rotate_left
            · (intro w hSw; (try dsimp only at hSw); go_simp; try with_reducible rfl)
            simp only [Act.put, List.setIfInBounds_toArray, List.set_cons_zero, List.set_cons_succ]
            refine take_at (i := 3) (v := ?_) (some 118) rfl rfl (by kernel_rfl) (by kernel_rfl) (by kernel_rfl) (fun _ _ _ h => h) (Or.inl ⟨by rfl, ?_⟩) (by assumption) ?_
            rotate_left
            · (intro w hSw; (try dsimp only at hSw); go_simp; try with_reducible rfl)
            simp only [Act.put, List.setIfInBounds_toArray, List.set_cons_zero, List.set_cons_succ]
            refine take_at (i := 4) (v := ?_) (some 119) rfl rfl (by kernel_rfl) (by kernel_rfl) (by kernel_rfl) (fun _ _ _ h => h) (Or.inl ⟨by rfl, ?_⟩) (by assumption) ?_
            rotate_left
            · (intro w hSw; (try dsimp only at hSw); go_simp; try with_reducible rfl)
            simp only [Act.put, List.setIfInBounds_toArray, List.set_cons_zero, List.set_cons_succ]
            refine take_at (i := 5) (v := ?_) (some 120) rfl rfl (by kernel_rfl) (by kernel_rfl) (by kernel_rfl) (fun _ _ _ h => h) (Or.inl ⟨by rfl, ?_⟩) (by assumption) ?_
            rotate_left
            · (intro w hSw; (try dsimp only at hSw); go_simp; try with_reducible rfl)
            simp only [Act.put, List.setIfInBounds_toArray, List.set_cons_zero, List.set_cons_succ]
            refine take_at (i := 6) (v := ?_) (some 121) rfl rfl (by kernel_rfl) (by kernel_rfl) (by kernel_rfl) (fun _ _ _ h => h) (Or.inl ⟨by rfl, ?_⟩) (by assumption) ?_
            rotate_left
            · (intro w hSw; (try dsimp only at hSw); go_simp; try with_reducible rfl)
            simp only [Act.put, List.setIfInBounds_toArray, List.set_cons_zero, List.set_cons_succ]
            refine take_at (i := 7) (v := ?_) (some 122) rfl rfl (by kernel_rfl) (by kernel_rfl) (by kernel_rfl) (fun _ _ _ h => h) (Or.inl ⟨by rfl, ?_⟩) (by assumption) ?_
            rotate_left
            · (intro w hSw; (try dsimp only at hSw); go_simp; try with_reducible rfl)
            simp only [Act.put, List.setIfInBounds_toArray, List.set_cons_zero, List.set_cons_succ]
            refine take_at (i := 8) (v := ?_) (some 123) rfl rfl (by kernel_rfl) (by kernel_rfl) (by kernel_rfl) (fun _ _ _ h => h) (Or.inl ⟨by rfl, ?_⟩) (by assumption) ?_
            rotate_left
            · (intro w hSw; (try dsimp only at hSw); go_simp; try with_reducible rfl)
            simp only [Act.put, List.setIfInBounds_toArray, List.set_cons_zero, List.set_cons_succ]
            refine take_at (i := 9) (v := ?_) (some 124) rfl rfl (by kernel_rfl) (by kernel_rfl) (by kernel_rfl) (fun _ _ _ h => h) (Or.inl ⟨by rfl, ?_⟩) (by assumption) ?_
            rotate_left
            · (intro w hSw; (try dsimp only at hSw); go_simp; try with_reducible rfl)
            simp only [Act.put, List.setIfInBounds_toArray, List.set_cons_zero, List.set_cons_succ]
            refine take_at (i := 10) (v := ?_) (some 125) rfl rfl (by kernel_rfl) (by kernel_rfl) (by kernel_rfl) (fun _ _ _ h => h) (Or.inl ⟨by rfl, ?_⟩) (by assumption) ?_
            rotate_left
            · (intro w hSw; (try dsimp only at hSw); go_simp; try with_reducible rfl)
            simp only [Act.put, List.setIfInBounds_toArray, List.set_cons_zero, List.set_cons_succ]
            refine take_at (i := 11) (v := ?_) (some 126) rfl rfl (by kernel_rfl) (by kernel_rfl) (by kernel_rfl) (fun _ _ _ h => h) (Or.inl ⟨by rfl, ?_⟩) (by assumption) ?_
            rotate_left
            · (intro w hSw; (try dsimp only at hSw); go_simp; try with_reducible rfl)
            simp only [Act.put, List.setIfInBounds_toArray, List.set_cons_zero, List.set_cons_succ]
            refine call_at (i := 12) (some 127) 13 _ _ rfl rfl rfl (by rfl) (by kernel_rfl) #[.slice (some ⟨g, 0, none⟩) (256 + n) 1280, .slice (some ⟨q, 0, none⟩) (256 + n) cq] rfl Tryd.func13 (by kernel_rfl) (by kernel_rfl) ?_
            refine (same_any (some ⟨g, 0, none⟩) (some ⟨q, 0, none⟩) (256 + n) (256 + n) 1280 cq F2 S _ (show Arg X6.drew _ _ _ from U6.out.2.1.front B2.out (256 + n) (by omega)) (show Arg X6.drew _ _ _ from U6.out.2.2.1.front BS.out (256 + n) (by omega))).mono ?_
            rintro e' X7 ⟨rfl, rfl⟩
            rw [EQ.out]
            refine ⟨_, rfl, c16, fun hHeld => ?_⟩
            simp only [Act.put, List.setIfInBounds_toArray, List.set_cons_zero, List.set_cons_succ]
            refine take_at (i := 13) (v := ?_) (some 17) rfl rfl (by kernel_rfl) (by kernel_rfl) (by kernel_rfl) (fun _ _ _ h => h) (Or.inl ⟨by rfl, ?_⟩) (by assumption) ?_
            rotate_left
            · (intro w hSw; (try dsimp only at hSw); go_simp; try with_reducible rfl)
            simp only [Act.put, List.setIfInBounds_toArray, List.set_cons_zero, List.set_cons_succ]
            refine wpAnyH_done (by kernel_rfl) ?_ _
            refine NoPanic.normal ?_
            have U8 : Hid (uS w g q e hh a n C S F1 F2 X6.drew) := U6.out.below (Below.refl _ _).drew
            have D8 : Hid (Rec19 X6.drew d 0 (ss st op vw mm)) := D6.out
            have M8 : Hid (Rec19 X6.drew xm 0 (msg (fun _ => 0) none 0 0)) := M6.out
            clear U6 D6 M6 c16 hHeld
            generalize X6.drew = X8 at U8 D8 M8 ⊢
            go_wp2_with (first
                | (have _q := U8; clear _q; go_at_call 30; refine (sealed_any g F2 _ U8.out.2.2.2.2.1 U8.out.2.1 B2.out).mono ?_; rintro e' X9 ⟨rfl, hB⟩; rw [SB.out]
                   have U9 : Hid (uS w g q e hh a n C S F1 F2 X9) := U8.out.below hB
                   have D9 : Hid (Rec19 X9 d 0 (ss st op vw mm)) := D8.out.below hB
                   clear hB U8 D8))
            go_ret
            exact ⟨rfl, U9.out.2.2.2.2.2⟩
        · have SB : Hid (sealB F2 = false) := (by simpa using hsb : sealB F2 = false)
          have pn : prepOK 1280 F2 k = false := by rw [Bool.eq_false_iff]; intro q; exact hsb (prep_sealed q)
          have PN : Hid (prepOK 1280 F2 k = false) := pn
          clear hsb
          by_cases hc : headC 256 F1 = 0
          · have HC : Hid (headC 256 F1 = 0) := hc
            clear hc
            by_cases hh1 : ∀ j, j < 256 → F1 j = S j
            · have EH : Hid (decide (txtN 256 F1 = txtN 256 S) = true) := decide_eq_true ((head_txt B1.out BS.out).2 hh1)
              obtain ⟨st, op, vw, mm, hj, hJ⟩ : ∃ st op vw mm, st = 3 ∧ judgeL 256 F1 1280 F2 k = ss st op vw mm := ⟨_, _, _, _, rfl, turn_jD (h := h) (f := f) (n := n) SK.out OK.out HW.out HP.out hl pn (by rw [HS.out]; exact hh1)⟩
              subst hj
              have JL : Hid (judgeL 256 F1 1280 F2 k = ss 3 op vw mm) := hJ
              clear hh1 hJ pn
              go_wp2_with (first
                  | (have _q := U0; clear _q; go_at_call 22; refine (judge_row e g ce F1 F2 k _ _ U0.out.2.2.2.2.1 (U0.out.2.2.2.1.front B1.out 256 (by omega)) (U0.out.2.1.front B2.out 1280 (by omega)) hce JL.out).mono ?_; rintro e' X1 ⟨rfl, hB⟩
                     have U1 : Hid (uS w g q e hh a n C S F1 F2 X1) := U0.out.below hB
                     clear hB U0 )
                  | (have _q := U1; clear _q; refine wpList_alloc_rec rfl 45 rfl (ss 0 0 0 false) X1.heap.size rfl zeroSs ?_; intro X2 r2 b2 z2)
                  | (have _q := U1; clear _q; refine wpList_store_rec rfl 45 (.tmp 14) (.tmp 108) rfl X1.heap.size 0 _ (ss 3 op vw mm) rfl rfl r2 rfl (by kernel_rfl) (ss_one _ _ _ _) ?_; intro X3 r3 b3
                     have hB : Below X1.heap.size X1 X3 := b2.trans (b3.below (Nat.le_refl _) (by omega))
                     have U3 : Hid (uS w g q e hh a n C S F1 F2 X3) := U1.out.below hB
                     have D3 : Hid (Rec19 X3 X1.heap.size 0 (ss 3 op vw mm)) := r3
                     clear hB b2 b3 r2 r3 z2 U1
                     generalize X1.heap.size = d at D3 ⊢)
                  | (have _q := U3; clear _q; go_at_call 19; refine (prep_no (some ⟨g, 0, none⟩) 1280 1280 F2 k _ U3.out.2.2.2.2.1 (U3.out.2.1.front B2.out 1280 (by omega)) (Nat.le_refl _) (by omega) PN.out).mono ?_; rintro e' X4 ⟨rfl, hB⟩
                     have U4 : Hid (uS w g q e hh a n C S F1 F2 X4) := U3.out.below hB
                     have D4 : Hid (Rec19 X4 d 0 (ss 3 op vw mm)) := D3.out.below hB
                     clear hB U3 D3)
                  | (have _q := U4; clear _q; refine wpList_alloc_rec rfl 29 rfl (msg (fun _ => 0) none 0 0) X4.heap.size rfl zeroMsg ?_; intro X5 r5 b5 z5)
                  | (have _q := U4; clear _q; refine wpList_store_rec rfl 29 (.tmp 15) (.tmp 113) rfl X4.heap.size 0 _ (msg (fun _ => 0) none 0 0) rfl rfl r5 rfl (by kernel_rfl) (msg_one _ _ _ _) ?_; intro X6 r6 b6
                     have hB : Below X4.heap.size X4 X6 := b5.trans (b6.below (Nat.le_refl _) (by omega))
                     have U6 : Hid (uS w g q e hh a n C S F1 F2 X6) := U4.out.below hB
                     have D6 : Hid (Rec19 X6 d 0 (ss 3 op vw mm)) := D4.out.below hB
                     have M6 : Hid (Rec19 X6 X4.heap.size 0 (msg (fun _ => 0) none 0 0)) := r6
                     clear hB b5 b6 r5 r6 z5 U4 D4
                     generalize X4.heap.size = xm at M6 ⊢))
              have c16 : X6.drew.cell? ⟨w.heap.size, 16, none⟩ = some (.slice a n C) := (U6.out.1.at 16 _ (msg_body hh a n C)).1
              refine wp_region_noPanic ?_
              refine wp_region_held_drew (S := fun W' => W'.cell? ⟨w.heap.size, 16, none⟩ = some (.slice a n C)) (by kernel_rfl) ?_ (fun hHeld => ?_)
              · exact c16
              refine take_at (i := 0) (v := ?_) (some 115) rfl rfl (by kernel_rfl) (by kernel_rfl) (by kernel_rfl) (fun _ _ _ h => h) (Or.inl ⟨by rfl, ?_⟩) (by assumption) ?_
              rotate_left
              · (intro w hSw; (try dsimp only at hSw); go_simp; try with_reducible rfl)
              simp only [Act.put, List.setIfInBounds_toArray, List.set_cons_zero, List.set_cons_succ]
              refine take_at (i := 1) (v := ?_) (some 116) rfl rfl (by kernel_rfl) (by kernel_rfl) (by kernel_rfl) (fun _ _ _ h => h) (Or.inl ⟨by rfl, ?_⟩) (by assumption) ?_
              rotate_left
              · (intro w hSw; (try dsimp only at hSw); go_simp; try with_reducible rfl)
              simp only [Act.put, List.setIfInBounds_toArray, List.set_cons_zero, List.set_cons_succ]
              refine take_at (i := 2) (v := ?_) (some 117) rfl rfl (by kernel_rfl) (by kernel_rfl) (by kernel_rfl) (fun _ _ _ h => h) (Or.inl ⟨by rfl, ?_⟩) (by assumption) ?_
              rotate_left
              · (intro w hSw; (try dsimp only at hSw); go_simp; try with_reducible rfl)
              simp only [Act.put, List.setIfInBounds_toArray, List.set_cons_zero, List.set_cons_succ]
              refine take_at (i := 3) (v := ?_) (some 118) rfl rfl (by kernel_rfl) (by kernel_rfl) (by kernel_rfl) (fun _ _ _ h => h) (Or.inl ⟨by rfl, ?_⟩) (by assumption) ?_
              rotate_left
              · (intro w hSw; (try dsimp only at hSw); go_simp; try with_reducible rfl)
              simp only [Act.put, List.setIfInBounds_toArray, List.set_cons_zero, List.set_cons_succ]
              refine take_at (i := 4) (v := ?_) (some 119) rfl rfl (by kernel_rfl) (by kernel_rfl) (by kernel_rfl) (fun _ _ _ h => h) (Or.inl ⟨by rfl, ?_⟩) (by assumption) ?_
              rotate_left
              · (intro w hSw; (try dsimp only at hSw); go_simp; try with_reducible rfl)
              simp only [Act.put, List.setIfInBounds_toArray, List.set_cons_zero, List.set_cons_succ]
              refine take_at (i := 5) (v := ?_) (some 120) rfl rfl (by kernel_rfl) (by kernel_rfl) (by kernel_rfl) (fun _ _ _ h => h) (Or.inl ⟨by rfl, ?_⟩) (by assumption) ?_
              rotate_left
              · (intro w hSw; (try dsimp only at hSw); go_simp; try with_reducible rfl)
              simp only [Act.put, List.setIfInBounds_toArray, List.set_cons_zero, List.set_cons_succ]
              refine take_at (i := 6) (v := ?_) (some 121) rfl rfl (by kernel_rfl) (by kernel_rfl) (by kernel_rfl) (fun _ _ _ h => h) (Or.inl ⟨by rfl, ?_⟩) (by assumption) ?_
              rotate_left
              · (intro w hSw; (try dsimp only at hSw); go_simp; try with_reducible rfl)
              simp only [Act.put, List.setIfInBounds_toArray, List.set_cons_zero, List.set_cons_succ]
              refine take_at (i := 7) (v := ?_) (some 122) rfl rfl (by kernel_rfl) (by kernel_rfl) (by kernel_rfl) (fun _ _ _ h => h) (Or.inl ⟨by rfl, ?_⟩) (by assumption) ?_
              rotate_left
              · (intro w hSw; (try dsimp only at hSw); go_simp; try with_reducible rfl)
              simp only [Act.put, List.setIfInBounds_toArray, List.set_cons_zero, List.set_cons_succ]
              refine take_at (i := 8) (v := ?_) (some 123) rfl rfl (by kernel_rfl) (by kernel_rfl) (by kernel_rfl) (fun _ _ _ h => h) (Or.inl ⟨by rfl, ?_⟩) (by assumption) ?_
              rotate_left
              · (intro w hSw; (try dsimp only at hSw); go_simp; try with_reducible rfl)
              simp only [Act.put, List.setIfInBounds_toArray, List.set_cons_zero, List.set_cons_succ]
              refine take_at (i := 9) (v := ?_) (some 124) rfl rfl (by kernel_rfl) (by kernel_rfl) (by kernel_rfl) (fun _ _ _ h => h) (Or.inl ⟨by rfl, ?_⟩) (by assumption) ?_
              rotate_left
              · (intro w hSw; (try dsimp only at hSw); go_simp; try with_reducible rfl)
              simp only [Act.put, List.setIfInBounds_toArray, List.set_cons_zero, List.set_cons_succ]
              refine take_at (i := 10) (v := ?_) (some 125) rfl rfl (by kernel_rfl) (by kernel_rfl) (by kernel_rfl) (fun _ _ _ h => h) (Or.inl ⟨by rfl, ?_⟩) (by assumption) ?_
              rotate_left
              · (intro w hSw; (try dsimp only at hSw); go_simp; try with_reducible rfl)
              simp only [Act.put, List.setIfInBounds_toArray, List.set_cons_zero, List.set_cons_succ]
              refine take_at (i := 11) (v := ?_) (some 126) rfl rfl (by kernel_rfl) (by kernel_rfl) (by kernel_rfl) (fun _ _ _ h => h) (Or.inl ⟨by rfl, ?_⟩) (by assumption) ?_
              rotate_left
              · (intro w hSw; (try dsimp only at hSw); go_simp; try with_reducible rfl)
              simp only [Act.put, List.setIfInBounds_toArray, List.set_cons_zero, List.set_cons_succ]
              refine call_at (i := 12) (some 127) 13 _ _ rfl rfl rfl (by rfl) (by kernel_rfl) #[.slice (some ⟨g, 0, none⟩) (256 + n) 1280, .slice (some ⟨q, 0, none⟩) (256 + n) cq] rfl Tryd.func13 (by kernel_rfl) (by kernel_rfl) ?_
              refine (same_any (some ⟨g, 0, none⟩) (some ⟨q, 0, none⟩) (256 + n) (256 + n) 1280 cq F2 S _ (show Arg X6.drew _ _ _ from U6.out.2.1.front B2.out (256 + n) (by omega)) (show Arg X6.drew _ _ _ from U6.out.2.2.1.front BS.out (256 + n) (by omega))).mono ?_
              rintro e' X7 ⟨rfl, rfl⟩
              rw [EQ.out]
              refine ⟨_, rfl, c16, fun hHeld => ?_⟩
              simp only [Act.put, List.setIfInBounds_toArray, List.set_cons_zero, List.set_cons_succ]
              refine take_at (i := 13) (v := ?_) (some 17) rfl rfl (by kernel_rfl) (by kernel_rfl) (by kernel_rfl) (fun _ _ _ h => h) (Or.inl ⟨by rfl, ?_⟩) (by assumption) ?_
              rotate_left
              · (intro w hSw; (try dsimp only at hSw); go_simp; try with_reducible rfl)
              simp only [Act.put, List.setIfInBounds_toArray, List.set_cons_zero, List.set_cons_succ]
              refine wpAnyH_done (by kernel_rfl) ?_ _
              refine NoPanic.normal ?_
              have U8 : Hid (uS w g q e hh a n C S F1 F2 X6.drew) := U6.out.below (Below.refl _ _).drew
              have D8 : Hid (Rec19 X6.drew d 0 (ss 3 op vw mm)) := D6.out
              have M8 : Hid (Rec19 X6.drew xm 0 (msg (fun _ => 0) none 0 0)) := M6.out
              clear U6 D6 M6 c16 hHeld
              generalize X6.drew = X8 at U8 D8 M8 ⊢
              go_wp2_with (first
                  | (have _q := U8; clear _q; go_at_call 30; refine (sealed_any g F2 _ U8.out.2.2.2.2.1 U8.out.2.1 B2.out).mono ?_; rintro e' X9 ⟨rfl, hB⟩; rw [SB.out]
                     have U9 : Hid (uS w g q e hh a n C S F1 F2 X9) := U8.out.below hB
                     have D9 : Hid (Rec19 X9 d 0 (ss 3 op vw mm)) := D8.out.below hB
                     clear hB U8 D8)
                  | (have _q := U9; clear _q; go_at_call 27; refine (head_gen (some ⟨e, 0, none⟩) 256 ce F1 _ U9.out.2.2.2.2.1 (U9.out.2.2.2.1.front B1.out 256 (by omega)) hce).mono ?_; rintro e' Y1 ⟨rfl, hB⟩; rw [HV.out, HC.out]
                     have V1 : Hid (uS w g q e hh a n C S F1 F2 Y1) := U9.out.below hB
                     have G1 : Hid (Rec19 Y1 d 0 (ss 3 op vw mm)) := D9.out.below hB
                     clear hB U9 D9)
                  | (have _q := V1; clear _q; refine wpList_alloc_rec rfl 26 rfl (hcs fun _ => 0) Y1.heap.size rfl zeroHdr ?_; intro Y2 r2 b2 z2)
                  | (have _q := V1; clear _q; refine wpList_store_rec rfl 26 (.tmp 18) (.tmp 150) rfl Y1.heap.size 0 _ (hcs hv) rfl rfl r2 rfl (by kernel_rfl) (hcs_one _) ?_; intro Y3 r3 b3
                     have hB : Below Y1.heap.size Y1 Y3 := b2.trans (b3.below (Nat.le_refl _) (by omega))
                     have V3 : Hid (uS w g q e hh a n C S F1 F2 Y3) := V1.out.below hB
                     have G3 : Hid (Rec19 Y3 d 0 (ss 3 op vw mm)) := G1.out.below hB
                     have c5 : Y3.cell? ⟨w.heap.size, 5, none⟩ = some (.int .i64 (hh 5)) := (V3.out.1.at 5 _ rfl).1
                     have c3 : Y3.cell? ⟨w.heap.size, 3, none⟩ = some (.int .i64 (hh 3)) := (V3.out.1.at 3 _ rfl).1
                     have d0 : Y3.cell? ⟨d, 0, none⟩ = some (.int .i64 3) := (G3.out.at 0 _ rfl).1
                     clear hB b2 b3 r2 r3 z2 V1 G1)
                  | (have _q := V3; clear _q; go_at_call 13; refine (same_any (some ⟨e, 0, none⟩) (some ⟨q, 0, none⟩) 256 256 ce cq F1 S _ (V3.out.2.2.2.1.front B1.out 256 (by omega)) (V3.out.2.2.1.front BS.out 256 (by omega))).mono ?_; rintro e' Y4 ⟨rfl, rfl⟩; rw [EH.out]))
              go_ret
              exact ⟨rfl, V3.out.2.2.2.2.2⟩
            · have EH : Hid (decide (txtN 256 F1 = txtN 256 S) = false) := decide_eq_false (fun q => hh1 ((head_txt B1.out BS.out).1 q))
              obtain ⟨st, op, vw, mm, hJ⟩ := judgeL_ss 256 F1 1280 F2 k
              have JL : Hid (judgeL 256 F1 1280 F2 k = ss st op vw mm) := hJ
              clear hh1 hJ pn
              go_wp2_with (first
                  | (have _q := U0; clear _q; go_at_call 22; refine (judge_row e g ce F1 F2 k _ _ U0.out.2.2.2.2.1 (U0.out.2.2.2.1.front B1.out 256 (by omega)) (U0.out.2.1.front B2.out 1280 (by omega)) hce JL.out).mono ?_; rintro e' X1 ⟨rfl, hB⟩
                     have U1 : Hid (uS w g q e hh a n C S F1 F2 X1) := U0.out.below hB
                     clear hB U0 )
                  | (have _q := U1; clear _q; refine wpList_alloc_rec rfl 45 rfl (ss 0 0 0 false) X1.heap.size rfl zeroSs ?_; intro X2 r2 b2 z2)
                  | (have _q := U1; clear _q; refine wpList_store_rec rfl 45 (.tmp 14) (.tmp 108) rfl X1.heap.size 0 _ (ss st op vw mm) rfl rfl r2 rfl (by kernel_rfl) (ss_one _ _ _ _) ?_; intro X3 r3 b3
                     have hB : Below X1.heap.size X1 X3 := b2.trans (b3.below (Nat.le_refl _) (by omega))
                     have U3 : Hid (uS w g q e hh a n C S F1 F2 X3) := U1.out.below hB
                     have D3 : Hid (Rec19 X3 X1.heap.size 0 (ss st op vw mm)) := r3
                     clear hB b2 b3 r2 r3 z2 U1
                     generalize X1.heap.size = d at D3 ⊢)
                  | (have _q := U3; clear _q; go_at_call 19; refine (prep_no (some ⟨g, 0, none⟩) 1280 1280 F2 k _ U3.out.2.2.2.2.1 (U3.out.2.1.front B2.out 1280 (by omega)) (Nat.le_refl _) (by omega) PN.out).mono ?_; rintro e' X4 ⟨rfl, hB⟩
                     have U4 : Hid (uS w g q e hh a n C S F1 F2 X4) := U3.out.below hB
                     have D4 : Hid (Rec19 X4 d 0 (ss st op vw mm)) := D3.out.below hB
                     clear hB U3 D3)
                  | (have _q := U4; clear _q; refine wpList_alloc_rec rfl 29 rfl (msg (fun _ => 0) none 0 0) X4.heap.size rfl zeroMsg ?_; intro X5 r5 b5 z5)
                  | (have _q := U4; clear _q; refine wpList_store_rec rfl 29 (.tmp 15) (.tmp 113) rfl X4.heap.size 0 _ (msg (fun _ => 0) none 0 0) rfl rfl r5 rfl (by kernel_rfl) (msg_one _ _ _ _) ?_; intro X6 r6 b6
                     have hB : Below X4.heap.size X4 X6 := b5.trans (b6.below (Nat.le_refl _) (by omega))
                     have U6 : Hid (uS w g q e hh a n C S F1 F2 X6) := U4.out.below hB
                     have D6 : Hid (Rec19 X6 d 0 (ss st op vw mm)) := D4.out.below hB
                     have M6 : Hid (Rec19 X6 X4.heap.size 0 (msg (fun _ => 0) none 0 0)) := r6
                     clear hB b5 b6 r5 r6 z5 U4 D4
                     generalize X4.heap.size = xm at M6 ⊢))
              have c16 : X6.drew.cell? ⟨w.heap.size, 16, none⟩ = some (.slice a n C) := (U6.out.1.at 16 _ (msg_body hh a n C)).1
              refine wp_region_noPanic ?_
              refine wp_region_held_drew (S := fun W' => W'.cell? ⟨w.heap.size, 16, none⟩ = some (.slice a n C)) (by kernel_rfl) ?_ (fun hHeld => ?_)
              · exact c16
              refine take_at (i := 0) (v := ?_) (some 115) rfl rfl (by kernel_rfl) (by kernel_rfl) (by kernel_rfl) (fun _ _ _ h => h) (Or.inl ⟨by rfl, ?_⟩) (by assumption) ?_
              rotate_left
              · (intro w hSw; (try dsimp only at hSw); go_simp; try with_reducible rfl)
              simp only [Act.put, List.setIfInBounds_toArray, List.set_cons_zero, List.set_cons_succ]
              refine take_at (i := 1) (v := ?_) (some 116) rfl rfl (by kernel_rfl) (by kernel_rfl) (by kernel_rfl) (fun _ _ _ h => h) (Or.inl ⟨by rfl, ?_⟩) (by assumption) ?_
              rotate_left
              · (intro w hSw; (try dsimp only at hSw); go_simp; try with_reducible rfl)
              simp only [Act.put, List.setIfInBounds_toArray, List.set_cons_zero, List.set_cons_succ]
              refine take_at (i := 2) (v := ?_) (some 117) rfl rfl (by kernel_rfl) (by kernel_rfl) (by kernel_rfl) (fun _ _ _ h => h) (Or.inl ⟨by rfl, ?_⟩) (by assumption) ?_
              rotate_left
              · (intro w hSw; (try dsimp only at hSw); go_simp; try with_reducible rfl)
              simp only [Act.put, List.setIfInBounds_toArray, List.set_cons_zero, List.set_cons_succ]
              refine take_at (i := 3) (v := ?_) (some 118) rfl rfl (by kernel_rfl) (by kernel_rfl) (by kernel_rfl) (fun _ _ _ h => h) (Or.inl ⟨by rfl, ?_⟩) (by assumption) ?_
              rotate_left
              · (intro w hSw; (try dsimp only at hSw); go_simp; try with_reducible rfl)
              simp only [Act.put, List.setIfInBounds_toArray, List.set_cons_zero, List.set_cons_succ]
              refine take_at (i := 4) (v := ?_) (some 119) rfl rfl (by kernel_rfl) (by kernel_rfl) (by kernel_rfl) (fun _ _ _ h => h) (Or.inl ⟨by rfl, ?_⟩) (by assumption) ?_
              rotate_left
              · (intro w hSw; (try dsimp only at hSw); go_simp; try with_reducible rfl)
              simp only [Act.put, List.setIfInBounds_toArray, List.set_cons_zero, List.set_cons_succ]
              refine take_at (i := 5) (v := ?_) (some 120) rfl rfl (by kernel_rfl) (by kernel_rfl) (by kernel_rfl) (fun _ _ _ h => h) (Or.inl ⟨by rfl, ?_⟩) (by assumption) ?_
              rotate_left
              · (intro w hSw; (try dsimp only at hSw); go_simp; try with_reducible rfl)
              simp only [Act.put, List.setIfInBounds_toArray, List.set_cons_zero, List.set_cons_succ]
              refine take_at (i := 6) (v := ?_) (some 121) rfl rfl (by kernel_rfl) (by kernel_rfl) (by kernel_rfl) (fun _ _ _ h => h) (Or.inl ⟨by rfl, ?_⟩) (by assumption) ?_
              rotate_left
              · (intro w hSw; (try dsimp only at hSw); go_simp; try with_reducible rfl)
              simp only [Act.put, List.setIfInBounds_toArray, List.set_cons_zero, List.set_cons_succ]
              refine take_at (i := 7) (v := ?_) (some 122) rfl rfl (by kernel_rfl) (by kernel_rfl) (by kernel_rfl) (fun _ _ _ h => h) (Or.inl ⟨by rfl, ?_⟩) (by assumption) ?_
              rotate_left
              · (intro w hSw; (try dsimp only at hSw); go_simp; try with_reducible rfl)
              simp only [Act.put, List.setIfInBounds_toArray, List.set_cons_zero, List.set_cons_succ]
              refine take_at (i := 8) (v := ?_) (some 123) rfl rfl (by kernel_rfl) (by kernel_rfl) (by kernel_rfl) (fun _ _ _ h => h) (Or.inl ⟨by rfl, ?_⟩) (by assumption) ?_
              rotate_left
              · (intro w hSw; (try dsimp only at hSw); go_simp; try with_reducible rfl)
              simp only [Act.put, List.setIfInBounds_toArray, List.set_cons_zero, List.set_cons_succ]
              refine take_at (i := 9) (v := ?_) (some 124) rfl rfl (by kernel_rfl) (by kernel_rfl) (by kernel_rfl) (fun _ _ _ h => h) (Or.inl ⟨by rfl, ?_⟩) (by assumption) ?_
              rotate_left
              · (intro w hSw; (try dsimp only at hSw); go_simp; try with_reducible rfl)
              simp only [Act.put, List.setIfInBounds_toArray, List.set_cons_zero, List.set_cons_succ]
              refine take_at (i := 10) (v := ?_) (some 125) rfl rfl (by kernel_rfl) (by kernel_rfl) (by kernel_rfl) (fun _ _ _ h => h) (Or.inl ⟨by rfl, ?_⟩) (by assumption) ?_
              rotate_left
              · (intro w hSw; (try dsimp only at hSw); go_simp; try with_reducible rfl)
              simp only [Act.put, List.setIfInBounds_toArray, List.set_cons_zero, List.set_cons_succ]
              refine take_at (i := 11) (v := ?_) (some 126) rfl rfl (by kernel_rfl) (by kernel_rfl) (by kernel_rfl) (fun _ _ _ h => h) (Or.inl ⟨by rfl, ?_⟩) (by assumption) ?_
              rotate_left
              · (intro w hSw; (try dsimp only at hSw); go_simp; try with_reducible rfl)
              simp only [Act.put, List.setIfInBounds_toArray, List.set_cons_zero, List.set_cons_succ]
              refine call_at (i := 12) (some 127) 13 _ _ rfl rfl rfl (by rfl) (by kernel_rfl) #[.slice (some ⟨g, 0, none⟩) (256 + n) 1280, .slice (some ⟨q, 0, none⟩) (256 + n) cq] rfl Tryd.func13 (by kernel_rfl) (by kernel_rfl) ?_
              refine (same_any (some ⟨g, 0, none⟩) (some ⟨q, 0, none⟩) (256 + n) (256 + n) 1280 cq F2 S _ (show Arg X6.drew _ _ _ from U6.out.2.1.front B2.out (256 + n) (by omega)) (show Arg X6.drew _ _ _ from U6.out.2.2.1.front BS.out (256 + n) (by omega))).mono ?_
              rintro e' X7 ⟨rfl, rfl⟩
              rw [EQ.out]
              refine ⟨_, rfl, c16, fun hHeld => ?_⟩
              simp only [Act.put, List.setIfInBounds_toArray, List.set_cons_zero, List.set_cons_succ]
              refine take_at (i := 13) (v := ?_) (some 17) rfl rfl (by kernel_rfl) (by kernel_rfl) (by kernel_rfl) (fun _ _ _ h => h) (Or.inl ⟨by rfl, ?_⟩) (by assumption) ?_
              rotate_left
              · (intro w hSw; (try dsimp only at hSw); go_simp; try with_reducible rfl)
              simp only [Act.put, List.setIfInBounds_toArray, List.set_cons_zero, List.set_cons_succ]
              refine wpAnyH_done (by kernel_rfl) ?_ _
              refine NoPanic.normal ?_
              have U8 : Hid (uS w g q e hh a n C S F1 F2 X6.drew) := U6.out.below (Below.refl _ _).drew
              have D8 : Hid (Rec19 X6.drew d 0 (ss st op vw mm)) := D6.out
              have M8 : Hid (Rec19 X6.drew xm 0 (msg (fun _ => 0) none 0 0)) := M6.out
              clear U6 D6 M6 c16 hHeld
              generalize X6.drew = X8 at U8 D8 M8 ⊢
              go_wp2_with (first
                  | (have _q := U8; clear _q; go_at_call 30; refine (sealed_any g F2 _ U8.out.2.2.2.2.1 U8.out.2.1 B2.out).mono ?_; rintro e' X9 ⟨rfl, hB⟩; rw [SB.out]
                     have U9 : Hid (uS w g q e hh a n C S F1 F2 X9) := U8.out.below hB
                     have D9 : Hid (Rec19 X9 d 0 (ss st op vw mm)) := D8.out.below hB
                     clear hB U8 D8)
                  | (have _q := U9; clear _q; go_at_call 27; refine (head_gen (some ⟨e, 0, none⟩) 256 ce F1 _ U9.out.2.2.2.2.1 (U9.out.2.2.2.1.front B1.out 256 (by omega)) hce).mono ?_; rintro e' Y1 ⟨rfl, hB⟩; rw [HV.out, HC.out]
                     have V1 : Hid (uS w g q e hh a n C S F1 F2 Y1) := U9.out.below hB
                     have G1 : Hid (Rec19 Y1 d 0 (ss st op vw mm)) := D9.out.below hB
                     clear hB U9 D9)
                  | (have _q := V1; clear _q; refine wpList_alloc_rec rfl 26 rfl (hcs fun _ => 0) Y1.heap.size rfl zeroHdr ?_; intro Y2 r2 b2 z2)
                  | (have _q := V1; clear _q; refine wpList_store_rec rfl 26 (.tmp 18) (.tmp 150) rfl Y1.heap.size 0 _ (hcs hv) rfl rfl r2 rfl (by kernel_rfl) (hcs_one _) ?_; intro Y3 r3 b3
                     have hB : Below Y1.heap.size Y1 Y3 := b2.trans (b3.below (Nat.le_refl _) (by omega))
                     have V3 : Hid (uS w g q e hh a n C S F1 F2 Y3) := V1.out.below hB
                     have G3 : Hid (Rec19 Y3 d 0 (ss st op vw mm)) := G1.out.below hB
                     have c5 : Y3.cell? ⟨w.heap.size, 5, none⟩ = some (.int .i64 (hh 5)) := (V3.out.1.at 5 _ rfl).1
                     have c3 : Y3.cell? ⟨w.heap.size, 3, none⟩ = some (.int .i64 (hh 3)) := (V3.out.1.at 3 _ rfl).1
                     have d0 : Y3.cell? ⟨d, 0, none⟩ = some (.int .i64 st) := (G3.out.at 0 _ rfl).1
                     clear hB b2 b3 r2 r3 z2 V1 G1)
                  | (have _q := V3; clear _q; go_at_call 13; refine (same_any (some ⟨e, 0, none⟩) (some ⟨q, 0, none⟩) 256 256 ce cq F1 S _ (V3.out.2.2.2.1.front B1.out 256 (by omega)) (V3.out.2.2.1.front BS.out 256 (by omega))).mono ?_; rintro e' Y4 ⟨rfl, rfl⟩; rw [EH.out]))
              go_ret
              exact ⟨rfl, V3.out.2.2.2.2.2⟩
          · obtain ⟨c, hce'⟩ : ∃ c, headC 256 F1 = c := ⟨_, rfl⟩
            have HC : Hid (headC 256 F1 = c) := hce'
            have z1 : (c == 0) = false := by rw [hce'] at hc; simpa using hc
            obtain ⟨st, op, vw, mm, hj, hJ⟩ : ∃ st op vw mm, st = 3 ∧ judgeL 256 F1 1280 F2 k = ss st op vw mm := ⟨_, _, _, _, rfl, turn_jE SK.out pn hc⟩
            subst hj
            have JL : Hid (judgeL 256 F1 1280 F2 k = ss 3 op vw mm) := hJ
            clear hJ hc hce' pn
            go_wp2_with (first
                | (have _q := U0; clear _q; go_at_call 22; refine (judge_row e g ce F1 F2 k _ _ U0.out.2.2.2.2.1 (U0.out.2.2.2.1.front B1.out 256 (by omega)) (U0.out.2.1.front B2.out 1280 (by omega)) hce JL.out).mono ?_; rintro e' X1 ⟨rfl, hB⟩
                   have U1 : Hid (uS w g q e hh a n C S F1 F2 X1) := U0.out.below hB
                   clear hB U0 )
                | (have _q := U1; clear _q; refine wpList_alloc_rec rfl 45 rfl (ss 0 0 0 false) X1.heap.size rfl zeroSs ?_; intro X2 r2 b2 z2)
                | (have _q := U1; clear _q; refine wpList_store_rec rfl 45 (.tmp 14) (.tmp 108) rfl X1.heap.size 0 _ (ss 3 op vw mm) rfl rfl r2 rfl (by kernel_rfl) (ss_one _ _ _ _) ?_; intro X3 r3 b3
                   have hB : Below X1.heap.size X1 X3 := b2.trans (b3.below (Nat.le_refl _) (by omega))
                   have U3 : Hid (uS w g q e hh a n C S F1 F2 X3) := U1.out.below hB
                   have D3 : Hid (Rec19 X3 X1.heap.size 0 (ss 3 op vw mm)) := r3
                   clear hB b2 b3 r2 r3 z2 U1
                   generalize X1.heap.size = d at D3 ⊢)
                | (have _q := U3; clear _q; go_at_call 19; refine (prep_no (some ⟨g, 0, none⟩) 1280 1280 F2 k _ U3.out.2.2.2.2.1 (U3.out.2.1.front B2.out 1280 (by omega)) (Nat.le_refl _) (by omega) PN.out).mono ?_; rintro e' X4 ⟨rfl, hB⟩
                   have U4 : Hid (uS w g q e hh a n C S F1 F2 X4) := U3.out.below hB
                   have D4 : Hid (Rec19 X4 d 0 (ss 3 op vw mm)) := D3.out.below hB
                   clear hB U3 D3)
                | (have _q := U4; clear _q; refine wpList_alloc_rec rfl 29 rfl (msg (fun _ => 0) none 0 0) X4.heap.size rfl zeroMsg ?_; intro X5 r5 b5 z5)
                | (have _q := U4; clear _q; refine wpList_store_rec rfl 29 (.tmp 15) (.tmp 113) rfl X4.heap.size 0 _ (msg (fun _ => 0) none 0 0) rfl rfl r5 rfl (by kernel_rfl) (msg_one _ _ _ _) ?_; intro X6 r6 b6
                   have hB : Below X4.heap.size X4 X6 := b5.trans (b6.below (Nat.le_refl _) (by omega))
                   have U6 : Hid (uS w g q e hh a n C S F1 F2 X6) := U4.out.below hB
                   have D6 : Hid (Rec19 X6 d 0 (ss 3 op vw mm)) := D4.out.below hB
                   have M6 : Hid (Rec19 X6 X4.heap.size 0 (msg (fun _ => 0) none 0 0)) := r6
                   clear hB b5 b6 r5 r6 z5 U4 D4
                   generalize X4.heap.size = xm at M6 ⊢))
            have c16 : X6.drew.cell? ⟨w.heap.size, 16, none⟩ = some (.slice a n C) := (U6.out.1.at 16 _ (msg_body hh a n C)).1
            refine wp_region_noPanic ?_
            refine wp_region_held_drew (S := fun W' => W'.cell? ⟨w.heap.size, 16, none⟩ = some (.slice a n C)) (by kernel_rfl) ?_ (fun hHeld => ?_)
            · exact c16
            refine take_at (i := 0) (v := ?_) (some 115) rfl rfl (by kernel_rfl) (by kernel_rfl) (by kernel_rfl) (fun _ _ _ h => h) (Or.inl ⟨by rfl, ?_⟩) (by assumption) ?_
            rotate_left
            · (intro w hSw; (try dsimp only at hSw); go_simp; try with_reducible rfl)
            simp only [Act.put, List.setIfInBounds_toArray, List.set_cons_zero, List.set_cons_succ]
            refine take_at (i := 1) (v := ?_) (some 116) rfl rfl (by kernel_rfl) (by kernel_rfl) (by kernel_rfl) (fun _ _ _ h => h) (Or.inl ⟨by rfl, ?_⟩) (by assumption) ?_
            rotate_left
            · (intro w hSw; (try dsimp only at hSw); go_simp; try with_reducible rfl)
            simp only [Act.put, List.setIfInBounds_toArray, List.set_cons_zero, List.set_cons_succ]
            refine take_at (i := 2) (v := ?_) (some 117) rfl rfl (by kernel_rfl) (by kernel_rfl) (by kernel_rfl) (fun _ _ _ h => h) (Or.inl ⟨by rfl, ?_⟩) (by assumption) ?_
            rotate_left
            · (intro w hSw; (try dsimp only at hSw); go_simp; try with_reducible rfl)
            simp only [Act.put, List.setIfInBounds_toArray, List.set_cons_zero, List.set_cons_succ]
            refine take_at (i := 3) (v := ?_) (some 118) rfl rfl (by kernel_rfl) (by kernel_rfl) (by kernel_rfl) (fun _ _ _ h => h) (Or.inl ⟨by rfl, ?_⟩) (by assumption) ?_
            rotate_left
            · (intro w hSw; (try dsimp only at hSw); go_simp; try with_reducible rfl)
            simp only [Act.put, List.setIfInBounds_toArray, List.set_cons_zero, List.set_cons_succ]
            refine take_at (i := 4) (v := ?_) (some 119) rfl rfl (by kernel_rfl) (by kernel_rfl) (by kernel_rfl) (fun _ _ _ h => h) (Or.inl ⟨by rfl, ?_⟩) (by assumption) ?_
            rotate_left
            · (intro w hSw; (try dsimp only at hSw); go_simp; try with_reducible rfl)
            simp only [Act.put, List.setIfInBounds_toArray, List.set_cons_zero, List.set_cons_succ]
            refine take_at (i := 5) (v := ?_) (some 120) rfl rfl (by kernel_rfl) (by kernel_rfl) (by kernel_rfl) (fun _ _ _ h => h) (Or.inl ⟨by rfl, ?_⟩) (by assumption) ?_
            rotate_left
            · (intro w hSw; (try dsimp only at hSw); go_simp; try with_reducible rfl)
            simp only [Act.put, List.setIfInBounds_toArray, List.set_cons_zero, List.set_cons_succ]
            refine take_at (i := 6) (v := ?_) (some 121) rfl rfl (by kernel_rfl) (by kernel_rfl) (by kernel_rfl) (fun _ _ _ h => h) (Or.inl ⟨by rfl, ?_⟩) (by assumption) ?_
            rotate_left
            · (intro w hSw; (try dsimp only at hSw); go_simp; try with_reducible rfl)
            simp only [Act.put, List.setIfInBounds_toArray, List.set_cons_zero, List.set_cons_succ]
            refine take_at (i := 7) (v := ?_) (some 122) rfl rfl (by kernel_rfl) (by kernel_rfl) (by kernel_rfl) (fun _ _ _ h => h) (Or.inl ⟨by rfl, ?_⟩) (by assumption) ?_
            rotate_left
            · (intro w hSw; (try dsimp only at hSw); go_simp; try with_reducible rfl)
            simp only [Act.put, List.setIfInBounds_toArray, List.set_cons_zero, List.set_cons_succ]
            refine take_at (i := 8) (v := ?_) (some 123) rfl rfl (by kernel_rfl) (by kernel_rfl) (by kernel_rfl) (fun _ _ _ h => h) (Or.inl ⟨by rfl, ?_⟩) (by assumption) ?_
            rotate_left
            · (intro w hSw; (try dsimp only at hSw); go_simp; try with_reducible rfl)
            simp only [Act.put, List.setIfInBounds_toArray, List.set_cons_zero, List.set_cons_succ]
            refine take_at (i := 9) (v := ?_) (some 124) rfl rfl (by kernel_rfl) (by kernel_rfl) (by kernel_rfl) (fun _ _ _ h => h) (Or.inl ⟨by rfl, ?_⟩) (by assumption) ?_
            rotate_left
            · (intro w hSw; (try dsimp only at hSw); go_simp; try with_reducible rfl)
            simp only [Act.put, List.setIfInBounds_toArray, List.set_cons_zero, List.set_cons_succ]
            refine take_at (i := 10) (v := ?_) (some 125) rfl rfl (by kernel_rfl) (by kernel_rfl) (by kernel_rfl) (fun _ _ _ h => h) (Or.inl ⟨by rfl, ?_⟩) (by assumption) ?_
            rotate_left
            · (intro w hSw; (try dsimp only at hSw); go_simp; try with_reducible rfl)
            simp only [Act.put, List.setIfInBounds_toArray, List.set_cons_zero, List.set_cons_succ]
            refine take_at (i := 11) (v := ?_) (some 126) rfl rfl (by kernel_rfl) (by kernel_rfl) (by kernel_rfl) (fun _ _ _ h => h) (Or.inl ⟨by rfl, ?_⟩) (by assumption) ?_
            rotate_left
            · (intro w hSw; (try dsimp only at hSw); go_simp; try with_reducible rfl)
            simp only [Act.put, List.setIfInBounds_toArray, List.set_cons_zero, List.set_cons_succ]
            refine call_at (i := 12) (some 127) 13 _ _ rfl rfl rfl (by rfl) (by kernel_rfl) #[.slice (some ⟨g, 0, none⟩) (256 + n) 1280, .slice (some ⟨q, 0, none⟩) (256 + n) cq] rfl Tryd.func13 (by kernel_rfl) (by kernel_rfl) ?_
            refine (same_any (some ⟨g, 0, none⟩) (some ⟨q, 0, none⟩) (256 + n) (256 + n) 1280 cq F2 S _ (show Arg X6.drew _ _ _ from U6.out.2.1.front B2.out (256 + n) (by omega)) (show Arg X6.drew _ _ _ from U6.out.2.2.1.front BS.out (256 + n) (by omega))).mono ?_
            rintro e' X7 ⟨rfl, rfl⟩
            rw [EQ.out]
            refine ⟨_, rfl, c16, fun hHeld => ?_⟩
            simp only [Act.put, List.setIfInBounds_toArray, List.set_cons_zero, List.set_cons_succ]
            refine take_at (i := 13) (v := ?_) (some 17) rfl rfl (by kernel_rfl) (by kernel_rfl) (by kernel_rfl) (fun _ _ _ h => h) (Or.inl ⟨by rfl, ?_⟩) (by assumption) ?_
            rotate_left
            · (intro w hSw; (try dsimp only at hSw); go_simp; try with_reducible rfl)
            simp only [Act.put, List.setIfInBounds_toArray, List.set_cons_zero, List.set_cons_succ]
            refine wpAnyH_done (by kernel_rfl) ?_ _
            refine NoPanic.normal ?_
            have U8 : Hid (uS w g q e hh a n C S F1 F2 X6.drew) := U6.out.below (Below.refl _ _).drew
            have D8 : Hid (Rec19 X6.drew d 0 (ss 3 op vw mm)) := D6.out
            have M8 : Hid (Rec19 X6.drew xm 0 (msg (fun _ => 0) none 0 0)) := M6.out
            clear U6 D6 M6 c16 hHeld
            generalize X6.drew = X8 at U8 D8 M8 ⊢
            go_wp2_with (first
                | (have _q := U8; clear _q; go_at_call 30; refine (sealed_any g F2 _ U8.out.2.2.2.2.1 U8.out.2.1 B2.out).mono ?_; rintro e' X9 ⟨rfl, hB⟩; rw [SB.out]
                   have U9 : Hid (uS w g q e hh a n C S F1 F2 X9) := U8.out.below hB
                   have D9 : Hid (Rec19 X9 d 0 (ss 3 op vw mm)) := D8.out.below hB
                   clear hB U8 D8)
                | (have _q := U9; clear _q; go_at_call 27; refine (head_gen (some ⟨e, 0, none⟩) 256 ce F1 _ U9.out.2.2.2.2.1 (U9.out.2.2.2.1.front B1.out 256 (by omega)) hce).mono ?_; rintro e' Y1 ⟨rfl, hB⟩; rw [HV.out, HC.out]
                   have V1 : Hid (uS w g q e hh a n C S F1 F2 Y1) := U9.out.below hB
                   have G1 : Hid (Rec19 Y1 d 0 (ss 3 op vw mm)) := D9.out.below hB
                   clear hB U9 D9)
                | (have _q := V1; clear _q; refine wpList_alloc_rec rfl 26 rfl (hcs fun _ => 0) Y1.heap.size rfl zeroHdr ?_; intro Y2 r2 b2 z2)
                | (have _q := V1; clear _q; refine wpList_store_rec rfl 26 (.tmp 18) (.tmp 150) rfl Y1.heap.size 0 _ (hcs hv) rfl rfl r2 rfl (by kernel_rfl) (hcs_one _) ?_; intro Y3 r3 b3
                   have hB : Below Y1.heap.size Y1 Y3 := b2.trans (b3.below (Nat.le_refl _) (by omega))
                   have V3 : Hid (uS w g q e hh a n C S F1 F2 Y3) := V1.out.below hB
                   have G3 : Hid (Rec19 Y3 d 0 (ss 3 op vw mm)) := G1.out.below hB
                   have c5 : Y3.cell? ⟨w.heap.size, 5, none⟩ = some (.int .i64 (hh 5)) := (V3.out.1.at 5 _ rfl).1
                   have c3 : Y3.cell? ⟨w.heap.size, 3, none⟩ = some (.int .i64 (hh 3)) := (V3.out.1.at 3 _ rfl).1
                   have d0 : Y3.cell? ⟨d, 0, none⟩ = some (.int .i64 3) := (G3.out.at 0 _ rfl).1
                   clear hB b2 b3 r2 r3 z2 V1 G1))
            go_ret
            exact ⟨rfl, V3.out.2.2.2.2.2⟩
end Go.Proofs.YtfpgkckcifjkcaaDoor
