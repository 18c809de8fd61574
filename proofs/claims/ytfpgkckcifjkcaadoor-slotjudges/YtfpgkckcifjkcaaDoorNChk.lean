/-
  Walks, not a claim by itself: the reference's Check. By the verifier.
-/
import Derived.Test.YtfpgkckcifjkcaaDoorMSeal
namespace Go.Proofs.YtfpgkckcifjkcaaDoor
open Go.RowKit
set_option maxHeartbeats 400000 in
theorem within_any (x lo hi : Int) (w : World) {r : Bool} (hr : (decide (lo ≤ x) && decide (x ≤ hi)) = r) : Calls Tryd.prog 70 #[.int .i64 x, .int .i64 lo, .int .i64 hi] w fun e w' => e = .returned (.bool r) ∧ w' = w := by
  by_cases h1 : lo ≤ x
  · by_cases h2 : x ≤ hi
    · rw [decide_eq_true h1, decide_eq_true h2] at hr
      subst hr
      go_enter Tryd.func70, Tryd.ntmps70
      go_wp2
      go_ret
      exact ⟨rfl, rfl⟩
    · rw [decide_eq_true h1, decide_eq_false h2] at hr
      subst hr
      go_enter Tryd.func70, Tryd.ntmps70
      go_wp2
      go_ret
      exact ⟨rfl, rfl⟩
  · rw [decide_eq_false h1] at hr
    subst hr
    go_enter Tryd.func70, Tryd.ntmps70
    go_wp2
    go_ret
    exact ⟨rfl, rfl⟩
/-- Whether the first k numbers may be. -/
def okTo (h : Nat → Int) : Nat → Bool
  | 0 => true
  | k + 1 => okTo h k && within h k
theorem okTo_13 (h : Nat → Int) : okTo h 13 = okH h := by
  rw [Bool.eq_iff_iff, okH_iff]
  have : ∀ k, okTo h k = true ↔ ∀ j, j < k → within h j = true := by
    intro k
    induction k with
    | zero => simp [okTo]
    | succ k ih =>
      rw [okTo, Bool.and_eq_true, ih]
      refine ⟨fun q j hj => ?_, fun q => ⟨fun j hj => q j (by omega), q k (by omega)⟩⟩
      by_cases e : j = k
      · rw [e]; exact q.2
      · exact q.1 j (by omega)
  exact this 13
/-- What holds at the head of the loop. -/
def nchkRel (w : World) (q : Nat) (h : Nat → Int) (b i : Value) (wr : World) : Prop := ∃ k : Nat, k ≤ 10 ∧ i = .int .i64 k ∧ b = .bool (okTo h (3 + k)) ∧ IRow wr q .i64 10 (fun j => h (pos (3 + j))) ∧ Below w.heap.size w wr
theorem ten_row (w : World) (h : Nat → Int) (T : TypeId) : IRow (w.alloc (.cells #[.int .i64 (h 3), .int .i64 (h 4), .int .i64 (h 5), .int .i64 (h 6), .int .i64 (h 7), .int .i64 (h 8), .int .i64 (h 11), .int .i64 (h 12), .int .i64 (h 14), .int .i64 (h 15)] T)) w.heap.size .i64 10 (fun j => h (pos (3 + j))) := IRow.new w T .i64 10 (fun j => h (pos (3 + j)))
set_option maxRecDepth 100000 in
set_option maxHeartbeats 400000 in
theorem ncheck_f (h : Nat → Int) (w : World) (F0 : (decide (1 ≤ h 0) && decide (h 0 ≤ 31)) = false) (ho : okTo h 3 = false) : Calls Tryd.prog 54 #[.agg (hcs h).toArray] w fun e w' => e = .returned (.int .i64 (chk h)) ∧ Below w.heap.size w w' := by
  have HO : Hid (okTo h 3 = false) := ho
  have G0 : Hid ((decide (1 ≤ h 0) && decide (h 0 ≤ 31)) = false) := F0
  clear F0 ho
  go_enter Tryd.func54, Tryd.ntmps54
  go_wp2_with (first
    | (refine wpList_box_rec rfl 26 (.tmp 0) rfl (hcs h) rfl w.heap.size rfl ?_; intro W1 R1 B1 z1
       obtain ⟨c0, _⟩ := R1.at 0 _ rfl
       obtain ⟨c1, _⟩ := R1.at 1 _ rfl
       obtain ⟨c2, _⟩ := R1.at 2 _ rfl
       obtain ⟨c3, _⟩ := R1.at 3 _ rfl
       obtain ⟨c4, _⟩ := R1.at 4 _ rfl
       obtain ⟨c5, _⟩ := R1.at 5 _ rfl
       obtain ⟨c6, _⟩ := R1.at 6 _ rfl
       obtain ⟨c7, _⟩ := R1.at 7 _ rfl
       obtain ⟨c8, _⟩ := R1.at 8 _ rfl
       obtain ⟨c11, _⟩ := R1.at 11 _ rfl
       obtain ⟨c12, _⟩ := R1.at 12 _ rfl
       obtain ⟨c14, _⟩ := R1.at 14 _ rfl
       obtain ⟨c15, _⟩ := R1.at 15 _ rfl
       clear R1)
    | (have _q := G0; go_at_call 70; refine (within_any (h 0) 1 31 _ _q.out).mono ?_; rintro e W2 ⟨rfl, hW2⟩; rw [hW2]; clear hW2 W2 _q G0))
  have T1 := ten_row W1 h 3
  rw [z1] at T1
  have ST : Hid (nchkRel w (w.heap.size + 1) h (.bool false) (.int .i64 0) (W1.alloc (.cells #[.int .i64 (h 3), .int .i64 (h 4), .int .i64 (h 5), .int .i64 (h 6), .int .i64 (h 7), .int .i64 (h 8), .int .i64 (h 11), .int .i64 (h 12), .int .i64 (h 14), .int .i64 (h 15)] 3))) := ⟨0, by omega, rfl, by rw [← HO.out], T1, B1.alloc B1.size _⟩
  clear T1 c0 c1 c2 c3 c4 c5 c6 c7 c8 c11 c12 c14 c15 z1 B1
  generalize (W1.alloc (.cells #[.int .i64 (h 3), .int .i64 (h 4), .int .i64 (h 5), .int .i64 (h 6), .int .i64 (h 7), .int .i64 (h 8), .int .i64 (h 11), .int .i64 (h 12), .int .i64 (h 14), .int .i64 (h 15)] 3)) = W3 at ST ⊢
  go_loopw [3, 5] (fun b i wr => nchkRel w (w.heap.size + 1) h b i wr) (fun _ i _ => 10 - (intOf i).toNat)
  case atStart => exact ST.out
  case round =>
    obtain ⟨k, hk, rfl, rfl, hR, hB⟩ := hrel
    clear ST
    have RR : Hid (IRow wr (w.heap.size + 1) .i64 10 (fun j => h (pos (3 + j)))) := hR
    have BE : Hid (Below w.heap.size w wr) := hB
    clear hB
    by_cases hlt : k < 10
    · have c0 := hR.1 k hlt
      clear hR
      have i0 : (k : Int) < 10 := by omega
      cases hb : okTo h (3 + k) with
      | false =>
        have HN : Hid (okTo h (3 + (k + 1)) = false) := (by rw [show 3 + (k + 1) = (3 + k) + 1 by omega, okTo, hb]; rfl : okTo h (3 + (k + 1)) = false)
        clear hb
        go_wp2_with fail
        exact ⟨⟨k + 1, by omega, by go_num, by rw [HN.out], RR.out, BE.out⟩, by simp [intOf]; omega⟩
      | true =>
        obtain ⟨r, hr⟩ : ∃ r, within h (3 + k) = r := ⟨_, rfl⟩
        have HN : Hid (okTo h (3 + (k + 1)) = r) := (by rw [show 3 + (k + 1) = (3 + k) + 1 by omega, okTo, hb, hr]; rfl : okTo h (3 + (k + 1)) = r)
        have HW : Hid ((decide (0 ≤ h (pos (3 + k))) && decide (h (pos (3 + k)) ≤ 1073741824)) = r) := (by rw [← hr, within, show fle (3 + k) = 0 from by unfold fle; rw [if_neg (by omega)], show fmo (3 + k) = 1073741824 from by unfold fmo; rw [if_neg (by omega), if_neg (by omega), if_neg (by omega)]] : (decide (0 ≤ h (pos (3 + k))) && decide (h (pos (3 + k)) ≤ 1073741824)) = r)
        clear hb hr
        have c0' : wr.cell? ⟨w.heap.size + 1, k, none⟩ = some (.int .i64 (h (pos (3 + k)))) := c0
        clear c0
        generalize h (pos (3 + k)) = x at c0' HW
        go_wp2_with (go_at_call 70; refine (within_any x 0 1073741824 _ HW.out).mono ?_; rintro e W5 ⟨rfl, hW5⟩; rw [hW5]; clear hW5 W5)
        exact ⟨⟨k + 1, by omega, by go_num, by rw [HN.out], RR.out, BE.out⟩, by simp [intOf]; omega⟩
    · obtain rfl : k = 10 := by omega
      clear hR
      have e13 : okTo h (3 + 10) = okH h := okTo_13 h
      cases hb : okH h with
      | false =>
        rw [e13, hb]
        have HC : Hid (chk h = 2) := (by unfold chk; rw [hb]; rfl : chk h = 2)
        clear hb e13
        go_wp2_with fail
        go_ret
        exact ⟨by rw [HC.out]; rfl, BE.out⟩
      | true =>
        rw [e13, hb]
        have HC : Hid (chk h = 0) := (by unfold chk; rw [hb]; rfl : chk h = 0)
        clear hb e13
        go_wp2_with fail
        go_ret
        exact ⟨by rw [HC.out]; rfl, BE.out⟩
set_option maxRecDepth 100000 in
set_option maxHeartbeats 400000 in
theorem ncheck_tf (h : Nat → Int) (w : World) (F0 : (decide (1 ≤ h 0) && decide (h 0 ≤ 31)) = true) (F1 : (decide (0 ≤ h 1) && decide (h 1 ≤ 6)) = false) (ho : okTo h 3 = false) : Calls Tryd.prog 54 #[.agg (hcs h).toArray] w fun e w' => e = .returned (.int .i64 (chk h)) ∧ Below w.heap.size w w' := by
  have HO : Hid (okTo h 3 = false) := ho
  have G0 : Hid ((decide (1 ≤ h 0) && decide (h 0 ≤ 31)) = true) := F0
  have G1 : Hid ((decide (0 ≤ h 1) && decide (h 1 ≤ 6)) = false) := F1
  clear F0 F1 ho
  go_enter Tryd.func54, Tryd.ntmps54
  go_wp2_with (first
    | (refine wpList_box_rec rfl 26 (.tmp 0) rfl (hcs h) rfl w.heap.size rfl ?_; intro W1 R1 B1 z1
       obtain ⟨c0, _⟩ := R1.at 0 _ rfl
       obtain ⟨c1, _⟩ := R1.at 1 _ rfl
       obtain ⟨c2, _⟩ := R1.at 2 _ rfl
       obtain ⟨c3, _⟩ := R1.at 3 _ rfl
       obtain ⟨c4, _⟩ := R1.at 4 _ rfl
       obtain ⟨c5, _⟩ := R1.at 5 _ rfl
       obtain ⟨c6, _⟩ := R1.at 6 _ rfl
       obtain ⟨c7, _⟩ := R1.at 7 _ rfl
       obtain ⟨c8, _⟩ := R1.at 8 _ rfl
       obtain ⟨c11, _⟩ := R1.at 11 _ rfl
       obtain ⟨c12, _⟩ := R1.at 12 _ rfl
       obtain ⟨c14, _⟩ := R1.at 14 _ rfl
       obtain ⟨c15, _⟩ := R1.at 15 _ rfl
       clear R1)
    | (have _q := G0; go_at_call 70; refine (within_any (h 0) 1 31 _ _q.out).mono ?_; rintro e W2 ⟨rfl, hW2⟩; rw [hW2]; clear hW2 W2 _q G0)
    | (have _q := G1; go_at_call 70; refine (within_any (h 1) 0 6 _ _q.out).mono ?_; rintro e W2 ⟨rfl, hW2⟩; rw [hW2]; clear hW2 W2 _q G1))
  have T1 := ten_row W1 h 3
  rw [z1] at T1
  have ST : Hid (nchkRel w (w.heap.size + 1) h (.bool false) (.int .i64 0) (W1.alloc (.cells #[.int .i64 (h 3), .int .i64 (h 4), .int .i64 (h 5), .int .i64 (h 6), .int .i64 (h 7), .int .i64 (h 8), .int .i64 (h 11), .int .i64 (h 12), .int .i64 (h 14), .int .i64 (h 15)] 3))) := ⟨0, by omega, rfl, by rw [← HO.out], T1, B1.alloc B1.size _⟩
  clear T1 c0 c1 c2 c3 c4 c5 c6 c7 c8 c11 c12 c14 c15 z1 B1
  generalize (W1.alloc (.cells #[.int .i64 (h 3), .int .i64 (h 4), .int .i64 (h 5), .int .i64 (h 6), .int .i64 (h 7), .int .i64 (h 8), .int .i64 (h 11), .int .i64 (h 12), .int .i64 (h 14), .int .i64 (h 15)] 3)) = W3 at ST ⊢
  go_loopw [3, 5] (fun b i wr => nchkRel w (w.heap.size + 1) h b i wr) (fun _ i _ => 10 - (intOf i).toNat)
  case atStart => exact ST.out
  case round =>
    obtain ⟨k, hk, rfl, rfl, hR, hB⟩ := hrel
    clear ST
    have RR : Hid (IRow wr (w.heap.size + 1) .i64 10 (fun j => h (pos (3 + j)))) := hR
    have BE : Hid (Below w.heap.size w wr) := hB
    clear hB
    by_cases hlt : k < 10
    · have c0 := hR.1 k hlt
      clear hR
      have i0 : (k : Int) < 10 := by omega
      cases hb : okTo h (3 + k) with
      | false =>
        have HN : Hid (okTo h (3 + (k + 1)) = false) := (by rw [show 3 + (k + 1) = (3 + k) + 1 by omega, okTo, hb]; rfl : okTo h (3 + (k + 1)) = false)
        clear hb
        go_wp2_with fail
        exact ⟨⟨k + 1, by omega, by go_num, by rw [HN.out], RR.out, BE.out⟩, by simp [intOf]; omega⟩
      | true =>
        obtain ⟨r, hr⟩ : ∃ r, within h (3 + k) = r := ⟨_, rfl⟩
        have HN : Hid (okTo h (3 + (k + 1)) = r) := (by rw [show 3 + (k + 1) = (3 + k) + 1 by omega, okTo, hb, hr]; rfl : okTo h (3 + (k + 1)) = r)
        have HW : Hid ((decide (0 ≤ h (pos (3 + k))) && decide (h (pos (3 + k)) ≤ 1073741824)) = r) := (by rw [← hr, within, show fle (3 + k) = 0 from by unfold fle; rw [if_neg (by omega)], show fmo (3 + k) = 1073741824 from by unfold fmo; rw [if_neg (by omega), if_neg (by omega), if_neg (by omega)]] : (decide (0 ≤ h (pos (3 + k))) && decide (h (pos (3 + k)) ≤ 1073741824)) = r)
        clear hb hr
        have c0' : wr.cell? ⟨w.heap.size + 1, k, none⟩ = some (.int .i64 (h (pos (3 + k)))) := c0
        clear c0
        generalize h (pos (3 + k)) = x at c0' HW
        go_wp2_with (go_at_call 70; refine (within_any x 0 1073741824 _ HW.out).mono ?_; rintro e W5 ⟨rfl, hW5⟩; rw [hW5]; clear hW5 W5)
        exact ⟨⟨k + 1, by omega, by go_num, by rw [HN.out], RR.out, BE.out⟩, by simp [intOf]; omega⟩
    · obtain rfl : k = 10 := by omega
      clear hR
      have e13 : okTo h (3 + 10) = okH h := okTo_13 h
      cases hb : okH h with
      | false =>
        rw [e13, hb]
        have HC : Hid (chk h = 2) := (by unfold chk; rw [hb]; rfl : chk h = 2)
        clear hb e13
        go_wp2_with fail
        go_ret
        exact ⟨by rw [HC.out]; rfl, BE.out⟩
      | true =>
        rw [e13, hb]
        have HC : Hid (chk h = 0) := (by unfold chk; rw [hb]; rfl : chk h = 0)
        clear hb e13
        go_wp2_with fail
        go_ret
        exact ⟨by rw [HC.out]; rfl, BE.out⟩
set_option maxRecDepth 100000 in
set_option maxHeartbeats 400000 in
theorem ncheck_ttf (h : Nat → Int) (w : World) (F0 : (decide (1 ≤ h 0) && decide (h 0 ≤ 31)) = true) (F1 : (decide (0 ≤ h 1) && decide (h 1 ≤ 6)) = true) (F2 : (decide (0 ≤ h 2) && decide (h 2 ≤ 1024)) = false) (ho : okTo h 3 = false) : Calls Tryd.prog 54 #[.agg (hcs h).toArray] w fun e w' => e = .returned (.int .i64 (chk h)) ∧ Below w.heap.size w w' := by
  have HO : Hid (okTo h 3 = false) := ho
  have G0 : Hid ((decide (1 ≤ h 0) && decide (h 0 ≤ 31)) = true) := F0
  have G1 : Hid ((decide (0 ≤ h 1) && decide (h 1 ≤ 6)) = true) := F1
  have G2 : Hid ((decide (0 ≤ h 2) && decide (h 2 ≤ 1024)) = false) := F2
  clear F0 F1 F2 ho
  go_enter Tryd.func54, Tryd.ntmps54
  go_wp2_with (first
    | (refine wpList_box_rec rfl 26 (.tmp 0) rfl (hcs h) rfl w.heap.size rfl ?_; intro W1 R1 B1 z1
       obtain ⟨c0, _⟩ := R1.at 0 _ rfl
       obtain ⟨c1, _⟩ := R1.at 1 _ rfl
       obtain ⟨c2, _⟩ := R1.at 2 _ rfl
       obtain ⟨c3, _⟩ := R1.at 3 _ rfl
       obtain ⟨c4, _⟩ := R1.at 4 _ rfl
       obtain ⟨c5, _⟩ := R1.at 5 _ rfl
       obtain ⟨c6, _⟩ := R1.at 6 _ rfl
       obtain ⟨c7, _⟩ := R1.at 7 _ rfl
       obtain ⟨c8, _⟩ := R1.at 8 _ rfl
       obtain ⟨c11, _⟩ := R1.at 11 _ rfl
       obtain ⟨c12, _⟩ := R1.at 12 _ rfl
       obtain ⟨c14, _⟩ := R1.at 14 _ rfl
       obtain ⟨c15, _⟩ := R1.at 15 _ rfl
       clear R1)
    | (have _q := G0; go_at_call 70; refine (within_any (h 0) 1 31 _ _q.out).mono ?_; rintro e W2 ⟨rfl, hW2⟩; rw [hW2]; clear hW2 W2 _q G0)
    | (have _q := G1; go_at_call 70; refine (within_any (h 1) 0 6 _ _q.out).mono ?_; rintro e W2 ⟨rfl, hW2⟩; rw [hW2]; clear hW2 W2 _q G1)
    | (have _q := G2; go_at_call 70; refine (within_any (h 2) 0 1024 _ _q.out).mono ?_; rintro e W2 ⟨rfl, hW2⟩; rw [hW2]; clear hW2 W2 _q G2))
  have T1 := ten_row W1 h 3
  rw [z1] at T1
  have ST : Hid (nchkRel w (w.heap.size + 1) h (.bool false) (.int .i64 0) (W1.alloc (.cells #[.int .i64 (h 3), .int .i64 (h 4), .int .i64 (h 5), .int .i64 (h 6), .int .i64 (h 7), .int .i64 (h 8), .int .i64 (h 11), .int .i64 (h 12), .int .i64 (h 14), .int .i64 (h 15)] 3))) := ⟨0, by omega, rfl, by rw [← HO.out], T1, B1.alloc B1.size _⟩
  clear T1 c0 c1 c2 c3 c4 c5 c6 c7 c8 c11 c12 c14 c15 z1 B1
  generalize (W1.alloc (.cells #[.int .i64 (h 3), .int .i64 (h 4), .int .i64 (h 5), .int .i64 (h 6), .int .i64 (h 7), .int .i64 (h 8), .int .i64 (h 11), .int .i64 (h 12), .int .i64 (h 14), .int .i64 (h 15)] 3)) = W3 at ST ⊢
  go_loopw [3, 5] (fun b i wr => nchkRel w (w.heap.size + 1) h b i wr) (fun _ i _ => 10 - (intOf i).toNat)
  case atStart => exact ST.out
  case round =>
    obtain ⟨k, hk, rfl, rfl, hR, hB⟩ := hrel
    clear ST
    have RR : Hid (IRow wr (w.heap.size + 1) .i64 10 (fun j => h (pos (3 + j)))) := hR
    have BE : Hid (Below w.heap.size w wr) := hB
    clear hB
    by_cases hlt : k < 10
    · have c0 := hR.1 k hlt
      clear hR
      have i0 : (k : Int) < 10 := by omega
      cases hb : okTo h (3 + k) with
      | false =>
        have HN : Hid (okTo h (3 + (k + 1)) = false) := (by rw [show 3 + (k + 1) = (3 + k) + 1 by omega, okTo, hb]; rfl : okTo h (3 + (k + 1)) = false)
        clear hb
        go_wp2_with fail
        exact ⟨⟨k + 1, by omega, by go_num, by rw [HN.out], RR.out, BE.out⟩, by simp [intOf]; omega⟩
      | true =>
        obtain ⟨r, hr⟩ : ∃ r, within h (3 + k) = r := ⟨_, rfl⟩
        have HN : Hid (okTo h (3 + (k + 1)) = r) := (by rw [show 3 + (k + 1) = (3 + k) + 1 by omega, okTo, hb, hr]; rfl : okTo h (3 + (k + 1)) = r)
        have HW : Hid ((decide (0 ≤ h (pos (3 + k))) && decide (h (pos (3 + k)) ≤ 1073741824)) = r) := (by rw [← hr, within, show fle (3 + k) = 0 from by unfold fle; rw [if_neg (by omega)], show fmo (3 + k) = 1073741824 from by unfold fmo; rw [if_neg (by omega), if_neg (by omega), if_neg (by omega)]] : (decide (0 ≤ h (pos (3 + k))) && decide (h (pos (3 + k)) ≤ 1073741824)) = r)
        clear hb hr
        have c0' : wr.cell? ⟨w.heap.size + 1, k, none⟩ = some (.int .i64 (h (pos (3 + k)))) := c0
        clear c0
        generalize h (pos (3 + k)) = x at c0' HW
        go_wp2_with (go_at_call 70; refine (within_any x 0 1073741824 _ HW.out).mono ?_; rintro e W5 ⟨rfl, hW5⟩; rw [hW5]; clear hW5 W5)
        exact ⟨⟨k + 1, by omega, by go_num, by rw [HN.out], RR.out, BE.out⟩, by simp [intOf]; omega⟩
    · obtain rfl : k = 10 := by omega
      clear hR
      have e13 : okTo h (3 + 10) = okH h := okTo_13 h
      cases hb : okH h with
      | false =>
        rw [e13, hb]
        have HC : Hid (chk h = 2) := (by unfold chk; rw [hb]; rfl : chk h = 2)
        clear hb e13
        go_wp2_with fail
        go_ret
        exact ⟨by rw [HC.out]; rfl, BE.out⟩
      | true =>
        rw [e13, hb]
        have HC : Hid (chk h = 0) := (by unfold chk; rw [hb]; rfl : chk h = 0)
        clear hb e13
        go_wp2_with fail
        go_ret
        exact ⟨by rw [HC.out]; rfl, BE.out⟩
set_option maxRecDepth 100000 in
set_option maxHeartbeats 400000 in
theorem ncheck_ttt (h : Nat → Int) (w : World) (F0 : (decide (1 ≤ h 0) && decide (h 0 ≤ 31)) = true) (F1 : (decide (0 ≤ h 1) && decide (h 1 ≤ 6)) = true) (F2 : (decide (0 ≤ h 2) && decide (h 2 ≤ 1024)) = true) (ho : okTo h 3 = true) : Calls Tryd.prog 54 #[.agg (hcs h).toArray] w fun e w' => e = .returned (.int .i64 (chk h)) ∧ Below w.heap.size w w' := by
  have HO : Hid (okTo h 3 = true) := ho
  have G0 : Hid ((decide (1 ≤ h 0) && decide (h 0 ≤ 31)) = true) := F0
  have G1 : Hid ((decide (0 ≤ h 1) && decide (h 1 ≤ 6)) = true) := F1
  have G2 : Hid ((decide (0 ≤ h 2) && decide (h 2 ≤ 1024)) = true) := F2
  clear F0 F1 F2 ho
  go_enter Tryd.func54, Tryd.ntmps54
  go_wp2_with (first
    | (refine wpList_box_rec rfl 26 (.tmp 0) rfl (hcs h) rfl w.heap.size rfl ?_; intro W1 R1 B1 z1
       obtain ⟨c0, _⟩ := R1.at 0 _ rfl
       obtain ⟨c1, _⟩ := R1.at 1 _ rfl
       obtain ⟨c2, _⟩ := R1.at 2 _ rfl
       obtain ⟨c3, _⟩ := R1.at 3 _ rfl
       obtain ⟨c4, _⟩ := R1.at 4 _ rfl
       obtain ⟨c5, _⟩ := R1.at 5 _ rfl
       obtain ⟨c6, _⟩ := R1.at 6 _ rfl
       obtain ⟨c7, _⟩ := R1.at 7 _ rfl
       obtain ⟨c8, _⟩ := R1.at 8 _ rfl
       obtain ⟨c11, _⟩ := R1.at 11 _ rfl
       obtain ⟨c12, _⟩ := R1.at 12 _ rfl
       obtain ⟨c14, _⟩ := R1.at 14 _ rfl
       obtain ⟨c15, _⟩ := R1.at 15 _ rfl
       clear R1)
    | (have _q := G0; go_at_call 70; refine (within_any (h 0) 1 31 _ _q.out).mono ?_; rintro e W2 ⟨rfl, hW2⟩; rw [hW2]; clear hW2 W2 _q G0)
    | (have _q := G1; go_at_call 70; refine (within_any (h 1) 0 6 _ _q.out).mono ?_; rintro e W2 ⟨rfl, hW2⟩; rw [hW2]; clear hW2 W2 _q G1)
    | (have _q := G2; go_at_call 70; refine (within_any (h 2) 0 1024 _ _q.out).mono ?_; rintro e W2 ⟨rfl, hW2⟩; rw [hW2]; clear hW2 W2 _q G2))
  have T1 := ten_row W1 h 3
  rw [z1] at T1
  have ST : Hid (nchkRel w (w.heap.size + 1) h (.bool true) (.int .i64 0) (W1.alloc (.cells #[.int .i64 (h 3), .int .i64 (h 4), .int .i64 (h 5), .int .i64 (h 6), .int .i64 (h 7), .int .i64 (h 8), .int .i64 (h 11), .int .i64 (h 12), .int .i64 (h 14), .int .i64 (h 15)] 3))) := ⟨0, by omega, rfl, by rw [← HO.out], T1, B1.alloc B1.size _⟩
  clear T1 c0 c1 c2 c3 c4 c5 c6 c7 c8 c11 c12 c14 c15 z1 B1
  generalize (W1.alloc (.cells #[.int .i64 (h 3), .int .i64 (h 4), .int .i64 (h 5), .int .i64 (h 6), .int .i64 (h 7), .int .i64 (h 8), .int .i64 (h 11), .int .i64 (h 12), .int .i64 (h 14), .int .i64 (h 15)] 3)) = W3 at ST ⊢
  go_loopw [3, 5] (fun b i wr => nchkRel w (w.heap.size + 1) h b i wr) (fun _ i _ => 10 - (intOf i).toNat)
  case atStart => exact ST.out
  case round =>
    obtain ⟨k, hk, rfl, rfl, hR, hB⟩ := hrel
    clear ST
    have RR : Hid (IRow wr (w.heap.size + 1) .i64 10 (fun j => h (pos (3 + j)))) := hR
    have BE : Hid (Below w.heap.size w wr) := hB
    clear hB
    by_cases hlt : k < 10
    · have c0 := hR.1 k hlt
      clear hR
      have i0 : (k : Int) < 10 := by omega
      cases hb : okTo h (3 + k) with
      | false =>
        have HN : Hid (okTo h (3 + (k + 1)) = false) := (by rw [show 3 + (k + 1) = (3 + k) + 1 by omega, okTo, hb]; rfl : okTo h (3 + (k + 1)) = false)
        clear hb
        go_wp2_with fail
        exact ⟨⟨k + 1, by omega, by go_num, by rw [HN.out], RR.out, BE.out⟩, by simp [intOf]; omega⟩
      | true =>
        obtain ⟨r, hr⟩ : ∃ r, within h (3 + k) = r := ⟨_, rfl⟩
        have HN : Hid (okTo h (3 + (k + 1)) = r) := (by rw [show 3 + (k + 1) = (3 + k) + 1 by omega, okTo, hb, hr]; rfl : okTo h (3 + (k + 1)) = r)
        have HW : Hid ((decide (0 ≤ h (pos (3 + k))) && decide (h (pos (3 + k)) ≤ 1073741824)) = r) := (by rw [← hr, within, show fle (3 + k) = 0 from by unfold fle; rw [if_neg (by omega)], show fmo (3 + k) = 1073741824 from by unfold fmo; rw [if_neg (by omega), if_neg (by omega), if_neg (by omega)]] : (decide (0 ≤ h (pos (3 + k))) && decide (h (pos (3 + k)) ≤ 1073741824)) = r)
        clear hb hr
        have c0' : wr.cell? ⟨w.heap.size + 1, k, none⟩ = some (.int .i64 (h (pos (3 + k)))) := c0
        clear c0
        generalize h (pos (3 + k)) = x at c0' HW
        go_wp2_with (go_at_call 70; refine (within_any x 0 1073741824 _ HW.out).mono ?_; rintro e W5 ⟨rfl, hW5⟩; rw [hW5]; clear hW5 W5)
        exact ⟨⟨k + 1, by omega, by go_num, by rw [HN.out], RR.out, BE.out⟩, by simp [intOf]; omega⟩
    · obtain rfl : k = 10 := by omega
      clear hR
      have e13 : okTo h (3 + 10) = okH h := okTo_13 h
      cases hb : okH h with
      | false =>
        rw [e13, hb]
        have HC : Hid (chk h = 2) := (by unfold chk; rw [hb]; rfl : chk h = 2)
        clear hb e13
        go_wp2_with fail
        go_ret
        exact ⟨by rw [HC.out]; rfl, BE.out⟩
      | true =>
        rw [e13, hb]
        have HC : Hid (chk h = 0) := (by unfold chk; rw [hb]; rfl : chk h = 0)
        clear hb e13
        go_wp2_with fail
        go_ret
        exact ⟨by rw [HC.out]; rfl, BE.out⟩
theorem ncheck_any (h : Nat → Int) (w : World) : Calls Tryd.prog 54 #[.agg (hcs h).toArray] w fun e w' => e = .returned (.int .i64 (chk h)) ∧ Below w.heap.size w w' := by
  have w0 : within h 0 = (decide (1 ≤ h 0) && decide (h 0 ≤ 31)) := rfl
  have w1 : within h 1 = (decide (0 ≤ h 1) && decide (h 1 ≤ 6)) := rfl
  have w2 : within h 2 = (decide (0 ≤ h 2) && decide (h 2 ≤ 1024)) := rfl
  have o3 : okTo h 3 = (((true && within h 0) && within h 1) && within h 2) := rfl
  cases e0 : within h 0 with
  | false => exact ncheck_f h w (w0.symm.trans e0) (by rw [o3, e0]; rfl)
  | true =>
    cases e1 : within h 1 with
    | false => exact ncheck_tf h w (w0.symm.trans e0) (w1.symm.trans e1) (by rw [o3, e0, e1]; rfl)
    | true =>
      cases e2 : within h 2 with
      | false => exact ncheck_ttf h w (w0.symm.trans e0) (w1.symm.trans e1) (w2.symm.trans e2) (by rw [o3, e0, e1, e2]; rfl)
      | true => exact ncheck_ttt h w (w0.symm.trans e0) (w1.symm.trans e1) (w2.symm.trans e2) (by rw [o3, e0, e1, e2]; rfl)
end Go.Proofs.YtfpgkckcifjkcaaDoor
