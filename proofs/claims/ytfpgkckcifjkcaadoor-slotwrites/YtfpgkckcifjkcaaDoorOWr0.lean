/-
  Walks, not a claim by itself: the reference's Of, mine, Bytes, Unwritten. By the verifier.
-/
import Derived.Test.YtfpgkckcifjkcaaDoorOAwk
import Derived.Test.YtfpgkckcifjkcaaDoorNSl
import Derived.Test.YtfpgkckcifjkcaaDoorBApart3
namespace Go.Proofs.YtfpgkckcifjkcaaDoor
open Go.RowKit
theorem rof_any (x : Int) (w : World) : Calls Tryd.prog 15 #[.int .i64 x] w fun e w' => e = .returned (.int .i64 (ofI x)) ∧ w' = w := by
  by_cases h : x < 0
  · have e : ofI x = 0 := if_pos h
    rw [e]
    go_enter Tryd.func15, Tryd.ntmps15
    go_wp2
    go_ret
    exact ⟨rfl, rfl⟩
  · have e : ofI x = x % 16 := if_neg h
    rw [e]
    go_enter Tryd.func15, Tryd.ntmps15
    go_wp2
    go_ret
    exact ⟨rfl, rfl⟩
set_option maxRecDepth 100000 in
theorem mine_any (h : Nat → Int) (n : Int) (w : World) : Calls Tryd.prog 34 #[.agg (hcs h).toArray, .int .i64 n] w fun e w' => e = .returned (.bool (isPrep h n)) ∧ Below w.heap.size w w' := by
  by_cases e0 : h 0 = 2
  · by_cases e1 : 1 ≤ h 5
    · by_cases e2 : ofI (h 5) = n
      · rw [show isPrep h n = true from by simp [isPrep, e0, e1, e2]]
        subst e2
        go_enter Tryd.func34, Tryd.ntmps34
        go_wp2_with (first
          | (refine wpList_box_rec rfl 26 (.tmp 0) rfl (hcs h) rfl w.heap.size rfl ?_; intro W0 R0 B0 z0; obtain ⟨c0, _⟩ := R0.at 0 (.int .i64 (h 0)) rfl; obtain ⟨c5, _⟩ := R0.at 5 (.int .i64 (h 5)) rfl)
          | (go_at_call 15; refine (rof_any (h 5) _).mono ?_; rintro e w3 ⟨rfl, rfl⟩))
        go_ret
        exact ⟨rfl, B0⟩
      · rw [show isPrep h n = false from by simp [isPrep, e0, e1, e2]]
        go_enter Tryd.func34, Tryd.ntmps34
        go_wp2_with (first
          | (refine wpList_box_rec rfl 26 (.tmp 0) rfl (hcs h) rfl w.heap.size rfl ?_; intro W0 R0 B0 z0; obtain ⟨c0, _⟩ := R0.at 0 (.int .i64 (h 0)) rfl; obtain ⟨c5, _⟩ := R0.at 5 (.int .i64 (h 5)) rfl)
          | (go_at_call 15; refine (rof_any (h 5) _).mono ?_; rintro e w3 ⟨rfl, rfl⟩))
        go_ret
        refine ⟨?_, B0⟩
        rw [show (ofI (h 5) == n) = false from by simpa using e2]
        rfl
    · rw [show isPrep h n = false from by simp [isPrep, e0, e1]]
      go_enter Tryd.func34, Tryd.ntmps34
      go_wp2_with (first
        | (refine wpList_box_rec rfl 26 (.tmp 0) rfl (hcs h) rfl w.heap.size rfl ?_; intro W0 R0 B0 z0; obtain ⟨c0, _⟩ := R0.at 0 (.int .i64 (h 0)) rfl; obtain ⟨c5, _⟩ := R0.at 5 (.int .i64 (h 5)) rfl))
      go_ret
      exact ⟨rfl, B0⟩
  · rw [show isPrep h n = false from by simp [isPrep, e0]]
    go_enter Tryd.func34, Tryd.ntmps34
    go_wp2_with (first
      | (refine wpList_box_rec rfl 26 (.tmp 0) rfl (hcs h) rfl w.heap.size rfl ?_; intro W0 R0 B0 z0; obtain ⟨c0, _⟩ := R0.at 0 (.int .i64 (h 0)) rfl; obtain ⟨c5, _⟩ := R0.at 5 (.int .i64 (h 5)) rfl))
    go_ret
    exact ⟨rfl, B0⟩
set_option maxRecDepth 100000 in
theorem zeros_none (ty : TypeId) (W : World) (base n g cap : Nat) (F : Nat → Int) (ho : Own W base (.slice (some ⟨g, 0, none⟩) n cap) n F) :
    (Builtin.append_ #[27, 3] ty #[.slice (some ⟨g, 0, none⟩) n cap, .int .i64 ((0 : Nat) : Int)]).run Tryd.prog W = .ok (.slice (some ⟨g, 0, none⟩) n cap) W := by
  obtain ⟨i0, hi, hz0, _, hz2⟩ := info_parts info_u8
  rcases ho.2 with ⟨h, _⟩ | ⟨g', cap', cur, hv, hbg, hg, hnc, hcm, hcs, htake⟩
  · cases h
  injection hv with hv _ hc
  subst hc
  have hw : IntKind.i64.wrap 0 = 0 := by rw [IntKind.wrap_i64]; rfl
  simp [Builtin.append_, run_underlying Tryd.underlying27, run_underlying Tryd.underlying3, sizeOf, typeInfo, zeroValue, hi, hz0, hz2, asInt, asIntOf, hw, hnc, storeCells]
/-- Noughts behind bytes of one's own, none of them too. -/
theorem zeros_any (W : World) (base n m g cap : Nat) (F : Nat → Int) (ho : Own W base (.slice (some ⟨g, 0, none⟩) n cap) n F) (hm : n + m ≤ 1000000) (hbase : base ≤ W.heap.size) (hg : base ≤ g) (z : Int) (hz : z = (m : Int)) :
    ∃ g' cap' W', (∀ ty, (Builtin.append_ #[27, 3] ty #[.slice (some ⟨g, 0, none⟩) n cap, .int .i64 z]).run Tryd.prog W = .ok (.slice (some ⟨g', 0, none⟩) (n + m) cap') W') ∧ Own W' base (.slice (some ⟨g', 0, none⟩) (n + m) cap') (n + m) (cat F n (fun _ => 0)) ∧ Below base W W' := by
  subst hz
  by_cases e : m = 0
  · subst e
    refine ⟨g, cap, W, fun ty => zeros_none ty W base n g cap F ho, Own.congr ho ?_, Below.refl _ _⟩
    intro j hj
    unfold cat
    rw [if_pos (by omega)]
  · obtain ⟨v', W', hr, g', cap', rfl, _, hO, hB⟩ := zeros_but 27 W base n m g cap F ho (by omega) hm hbase
    refine ⟨g', cap', W', fun ty => hr, hO, hB.below hg hbase⟩
theorem own_base {w : World} {base g n cap : Nat} {F : Nat → Int} (h : Own w base (.slice (some ⟨g, 0, none⟩) n cap) n F) (hn : 0 < n) : base ≤ g := by
  rcases h.2 with ⟨_, h0⟩ | ⟨g', cap', cur, hv, hbg, _⟩
  · omega
  · injection hv with hv
    injection hv with hv
    injection hv with hv
    omega
theorem own_below2 {w w' : World} {base n : Nat} {v : Value} {F : Nat → Int} (h : Own w base v n F) (hB : Below w.heap.size w w') : Own w' base v n F := by
  refine ⟨h.1, ?_⟩
  rcases h.2 with h0 | ⟨g, cap, cur, hv, hbg, hg, rest⟩
  · exact .inl h0
  · exact .inr ⟨g, cap, cur, hv, hbg, (hB.block g (Array.getElem?_eq_some_iff.1 hg).1).trans hg, rest⟩
theorem cat_slot (h : Nat → Int) (n : Nat) (f : Nat → Int) (j : Nat) : cat (msgF (upd h 2 (n : Nat)) n f) (256 + n) (fun _ => 0) j = slotF h n f j := by
  unfold cat slotF
  rfl
theorem wr_ar (n : Nat) (hn : n ≤ 1024) : wrap64 (1280 - (256 + (n : Int))) = 1280 - (256 + (n : Int)) ∧ IntKind.i64.wrap (1280 - (256 + (n : Int))) = 1280 - (256 + (n : Int)) ∧ 1280 - (256 + (n : Int)) = ((1024 - n : Nat) : Int) ∧ 256 + n + (1024 - n) = 1280 := by
  refine ⟨?_, ?_, by omega, by omega⟩
  · unfold wrap64; omega
  · rw [IntKind.wrap_i64]; omega
set_option maxRecDepth 100000 in
set_option maxHeartbeats 400000 in
theorem rbytes_long (h : Nat → Int) (a : Option Addr) (n C : Nat) (w : World) (hn : 1024 < n) :
    Calls Tryd.prog 10 #[.agg (msg h a n C).toArray] w fun e w' => e = .returned (.tuple #[.slice none 0 0, .int .i64 3]) ∧ Below w.heap.size w w' := by
  go_enter Tryd.func10, Tryd.ntmps10
  go_wp2_with (first
    | (refine wpList_box_rec rfl 29 (.tmp 0) rfl (msg h a n C) rfl w.heap.size rfl ?_; intro W0 R0 B0 z0
       have RH : Hid (Rec19 W0 w.heap.size 0 (msg h a n C)) := R0
       have BH : Hid (Below w.heap.size w W0) := B0
       clear R0 B0)
    | (refine wpList_load_rec rfl 29 (.tmp 1) rfl w.heap.size 0 (msg h a n C) rfl _ Tryd.underlying29 rfl (by kernel_rfl) RH.out ?_)
    | (go_at_call 33; refine (nseal_long h a n C _ hn).mono ?_; rintro e W1 ⟨rfl, B1⟩))
  go_ret2
  exact ⟨rfl, BH.out.trans (B1.mono BH.out.size)⟩
set_option maxRecDepth 100000 in
set_option maxHeartbeats 400000 in
theorem rbytes_arg (h : Nat → Int) (a : Option Addr) (n C : Nat) (w : World) (hn : n ≤ 1024) (hk : okH (upd h 2 (n : Nat)) = false) :
    Calls Tryd.prog 10 #[.agg (msg h a n C).toArray] w fun e w' => e = .returned (.tuple #[.slice none 0 0, .int .i64 2]) ∧ Below w.heap.size w w' := by
  have HK : Hid (okH (upd h 2 (n : Nat)) = false) := hk
  clear hk
  go_enter Tryd.func10, Tryd.ntmps10
  go_wp2_with (first
    | (refine wpList_box_rec rfl 29 (.tmp 0) rfl (msg h a n C) rfl w.heap.size rfl ?_; intro W0 R0 B0 z0
       have RH : Hid (Rec19 W0 w.heap.size 0 (msg h a n C)) := R0
       have BH : Hid (Below w.heap.size w W0) := B0
       clear R0 B0)
    | (refine wpList_load_rec rfl 29 (.tmp 1) rfl w.heap.size 0 (msg h a n C) rfl _ Tryd.underlying29 rfl (by kernel_rfl) RH.out ?_)
    | (go_at_call 33; refine (nseal_arg h a n C _ hn HK.out).mono ?_; rintro e W1 ⟨rfl, B1⟩))
  go_ret2
  exact ⟨rfl, BH.out.trans (B1.mono BH.out.size)⟩
set_option maxRecDepth 100000 in
set_option maxHeartbeats 400000 in
theorem rbytes_not (h : Nat → Int) (a : Option Addr) (n C : Nat) (f : Nat → Int) (w : World) (hn : n ≤ 1024) (hA : Arg w a n f) (hW : Words h) (hk : okH (upd h 2 (n : Nat)) = true) (hp : isPrep h (ofI (h 5)) = false) :
    Calls Tryd.prog 10 #[.agg (msg h a n C).toArray] w fun e w' => e = .returned (.tuple #[.slice none 0 0, .int .i64 2]) ∧ Below w.heap.size w w' := by
  have HK : Hid (okH (upd h 2 (n : Nat)) = true) := hk
  have HA : Hid (Arg w a n f) := hA
  have HW : Hid (Words h) := hW
  have HP : Hid (isPrep h (ofI (h 5)) = false) := hp
  clear hk hA hW hp
  go_enter Tryd.func10, Tryd.ntmps10
  go_wp2_with (first
    | (refine wpList_box_rec rfl 29 (.tmp 0) rfl (msg h a n C) rfl w.heap.size rfl ?_; intro W0 R0 B0 z0
       have RH : Hid (Rec19 W0 w.heap.size 0 (msg h a n C)) := R0
       have BH : Hid (Below w.heap.size w W0) := B0
       clear R0 B0)
    | (refine wpList_load_rec rfl 29 (.tmp 1) rfl w.heap.size 0 (msg h a n C) rfl _ Tryd.underlying29 rfl (by kernel_rfl) RH.out ?_)
    | (go_at_call 33; refine (nseal_ok h a n C f _ hn (HA.out.below BH.out) HW.out HK.out).mono ?_; rintro e W1 ⟨v1, rfl, hO, hB⟩
       obtain ⟨g, cap, rfl, hO'⟩ := hO.cells' (by omega)
       have R1 : Rec19 W1 w.heap.size 0 (msg h a n C) := RH.out.below hB
       have E1 : Below w.heap.size w W1 := BH.out.trans (hB.mono BH.out.size)
       have G1 : Hid (Own W1 W0.heap.size (.slice (some ⟨g, 0, none⟩) (256 + n) cap) (256 + n) (msgF (upd h 2 (n : Nat)) n f)) := hO'
       have c5 := (R1.at 5 (.int .i64 (h 5)) rfl).1
       have r5 := R1.head.1
       clear hB hO hO'))
  refine wp_region_noPanic ?_
  refine wp_region_held_drew (S := fun W' => W'.cell? ⟨w.heap.size, 5, none⟩ = some (.int .i64 (h 5)) ∧ W'.rangeAt w.heap.size 0 (hcs h)) (by kernel_rfl) ?_ (fun hHeld => ?_)
  · exact ⟨c5, r5⟩
  refine take_at (i := 0) (v := ?_) (some 14) rfl rfl (by kernel_rfl) (by kernel_rfl) (by kernel_rfl) (fun _ _ _ h => h) (Or.inl ⟨by rfl, ?_⟩) (by assumption) ?_
  rotate_left
  · (intro w hSw; (try dsimp only at hSw); go_simp; try with_reducible rfl)
  simp only [Act.put, List.setIfInBounds_toArray, List.set_cons_zero, List.set_cons_succ]
  refine take_at (i := 1) (v := _) (some 15) rfl rfl (by kernel_rfl) (by kernel_rfl) (by kernel_rfl) (fun _ _ _ h => h) (yieldsIf_load_mid (by rfl) _ _ rfl _ _ rfl _ _ (fun _ h => h.2) Tryd.underlying26 rfl (by kernel_rfl)) (by assumption) ?_
  simp only [Act.put, List.setIfInBounds_toArray, List.set_cons_zero, List.set_cons_succ]
  refine take_at (i := 2) (v := ?_) (some 16) rfl rfl (by kernel_rfl) (by kernel_rfl) (by kernel_rfl) (fun _ _ _ h => h) (Or.inl ⟨by rfl, ?_⟩) (by assumption) ?_
  rotate_left
  · (intro w hSw; (try dsimp only at hSw); go_simp; try with_reducible rfl)
  simp only [Act.put, List.setIfInBounds_toArray, List.set_cons_zero, List.set_cons_succ]
  refine take_at (i := 3) (v := ?_) (some 17) rfl rfl (by kernel_rfl) (by kernel_rfl) (by kernel_rfl) (fun _ _ _ h => h) (Or.inl ⟨by rfl, ?_⟩) (by assumption) ?_
  rotate_left
  · (intro w hSw; (try dsimp only at hSw); go_simp; try with_reducible rfl)
  simp only [Act.put, List.setIfInBounds_toArray, List.set_cons_zero, List.set_cons_succ]
  refine take_at (i := 4) (v := ?_) (some 18) rfl rfl (by kernel_rfl) (by kernel_rfl) (by kernel_rfl) (fun _ _ _ h => h) (Or.inl ⟨by rfl, ?_⟩) (by assumption) ?_
  rotate_left
  · (intro w hSw; (try dsimp only at hSw); go_simp; try with_reducible rfl)
  simp only [Act.put, List.setIfInBounds_toArray, List.set_cons_zero, List.set_cons_succ]
  refine call_at (i := 5) (some 19) 15 _ _ rfl rfl rfl (by rfl) (by kernel_rfl) #[.int .i64 (h 5)] rfl Tryd.func15 (by kernel_rfl) (by kernel_rfl) ?_
  refine (rof_any (h 5) _).mono ?_
  rintro e w3 ⟨rfl, rfl⟩
  refine ⟨_, rfl, hHeld, fun hHeld => ?_⟩
  simp only [Act.put, List.setIfInBounds_toArray, List.set_cons_zero, List.set_cons_succ]
  refine call_at (i := 6) (some 20) 34 _ _ rfl rfl rfl (by rfl) (by kernel_rfl) #[.agg (hcs h).toArray, .int .i64 (ofI (h 5))] rfl Tryd.func34 (by kernel_rfl) (by kernel_rfl) ?_
  refine (mine_any h (ofI (h 5)) _).mono ?_
  rintro e W2 ⟨rfl, B2d⟩
  have B2 : Below W1.heap.size W1 W2 := ((Below.refl W1.heap.size W1).drew).trans B2d
  have R2 : Rec19 W2 w.heap.size 0 (msg h a n C) := R1.below B2
  rw [HP.out]
  refine ⟨_, rfl, ⟨(R2.at 5 (.int .i64 (h 5)) rfl).1, R2.head.1⟩, fun hHeld => ?_⟩
  simp only [Act.put, List.setIfInBounds_toArray, List.set_cons_zero, List.set_cons_succ]
  refine take_at (i := 7) (v := ?_) (some 21) rfl rfl (by kernel_rfl) (by kernel_rfl) (by kernel_rfl) (fun _ _ _ h => h) (Or.inl ⟨by rfl, ?_⟩) (by assumption) ?_
  rotate_left
  · (intro w hSw; (try dsimp only at hSw); go_simp; try with_reducible rfl)
  simp only [Act.put, List.setIfInBounds_toArray, List.set_cons_zero, List.set_cons_succ]
  refine wpAnyH_done (by kernel_rfl) ?_ _
  refine NoPanic.normal ?_
  go_wp2_with fail
  go_ret2
  exact ⟨rfl, E1.trans (B2.mono E1.size)⟩
set_option maxRecDepth 100000 in
set_option maxHeartbeats 400000 in
theorem rbytes_ok (h : Nat → Int) (a : Option Addr) (n C : Nat) (f : Nat → Int) (w : World) (hn : n ≤ 1024) (hA : Arg w a n f) (hW : Words h) (hk : okH (upd h 2 (n : Nat)) = true) (hp : isPrep h (ofI (h 5)) = true) :
    Calls Tryd.prog 10 #[.agg (msg h a n C).toArray] w fun e w' => ∃ g cap, e = .returned (.tuple #[.slice (some ⟨g, 0, none⟩) 1280 cap, .int .i64 0]) ∧ Arg w' (some ⟨g, 0, none⟩) 1280 (slotF h n f) ∧ Below w.heap.size w w' := by
  have HK : Hid (okH (upd h 2 (n : Nat)) = true) := hk
  have HA : Hid (Arg w a n f) := hA
  have HW : Hid (Words h) := hW
  have HP : Hid (isPrep h (ofI (h 5)) = true) := hp
  clear hk hA hW hp
  obtain ⟨k1, k2, k3, k4⟩ := wr_ar n hn
  have K3 : Hid (1280 - (256 + (n : Int)) = ((1024 - n : Nat) : Int)) := k3
  have K4 : Hid (256 + n + (1024 - n) = 1280) := k4
  clear k3 k4
  go_enter Tryd.func10, Tryd.ntmps10
  go_wp2_with (first
    | (refine wpList_box_rec rfl 29 (.tmp 0) rfl (msg h a n C) rfl w.heap.size rfl ?_; intro W0 R0 B0 z0
       have RH : Hid (Rec19 W0 w.heap.size 0 (msg h a n C)) := R0
       have BH : Hid (Below w.heap.size w W0) := B0
       clear R0 B0)
    | (refine wpList_load_rec rfl 29 (.tmp 1) rfl w.heap.size 0 (msg h a n C) rfl _ Tryd.underlying29 rfl (by kernel_rfl) RH.out ?_)
    | (go_at_call 33; refine (nseal_ok h a n C f _ hn (HA.out.below BH.out) HW.out HK.out).mono ?_; rintro e W1 ⟨v1, rfl, hO, hB⟩
       obtain ⟨g, cap, rfl, hO'⟩ := hO.cells' (by omega)
       have R1 : Rec19 W1 w.heap.size 0 (msg h a n C) := RH.out.below hB
       have E1 : Below w.heap.size w W1 := BH.out.trans (hB.mono BH.out.size)
       have G1 : Hid (Own W1 W0.heap.size (.slice (some ⟨g, 0, none⟩) (256 + n) cap) (256 + n) (msgF (upd h 2 (n : Nat)) n f)) := hO'
       have c5 := (R1.at 5 (.int .i64 (h 5)) rfl).1
       have r5 := R1.head.1
       clear hB hO hO'))
  refine wp_region_noPanic ?_
  refine wp_region_held_drew (S := fun W' => W'.cell? ⟨w.heap.size, 5, none⟩ = some (.int .i64 (h 5)) ∧ W'.rangeAt w.heap.size 0 (hcs h)) (by kernel_rfl) ?_ (fun hHeld => ?_)
  · exact ⟨c5, r5⟩
  refine take_at (i := 0) (v := ?_) (some 14) rfl rfl (by kernel_rfl) (by kernel_rfl) (by kernel_rfl) (fun _ _ _ h => h) (Or.inl ⟨by rfl, ?_⟩) (by assumption) ?_
  rotate_left
  · (intro w hSw; (try dsimp only at hSw); go_simp; try with_reducible rfl)
  simp only [Act.put, List.setIfInBounds_toArray, List.set_cons_zero, List.set_cons_succ]
  refine take_at (i := 1) (v := _) (some 15) rfl rfl (by kernel_rfl) (by kernel_rfl) (by kernel_rfl) (fun _ _ _ h => h) (yieldsIf_load_mid (by rfl) _ _ rfl _ _ rfl _ _ (fun _ h => h.2) Tryd.underlying26 rfl (by kernel_rfl)) (by assumption) ?_
  simp only [Act.put, List.setIfInBounds_toArray, List.set_cons_zero, List.set_cons_succ]
  refine take_at (i := 2) (v := ?_) (some 16) rfl rfl (by kernel_rfl) (by kernel_rfl) (by kernel_rfl) (fun _ _ _ h => h) (Or.inl ⟨by rfl, ?_⟩) (by assumption) ?_
  rotate_left
  · (intro w hSw; (try dsimp only at hSw); go_simp; try with_reducible rfl)
  simp only [Act.put, List.setIfInBounds_toArray, List.set_cons_zero, List.set_cons_succ]
  refine take_at (i := 3) (v := ?_) (some 17) rfl rfl (by kernel_rfl) (by kernel_rfl) (by kernel_rfl) (fun _ _ _ h => h) (Or.inl ⟨by rfl, ?_⟩) (by assumption) ?_
  rotate_left
  · (intro w hSw; (try dsimp only at hSw); go_simp; try with_reducible rfl)
  simp only [Act.put, List.setIfInBounds_toArray, List.set_cons_zero, List.set_cons_succ]
  refine take_at (i := 4) (v := ?_) (some 18) rfl rfl (by kernel_rfl) (by kernel_rfl) (by kernel_rfl) (fun _ _ _ h => h) (Or.inl ⟨by rfl, ?_⟩) (by assumption) ?_
  rotate_left
  · (intro w hSw; (try dsimp only at hSw); go_simp; try with_reducible rfl)
  simp only [Act.put, List.setIfInBounds_toArray, List.set_cons_zero, List.set_cons_succ]
  refine call_at (i := 5) (some 19) 15 _ _ rfl rfl rfl (by rfl) (by kernel_rfl) #[.int .i64 (h 5)] rfl Tryd.func15 (by kernel_rfl) (by kernel_rfl) ?_
  refine (rof_any (h 5) _).mono ?_
  rintro e w3 ⟨rfl, rfl⟩
  refine ⟨_, rfl, hHeld, fun hHeld => ?_⟩
  simp only [Act.put, List.setIfInBounds_toArray, List.set_cons_zero, List.set_cons_succ]
  refine call_at (i := 6) (some 20) 34 _ _ rfl rfl rfl (by rfl) (by kernel_rfl) #[.agg (hcs h).toArray, .int .i64 (ofI (h 5))] rfl Tryd.func34 (by kernel_rfl) (by kernel_rfl) ?_
  refine (mine_any h (ofI (h 5)) _).mono ?_
  rintro e W2 ⟨rfl, B2d⟩
  have B2 : Below W1.heap.size W1 W2 := ((Below.refl W1.heap.size W1).drew).trans B2d
  have R2 : Rec19 W2 w.heap.size 0 (msg h a n C) := R1.below B2
  rw [HP.out]
  refine ⟨_, rfl, ⟨(R2.at 5 (.int .i64 (h 5)) rfl).1, R2.head.1⟩, fun hHeld => ?_⟩
  simp only [Act.put, List.setIfInBounds_toArray, List.set_cons_zero, List.set_cons_succ]
  refine take_at (i := 7) (v := ?_) (some 21) rfl rfl (by kernel_rfl) (by kernel_rfl) (by kernel_rfl) (fun _ _ _ h => h) (Or.inl ⟨by rfl, ?_⟩) (by assumption) ?_
  rotate_left
  · (intro w hSw; (try dsimp only at hSw); go_simp; try with_reducible rfl)
  simp only [Act.put, List.setIfInBounds_toArray, List.set_cons_zero, List.set_cons_succ]
  refine wpAnyH_done (by kernel_rfl) ?_ _
  refine NoPanic.normal ?_
  have E2 : Below w.heap.size w W2 := E1.trans (B2.mono E1.size)
  have nW := BH.out.size
  have G2 : Own W2 w.heap.size (.slice (some ⟨g, 0, none⟩) (256 + n) cap) (256 + n) (msgF (upd h 2 (n : Nat)) n f) := (own_below2 G1.out B2).weak nW
  obtain ⟨g', cap', W3, hr, hO3, hB3⟩ := zeros_any W2 w.heap.size (256 + n) (1024 - n) g cap _ G2 (by have := K4.out; omega) E2.size (own_base G2 (by omega)) (1280 - (256 + (n : Int))) K3.out
  rw [K4.out] at hr hO3
  clear c5 r5 R1 R2 E1 B2 B2d G1 G2 hHeld RH BH z0 nW
  have hr' := hr 27
  clear hr
  go_wp2_with (at_builtin; refine wpList_append_go rfl (.tmp 22) (.tmp 25) 27 3 rfl _ _ rfl rfl hr' ?_)
  go_ret2
  exact ⟨g', cap', rfl, ((hO3.congr (fun j _ => cat_slot h n f j)).arg (by omega) (fun j _ => slotF_byte h n f HA.out.bytes j)).1, E2.trans hB3⟩
set_option maxRecDepth 100000 in
set_option maxHeartbeats 400000 in
theorem runwritten_no (n : Int) (w : World) (hn : isSl n = false) :
    Calls Tryd.prog 12 #[.int .i64 n] w fun e w' => e = .returned (.tuple #[.slice none 0 0, .int .i64 5]) ∧ w' = w := by
  by_cases h0 : n < 0
  · clear hn
    go_enter Tryd.func12, Tryd.ntmps12
    go_wp2
    go_ret2
    exact ⟨rfl, rfl⟩
  · have h1 : 16 ≤ n := by
      rw [Bool.eq_false_iff, Ne, isSl_iff] at hn
      omega
    clear hn
    go_enter Tryd.func12, Tryd.ntmps12
    go_wp2
    go_ret2
    exact ⟨rfl, rfl⟩
set_option maxRecDepth 100000 in
set_option maxHeartbeats 400000 in
theorem runwritten_ok (n : Int) (w : World) (hn : isSl n = true) :
    Calls Tryd.prog 12 #[.int .i64 n] w fun e w' => ∃ g cap, e = .returned (.tuple #[.slice (some ⟨g, 0, none⟩) 256 cap, .int .i64 0]) ∧ Arg w' (some ⟨g, 0, none⟩) 256 (unwF n) ∧ Below w.heap.size w w' := by
  obtain ⟨h0', h1'⟩ := isSl_iff.1 hn
  have h0 : ¬ n < 0 := by omega
  have h1 : ¬ 16 ≤ n := by omega
  have HN : Hid (isSl n = true) := hn
  clear hn h0' h1'
  go_enter Tryd.func12, Tryd.ntmps12
  go_wp2_with (first
    | (refine wpList_build_to rfl 26 _ rfl (hcs (unwH n)).toArray (by kernel_rfl) ?_)
    | (refine wpList_build_to rfl 29 _ rfl (msg (unwH n) none 0 0).toArray (by kernel_rfl) ?_)
    | (go_at_call 33; refine (nseal_ok (unwH n) none 0 0 (fun _ => 0) _ (by omega) (.inl ⟨rfl, .inl rfl⟩) (unw_words n) (unw_ok HN.out)).mono ?_; rintro e W1 ⟨v1, rfl, hO, hB⟩
       obtain ⟨g, cap, rfl, hO'⟩ := hO.cells' (by omega)
       have G1 : Hid (Arg W1 (some ⟨g, 0, none⟩) 256 (unwF n)) := (hO'.arg (by omega) (fun j hj => unwF_byte n j hj)).1
       clear hO hO'))
  go_ret2
  exact ⟨g, cap, rfl, G1.out, hB⟩
end Go.Proofs.YtfpgkckcifjkcaaDoor
