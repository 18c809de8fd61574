/-
  Walks, not a claim by itself: slot.Bytes and Unwritten. By the verifier.
-/
import Derived.Test.YtijpoipcadhchaaDoorOSlo
namespace Go.Proofs.YtijpoipcadhchaaDoor
open Go.RowKit
/-- A slot's bytes of a prepare. -/
def slotF (h : Nat → Int) (n : Nat) (f : Nat → Int) (j : Nat) : Int := if j < 256 + n then msgF (upd h 2 (n : Nat)) n f j else 0
theorem slot_over (h : Nat → Int) (n : Nat) (f : Nat → Int) (j : Nat) : over (fun _ => 0) 0 (256 + n) (msgF (upd h 2 (n : Nat)) n f) j = slotF h n f j := by
  unfold over slotF
  by_cases e : j < 256 + n
  · rw [if_pos e, if_pos ⟨Nat.zero_le _, by omega⟩, Nat.sub_zero]
  · rw [if_neg e, if_neg (by omega)]
theorem msgF_byte (h : Nat → Int) (n : Nat) (f : Nat → Int) (hf : ∀ j, j < n → 0 ≤ f j ∧ f j < 256) (j : Nat) (hj : j < 256 + n) : 0 ≤ msgF h n f j ∧ msgF h n f j < 256 := by
  unfold msgF
  by_cases e : j < 256
  · rw [if_pos e]; exact headF_byte h _ (fun j _ => sealF_byte _ _ j) j
  · rw [if_neg e]; exact hf _ (by omega)
theorem slotF_byte (h : Nat → Int) (n : Nat) (f : Nat → Int) (hf : ∀ j, j < n → 0 ≤ f j ∧ f j < 256) (j : Nat) : 0 ≤ slotF h n f j ∧ slotF h n f j < 256 := by
  unfold slotF
  by_cases e : j < 256 + n
  · rw [if_pos e]; exact msgF_byte _ n f hf j e
  · rw [if_neg e]; omega
set_option maxRecDepth 100000 in
set_option maxHeartbeats 400000 in
theorem sbytes_long (h : Nat → Int) (a : Option Addr) (n C : Nat) (w : World) (hn : 1024 < n) :
    Calls Tryd.prog 28 #[.agg (msg h a n C).toArray] w fun e w' => e = .returned (.tuple #[.slice none 0 0, .int .i64 3]) ∧ Below w.heap.size w w' := by
  go_enter Tryd.func28, Tryd.ntmps28
  go_wp2_with (first
    | (refine wpList_box_rec rfl 29 (.tmp 0) rfl (msg h a n C) rfl w.heap.size rfl ?_; intro W0 R0 B0 z0
       have RH : Hid (Rec19 W0 w.heap.size 0 (msg h a n C)) := R0
       have BH : Hid (Below w.heap.size w W0) := B0
       clear R0 B0)
    | (refine wpList_load_rec rfl 29 (.tmp 1) rfl w.heap.size 0 (msg h a n C) rfl _ Tryd.underlying29 rfl (by kernel_rfl) RH.out ?_)
    | (go_at_call 48; refine (mseal_long h a n C _ hn).mono ?_; rintro e W1 ⟨rfl, B1⟩))
  go_ret2
  exact ⟨rfl, BH.out.trans (B1.mono BH.out.size)⟩
set_option maxRecDepth 100000 in
set_option maxHeartbeats 400000 in
theorem sbytes_arg (h : Nat → Int) (a : Option Addr) (n C : Nat) (w : World) (hn : n ≤ 1024) (hT : Tab w) (hk : okH (upd h 2 n) = false) :
    Calls Tryd.prog 28 #[.agg (msg h a n C).toArray] w fun e w' => e = .returned (.tuple #[.slice none 0 0, .int .i64 2]) ∧ Below w.heap.size w w' := by
  have hT0 := hT.2
  have TT : Hid (Tab w) := hT
  have HK : Hid (okH (upd h 2 n) = false) := hk
  clear hT hk
  go_enter Tryd.func28, Tryd.ntmps28
  go_wp2_with (first
    | (refine wpList_box_rec rfl 29 (.tmp 0) rfl (msg h a n C) rfl w.heap.size rfl ?_; intro W0 R0 B0 z0
       have RH : Hid (Rec19 W0 w.heap.size 0 (msg h a n C)) := R0
       have BH : Hid (Below w.heap.size w W0) := B0
       clear R0 B0)
    | (refine wpList_load_rec rfl 29 (.tmp 1) rfl w.heap.size 0 (msg h a n C) rfl _ Tryd.underlying29 rfl (by kernel_rfl) RH.out ?_)
    | (go_at_call 48; refine (mseal_arg h a n C _ hn (TT.out.below BH.out hT0) HK.out).mono ?_; rintro e W1 ⟨rfl, B1⟩))
  go_ret2
  exact ⟨rfl, BH.out.trans (B1.mono BH.out.size)⟩
set_option maxRecDepth 100000 in
set_option maxHeartbeats 400000 in
theorem sbytes_not (h : Nat → Int) (a : Option Addr) (n C : Nat) (f : Nat → Int) (w : World) (hn : n ≤ 1024) (hT : Tab w) (hA : Arg w a n f) (hC : n ≤ C) (hW : Words h) (hk : okH (upd h 2 (n : Nat)) = true) (hp : isPrep h (ofI (h 5)) = false) :
    Calls Tryd.prog 28 #[.agg (msg h a n C).toArray] w fun e w' => e = .returned (.tuple #[.slice none 0 0, .int .i64 2]) ∧ Below w.heap.size w w' := by
  have hT0 := hT.2
  have TT : Hid (Tab w) := hT
  have HK : Hid (okH (upd h 2 (n : Nat)) = true) := hk
  have HA : Hid (Arg w a n f) := hA
  have HW : Hid (Words h) := hW
  have HP : Hid (isPrep h (ofI (h 5)) = false) := hp
  clear hT hk hA hW hp
  go_enter Tryd.func28, Tryd.ntmps28
  go_wp2_with (first
    | (refine wpList_box_rec rfl 29 (.tmp 0) rfl (msg h a n C) rfl w.heap.size rfl ?_; intro W0 R0 B0 z0
       have RH : Hid (Rec19 W0 w.heap.size 0 (msg h a n C)) := R0
       have BH : Hid (Below w.heap.size w W0) := B0
       clear R0 B0)
    | (refine wpList_load_rec rfl 29 (.tmp 1) rfl w.heap.size 0 (msg h a n C) rfl _ Tryd.underlying29 rfl (by kernel_rfl) RH.out ?_)
    | (go_at_call 48; refine (mseal_ok h a n C f _ hn (TT.out.below BH.out hT0) (HA.out.below BH.out) hC HW.out HK.out).mono ?_; rintro e W1 ⟨g, rfl, hg, hR, hB⟩
       have R1 : Rec19 W1 w.heap.size 0 (msg h a n C) := RH.out.below hB
       have E1 : Below w.heap.size w W1 := BH.out.trans (hB.mono BH.out.size)
       have G1 : Hid (IRow W1 g .u8 (256 + n) (msgF (upd h 2 (n : Nat)) n f)) := hR
       have c5 := (R1.at 5 (.int .i64 (h 5)) rfl).1
       have r5 := R1.head.1
       clear hB hR))
  refine wp_region_noPanic ?_
  refine wp_region_held_drew (S := fun W' => W'.cell? ⟨w.heap.size, 5, none⟩ = some (.int .i64 (h 5)) ∧ W'.rangeAt w.heap.size 0 (hcs h)) (by kernel_rfl) ?_ (fun hHeld => ?_)
  · exact ⟨c5, r5⟩
  refine take_at (i := 0) (v := ?_) (some 15) rfl rfl (by kernel_rfl) (by kernel_rfl) (by kernel_rfl) (fun _ _ _ h => h) (Or.inl ⟨by rfl, ?_⟩) (by assumption) ?_
  rotate_left
  · (intro w hSw; (try dsimp only at hSw); go_simp; try with_reducible rfl)
  simp only [Act.put, List.setIfInBounds_toArray, List.set_cons_zero, List.set_cons_succ]
  refine take_at (i := 1) (v := _) (some 16) rfl rfl (by kernel_rfl) (by kernel_rfl) (by kernel_rfl) (fun _ _ _ h => h) (yieldsIf_load_mid (by rfl) _ _ rfl _ _ rfl _ _ (fun _ h => h.2) Tryd.underlying26 rfl (by kernel_rfl)) (by assumption) ?_
  simp only [Act.put, List.setIfInBounds_toArray, List.set_cons_zero, List.set_cons_succ]
  refine take_at (i := 2) (v := ?_) (some 17) rfl rfl (by kernel_rfl) (by kernel_rfl) (by kernel_rfl) (fun _ _ _ h => h) (Or.inl ⟨by rfl, ?_⟩) (by assumption) ?_
  rotate_left
  · (intro w hSw; (try dsimp only at hSw); go_simp; try with_reducible rfl)
  simp only [Act.put, List.setIfInBounds_toArray, List.set_cons_zero, List.set_cons_succ]
  refine take_at (i := 3) (v := ?_) (some 18) rfl rfl (by kernel_rfl) (by kernel_rfl) (by kernel_rfl) (fun _ _ _ h => h) (Or.inl ⟨by rfl, ?_⟩) (by assumption) ?_
  rotate_left
  · (intro w hSw; (try dsimp only at hSw); go_simp; try with_reducible rfl)
  simp only [Act.put, List.setIfInBounds_toArray, List.set_cons_zero, List.set_cons_succ]
  refine take_at (i := 4) (v := ?_) (some 19) rfl rfl (by kernel_rfl) (by kernel_rfl) (by kernel_rfl) (fun _ _ _ h => h) (Or.inl ⟨by rfl, ?_⟩) (by assumption) ?_
  rotate_left
  · (intro w hSw; (try dsimp only at hSw); go_simp; try with_reducible rfl)
  simp only [Act.put, List.setIfInBounds_toArray, List.set_cons_zero, List.set_cons_succ]
  refine call_at (i := 5) (some 20) 21 _ _ rfl rfl rfl (by rfl) (by kernel_rfl) #[.int .i64 (h 5)] rfl Tryd.func21 (by kernel_rfl) (by kernel_rfl) ?_
  refine (of_any (h 5) _).mono ?_
  rintro e w3 ⟨rfl, rfl⟩
  refine ⟨_, rfl, hHeld, fun hHeld => ?_⟩
  simp only [Act.put, List.setIfInBounds_toArray, List.set_cons_zero, List.set_cons_succ]
  refine call_at (i := 6) (some 21) 44 _ _ rfl rfl rfl (by rfl) (by kernel_rfl) #[.agg (hcs h).toArray, .int .i64 (ofI (h 5))] rfl Tryd.func44 (by kernel_rfl) (by kernel_rfl) ?_
  refine (isPrepare_any h (ofI (h 5)) _).mono ?_
  rintro e W2 ⟨rfl, B2d⟩
  have z2 := R1.2.2
  have B2 : Below W1.heap.size W1 W2 := ((Below.refl W1.heap.size W1).drew).trans B2d
  have R2 : Rec19 W2 w.heap.size 0 (msg h a n C) := R1.below B2
  rw [HP.out]
  refine ⟨_, rfl, ⟨(R2.at 5 (.int .i64 (h 5)) rfl).1, R2.head.1⟩, fun hHeld => ?_⟩
  simp only [Act.put, List.setIfInBounds_toArray, List.set_cons_zero, List.set_cons_succ]
  refine take_at (i := 7) (v := ?_) (some 22) rfl rfl (by kernel_rfl) (by kernel_rfl) (by kernel_rfl) (fun _ _ _ h => h) (Or.inl ⟨by rfl, ?_⟩) (by assumption) ?_
  rotate_left
  · (intro w hSw; (try dsimp only at hSw); go_simp; try with_reducible rfl)
  simp only [Act.put, List.setIfInBounds_toArray, List.set_cons_zero, List.set_cons_succ]
  refine wpAnyH_done (by kernel_rfl) ?_ _
  refine NoPanic.normal ?_
  go_wp2_with fail
  go_ret2
  exact ⟨rfl, E1.trans (B2.mono E1.size)⟩
set_option maxRecDepth 100000 in
set_option maxHeartbeats 400000 in
theorem sbytes_ok (h : Nat → Int) (a : Option Addr) (n C : Nat) (f : Nat → Int) (w : World) (hn : n ≤ 1024) (hT : Tab w) (hA : Arg w a n f) (hC : n ≤ C) (hW : Words h) (hk : okH (upd h 2 (n : Nat)) = true) (hp : isPrep h (ofI (h 5)) = true) :
    Calls Tryd.prog 28 #[.agg (msg h a n C).toArray] w fun e w' => ∃ g, e = .returned (.tuple #[.slice (some ⟨g, 0, none⟩) 1280 1280, .int .i64 0]) ∧ w.heap.size ≤ g ∧ IRow w' g .u8 1280 (slotF h n f) ∧ Below w.heap.size w w' := by
  have hT0 := hT.2
  have TT : Hid (Tab w) := hT
  have HK : Hid (okH (upd h 2 (n : Nat)) = true) := hk
  have HA : Hid (Arg w a n f) := hA
  have HW : Hid (Words h) := hW
  have HP : Hid (isPrep h (ofI (h 5)) = true) := hp
  clear hT hk hA hW hp
  go_enter Tryd.func28, Tryd.ntmps28
  go_wp2_with (first
    | (refine wpList_box_rec rfl 29 (.tmp 0) rfl (msg h a n C) rfl w.heap.size rfl ?_; intro W0 R0 B0 z0
       have RH : Hid (Rec19 W0 w.heap.size 0 (msg h a n C)) := R0
       have BH : Hid (Below w.heap.size w W0) := B0
       clear R0 B0)
    | (refine wpList_load_rec rfl 29 (.tmp 1) rfl w.heap.size 0 (msg h a n C) rfl _ Tryd.underlying29 rfl (by kernel_rfl) RH.out ?_)
    | (go_at_call 48; refine (mseal_ok h a n C f _ hn (TT.out.below BH.out hT0) (HA.out.below BH.out) hC HW.out HK.out).mono ?_; rintro e W1 ⟨g, rfl, hg, hR, hB⟩
       have R1 : Rec19 W1 w.heap.size 0 (msg h a n C) := RH.out.below hB
       have E1 : Below w.heap.size w W1 := BH.out.trans (hB.mono BH.out.size)
       have G1 : Hid (IRow W1 g .u8 (256 + n) (msgF (upd h 2 (n : Nat)) n f)) := hR
       have c5 := (R1.at 5 (.int .i64 (h 5)) rfl).1
       have r5 := R1.head.1
       clear hB hR))
  refine wp_region_noPanic ?_
  refine wp_region_held_drew (S := fun W' => W'.cell? ⟨w.heap.size, 5, none⟩ = some (.int .i64 (h 5)) ∧ W'.rangeAt w.heap.size 0 (hcs h)) (by kernel_rfl) ?_ (fun hHeld => ?_)
  · exact ⟨c5, r5⟩
  refine take_at (i := 0) (v := ?_) (some 15) rfl rfl (by kernel_rfl) (by kernel_rfl) (by kernel_rfl) (fun _ _ _ h => h) (Or.inl ⟨by rfl, ?_⟩) (by assumption) ?_
  rotate_left
  · (intro w hSw; (try dsimp only at hSw); go_simp; try with_reducible rfl)
  simp only [Act.put, List.setIfInBounds_toArray, List.set_cons_zero, List.set_cons_succ]
  refine take_at (i := 1) (v := _) (some 16) rfl rfl (by kernel_rfl) (by kernel_rfl) (by kernel_rfl) (fun _ _ _ h => h) (yieldsIf_load_mid (by rfl) _ _ rfl _ _ rfl _ _ (fun _ h => h.2) Tryd.underlying26 rfl (by kernel_rfl)) (by assumption) ?_
  simp only [Act.put, List.setIfInBounds_toArray, List.set_cons_zero, List.set_cons_succ]
  refine take_at (i := 2) (v := ?_) (some 17) rfl rfl (by kernel_rfl) (by kernel_rfl) (by kernel_rfl) (fun _ _ _ h => h) (Or.inl ⟨by rfl, ?_⟩) (by assumption) ?_
  rotate_left
  · (intro w hSw; (try dsimp only at hSw); go_simp; try with_reducible rfl)
  simp only [Act.put, List.setIfInBounds_toArray, List.set_cons_zero, List.set_cons_succ]
  refine take_at (i := 3) (v := ?_) (some 18) rfl rfl (by kernel_rfl) (by kernel_rfl) (by kernel_rfl) (fun _ _ _ h => h) (Or.inl ⟨by rfl, ?_⟩) (by assumption) ?_
  rotate_left
  · (intro w hSw; (try dsimp only at hSw); go_simp; try with_reducible rfl)
  simp only [Act.put, List.setIfInBounds_toArray, List.set_cons_zero, List.set_cons_succ]
  refine take_at (i := 4) (v := ?_) (some 19) rfl rfl (by kernel_rfl) (by kernel_rfl) (by kernel_rfl) (fun _ _ _ h => h) (Or.inl ⟨by rfl, ?_⟩) (by assumption) ?_
  rotate_left
  · (intro w hSw; (try dsimp only at hSw); go_simp; try with_reducible rfl)
  simp only [Act.put, List.setIfInBounds_toArray, List.set_cons_zero, List.set_cons_succ]
  refine call_at (i := 5) (some 20) 21 _ _ rfl rfl rfl (by rfl) (by kernel_rfl) #[.int .i64 (h 5)] rfl Tryd.func21 (by kernel_rfl) (by kernel_rfl) ?_
  refine (of_any (h 5) _).mono ?_
  rintro e w3 ⟨rfl, rfl⟩
  refine ⟨_, rfl, hHeld, fun hHeld => ?_⟩
  simp only [Act.put, List.setIfInBounds_toArray, List.set_cons_zero, List.set_cons_succ]
  refine call_at (i := 6) (some 21) 44 _ _ rfl rfl rfl (by rfl) (by kernel_rfl) #[.agg (hcs h).toArray, .int .i64 (ofI (h 5))] rfl Tryd.func44 (by kernel_rfl) (by kernel_rfl) ?_
  refine (isPrepare_any h (ofI (h 5)) _).mono ?_
  rintro e W2 ⟨rfl, B2d⟩
  have z2 := R1.2.2
  have B2 : Below W1.heap.size W1 W2 := ((Below.refl W1.heap.size W1).drew).trans B2d
  have R2 : Rec19 W2 w.heap.size 0 (msg h a n C) := R1.below B2
  rw [HP.out]
  refine ⟨_, rfl, ⟨(R2.at 5 (.int .i64 (h 5)) rfl).1, R2.head.1⟩, fun hHeld => ?_⟩
  simp only [Act.put, List.setIfInBounds_toArray, List.set_cons_zero, List.set_cons_succ]
  refine take_at (i := 7) (v := ?_) (some 22) rfl rfl (by kernel_rfl) (by kernel_rfl) (by kernel_rfl) (fun _ _ _ h => h) (Or.inl ⟨by rfl, ?_⟩) (by assumption) ?_
  rotate_left
  · (intro w hSw; (try dsimp only at hSw); go_simp; try with_reducible rfl)
  simp only [Act.put, List.setIfInBounds_toArray, List.set_cons_zero, List.set_cons_succ]
  refine wpAnyH_done (by kernel_rfl) ?_ _
  refine NoPanic.normal ?_
  have E2 : Below w.heap.size w W2 := E1.trans (B2.mono E1.size)
  have G2 : Hid (IRow W2 g .u8 (256 + n) (msgF (upd h 2 (n : Nat)) n f)) := G1.out.below B2
  clear c5 r5 R1 R2 E1 B2 B2d G1 hHeld RH BH z0 z2
  go_wp2_with (first
    | (refine wpList_make rfl (.const (.int .i64 1280)) (.const (.int .i64 1280)) rfl 1280 W2.heap.size rfl _ rfl rfl (by omega) (by omega) ?_; intro X hRX hBX hzX
       have GX := G2.out.below hBX
       obtain ⟨Y, hcY, hRY, hBY, hzY⟩ := copy_row X W2.heap.size 1280 0 1280 1280 (256 + n) (256 + n) (256 + n) (some ⟨g, 0, none⟩) (msgF (upd h 2 (n : Nat)) n f) (fun _ => 0) hRX (by omega) (Nat.min_eq_left (by omega)).symm (Arg.of (GX.lies (msgF_byte _ n f HA.out.bytes))))
    | (refine wpList_copy_go rfl (.tmp 24) (.tmp 25) 27 27 rfl _ _ rfl rfl hcY ?_))
  go_ret2
  exact ⟨W2.heap.size, rfl, E2.size, hRY.congr (fun j _ => slot_over h n f j), E2.trans ((hBX.mono E2.size).trans (hBY.below E2.size (by have := E2.size; omega)))⟩
end Go.Proofs.YtijpoipcadhchaaDoor
