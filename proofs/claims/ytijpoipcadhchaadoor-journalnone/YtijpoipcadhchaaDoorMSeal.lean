/-
  Walks, not a claim by itself: header.Seal. By the verifier.
-/
import Derived.Test.YtijpoipcadhchaaDoorMOf
namespace Go.Proofs.YtijpoipcadhchaaDoor
open Go.RowKit
/-- A parameter of several cells is boxed: the world behind it is a letter. -/
theorem wpList_box_rec {ops : Array Oper} {rest : List Oper} {op : Oper} {a : Act} {w : World} {Q : Exit → Act → World → Prop} (hgd : op.guard = none) (ty : TypeId) (x : Operand) (ho : op.op = .box ty x) (cs : List Value) (hx : a.eval x = .agg cs.toArray) (H : Nat) (hH : w.heap.size = H)
    (hK : ∀ W, Rec19 W H 0 cs → Below H w W → W.heap.size = H + 1 → wpList Tryd.prog ops Q rest (a.put op.dst (.pointer (some ⟨H, 0, none⟩))) W) : wpList Tryd.prog ops Q (op :: rest) a w := by
  subst hH
  refine wpList_plain hgd fun K hK' => ?_
  unfold Oper.wp execOp
  simp only [ho, hx]
  simp [Instr.box, newVar, newRow, Value.cells, Result.andThen]
  exact hK' _ _ (hK _ (Rec19.new w ty cs) ((Below.refl _ _).alloc (Nat.le_refl _) _) (by simp))
/-- The cells of a message. -/
def msg (h : Nat → Int) (a : Option Addr) (n C : Nat) : List Value := hcs h ++ [.slice a n C]
theorem msg_body (h : Nat → Int) (a : Option Addr) (n C : Nat) : (msg h a n C)[16]? = some (.slice a n C) := rfl
theorem msg_size (h : Nat → Int) (a : Option Addr) (n C : Nat) (v : Int) : (msg h a n C).set 2 (.int .i64 v) = msg (upd h 2 v) a n C := rfl
theorem msg_len (h : Nat → Int) (a : Option Addr) (n C : Nat) : (msg h a n C).length = 17 := rfl
theorem Rec19.head {W : World} {b : Nat} {h : Nat → Int} {a : Option Addr} {n C : Nat} (r : Rec19 W b 0 (msg h a n C)) : Rec19 W b 0 (hcs h) :=
  ⟨fun j v hj => r.1 j v (by unfold msg; rw [List.getElem?_append_left (by rw [List.getElem?_eq_some_iff] at hj; exact hj.1)]; exact hj), fun j hj => r.2.1 j (by rw [msg_len]; rw [hcs_len] at hj; omega), r.2.2⟩
/-- A message's bytes. -/
def msgF (h : Nat → Int) (n : Nat) (f : Nat → Int) (j : Nat) : Int := if j < 256 then headF h (sealF n f) j else f (j - 256)
/-- The words of a header. -/
def Words (h : Nat → Int) : Prop := Word (h 9) ∧ Word (h 10) ∧ Word (h 13)
theorem Words.size {h : Nat → Int} (hw : Words h) (v : Int) : Words (upd h 2 v) := hw
set_option maxRecDepth 100000 in
set_option maxHeartbeats 400000 in
theorem mseal_long (h : Nat → Int) (a : Option Addr) (n C : Nat) (w : World) (hn : 1024 < n) :
    Calls Tryd.prog 48 #[.agg (msg h a n C).toArray] w fun e w' => e = .returned (.tuple #[.slice none 0 0, .int .i64 3]) ∧ Below w.heap.size w w' := by
  have e1 : (1024 : Int) < n := by omega
  go_enter Tryd.func48, Tryd.ntmps48
  go_wp2_with (refine wpList_box_rec rfl 29 (.tmp 0) rfl (msg h a n C) rfl w.heap.size rfl ?_; intro W0 R0 B0 z0; obtain ⟨c16, _⟩ := R0.at 16 _ (msg_body h a n C))
  go_ret2
  exact ⟨rfl, B0⟩
set_option maxRecDepth 100000 in
set_option maxHeartbeats 400000 in
theorem mseal_arg (h : Nat → Int) (a : Option Addr) (n C : Nat) (w : World) (hn : n ≤ 1024) (hT : Tab w) (hk : okH (upd h 2 n) = false) :
    Calls Tryd.prog 48 #[.agg (msg h a n C).toArray] w fun e w' => e = .returned (.tuple #[.slice none 0 0, .int .i64 2]) ∧ Below w.heap.size w w' := by
  have hT0 := hT.2
  have TT : Hid (Tab w) := hT
  have CK : chk (upd h 2 n) = 2 := by unfold chk; rw [hk]; rfl
  clear hT hk
  have e1 : ¬ (1024 : Int) < n := by omega
  go_enter Tryd.func48, Tryd.ntmps48
  go_wp2_with (first
    | (refine wpList_box_rec rfl 29 (.tmp 0) rfl (msg h a n C) rfl w.heap.size rfl ?_; intro W0 R0 B0 z0
       obtain ⟨c16, _⟩ := R0.at 16 _ (msg_body h a n C)
       obtain ⟨c2, f2⟩ := R0.at 2 (.int .i64 (h 2)) rfl
       have R1 : Hid (Rec19 (W0.setCell ⟨w.heap.size, 2, none⟩ (.int .i64 n)) w.heap.size 0 (msg (upd h 2 n) a n C)) := (by rw [← msg_size]; exact R0.set 2 (.int .i64 n) (by rw [msg_len]; omega) : Rec19 (W0.setCell ⟨w.heap.size, 2, none⟩ (.int .i64 n)) w.heap.size 0 (msg (upd h 2 n) a n C))
       have B1 : Hid (Below w.heap.size w (W0.setCell ⟨w.heap.size, 2, none⟩ (.int .i64 n))) := B0.setCell (Nat.le_refl _) _
       clear R0 B0 z0)
    | (refine wpList_load_rec rfl 26 (.tmp 17) rfl w.heap.size 0 (hcs (upd h 2 n)) rfl _ Tryd.underlying26 rfl (by kernel_rfl) R1.out.head ?_)
    | (go_at_call 66; refine (check_any (upd h 2 n) _ (TT.out.below B1.out hT0)).mono ?_; rintro e w3 ⟨rfl, hB3⟩; rw [CK]; have E3 : Hid (Below w.heap.size w w3) := B1.out.trans (hB3.mono B1.out.size); clear hB3))
  go_ret2
  exact ⟨rfl, E3.out⟩
set_option maxRecDepth 100000 in
set_option maxHeartbeats 400000 in
theorem mseal_more (h : Nat → Int) (a : Option Addr) (n C : Nat) (f : Nat → Int) (w : World) (h0 : 0 < n) (hn : n ≤ 1024) (hT : Tab w) (hA : Arg w a n f) (hC : n ≤ C) (hW : Words h) (hk : okH (upd h 2 (n : Nat)) = true) :
    Calls Tryd.prog 48 #[.agg (msg h a n C).toArray] w fun e w' => ∃ g, e = .returned (.tuple #[.slice (some ⟨g, 0, none⟩) (256 + n) (256 + n), .int .i64 0]) ∧ w.heap.size ≤ g ∧ IRow w' g .u8 (256 + n) (msgF (upd h 2 (n : Nat)) n f) ∧ Below w.heap.size w w' := by
  have hT0 := hT.2
  have TW : Hid (Tab w) := hT
  have HA : Hid (Arg w a n f) := hA
  have CK : chk (upd h 2 (n : Nat)) = 0 := by unfold chk; rw [hk]; rfl
  have OK : Hid (okH (upd h 2 (n : Nat)) = true) := hk
  have HW : Hid (Words (upd h 2 (n : Nat))) := hW.size _
  clear hT hk hA hW
  generalize hh : upd h 2 ((n : Nat) : Int) = g at CK OK HW ⊢
  have HH : Hid (upd h 2 ((n : Nat) : Int) = g) := hh
  clear hh
  have e1 : ¬ (1024 : Int) < (n : Nat) := by omega
  have e2 : wrap64 (256 + ((n : Nat) : Int)) = 256 + ((n : Nat) : Int) := by unfold wrap64; omega
  go_enter Tryd.func48, Tryd.ntmps48
  go_wp2_with (first
    | (refine wpList_box_rec rfl 29 (.tmp 0) rfl (msg h a n C) rfl w.heap.size rfl ?_; intro W0 R0 B0 z0
       obtain ⟨c16, _⟩ := R0.at 16 _ (msg_body h a n C)
       obtain ⟨c2, f2⟩ := R0.at 2 (.int .i64 (h 2)) rfl
       have R1 : Hid (Rec19 (W0.setCell ⟨w.heap.size, 2, none⟩ (.int .i64 (n : Nat))) w.heap.size 0 (msg g a n C)) := (by rw [← HH.out, ← msg_size]; exact R0.set 2 (.int .i64 (n : Nat)) (by rw [msg_len]; omega) : Rec19 (W0.setCell ⟨w.heap.size, 2, none⟩ (.int .i64 (n : Nat))) w.heap.size 0 (msg g a n C))
       have B1 : Hid (Below w.heap.size w (W0.setCell ⟨w.heap.size, 2, none⟩ (.int .i64 (n : Nat)))) := B0.setCell (Nat.le_refl _) _
       clear R0 B0 z0)
    | (refine wpList_load_rec rfl 26 (.tmp 17) rfl w.heap.size 0 (hcs g) rfl _ Tryd.underlying26 rfl (by kernel_rfl) R1.out.head ?_)
    | (go_at_call 66; refine (check_any g _ (TW.out.below B1.out hT0)).mono ?_; rintro e w3 ⟨rfl, hB3⟩; rw [CK]
       have E3 : Hid (Below w.heap.size w w3) := B1.out.trans (hB3.mono B1.out.size)
       have R3 : Hid (Rec19 w3 w.heap.size 0 (msg g a n C)) := R1.out.below hB3
       clear hB3 R1 B1 c16 c2 f2)
    | (refine wpList_load_rec rfl 26 (.tmp 23) rfl w.heap.size 0 (hcs g) rfl _ Tryd.underlying26 rfl (by kernel_rfl) R3.out.head ?_)
    | (refine wpList_alloc_rec rfl 118 rfl (hcs fun _ => 0) w3.heap.size rfl zeroOwn ?_; intro W4 hR4 hB4 hz4)
    | (refine wpList_store_rec rfl 118 (.tmp 5) (.tmp 24) rfl w3.heap.size 0 _ (hcs g) rfl rfl hR4 rfl (by kernel_rfl) (hcs_one g) ?_; intro W5 hR5 hB5
       have F5 : Below w3.heap.size w3 W5 := hB4.trans (hB5.below (Nat.le_refl _) (by omega))
       have E5 : Below w.heap.size w W5 := E3.out.trans (F5.mono E3.out.size)
       have R5 : Rec19 W5 w.heap.size 0 (msg g a n C) := R3.out.below F5
       obtain ⟨d16, _⟩ := R5.at 16 _ (msg_body g a n C)
       have A5 : Hid (Arg W5 a n f) := HA.out.below E5)
    | (go_at_call 75; refine (sum_any a n C f _ A5.out hC (by omega)).mono ?_; rintro e W6 ⟨rfl, hB6⟩
       have E6 : Below w.heap.size w W6 := E5.trans (hB6.mono E5.size)
       have R6 : Rec19 W6 w.heap.size 0 (msg g a n C) := R5.below hB6
       have H6 : Rec19 W6 w3.heap.size 0 (hcs g) := hR5.below hB6
       have T6 : Tab W6 := TW.out.below E6 hT0)
    | (go_at_call 74; refine (own_bytes w3.heap.size g (sealF n f) _ T6 H6 OK.out HW.out.1 HW.out.2.1 HW.out.2.2 (fun j _ => sealF_byte _ _ j)).mono ?_; rintro e W7 ⟨rfl, hB7⟩
       have E7 : Below w.heap.size w W7 := E6.trans (hB7.mono E6.size)
       have R7 : Rec19 W7 w.heap.size 0 (msg g a n C) := R6.below hB7
       clear H6 T6 E6 R6 hB6 hB7 A5 E5 R5 F5 hR5 hR4 hB4 hz4 hB5 d16)
    | (refine wpList_alloc_row rfl 90 rfl .u8 256 W7.heap.size rfl zero8_256 ?_; intro W8 hR8 hB8 hz8)
    | (refine wpList_store_row rfl 90 (.tmp 6) (.tmp 28) rfl W7.heap.size .u8 256 (headF g (sealF n f)) (fun _ => 0) rfl rfl hR8 (by kernel_rfl) ?_; intro W9 hR9 hB9 hz9
       have F9 : Below W7.heap.size W7 W9 := hB8.trans (hB9.below (Nat.le_refl _) (by omega))
       have E9 : Below w.heap.size w W9 := E7.trans (F9.mono E7.size)
       have R9 : Rec19 W9 w.heap.size 0 (msg g a n C) := R7.below F9
       have z9 : W9.heap.size = W7.heap.size + 1 := by omega
       obtain ⟨d16, _⟩ := R9.at 16 _ (msg_body g a n C)
       clear F9 hB8 hB9 hR8 hz8 hz9 R7)
    | (refine wpList_make rfl (.tmp 32) (.tmp 32) rfl (256 + n) (W7.heap.size + 1) z9 _ rfl rfl (by omega) (by omega) ?_; intro X hRX hBX hzX))
  have S9 := hR9.below (by rw [z9]; exact hBX)
  have EX : Below w.heap.size w X := E9.trans (hBX.mono (by have := E7.size; omega))
  have RX : Rec19 X w.heap.size 0 (msg g a n C) := R9.below (by rw [z9]; exact hBX)
  obtain ⟨x16, _⟩ := RX.at 16 _ (msg_body g a n C)
  have z7 := E7.size
  obtain ⟨Y, hcY, hRY, hBY, hzY⟩ := copy_row X.drew (W7.heap.size + 1) (256 + n) 0 (256 + n) (256 + n) 256 256 256 (some ⟨W7.heap.size, 0, none⟩) (headF g (sealF n f)) (fun _ => 0) hRX.drew (by omega) (Nat.min_eq_left (by omega)).symm (Arg.of (S9.drew.lies (fun j _ => headF_byte g _ (fun j _ => sealF_byte _ _ j) j)))
  have EY : Below w.heap.size w Y := EX.drew.trans (hBY.below (by omega) EX.size)
  have RY : Rec19 Y w.heap.size 0 (msg g a n C) := (show Rec19 X.drew w.heap.size 0 (msg g a n C) from RX).but hBY (by have := R9.2.2; omega)
  obtain ⟨y16, _⟩ := RY.at 16 _ (msg_body g a n C)
  obtain ⟨Z, hcZ, hRZ, hBZ, hzZ⟩ := copy_row Y (W7.heap.size + 1) (256 + n) 256 n n n C n a f _ hRY (by omega) (Nat.min_self _).symm (HA.out.below EY)
  have EZ : Below w.heap.size w Z := EY.trans (hBZ.below (by omega) EY.size)
  have RZ : Rec19 Z w.heap.size 0 (msg g a n C) := RY.but hBZ (by have := R9.2.2; omega)
  obtain ⟨z16, _⟩ := RZ.at 16 _ (msg_body g a n C)
  clear R9 hBY hzY RY hBZ hzZ RZ RX EX EY S9 hRX hBX hzX hRY E9 hR9
  have hcY' : ∀ ty, (Builtin.copy_ #[27, 27] ty #[.slice (some ⟨W7.heap.size + 1, 0, none⟩) (256 + n) (256 + n), .slice (some ⟨W7.heap.size, 0, none⟩) 256 256]).run Tryd.prog X.drew = .ok (.int .i64 256) Y := hcY
  clear hcY
  have s0 : (256 : Int) ≤ ((256 + n : Nat) : Int) := by omega
  have s1 : ¬ 256 + n = 256 := by omega
  have s2 : 256 + n - 256 = n := by omega
  have s3 : ¬ n = 0 := by omega
  have s4 : ¬ 256 + (n : Int) < 256 := by omega
  refine wp_region_noPanic ?_
  refine wp_region_held_drew (S := fun w' => w'.cell? ⟨w.heap.size, 16, none⟩ = some (.slice a n C)) (by kernel_rfl) ?_ (fun hHeld => ?_)
  · exact x16
  refine take_at (i := 0) (v := ?_) (some 34) rfl rfl (by kernel_rfl) (by kernel_rfl) (by kernel_rfl) (fun _ _ _ h => h) (Or.inl ⟨by rfl, ?_⟩) (by assumption) ?_
  rotate_left
  · (intro w hSw; (try dsimp only at hSw); go_simp; try with_reducible rfl)
  simp only [Act.put, List.setIfInBounds_toArray, List.set_cons_zero, List.set_cons_succ]
  refine take_at (i := 1) (v := ?_) (some 35) rfl rfl (by kernel_rfl) (by kernel_rfl) (by kernel_rfl) (fun _ _ _ h => h) (Or.inl ⟨by rfl, ?_⟩) (by assumption) ?_
  rotate_left
  · (intro w hSw; (try dsimp only at hSw); go_simp; try with_reducible rfl)
  simp only [Act.put, List.setIfInBounds_toArray, List.set_cons_zero, List.set_cons_succ]
  refine take_at (i := 2) (v := ?_) (some 36) rfl rfl (by kernel_rfl) (by kernel_rfl) (by kernel_rfl) (fun _ _ _ h => h) (Or.inl ⟨by rfl, ?_⟩) (by assumption) ?_
  rotate_left
  · (intro w hSw; (try dsimp only at hSw); go_simp; try with_reducible rfl)
  simp only [Act.put, List.setIfInBounds_toArray, List.set_cons_zero, List.set_cons_succ]
  refine take_at (i := 5) (v := ?_) (some 39) rfl rfl (by kernel_rfl) (by kernel_rfl) (by kernel_rfl) (fun _ _ _ h => h) (Or.inl ⟨by rfl, ?_⟩) (by assumption) ?_
  rotate_left
  · (intro w hSw; (try dsimp only at hSw); go_simp; try with_reducible rfl)
  simp only [Act.put, List.setIfInBounds_toArray, List.set_cons_zero, List.set_cons_succ]
  refine take_at (i := 6) (v := ?_) (some 40) rfl rfl (by kernel_rfl) (by kernel_rfl) (by kernel_rfl) (fun _ _ _ h => h) (Or.inl ⟨by rfl, ?_⟩) (by assumption) ?_
  rotate_left
  · (intro w hSw; (try dsimp only at hSw); go_simp; try with_reducible rfl)
  simp only [Act.put, List.setIfInBounds_toArray, List.set_cons_zero, List.set_cons_succ]
  refine step_at (i := 3) (some 37) rfl rfl (by rfl) (by kernel_rfl) _ Y (copy_run (.tmp 35) (.tmp 36) 27 27 rfl _ _ rfl rfl (hcY' _)) y16 (fun hHeld => ?_)
  simp only [Act.put, List.setIfInBounds_toArray, List.set_cons_zero, List.set_cons_succ]
  refine step_at (i := 4) (some 38) rfl rfl (by rfl) (by kernel_rfl) (.slice (some ⟨W7.heap.size + 1, 256, none⟩) n n) Y (by go_simp) y16 (fun hHeld => ?_)
  simp only [Act.put, List.setIfInBounds_toArray, List.set_cons_zero, List.set_cons_succ]
  refine step_at (i := 7) (some 41) rfl rfl (by rfl) (by kernel_rfl) _ Z (copy_run (.tmp 38) (.tmp 40) 27 27 rfl _ _ rfl rfl (hcZ _)) z16 (fun hHeld => ?_)
  simp only [Act.put, List.setIfInBounds_toArray, List.set_cons_zero, List.set_cons_succ]
  refine wpAnyH_done (by kernel_rfl) ?_ _
  refine NoPanic.normal ?_
  go_wp2_with fail
  go_ret2
  refine ⟨W7.heap.size + 1, rfl, by omega, hRZ.congr (fun j hj => ?_), EZ⟩
  unfold msgF over
  by_cases q : j < 256
  · rw [if_neg (by omega), if_pos (by omega), if_pos q, Nat.sub_zero]
  · rw [if_pos (by omega), if_neg q]
set_option maxRecDepth 100000 in
set_option maxHeartbeats 400000 in
theorem mseal_none (h : Nat → Int) (a : Option Addr) (C : Nat) (f : Nat → Int) (w : World) (hT : Tab w) (hA : Arg w a 0 f) (hC : 0 ≤ C) (hW : Words h) (hk : okH (upd h 2 (0 : Nat)) = true) :
    Calls Tryd.prog 48 #[.agg (msg h a 0 C).toArray] w fun e w' => ∃ g, e = .returned (.tuple #[.slice (some ⟨g, 0, none⟩) (256 + 0) (256 + 0), .int .i64 0]) ∧ w.heap.size ≤ g ∧ IRow w' g .u8 (256 + 0) (msgF (upd h 2 (0 : Nat)) 0 f) ∧ Below w.heap.size w w' := by
  have hT0 := hT.2
  have TW : Hid (Tab w) := hT
  have HA : Hid (Arg w a 0 f) := hA
  have CK : chk (upd h 2 (0 : Nat)) = 0 := by unfold chk; rw [hk]; rfl
  have OK : Hid (okH (upd h 2 (0 : Nat)) = true) := hk
  have HW : Hid (Words (upd h 2 (0 : Nat))) := hW.size _
  clear hT hk hA hW
  generalize hh : upd h 2 ((0 : Nat) : Int) = g at CK OK HW ⊢
  have HH : Hid (upd h 2 ((0 : Nat) : Int) = g) := hh
  clear hh
  have e1 : ¬ (1024 : Int) < (0 : Nat) := by omega
  have e2 : wrap64 (256 + ((0 : Nat) : Int)) = 256 + ((0 : Nat) : Int) := by unfold wrap64; omega
  go_enter Tryd.func48, Tryd.ntmps48
  go_wp2_with (first
    | (refine wpList_box_rec rfl 29 (.tmp 0) rfl (msg h a 0 C) rfl w.heap.size rfl ?_; intro W0 R0 B0 z0
       obtain ⟨c16, _⟩ := R0.at 16 _ (msg_body h a 0 C)
       obtain ⟨c2, f2⟩ := R0.at 2 (.int .i64 (h 2)) rfl
       have R1 : Hid (Rec19 (W0.setCell ⟨w.heap.size, 2, none⟩ (.int .i64 (0 : Nat))) w.heap.size 0 (msg g a 0 C)) := (by rw [← HH.out, ← msg_size]; exact R0.set 2 (.int .i64 (0 : Nat)) (by rw [msg_len]; omega) : Rec19 (W0.setCell ⟨w.heap.size, 2, none⟩ (.int .i64 (0 : Nat))) w.heap.size 0 (msg g a 0 C))
       have B1 : Hid (Below w.heap.size w (W0.setCell ⟨w.heap.size, 2, none⟩ (.int .i64 (0 : Nat)))) := B0.setCell (Nat.le_refl _) _
       clear R0 B0 z0)
    | (refine wpList_load_rec rfl 26 (.tmp 17) rfl w.heap.size 0 (hcs g) rfl _ Tryd.underlying26 rfl (by kernel_rfl) R1.out.head ?_)
    | (go_at_call 66; refine (check_any g _ (TW.out.below B1.out hT0)).mono ?_; rintro e w3 ⟨rfl, hB3⟩; rw [CK]
       have E3 : Hid (Below w.heap.size w w3) := B1.out.trans (hB3.mono B1.out.size)
       have R3 : Hid (Rec19 w3 w.heap.size 0 (msg g a 0 C)) := R1.out.below hB3
       clear hB3 R1 B1 c16 c2 f2)
    | (refine wpList_load_rec rfl 26 (.tmp 23) rfl w.heap.size 0 (hcs g) rfl _ Tryd.underlying26 rfl (by kernel_rfl) R3.out.head ?_)
    | (refine wpList_alloc_rec rfl 118 rfl (hcs fun _ => 0) w3.heap.size rfl zeroOwn ?_; intro W4 hR4 hB4 hz4)
    | (refine wpList_store_rec rfl 118 (.tmp 5) (.tmp 24) rfl w3.heap.size 0 _ (hcs g) rfl rfl hR4 rfl (by kernel_rfl) (hcs_one g) ?_; intro W5 hR5 hB5
       have F5 : Below w3.heap.size w3 W5 := hB4.trans (hB5.below (Nat.le_refl _) (by omega))
       have E5 : Below w.heap.size w W5 := E3.out.trans (F5.mono E3.out.size)
       have R5 : Rec19 W5 w.heap.size 0 (msg g a 0 C) := R3.out.below F5
       obtain ⟨d16, _⟩ := R5.at 16 _ (msg_body g a 0 C)
       have A5 : Hid (Arg W5 a 0 f) := HA.out.below E5)
    | (go_at_call 75; refine (sum_any a 0 C f _ A5.out hC (by omega)).mono ?_; rintro e W6 ⟨rfl, hB6⟩
       have E6 : Below w.heap.size w W6 := E5.trans (hB6.mono E5.size)
       have R6 : Rec19 W6 w.heap.size 0 (msg g a 0 C) := R5.below hB6
       have H6 : Rec19 W6 w3.heap.size 0 (hcs g) := hR5.below hB6
       have T6 : Tab W6 := TW.out.below E6 hT0)
    | (go_at_call 74; refine (own_bytes w3.heap.size g (sealF 0 f) _ T6 H6 OK.out HW.out.1 HW.out.2.1 HW.out.2.2 (fun j _ => sealF_byte _ _ j)).mono ?_; rintro e W7 ⟨rfl, hB7⟩
       have E7 : Below w.heap.size w W7 := E6.trans (hB7.mono E6.size)
       have R7 : Rec19 W7 w.heap.size 0 (msg g a 0 C) := R6.below hB7
       clear H6 T6 E6 R6 hB6 hB7 A5 E5 R5 F5 hR5 hR4 hB4 hz4 hB5 d16)
    | (refine wpList_alloc_row rfl 90 rfl .u8 256 W7.heap.size rfl zero8_256 ?_; intro W8 hR8 hB8 hz8)
    | (refine wpList_store_row rfl 90 (.tmp 6) (.tmp 28) rfl W7.heap.size .u8 256 (headF g (sealF 0 f)) (fun _ => 0) rfl rfl hR8 (by kernel_rfl) ?_; intro W9 hR9 hB9 hz9
       have F9 : Below W7.heap.size W7 W9 := hB8.trans (hB9.below (Nat.le_refl _) (by omega))
       have E9 : Below w.heap.size w W9 := E7.trans (F9.mono E7.size)
       have R9 : Rec19 W9 w.heap.size 0 (msg g a 0 C) := R7.below F9
       have z9 : W9.heap.size = W7.heap.size + 1 := by omega
       obtain ⟨d16, _⟩ := R9.at 16 _ (msg_body g a 0 C)
       clear F9 hB8 hB9 hR8 hz8 hz9 R7)
    | (refine wpList_make rfl (.tmp 32) (.tmp 32) rfl (256 + 0) (W7.heap.size + 1) z9 _ rfl rfl (by omega) (by omega) ?_; intro X hRX hBX hzX))
  have S9 := hR9.below (by rw [z9]; exact hBX)
  have EX : Below w.heap.size w X := E9.trans (hBX.mono (by have := E7.size; omega))
  have RX : Rec19 X w.heap.size 0 (msg g a 0 C) := R9.below (by rw [z9]; exact hBX)
  obtain ⟨x16, _⟩ := RX.at 16 _ (msg_body g a 0 C)
  have z7 := E7.size
  obtain ⟨Y, hcY, hRY, hBY, hzY⟩ := copy_row X.drew (W7.heap.size + 1) (256 + 0) 0 (256 + 0) (256 + 0) 256 256 256 (some ⟨W7.heap.size, 0, none⟩) (headF g (sealF 0 f)) (fun _ => 0) hRX.drew (by omega) (Nat.min_eq_left (by omega)).symm (Arg.of (S9.drew.lies (fun j _ => headF_byte g _ (fun j _ => sealF_byte _ _ j) j)))
  have EY : Below w.heap.size w Y := EX.drew.trans (hBY.below (by omega) EX.size)
  have RY : Rec19 Y w.heap.size 0 (msg g a 0 C) := (show Rec19 X.drew w.heap.size 0 (msg g a 0 C) from RX).but hBY (by have := R9.2.2; omega)
  obtain ⟨y16, _⟩ := RY.at 16 _ (msg_body g a 0 C)
  obtain ⟨Z, hcZ, hRZ, hBZ, hzZ⟩ := copy_row Y (W7.heap.size + 1) (256 + 0) 0 0 0 0 C 0 a f _ hRY (by omega) (Nat.min_self _).symm (HA.out.below EY)
  have EZ : Below w.heap.size w Z := EY.trans (hBZ.below (by omega) EY.size)
  have RZ : Rec19 Z w.heap.size 0 (msg g a 0 C) := RY.but hBZ (by have := R9.2.2; omega)
  obtain ⟨z16, _⟩ := RZ.at 16 _ (msg_body g a 0 C)
  clear R9 hBY hzY RY hBZ hzZ RZ RX EX EY S9 hRX hBX hzX hRY E9 hR9
  have hcY' : ∀ ty, (Builtin.copy_ #[27, 27] ty #[.slice (some ⟨W7.heap.size + 1, 0, none⟩) (256 + 0) (256 + 0), .slice (some ⟨W7.heap.size, 0, none⟩) 256 256]).run Tryd.prog X.drew = .ok (.int .i64 256) Y := hcY
  clear hcY
  refine wp_region_noPanic ?_
  refine wp_region_held_drew (S := fun w' => w'.cell? ⟨w.heap.size, 16, none⟩ = some (.slice a 0 C)) (by kernel_rfl) ?_ (fun hHeld => ?_)
  · exact x16
  refine take_at (i := 0) (v := ?_) (some 34) rfl rfl (by kernel_rfl) (by kernel_rfl) (by kernel_rfl) (fun _ _ _ h => h) (Or.inl ⟨by rfl, ?_⟩) (by assumption) ?_
  rotate_left
  · (intro w hSw; (try dsimp only at hSw); go_simp; try with_reducible rfl)
  simp only [Act.put, List.setIfInBounds_toArray, List.set_cons_zero, List.set_cons_succ]
  refine take_at (i := 1) (v := ?_) (some 35) rfl rfl (by kernel_rfl) (by kernel_rfl) (by kernel_rfl) (fun _ _ _ h => h) (Or.inl ⟨by rfl, ?_⟩) (by assumption) ?_
  rotate_left
  · (intro w hSw; (try dsimp only at hSw); go_simp; try with_reducible rfl)
  simp only [Act.put, List.setIfInBounds_toArray, List.set_cons_zero, List.set_cons_succ]
  refine take_at (i := 2) (v := ?_) (some 36) rfl rfl (by kernel_rfl) (by kernel_rfl) (by kernel_rfl) (fun _ _ _ h => h) (Or.inl ⟨by rfl, ?_⟩) (by assumption) ?_
  rotate_left
  · (intro w hSw; (try dsimp only at hSw); go_simp; try with_reducible rfl)
  simp only [Act.put, List.setIfInBounds_toArray, List.set_cons_zero, List.set_cons_succ]
  refine take_at (i := 5) (v := ?_) (some 39) rfl rfl (by kernel_rfl) (by kernel_rfl) (by kernel_rfl) (fun _ _ _ h => h) (Or.inl ⟨by rfl, ?_⟩) (by assumption) ?_
  rotate_left
  · (intro w hSw; (try dsimp only at hSw); go_simp; try with_reducible rfl)
  simp only [Act.put, List.setIfInBounds_toArray, List.set_cons_zero, List.set_cons_succ]
  refine take_at (i := 6) (v := ?_) (some 40) rfl rfl (by kernel_rfl) (by kernel_rfl) (by kernel_rfl) (fun _ _ _ h => h) (Or.inl ⟨by rfl, ?_⟩) (by assumption) ?_
  rotate_left
  · (intro w hSw; (try dsimp only at hSw); go_simp; try with_reducible rfl)
  simp only [Act.put, List.setIfInBounds_toArray, List.set_cons_zero, List.set_cons_succ]
  refine step_at (i := 3) (some 37) rfl rfl (by rfl) (by kernel_rfl) _ Y (copy_run (.tmp 35) (.tmp 36) 27 27 rfl _ _ rfl rfl (hcY' _)) y16 (fun hHeld => ?_)
  simp only [Act.put, List.setIfInBounds_toArray, List.set_cons_zero, List.set_cons_succ]
  refine step_at (i := 4) (some 38) rfl rfl (by rfl) (by kernel_rfl) (.slice (some ⟨W7.heap.size + 1, 0, none⟩) 0 0) Y (by go_simp) y16 (fun hHeld => ?_)
  simp only [Act.put, List.setIfInBounds_toArray, List.set_cons_zero, List.set_cons_succ]
  refine step_at (i := 7) (some 41) rfl rfl (by rfl) (by kernel_rfl) _ Z (copy_run (.tmp 38) (.tmp 40) 27 27 rfl _ _ rfl rfl (hcZ _)) z16 (fun hHeld => ?_)
  simp only [Act.put, List.setIfInBounds_toArray, List.set_cons_zero, List.set_cons_succ]
  refine wpAnyH_done (by kernel_rfl) ?_ _
  refine NoPanic.normal ?_
  go_wp2_with fail
  go_ret2
  refine ⟨W7.heap.size + 1, rfl, by omega, hRZ.congr (fun j hj => ?_), EZ⟩
  unfold msgF over
  by_cases q : j < 256
  · rw [if_neg (by omega), if_pos (by omega), if_pos q, Nat.sub_zero]
  · omega
end Go.Proofs.YtijpoipcadhchaaDoor
