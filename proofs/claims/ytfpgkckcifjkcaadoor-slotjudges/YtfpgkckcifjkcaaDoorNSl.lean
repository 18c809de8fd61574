/-
  Walks, not a claim by itself: the reference's Seal of checksum, its slice told whole; its Seal of header. By the verifier.
-/
import Derived.Test.YtfpgkckcifjkcaaDoorHOpen
import Derived.Test.YtfpgkckcifjkcaaDoorNBeh2
import Derived.Test.YtfpgkckcifjkcaaDoorNChk
namespace Go.Proofs.YtfpgkckcifjkcaaDoor
open Go.RowKit
theorem Own.weak {w : World} {base base' n : Nat} {v : Value} {F : Nat → Int} (h : Own w base v n F) (hb : base' ≤ base) : Own w base' v n F := by
  refine ⟨h.1, ?_⟩
  rcases h.2 with h0 | ⟨g, cap, cur, hv, hb', rest⟩
  · exact .inl h0
  · exact .inr ⟨g, cap, cur, hv, Nat.le_trans hb hb', rest⟩
theorem Own.cells' {w : World} {base n : Nat} {v : Value} {F : Nat → Int} (h : Own w base v n F) (hn : 0 < n) : ∃ g cap, v = .slice (some ⟨g, 0, none⟩) n cap ∧ Own w base v n F := by
  rcases h.2 with ⟨_, h0⟩ | ⟨g, cap, cur, rfl, _⟩
  · omega
  · exact ⟨g, cap, rfl, h⟩
theorem Own.arg {w : World} {base n g cap : Nat} {F : Nat → Int} (h : Own w base (.slice (some ⟨g, 0, none⟩) n cap) n F) (hn : 0 < n) (hb : ∀ j, j < n → 0 ≤ F j ∧ F j < 256) : Arg w (some ⟨g, 0, none⟩) n F ∧ n ≤ cap := by
  obtain ⟨g', cap', hv, _, hc, hl⟩ := h.form hn hb
  injection hv with hv _ h3
  injection hv with hv
  injection hv with hv
  subst hv h3
  exact ⟨Arg.of hl, hc⟩
theorem hseal_pre2 (a : Option Addr) (n C : Nat) (f : Nat → Int) (w w1 : World) (hA0 : Arg w a n f) (hn : n ≤ 900000) (hB1 : Below w.heap.size w w1) : Hid (∀ W2 : World, IRow W2 w1.heap.size .u8 16 (sealF n f) → Below w1.heap.size w1 W2 → W2.heap.size = w1.heap.size + 1 → ∃ (v3 : Value) (W3 : World) (v4 : Value) (W4 : World), (Builtin.append_ #[27, 27] 27 #[.slice (some ⟨w1.heap.size + 1, 0, none⟩) 0 0, .slice (some ⟨w1.heap.size, 0, none⟩) 16 16]).run Tryd.prog (W2.alloc (.cells #[] 5)) = .ok v3 W3 ∧ (Builtin.append_ #[27, 27] 27 #[v3, .slice a n C]).run Tryd.prog W3 = .ok v4 W4 ∧ Hid (∃ g cap, v4 = .slice (some ⟨g, 0, none⟩) (16 + n) cap ∧ Own W4 w.heap.size v4 (16 + n) (sealedF n f) ∧ Below w.heap.size w W4)) := by
  intro W2 hR2 K2 hz
  have E2 : Below w.heap.size w W2 := hB1.trans (K2.mono hB1.size)
  obtain ⟨v3, W3, hr3, hO3, hB4⟩ := app_arg 27 (W2.alloc (.cells #[] 5)) W2.heap.size 0 16 16 _ (some ⟨w1.heap.size, 0, none⟩) (fun _ => 0) (sealF n f) (own0 W2 _ (Nat.le_refl _)) (Arg.of ((hR2.alloc _).lies (fun j _ => sealF_byte n f j))) (by omega) (by simp)
  have hO3' : Own W3 W2.heap.size v3 16 (sealF n f) := hO3.congr (fun j hj => by unfold cat; rw [if_neg (by omega), Nat.sub_zero])
  have K3 : Below W2.heap.size W2 W3 := ((Below.refl W2.heap.size W2).alloc (Nat.le_refl _) _).trans hB4
  have E3 : Below w.heap.size w W3 := E2.trans (K3.mono E2.size)
  obtain ⟨v4, W4, hr4, hO4, hB5⟩ := app_arg 27 W3 W2.heap.size 16 n C v3 a (sealF n f) f hO3' (hA0.below E3) (by omega) K3.size
  rw [cat_seal] at hO4
  obtain ⟨g, cap, rfl, hA⟩ := (hO4.weak E2.size).cells' (by omega)
  rw [hz] at hr3
  exact ⟨v3, W3, _, W4, hr3, hr4, g, cap, rfl, hA, E3.trans (hB5.mono E2.size)⟩
set_option maxRecDepth 100000 in
set_option maxHeartbeats 1000000 in
theorem hseal_own (a : Option Addr) (n C : Nat) (f : Nat → Int) (w : World) (h : Arg w a n f) (hn : n ≤ 900000) :
    Calls Tryd.prog 55 #[.slice a n C] w fun e w' => ∃ g cap, e = .returned (.slice (some ⟨g, 0, none⟩) (16 + n) cap) ∧ Own w' w.heap.size (.slice (some ⟨g, 0, none⟩) (16 + n) cap) (16 + n) (sealedF n f) ∧ Below w.heap.size w w' := by
  have HA : Hid (Arg w a n f) := h
  clear h
  go_enter Tryd.func55, Tryd.ntmps55
  go_wp2_with (first
    | (go_at_call 57; refine (hsum_any a n C f _ HA.out hn).mono ?_; rintro e w1 ⟨rfl, hB1⟩; have PR := hseal_pre2 a n C f w w1 HA.out hn hB1)
    | (refine wpList_alloc_row rfl 75 rfl .u8 16 w1.heap.size rfl zero8_16 ?_; intro W1 hR1 hB2 hz1)
    | (refine wpList_store_row rfl 75 (.tmp 3) _ rfl w1.heap.size .u8 16 (sealF n f) (fun _ => 0) rfl rfl hR1 (by kernel_rfl) ?_; intro W2 hR2 hB3 hz2; have hz3 := hz2.trans hz1; obtain ⟨v3, W3, v4, W4, hr3, hr4, HF⟩ := PR.out W2 hR2 (hB2.trans (hB3.below (Nat.le_refl _) (by omega))) hz3)
    | (at_builtin; refine wpList_append_go rfl (.tmp 6) (.tmp 7) 27 27 rfl _ _ rfl rfl hr3 ?_)
    | (at_builtin; refine wpList_append_go rfl (.tmp 8) (.tmp 9) 27 27 rfl _ _ rfl rfl hr4 ?_))
  obtain ⟨g, cap, rfl, hA, hE⟩ := HF.out
  exact bodyPost_ret (by simp [results, Tryd.results55, go_sem]) rfl ⟨g, cap, rfl, hA, hE⟩
theorem hcs_size (h : Nat → Int) (v : Int) : (hcs h).set 2 (.int .i64 v) = hcs (upd h 2 v) := rfl
theorem sealed_head (h : Nat → Int) (s : Nat → Int) (j : Nat) (hj : j < 256) : sealedF 240 (restF h s) j = headF h s j := by
  unfold sealedF
  by_cases e : j < 16
  · rw [if_pos e, headF_low _ _ _ e]; rfl
  · rw [if_neg e, headF_high _ _ _ (by omega)]
    unfold restF
    rw [show 16 + (j - 16) = j by omega]
theorem cat_msg (h : Nat → Int) (n : Nat) (f : Nat → Int) (j : Nat) : cat (sealedF 240 (restF h (sealF n f))) 256 f j = msgF h n f j := by
  unfold cat msgF
  by_cases e : j < 256
  · rw [if_pos e, if_pos e, sealed_head _ _ _ e]
  · rw [if_neg e, if_neg e]
theorem restF_byte (h s : Nat → Int) (hs : ∀ j, j < 16 → 0 ≤ s j ∧ s j < 256) (j : Nat) : 0 ≤ restF h s j ∧ restF h s j < 256 := innerF_byte h s hs _
set_option maxRecDepth 100000 in
set_option maxHeartbeats 400000 in
theorem nseal_long (h : Nat → Int) (a : Option Addr) (n C : Nat) (w : World) (hn : 1024 < n) :
    Calls Tryd.prog 33 #[.agg (msg h a n C).toArray] w fun e w' => e = .returned (.tuple #[.slice none 0 0, .int .i64 3]) ∧ Below w.heap.size w w' := by
  have e1 : (1024 : Int) < n := by omega
  go_enter Tryd.func33, Tryd.ntmps33
  go_wp2_with (refine wpList_box_rec rfl 29 (.tmp 0) rfl (msg h a n C) rfl w.heap.size rfl ?_; intro W0 R0 B0 z0; obtain ⟨c16, _⟩ := R0.at 16 _ (msg_body h a n C))
  go_ret2
  exact ⟨rfl, B0⟩
set_option maxRecDepth 100000 in
set_option maxHeartbeats 400000 in
theorem nseal_arg (h : Nat → Int) (a : Option Addr) (n C : Nat) (w : World) (hn : n ≤ 1024) (hk : okH (upd h 2 (n : Nat)) = false) :
    Calls Tryd.prog 33 #[.agg (msg h a n C).toArray] w fun e w' => e = .returned (.tuple #[.slice none 0 0, .int .i64 2]) ∧ Below w.heap.size w w' := by
  have e1 : ¬ (1024 : Int) < n := by omega
  obtain ⟨hh, hhe⟩ : ∃ x, upd h 2 ((n : Nat) : Int) = x := ⟨_, rfl⟩
  have HH : Hid (upd h 2 ((n : Nat) : Int) = hh) := hhe
  have CK : chk hh = 2 := by rw [← hhe]; unfold chk; rw [hk]; rfl
  clear hk hhe
  go_enter Tryd.func33, Tryd.ntmps33
  go_wp2_with (first
    | (refine wpList_box_rec rfl 29 (.tmp 0) rfl (msg h a n C) rfl w.heap.size rfl ?_; intro W0 R0 B0 z0
       obtain ⟨c16, _⟩ := R0.at 16 _ (msg_body h a n C))
    | (have _q := R0; clear _q; refine wpList_load_rec rfl 26 (.tmp 9) rfl w.heap.size 0 (hcs h) rfl _ Tryd.underlying26 rfl (by kernel_rfl) R0.head ?_)
    | (refine wpList_alloc_rec rfl 26 rfl (hcs fun _ => 0) (w.heap.size + 1) z0 zeroHdr ?_; intro W1 R1 B1 z1)
    | (refine wpList_store_rec rfl 26 (.tmp 4) (.tmp 10) rfl (w.heap.size + 1) 0 _ (hcs h) rfl rfl R1 rfl (by kernel_rfl) (hcs_one _) ?_; intro W2 R2 B2
       have F2 : Below (w.heap.size + 1) W0 W2 := B1.trans (B2.below (Nat.le_refl _) (by omega))
       have M2 : Rec19 W2 w.heap.size 0 (msg h a n C) := R0.below (by rw [z0]; exact F2)
       have E2 : Below w.heap.size w W2 := B0.trans (F2.mono (by omega))
       obtain ⟨d16, _⟩ := M2.at 16 _ (msg_body h a n C)
       obtain ⟨d2, f2⟩ := R2.at 2 (.int .i64 (h 2)) rfl
       have q3 := R2.set 2 (.int .i64 n) (by rw [hcs_len]; omega)
       rw [hcs_size, HH.out] at q3
       have H3 : Hid (Rec19 (W2.setCell ⟨w.heap.size + 1, 2, none⟩ (.int .i64 n)) (w.heap.size + 1) 0 (hcs hh)) := q3
       have M3 : Hid (Rec19 (W2.setCell ⟨w.heap.size + 1, 2, none⟩ (.int .i64 n)) w.heap.size 0 (msg h a n C)) := M2.but (But.set _ _ _) (by omega)
       have E3 : Hid (Below w.heap.size w (W2.setCell ⟨w.heap.size + 1, 2, none⟩ (.int .i64 n))) := E2.setCell (p := ⟨w.heap.size + 1, 2, none⟩) (Nat.le_succ _) _
       clear q3 F2 M2 E2 R0 B0 z0 R1 B1 z1 R2 B2 c16)
    | (have _q := H3; clear _q; refine wpList_load_rec rfl 26 (.tmp 4) rfl (w.heap.size + 1) 0 (hcs hh) rfl _ Tryd.underlying26 rfl (by kernel_rfl) H3.out ?_)
    | (go_at_call 54; refine (ncheck_any hh _).mono ?_; rintro e W4 ⟨rfl, hB4⟩; rw [CK]
       have H4 : Hid (Rec19 W4 (w.heap.size + 1) 0 (hcs hh)) := H3.out.below hB4
       have M4 : Hid (Rec19 W4 w.heap.size 0 (msg h a n C)) := M3.out.below hB4
       have E4 : Hid (Below w.heap.size w W4) := E3.out.trans (hB4.mono E3.out.size)
       clear hB4 H3 M3 E3 d16 d2 f2))
  go_ret2
  exact ⟨rfl, E4.out⟩
/-- An append's run. -/
theorem append_run {P : Program} {a : Act} {w : World} {o : Oper} (d x : Operand) (dT sT : TypeId) (hop : o.op = Op.call { callee := Callee.builtin Builtin.append, args := #[d, x], argTypes := #[dT, sT] })
    (v u : Value) (hd : a.eval d = v) (hx : a.eval x = u) {v' : Value} {w' : World} (hr : (Builtin.append_ #[dT, sT] o.type #[v, u]).run P w = .ok v' w') : (execOp a.eval o).run P w = .ok (.value v') w' := by
  simp [execOp, hop, resolve, invoke, builtin, hd, hx, hr, Result.andThen]
/-- What the last region must keep. -/
def nsS (w : World) (hh h : Nat → Int) (a : Option Addr) (n C : Nat) (f : Nat → Int) (W : World) : Prop := Rec19 W (w.heap.size + 1) 0 (hcs hh) ∧ Rec19 W w.heap.size 0 (msg h a n C) ∧ Arg W a n f ∧ Below w.heap.size w W
theorem nsS.below {w : World} {hh h : Nat → Int} {a : Option Addr} {n C : Nat} {f : Nat → Int} {W W' : World} (s : nsS w hh h a n C f W) (hB : Below W.heap.size W W') : nsS w hh h a n C f W' :=
  ⟨s.1.below hB, s.2.1.below hB, s.2.2.1.below hB, s.2.2.2.trans (hB.mono s.2.2.2.size)⟩
theorem nsS.upto {w : World} {hh h : Nat → Int} {a : Option Addr} {n C : Nat} {f : Nat → Int} {W W' : World} (s : nsS w hh h a n C f W) (hB : Below W.heap.size W W') : nsS w hh h a n C f W' := s.below hB
theorem nsS.held {w : World} {hh h : Nat → Int} {a : Option Addr} {n C : Nat} {f : Nat → Int} {W : World} (s : nsS w hh h a n C f W) : W.rangeAt (w.heap.size + 1) 0 (hcs hh) ∧ W.cell? ⟨w.heap.size, 16, none⟩ = some (.slice a n C) ∧ Hid (nsS w hh h a n C f W) :=
  ⟨s.1.1, (s.2.1.at 16 _ (msg_body h a n C)).1, s⟩
set_option maxRecDepth 100000 in
set_option maxHeartbeats 400000 in
theorem nseal_ok (h : Nat → Int) (a : Option Addr) (n C : Nat) (f : Nat → Int) (w : World) (hn : n ≤ 1024) (hA : Arg w a n f) (hW : Words h) (hk : okH (upd h 2 (n : Nat)) = true) :
    Calls Tryd.prog 33 #[.agg (msg h a n C).toArray] w fun e w' => ∃ v, e = .returned (.tuple #[v, .int .i64 0]) ∧ Own w' w.heap.size v (256 + n) (msgF (upd h 2 (n : Nat)) n f) ∧ Below w.heap.size w w' := by
  have e1 : ¬ (1024 : Int) < n := by omega
  obtain ⟨hh, hhe⟩ : ∃ x, upd h 2 ((n : Nat) : Int) = x := ⟨_, rfl⟩
  have HH : Hid (upd h 2 ((n : Nat) : Int) = hh) := hhe
  have CK : chk hh = 0 := by rw [← hhe]; unfold chk; rw [hk]; rfl
  have OK : Hid (okH hh = true) := (by rw [← hhe]; exact hk : okH hh = true)
  have HW : Hid (Words hh) := (by rw [← hhe]; exact hW.size _ : Words hh)
  have HA : Hid (Arg w a n f) := hA
  clear hA hW
  clear hk hhe
  go_enter Tryd.func33, Tryd.ntmps33
  go_wp2_with (first
    | (refine wpList_box_rec rfl 29 (.tmp 0) rfl (msg h a n C) rfl w.heap.size rfl ?_; intro W0 R0 B0 z0
       obtain ⟨c16, _⟩ := R0.at 16 _ (msg_body h a n C))
    | (have _q := R0; clear _q; refine wpList_load_rec rfl 26 (.tmp 9) rfl w.heap.size 0 (hcs h) rfl _ Tryd.underlying26 rfl (by kernel_rfl) R0.head ?_)
    | (refine wpList_alloc_rec rfl 26 rfl (hcs fun _ => 0) (w.heap.size + 1) z0 zeroHdr ?_; intro W1 R1 B1 z1)
    | (refine wpList_store_rec rfl 26 (.tmp 4) (.tmp 10) rfl (w.heap.size + 1) 0 _ (hcs h) rfl rfl R1 rfl (by kernel_rfl) (hcs_one _) ?_; intro W2 R2 B2
       have F2 : Below (w.heap.size + 1) W0 W2 := B1.trans (B2.below (Nat.le_refl _) (by omega))
       have M2 : Rec19 W2 w.heap.size 0 (msg h a n C) := R0.below (by rw [z0]; exact F2)
       have E2 : Below w.heap.size w W2 := B0.trans (F2.mono (by omega))
       obtain ⟨d16, _⟩ := M2.at 16 _ (msg_body h a n C)
       obtain ⟨d2, f2⟩ := R2.at 2 (.int .i64 (h 2)) rfl
       have q3 := R2.set 2 (.int .i64 n) (by rw [hcs_len]; omega)
       rw [hcs_size, HH.out] at q3
       have H3 : Hid (Rec19 (W2.setCell ⟨w.heap.size + 1, 2, none⟩ (.int .i64 n)) (w.heap.size + 1) 0 (hcs hh)) := q3
       have M3 : Hid (Rec19 (W2.setCell ⟨w.heap.size + 1, 2, none⟩ (.int .i64 n)) w.heap.size 0 (msg h a n C)) := M2.but (But.set _ _ _) (by omega)
       have E3 : Hid (Below w.heap.size w (W2.setCell ⟨w.heap.size + 1, 2, none⟩ (.int .i64 n))) := E2.setCell (p := ⟨w.heap.size + 1, 2, none⟩) (Nat.le_succ _) _
       clear q3 F2 M2 E2 R0 B0 z0 R1 B1 z1 R2 B2 c16)
    | (have _q := H3; clear _q; refine wpList_load_rec rfl 26 (.tmp 4) rfl (w.heap.size + 1) 0 (hcs hh) rfl _ Tryd.underlying26 rfl (by kernel_rfl) H3.out ?_)
    | (go_at_call 54; refine (ncheck_any hh _).mono ?_; rintro e W4 ⟨rfl, hB4⟩; rw [CK]
       have H4 : Hid (Rec19 W4 (w.heap.size + 1) 0 (hcs hh)) := H3.out.below hB4
       have M4 : Hid (Rec19 W4 w.heap.size 0 (msg h a n C)) := M3.out.below hB4
       have E4 : Hid (Below w.heap.size w W4) := E3.out.trans (hB4.mono E3.out.size)
       clear hB4 H3 M3 E3 d16 d2 f2))
  have S4 : nsS w hh h a n C f W4.drew := ⟨H4.out, M4.out, HA.out.below E4.out.drew, E4.out.drew⟩
  have h4 := S4.held
  clear S4 H4 M4 E4
  refine wp_region_noPanic ?_
  refine wp_region_held_drew (S := fun W => W.rangeAt (w.heap.size + 1) 0 (hcs hh) ∧ W.cell? ⟨w.heap.size, 16, none⟩ = some (.slice a n C) ∧ Hid (nsS w hh h a n C f W)) (by kernel_rfl) ?_ (fun hHeld => ?_)
  · exact h4
  refine take_at (i := 0) (v := _) (some 18) rfl rfl (by kernel_rfl) (by kernel_rfl) (by kernel_rfl) (fun _ _ _ h => h) (yieldsIf_load_mid (by rfl) _ _ rfl _ _ rfl _ _ (fun _ h => h.1) Tryd.underlying26 rfl (by kernel_rfl)) (by assumption) ?_
  simp only [Act.put, List.setIfInBounds_toArray, List.set_cons_zero, List.set_cons_succ]
  refine take_at (i := 1) (v := ?_) (some 19) rfl rfl (by kernel_rfl) (by kernel_rfl) (by kernel_rfl) (fun _ _ _ h => h) (Or.inl ⟨by rfl, ?_⟩) (by assumption) ?_
  rotate_left
  · (intro w hSw; (try dsimp only at hSw); go_simp; try with_reducible rfl)
  simp only [Act.put, List.setIfInBounds_toArray, List.set_cons_zero, List.set_cons_succ]
  refine take_at (i := 2) (v := ?_) (some 20) rfl rfl (by kernel_rfl) (by kernel_rfl) (by kernel_rfl) (fun _ _ _ h => h) (Or.inl ⟨by rfl, ?_⟩) (by assumption) ?_
  rotate_left
  · (intro w hSw; (try dsimp only at hSw); go_simp; try with_reducible rfl)
  simp only [Act.put, List.setIfInBounds_toArray, List.set_cons_zero, List.set_cons_succ]
  refine take_at (i := 6) (v := ?_) (some 24) rfl rfl (by kernel_rfl) (by kernel_rfl) (by kernel_rfl) (fun _ _ _ h => h) (Or.inl ⟨by rfl, ?_⟩) (by assumption) ?_
  rotate_left
  · (intro w hSw; (try dsimp only at hSw); go_simp; try with_reducible rfl)
  simp only [Act.put, List.setIfInBounds_toArray, List.set_cons_zero, List.set_cons_succ]
  refine take_at (i := 7) (v := ?_) (some 25) rfl rfl (by kernel_rfl) (by kernel_rfl) (by kernel_rfl) (fun _ _ _ h => h) (Or.inl ⟨by rfl, ?_⟩) (by assumption) ?_
  rotate_left
  · (intro w hSw; (try dsimp only at hSw); go_simp; try with_reducible rfl)
  simp only [Act.put, List.setIfInBounds_toArray, List.set_cons_zero, List.set_cons_succ]
  refine call_at (i := 3) (some 21) 57 _ _ rfl rfl rfl (by rfl) (by kernel_rfl) #[.slice a n C] rfl Tryd.func57 (by kernel_rfl) (by kernel_rfl) ?_
  refine (hsum_any a n C f _ h4.2.2.out.2.2.1 (by omega)).mono ?_; rintro e W5 ⟨rfl, hB5⟩; have h5 := (h4.2.2.out.below hB5).held
  refine ⟨_, rfl, h5, fun hHeld => ?_⟩
  simp only [Act.put, List.setIfInBounds_toArray, List.set_cons_zero, List.set_cons_succ]
  refine call_at (i := 4) (some 22) 56 _ _ rfl rfl rfl (by rfl) (by kernel_rfl) #[.agg (hcs hh).toArray, .agg (cl .u8 16 (sealF n f)).toArray] rfl Tryd.func56 (by kernel_rfl) (by kernel_rfl) ?_
  refine (nbehind_any hh (sealF n f) _ OK.out HW.out (fun j _ => sealF_byte _ _ j)).mono ?_; rintro e W6 ⟨g6, cap6, rfl, hO6, hg6, hB6⟩; have h6 := (h5.2.2.out.below hB6).held
  refine ⟨_, rfl, h6, fun hHeld => ?_⟩
  simp only [Act.put, List.setIfInBounds_toArray, List.set_cons_zero, List.set_cons_succ]
  refine call_at (i := 5) (some 23) 55 _ _ rfl rfl rfl (by rfl) (by kernel_rfl) #[.slice (some ⟨g6, 0, none⟩) 240 cap6] rfl Tryd.func55 (by kernel_rfl) (by kernel_rfl) ?_
  refine (hseal_own (some ⟨g6, 0, none⟩) 240 cap6 (restF hh (sealF n f)) _ (hO6.arg (by omega) (fun j _ => restF_byte _ _ (fun j _ => sealF_byte _ _ j) j)).1 (by omega)).mono ?_; rintro e W7 ⟨g7, cap7, rfl, hO7, hB7⟩; have h7 := (h6.2.2.out.below hB7).held; obtain ⟨v8, W8, hr8, hO8, hB8⟩ := app_arg 27 W7 W6.heap.size 256 n C (.slice (some ⟨g7, 0, none⟩) 256 cap7) a (sealedF 240 (restF hh (sealF n f))) f hO7 h7.2.2.out.2.2.1 (by omega) hB7.size; have h8 := (h6.2.2.out.below (hB7.trans hB8)).held
  refine ⟨_, rfl, h7, fun hHeld => ?_⟩
  simp only [Act.put, List.setIfInBounds_toArray, List.set_cons_zero, List.set_cons_succ]
  refine step_at (i := 8) (some 26) rfl rfl (by rfl) (by kernel_rfl) v8 W8 (append_run (.tmp 23) (.tmp 25) 27 27 rfl _ _ rfl rfl hr8) h8 (fun hHeld => ?_)
  simp only [Act.put, List.setIfInBounds_toArray, List.set_cons_zero, List.set_cons_succ]
  refine take_at (i := 9) (v := ?_) (some 2) rfl rfl (by kernel_rfl) (by kernel_rfl) (by kernel_rfl) (fun _ _ _ h => h) (Or.inl ⟨by rfl, ?_⟩) (by assumption) ?_
  rotate_left
  · (intro w hSw; (try dsimp only at hSw); go_simp; try with_reducible rfl)
  simp only [Act.put, List.setIfInBounds_toArray, List.set_cons_zero, List.set_cons_succ]
  refine take_at (i := 10) (v := ?_) (some 3) rfl rfl (by kernel_rfl) (by kernel_rfl) (by kernel_rfl) (fun _ _ _ h => h) (Or.inl ⟨by rfl, ?_⟩) (by assumption) ?_
  rotate_left
  · (intro w hSw; (try dsimp only at hSw); go_simp; try with_reducible rfl)
  simp only [Act.put, List.setIfInBounds_toArray, List.set_cons_zero, List.set_cons_succ]
  refine wpAnyH_done (by kernel_rfl) ?_ _
  refine NoPanic.normal ?_
  go_wp2_with fail
  refine bodyPost_ret (v := .tuple #[v8, .int .i64 0]) (by simp [results, Tryd.results33, go_sem]) rfl ⟨v8, rfl, ?_, h8.2.2.out.2.2.2⟩
  rw [HH.out]
  exact (hO8.weak (by have := h6.2.2.out.1.2.2; omega)).congr (fun j _ => cat_msg hh n f j)
end Go.Proofs.YtfpgkckcifjkcaaDoor
