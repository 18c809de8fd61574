/-
  Walks, not a claim by itself: slot.Judge. By the verifier.
-/
import Derived.Test.YtijpoipcadhchaaDoorOFnh
namespace Go.Proofs.YtijpoipcadhchaaDoor
open Go.RowKit
/-- What stays while a slot is judged. -/
def jS (w : World) (p : Nat) (H P : List Value) (W : World) : Prop := Rec19 W w.heap.size 0 (ss 0 0 0 false) ∧ Rec19 W p 0 H ∧ Rec19 W (p + 1) 0 P ∧ Below w.heap.size w W
theorem jS.below {w : World} {p : Nat} {H P : List Value} {W W' : World} (s : jS w p H P W) (hB : Below W.heap.size W W') : jS w p H P W' :=
  ⟨s.1.below hB, s.2.1.below hB, s.2.2.1.below hB, s.2.2.2.trans (hB.mono s.2.2.2.size)⟩
/-- noughts answers as it should. -/
def NgOk (a : Option Addr) (n C : Nat) (f : Nat → Int) : Prop := ∀ W, Arg W a n f → Calls Tryd.prog 73 #[.slice a n C] W fun e w' => e = .returned (.bool (zeroN n f)) ∧ Below W.heap.size W w'
/-- findHead and findPrepare answer so. -/
def FhIs (a : Option Addr) (n C : Nat) (f : Nat → Int) (k : Int) (H : List Value) : Prop := ∀ W, Tab W → Arg W a n f → Calls Tryd.prog 68 #[.slice a n C, .int .i64 k] W fun e w' => e = .returned (.agg H.toArray) ∧ Below W.heap.size W w'
def FpIs (a : Option Addr) (n C : Nat) (f : Nat → Int) (k : Int) (H : List Value) : Prop := ∀ W, Tab W → Arg W a n f → Calls Tryd.prog 69 #[.slice a n C, .int .i64 k] W fun e w' => e = .returned (.agg H.toArray) ∧ Below W.heap.size W w'
/-- The parameters of Judge. -/
structure JArg (a : Option Addr) (n C : Nat) (f : Nat → Int) (a' : Option Addr) (n' C' : Nat) (f' : Nat → Int) (w : World) : Prop where
  tab : Tab w
  arg : Arg w a n f
  arg' : Arg w a' n' f'
theorem JArg.below {a : Option Addr} {n C : Nat} {f : Nat → Int} {a' : Option Addr} {n' C' : Nat} {f' : Nat → Int} {w W : World} (h : JArg a n C f a' n' C' f' w) (hB : Below w.heap.size w W) : JArg a n C f a' n' C' f' W := ⟨h.tab.below hB h.tab.2, h.arg.below hB, h.arg'.below hB⟩
set_option maxRecDepth 100000 in
set_option maxHeartbeats 400000 in
theorem judge_no (a a' : Option Addr) (n C n' C' : Nat) (k : Int) (w : World) (hk : isSl k = false) :
    Calls Tryd.prog 47 #[.slice a n C, .slice a' n' C', .int .i64 k] w fun e w' => e = .returned (.agg (ss 0 0 0 false).toArray) ∧ Below w.heap.size w w' := by
  have HK : Hid (isSl k = false) := hk
  clear hk
  go_enter Tryd.func47, Tryd.ntmps47
  go_wp2_with (first
    | (refine wpList_alloc_rec rfl 34 rfl (ss 0 0 0 false) w.heap.size rfl zeroSs ?_; intro W1 hR1 hB1 hz1)
    | (go_at_call 67; refine (isSlot_any k _).mono ?_; rintro e w3 ⟨rfl, rfl⟩; rw [HK.out])
    | (refine wpList_build_to rfl 34 _ rfl (ss 0 0 0 false).toArray (by kernel_rfl) ?_)
    | (refine wpList_store_rec rfl 34 (.tmp 6) (.tmp 12) rfl w.heap.size 0 _ (ss 0 0 0 false) rfl rfl hR1 rfl (by kernel_rfl) (ss_one _ _ _ _) ?_; intro W9 hR9 hB9))
  have hl := hR9.run_load 34 _ Tryd.underlying34 rfl (by kernel_rfl)
  refine bodyPost_ret (v := .agg (ss 0 0 0 false).toArray) (by simp [results, Tryd.results47, asAddr, Act.put, hl]) rfl ⟨rfl, ?_⟩
  exact hB1.trans (hB9.below (Nat.le_refl _) (by omega))
set_option maxRecDepth 100000 in
set_option maxHeartbeats 1000000 in
theorem judge_same (a a' : Option Addr) (n C n' C' : Nat) (f f' : Nat → Int) (k : Int) (w : World) (y z y' z' : Int) (F G : Nat → Int) (hj : JArg a n C f a' n' C' f' w) (hk : isSl k = true) (hh : FhIs a n C f k (fnd 2 y z F)) (hp : FpIs a' n' C' f' k (fnd 2 y' z' G)) (hF : ∀ j, j < 256 → 0 ≤ F j ∧ F j < 256) (hG : ∀ j, j < 256 → 0 ≤ G j ∧ G j < 256) (he : txtN 256 F = txtN 256 G) :
    Calls Tryd.prog 47 #[.slice a n C, .slice a' n' C', .int .i64 k] w fun e w' => e = .returned (.agg (ss 1 y' z' false).toArray) ∧ Below w.heap.size w w' := by
  have HK : Hid (isSl k = true) := hk
  have HJ : Hid (JArg a n C f a' n' C' f' w) := hj
  have HH : Hid (FhIs a n C f k (fnd 2 y z F)) := hh
  have HP : Hid (FpIs a' n' C' f' k (fnd 2 y' z' G)) := hp
  clear hk hj hh hp
  have HF : Hid (∀ j, j < 256 → 0 ≤ F j ∧ F j < 256) := hF
  have HG : Hid (∀ j, j < 256 → 0 ≤ G j ∧ G j < 256) := hG
  clear hF hG
  have HE : Hid (decide (txtN 256 F = txtN 256 G) = true) := (decide_eq_true he : _)
  clear he
  have T0 : Hid True := trivial
  go_enter Tryd.func47, Tryd.ntmps47
  go_wp2_with (first
    | (have _q := T0; clear _q; refine wpList_alloc_rec rfl 34 rfl (ss 0 0 0 false) w.heap.size rfl zeroSs ?_; intro W1 hR1 hB1 hz1
       have R1 : Hid (Rec19 W1 w.heap.size 0 (ss 0 0 0 false)) := hR1
       have B1 : Hid (Below w.heap.size w W1) := hB1
       clear hR1 hB1 hz1 T0)
    | (have _q := B1; clear _q; go_at_call 67; refine (isSlot_any k _).mono ?_; rintro e w3 ⟨rfl, rfl⟩; rw [HK.out])
    | (have _q := B1; clear _q; go_at_call 68; refine (HH.out _ (HJ.out.below B1.out).tab (HJ.out.below B1.out).arg).mono ?_; rintro e W2 ⟨rfl, hB2⟩
       have R2 : Hid (Rec19 W2 w.heap.size 0 (ss 0 0 0 false)) := R1.out.below hB2
       have B2 : Hid (Below w.heap.size w W2) := B1.out.trans (hB2.mono B1.out.size)
       clear hB2 R1 B1)
    | (have _q := B2; clear _q; go_at_call 69; refine (HP.out _ (HJ.out.below B2.out).tab (HJ.out.below B2.out).arg').mono ?_; rintro e W3 ⟨rfl, hB3⟩
       have R3 : Hid (Rec19 W3 w.heap.size 0 (ss 0 0 0 false)) := R2.out.below hB3
       have B3 : Hid (Below w.heap.size w W3) := B2.out.trans (hB3.mono B2.out.size)
       have T3 : Hid True := trivial
       clear hB3 R2 B2)
    | (have _q := T3; clear _q; refine wpList_alloc_rec rfl 114 rfl (fnd 0 0 0 (fun _ => 0)) W3.heap.size rfl zeroFnd ?_; intro V1 r1 b1 z1
       clear T3)
    | (have _q := z1; clear _q; refine wpList_alloc_rec rfl 114 rfl (fnd 0 0 0 (fun _ => 0)) (W3.heap.size + 1) z1 zeroFnd ?_; intro V2 r2 b2 z2
       have q1 := r1.below (by rw [z1]; exact b2)
       have T4 : Hid (W3.heap.size + 2 = V2.heap.size) := z2.symm
       have B4 : Hid (Below W3.heap.size W3 V2) := b1.trans (b2.mono (by omega))
       clear z1 r1 b1 b2 z2)
    | (have _q := T4; clear _q; refine wpList_store_rec rfl 114 (.tmp 7) (.tmp 15) rfl W3.heap.size 0 _ (fnd 2 y z F) rfl rfl q1 (by simp only [fnd_len]) (fnd_info _ _ _ _) (fnd_one _ _ _ _) ?_; intro V3 r3 b3
       have q2 := r2.but b3 (by omega)
       have B5 : Hid (Below W3.heap.size W3 V3) := B4.out.trans (b3.below (Nat.le_refl _) B4.out.size)
       clear B4 T4 b3 r2 q1)
    | (have _q := B5; clear _q; refine wpList_store_rec rfl 114 (.tmp 8) (.tmp 18) rfl (W3.heap.size + 1) 0 _ (fnd 2 y' z' G) rfl rfl q2 (by simp only [fnd_len]) (fnd_info _ _ _ _) (fnd_one _ _ _ _) ?_; intro W4 r4 b4
       have F4 : Below W3.heap.size W3 W4 := B5.out.trans (b4.below (by omega) B5.out.size)
       have N4 : Hid (w.heap.size < W3.heap.size) := R3.out.2.2
       have S4 : Hid (jS w W3.heap.size (fnd 2 y z F) (fnd 2 y' z' G) W4) := ⟨R3.out.below F4, r3.but b4 (by omega), r4, B3.out.trans (F4.mono B3.out.size)⟩
       have c7 : W4.cell? ⟨W3.heap.size, 0, none⟩ = some (.int .i64 2) := (S4.out.2.1.at 0 _ rfl).1
       have c8 : W4.cell? ⟨W3.heap.size + 1, 0, none⟩ = some (.int .i64 2) := (S4.out.2.2.1.at 0 _ rfl).1
       clear F4 B5 r3 r4 b4 q2 R3 B3)
    | (have _q := S4; clear _q; refine wpList_load_w (by rfl) 114 (.tmp 7) rfl W3.heap.size 0 (fnd 2 y z F) rfl _ Tryd.underlying114 rfl (fnd_info _ _ _ _) S4.out.2.1 ?_)
    | (have _q := S4; clear _q; refine wpList_load_w (by rfl) 114 (.tmp 8) rfl (W3.heap.size + 1) 0 (fnd 2 y' z' G) rfl _ Tryd.underlying114 rfl (fnd_info _ _ _ _) S4.out.2.2.1 ?_)
    | (have _q := S4; clear _q; go_at_call 70; refine (same_found 2 y z 2 y' z' F G _ HF.out HG.out).mono ?_; rintro e W5 ⟨rfl, hB⟩; rw [HE.out]
       have S5 : Hid (jS w W3.heap.size (fnd 2 y z F) (fnd 2 y' z' G) W5) := S4.out.below hB
       clear hB S4 c7 c8
       have c7 : W5.cell? ⟨W3.heap.size, 0, none⟩ = some (.int .i64 2) := (S5.out.2.1.at 0 _ rfl).1
       have c8 : W5.cell? ⟨W3.heap.size + 1, 0, none⟩ = some (.int .i64 2) := (S5.out.2.2.1.at 0 _ rfl).1)
    | (have _q := S5; clear _q; refine wpList_load_w (by rfl) 114 (.tmp 7) rfl W3.heap.size 0 (fnd 2 y z F) rfl _ Tryd.underlying114 rfl (fnd_info _ _ _ _) S5.out.2.1 ?_)
    | (have _q := S5; clear _q; refine wpList_load_w (by rfl) 114 (.tmp 8) rfl (W3.heap.size + 1) 0 (fnd 2 y' z' G) rfl _ Tryd.underlying114 rfl (fnd_info _ _ _ _) S5.out.2.2.1 ?_)
    | (have _q := S5; clear _q; go_at_call 71; refine (state_found 2 y' z' 1 false G _).mono ?_; rintro e W6 ⟨rfl, hB⟩
       have S6 : Hid (jS w W3.heap.size (fnd 2 y z F) (fnd 2 y' z' G) W6) := S5.out.below hB
       clear hB S5 c7 c8
       have c7 : W6.cell? ⟨W3.heap.size, 0, none⟩ = some (.int .i64 2) := (S6.out.2.1.at 0 _ rfl).1
       have c8 : W6.cell? ⟨W3.heap.size + 1, 0, none⟩ = some (.int .i64 2) := (S6.out.2.2.1.at 0 _ rfl).1)
    | (have _q := S6; clear _q; refine wpList_store_rec rfl 34 (.tmp 6) (.tmp 35) rfl w.heap.size 0 _ (ss 1 y' z' false) rfl rfl S6.out.1 rfl (by kernel_rfl) (ss_one _ _ _ _) ?_; intro W9 hR9 hB9))
  have hl := hR9.run_load 34 _ Tryd.underlying34 rfl (by kernel_rfl)
  refine bodyPost_ret (v := .agg (ss 1 y' z' false).toArray) (by simp [results, Tryd.results47, asAddr, Act.put, hl]) rfl ⟨rfl, S6.out.2.2.2.trans (hB9.below (Nat.le_refl _) S6.out.2.2.2.size)⟩
set_option maxRecDepth 100000 in
set_option maxHeartbeats 1000000 in
theorem judge_older (a a' : Option Addr) (n C n' C' : Nat) (f f' : Nat → Int) (k : Int) (w : World) (y z y' z' : Int) (F G : Nat → Int) (hj : JArg a n C f a' n' C' f' w) (hk : isSl k = true) (hh : FhIs a n C f k (fnd 2 y z F)) (hp : FpIs a' n' C' f' k (fnd 2 y' z' G)) (hF : ∀ j, j < 256 → 0 ≤ F j ∧ F j < 256) (hG : ∀ j, j < 256 → 0 ≤ G j ∧ G j < 256) (he : ¬ txtN 256 F = txtN 256 G) (ho : olderB y z y' z' = true) :
    Calls Tryd.prog 47 #[.slice a n C, .slice a' n' C', .int .i64 k] w fun e w' => e = .returned (.agg (ss 1 y' z' true).toArray) ∧ Below w.heap.size w w' := by
  have HK : Hid (isSl k = true) := hk
  have HJ : Hid (JArg a n C f a' n' C' f' w) := hj
  have HH : Hid (FhIs a n C f k (fnd 2 y z F)) := hh
  have HP : Hid (FpIs a' n' C' f' k (fnd 2 y' z' G)) := hp
  clear hk hj hh hp
  have HF : Hid (∀ j, j < 256 → 0 ≤ F j ∧ F j < 256) := hF
  have HG : Hid (∀ j, j < 256 → 0 ≤ G j ∧ G j < 256) := hG
  clear hF hG
  have HE : Hid (decide (txtN 256 F = txtN 256 G) = false) := (decide_eq_false he : _)
  clear he
  have HO : Hid (olderB y z y' z' = true) := ho
  clear ho
  have T0 : Hid True := trivial
  go_enter Tryd.func47, Tryd.ntmps47
  go_wp2_with (first
    | (have _q := T0; clear _q; refine wpList_alloc_rec rfl 34 rfl (ss 0 0 0 false) w.heap.size rfl zeroSs ?_; intro W1 hR1 hB1 hz1
       have R1 : Hid (Rec19 W1 w.heap.size 0 (ss 0 0 0 false)) := hR1
       have B1 : Hid (Below w.heap.size w W1) := hB1
       clear hR1 hB1 hz1 T0)
    | (have _q := B1; clear _q; go_at_call 67; refine (isSlot_any k _).mono ?_; rintro e w3 ⟨rfl, rfl⟩; rw [HK.out])
    | (have _q := B1; clear _q; go_at_call 68; refine (HH.out _ (HJ.out.below B1.out).tab (HJ.out.below B1.out).arg).mono ?_; rintro e W2 ⟨rfl, hB2⟩
       have R2 : Hid (Rec19 W2 w.heap.size 0 (ss 0 0 0 false)) := R1.out.below hB2
       have B2 : Hid (Below w.heap.size w W2) := B1.out.trans (hB2.mono B1.out.size)
       clear hB2 R1 B1)
    | (have _q := B2; clear _q; go_at_call 69; refine (HP.out _ (HJ.out.below B2.out).tab (HJ.out.below B2.out).arg').mono ?_; rintro e W3 ⟨rfl, hB3⟩
       have R3 : Hid (Rec19 W3 w.heap.size 0 (ss 0 0 0 false)) := R2.out.below hB3
       have B3 : Hid (Below w.heap.size w W3) := B2.out.trans (hB3.mono B2.out.size)
       have T3 : Hid True := trivial
       clear hB3 R2 B2)
    | (have _q := T3; clear _q; refine wpList_alloc_rec rfl 114 rfl (fnd 0 0 0 (fun _ => 0)) W3.heap.size rfl zeroFnd ?_; intro V1 r1 b1 z1
       clear T3)
    | (have _q := z1; clear _q; refine wpList_alloc_rec rfl 114 rfl (fnd 0 0 0 (fun _ => 0)) (W3.heap.size + 1) z1 zeroFnd ?_; intro V2 r2 b2 z2
       have q1 := r1.below (by rw [z1]; exact b2)
       have T4 : Hid (W3.heap.size + 2 = V2.heap.size) := z2.symm
       have B4 : Hid (Below W3.heap.size W3 V2) := b1.trans (b2.mono (by omega))
       clear z1 r1 b1 b2 z2)
    | (have _q := T4; clear _q; refine wpList_store_rec rfl 114 (.tmp 7) (.tmp 15) rfl W3.heap.size 0 _ (fnd 2 y z F) rfl rfl q1 (by simp only [fnd_len]) (fnd_info _ _ _ _) (fnd_one _ _ _ _) ?_; intro V3 r3 b3
       have q2 := r2.but b3 (by omega)
       have B5 : Hid (Below W3.heap.size W3 V3) := B4.out.trans (b3.below (Nat.le_refl _) B4.out.size)
       clear B4 T4 b3 r2 q1)
    | (have _q := B5; clear _q; refine wpList_store_rec rfl 114 (.tmp 8) (.tmp 18) rfl (W3.heap.size + 1) 0 _ (fnd 2 y' z' G) rfl rfl q2 (by simp only [fnd_len]) (fnd_info _ _ _ _) (fnd_one _ _ _ _) ?_; intro W4 r4 b4
       have F4 : Below W3.heap.size W3 W4 := B5.out.trans (b4.below (by omega) B5.out.size)
       have N4 : Hid (w.heap.size < W3.heap.size) := R3.out.2.2
       have S4 : Hid (jS w W3.heap.size (fnd 2 y z F) (fnd 2 y' z' G) W4) := ⟨R3.out.below F4, r3.but b4 (by omega), r4, B3.out.trans (F4.mono B3.out.size)⟩
       have c7 : W4.cell? ⟨W3.heap.size, 0, none⟩ = some (.int .i64 2) := (S4.out.2.1.at 0 _ rfl).1
       have c8 : W4.cell? ⟨W3.heap.size + 1, 0, none⟩ = some (.int .i64 2) := (S4.out.2.2.1.at 0 _ rfl).1
       clear F4 B5 r3 r4 b4 q2 R3 B3)
    | (have _q := S4; clear _q; refine wpList_load_w (by rfl) 114 (.tmp 7) rfl W3.heap.size 0 (fnd 2 y z F) rfl _ Tryd.underlying114 rfl (fnd_info _ _ _ _) S4.out.2.1 ?_)
    | (have _q := S4; clear _q; refine wpList_load_w (by rfl) 114 (.tmp 8) rfl (W3.heap.size + 1) 0 (fnd 2 y' z' G) rfl _ Tryd.underlying114 rfl (fnd_info _ _ _ _) S4.out.2.2.1 ?_)
    | (have _q := S4; clear _q; go_at_call 70; refine (same_found 2 y z 2 y' z' F G _ HF.out HG.out).mono ?_; rintro e W5 ⟨rfl, hB⟩; rw [HE.out]
       have S5 : Hid (jS w W3.heap.size (fnd 2 y z F) (fnd 2 y' z' G) W5) := S4.out.below hB
       clear hB S4 c7 c8
       have c7 : W5.cell? ⟨W3.heap.size, 0, none⟩ = some (.int .i64 2) := (S5.out.2.1.at 0 _ rfl).1
       have c8 : W5.cell? ⟨W3.heap.size + 1, 0, none⟩ = some (.int .i64 2) := (S5.out.2.2.1.at 0 _ rfl).1)
    | (have _q := S5; clear _q; refine wpList_load_w (by rfl) 114 (.tmp 7) rfl W3.heap.size 0 (fnd 2 y z F) rfl _ Tryd.underlying114 rfl (fnd_info _ _ _ _) S5.out.2.1 ?_)
    | (have _q := S5; clear _q; refine wpList_load_w (by rfl) 114 (.tmp 8) rfl (W3.heap.size + 1) 0 (fnd 2 y' z' G) rfl _ Tryd.underlying114 rfl (fnd_info _ _ _ _) S5.out.2.2.1 ?_)
    | (have _q := S5; clear _q; go_at_call 72; refine (older_found 2 y z 2 y' z' F G _).mono ?_; rintro e W6 ⟨rfl, hB⟩; rw [HO.out]
       have S6 : Hid (jS w W3.heap.size (fnd 2 y z F) (fnd 2 y' z' G) W6) := S5.out.below hB
       clear hB S5 c7 c8
       have c7 : W6.cell? ⟨W3.heap.size, 0, none⟩ = some (.int .i64 2) := (S6.out.2.1.at 0 _ rfl).1
       have c8 : W6.cell? ⟨W3.heap.size + 1, 0, none⟩ = some (.int .i64 2) := (S6.out.2.2.1.at 0 _ rfl).1)
    | (have _q := S6; clear _q; refine wpList_load_w (by rfl) 114 (.tmp 7) rfl W3.heap.size 0 (fnd 2 y z F) rfl _ Tryd.underlying114 rfl (fnd_info _ _ _ _) S6.out.2.1 ?_)
    | (have _q := S6; clear _q; refine wpList_load_w (by rfl) 114 (.tmp 8) rfl (W3.heap.size + 1) 0 (fnd 2 y' z' G) rfl _ Tryd.underlying114 rfl (fnd_info _ _ _ _) S6.out.2.2.1 ?_)
    | (have _q := S6; clear _q; go_at_call 71; refine (state_found 2 y' z' 1 true G _).mono ?_; rintro e W7 ⟨rfl, hB⟩
       have S7 : Hid (jS w W3.heap.size (fnd 2 y z F) (fnd 2 y' z' G) W7) := S6.out.below hB
       clear hB S6 c7 c8
       have c7 : W7.cell? ⟨W3.heap.size, 0, none⟩ = some (.int .i64 2) := (S7.out.2.1.at 0 _ rfl).1
       have c8 : W7.cell? ⟨W3.heap.size + 1, 0, none⟩ = some (.int .i64 2) := (S7.out.2.2.1.at 0 _ rfl).1)
    | (have _q := S7; clear _q; refine wpList_store_rec rfl 34 (.tmp 6) (.tmp 51) rfl w.heap.size 0 _ (ss 1 y' z' true) rfl rfl S7.out.1 rfl (by kernel_rfl) (ss_one _ _ _ _) ?_; intro W9 hR9 hB9))
  have hl := hR9.run_load 34 _ Tryd.underlying34 rfl (by kernel_rfl)
  refine bodyPost_ret (v := .agg (ss 1 y' z' true).toArray) (by simp [results, Tryd.results47, asAddr, Act.put, hl]) rfl ⟨rfl, S7.out.2.2.2.trans (hB9.below (Nat.le_refl _) S7.out.2.2.2.size)⟩
set_option maxRecDepth 100000 in
set_option maxHeartbeats 1000000 in
theorem judge_other (a a' : Option Addr) (n C n' C' : Nat) (f f' : Nat → Int) (k : Int) (w : World) (y z y' z' : Int) (F G : Nat → Int) (hj : JArg a n C f a' n' C' f' w) (hk : isSl k = true) (hh : FhIs a n C f k (fnd 2 y z F)) (hp : FpIs a' n' C' f' k (fnd 2 y' z' G)) (hF : ∀ j, j < 256 → 0 ≤ F j ∧ F j < 256) (hG : ∀ j, j < 256 → 0 ≤ G j ∧ G j < 256) (he : ¬ txtN 256 F = txtN 256 G) (ho : olderB y z y' z' = false) :
    Calls Tryd.prog 47 #[.slice a n C, .slice a' n' C', .int .i64 k] w fun e w' => e = .returned (.agg (ss 3 y z false).toArray) ∧ Below w.heap.size w w' := by
  have HK : Hid (isSl k = true) := hk
  have HJ : Hid (JArg a n C f a' n' C' f' w) := hj
  have HH : Hid (FhIs a n C f k (fnd 2 y z F)) := hh
  have HP : Hid (FpIs a' n' C' f' k (fnd 2 y' z' G)) := hp
  clear hk hj hh hp
  have HF : Hid (∀ j, j < 256 → 0 ≤ F j ∧ F j < 256) := hF
  have HG : Hid (∀ j, j < 256 → 0 ≤ G j ∧ G j < 256) := hG
  clear hF hG
  have HE : Hid (decide (txtN 256 F = txtN 256 G) = false) := (decide_eq_false he : _)
  clear he
  have HO : Hid (olderB y z y' z' = false) := ho
  clear ho
  have T0 : Hid True := trivial
  go_enter Tryd.func47, Tryd.ntmps47
  go_wp2_with (first
    | (have _q := T0; clear _q; refine wpList_alloc_rec rfl 34 rfl (ss 0 0 0 false) w.heap.size rfl zeroSs ?_; intro W1 hR1 hB1 hz1
       have R1 : Hid (Rec19 W1 w.heap.size 0 (ss 0 0 0 false)) := hR1
       have B1 : Hid (Below w.heap.size w W1) := hB1
       clear hR1 hB1 hz1 T0)
    | (have _q := B1; clear _q; go_at_call 67; refine (isSlot_any k _).mono ?_; rintro e w3 ⟨rfl, rfl⟩; rw [HK.out])
    | (have _q := B1; clear _q; go_at_call 68; refine (HH.out _ (HJ.out.below B1.out).tab (HJ.out.below B1.out).arg).mono ?_; rintro e W2 ⟨rfl, hB2⟩
       have R2 : Hid (Rec19 W2 w.heap.size 0 (ss 0 0 0 false)) := R1.out.below hB2
       have B2 : Hid (Below w.heap.size w W2) := B1.out.trans (hB2.mono B1.out.size)
       clear hB2 R1 B1)
    | (have _q := B2; clear _q; go_at_call 69; refine (HP.out _ (HJ.out.below B2.out).tab (HJ.out.below B2.out).arg').mono ?_; rintro e W3 ⟨rfl, hB3⟩
       have R3 : Hid (Rec19 W3 w.heap.size 0 (ss 0 0 0 false)) := R2.out.below hB3
       have B3 : Hid (Below w.heap.size w W3) := B2.out.trans (hB3.mono B2.out.size)
       have T3 : Hid True := trivial
       clear hB3 R2 B2)
    | (have _q := T3; clear _q; refine wpList_alloc_rec rfl 114 rfl (fnd 0 0 0 (fun _ => 0)) W3.heap.size rfl zeroFnd ?_; intro V1 r1 b1 z1
       clear T3)
    | (have _q := z1; clear _q; refine wpList_alloc_rec rfl 114 rfl (fnd 0 0 0 (fun _ => 0)) (W3.heap.size + 1) z1 zeroFnd ?_; intro V2 r2 b2 z2
       have q1 := r1.below (by rw [z1]; exact b2)
       have T4 : Hid (W3.heap.size + 2 = V2.heap.size) := z2.symm
       have B4 : Hid (Below W3.heap.size W3 V2) := b1.trans (b2.mono (by omega))
       clear z1 r1 b1 b2 z2)
    | (have _q := T4; clear _q; refine wpList_store_rec rfl 114 (.tmp 7) (.tmp 15) rfl W3.heap.size 0 _ (fnd 2 y z F) rfl rfl q1 (by simp only [fnd_len]) (fnd_info _ _ _ _) (fnd_one _ _ _ _) ?_; intro V3 r3 b3
       have q2 := r2.but b3 (by omega)
       have B5 : Hid (Below W3.heap.size W3 V3) := B4.out.trans (b3.below (Nat.le_refl _) B4.out.size)
       clear B4 T4 b3 r2 q1)
    | (have _q := B5; clear _q; refine wpList_store_rec rfl 114 (.tmp 8) (.tmp 18) rfl (W3.heap.size + 1) 0 _ (fnd 2 y' z' G) rfl rfl q2 (by simp only [fnd_len]) (fnd_info _ _ _ _) (fnd_one _ _ _ _) ?_; intro W4 r4 b4
       have F4 : Below W3.heap.size W3 W4 := B5.out.trans (b4.below (by omega) B5.out.size)
       have N4 : Hid (w.heap.size < W3.heap.size) := R3.out.2.2
       have S4 : Hid (jS w W3.heap.size (fnd 2 y z F) (fnd 2 y' z' G) W4) := ⟨R3.out.below F4, r3.but b4 (by omega), r4, B3.out.trans (F4.mono B3.out.size)⟩
       have c7 : W4.cell? ⟨W3.heap.size, 0, none⟩ = some (.int .i64 2) := (S4.out.2.1.at 0 _ rfl).1
       have c8 : W4.cell? ⟨W3.heap.size + 1, 0, none⟩ = some (.int .i64 2) := (S4.out.2.2.1.at 0 _ rfl).1
       clear F4 B5 r3 r4 b4 q2 R3 B3)
    | (have _q := S4; clear _q; refine wpList_load_w (by rfl) 114 (.tmp 7) rfl W3.heap.size 0 (fnd 2 y z F) rfl _ Tryd.underlying114 rfl (fnd_info _ _ _ _) S4.out.2.1 ?_)
    | (have _q := S4; clear _q; refine wpList_load_w (by rfl) 114 (.tmp 8) rfl (W3.heap.size + 1) 0 (fnd 2 y' z' G) rfl _ Tryd.underlying114 rfl (fnd_info _ _ _ _) S4.out.2.2.1 ?_)
    | (have _q := S4; clear _q; go_at_call 70; refine (same_found 2 y z 2 y' z' F G _ HF.out HG.out).mono ?_; rintro e W5 ⟨rfl, hB⟩; rw [HE.out]
       have S5 : Hid (jS w W3.heap.size (fnd 2 y z F) (fnd 2 y' z' G) W5) := S4.out.below hB
       clear hB S4 c7 c8
       have c7 : W5.cell? ⟨W3.heap.size, 0, none⟩ = some (.int .i64 2) := (S5.out.2.1.at 0 _ rfl).1
       have c8 : W5.cell? ⟨W3.heap.size + 1, 0, none⟩ = some (.int .i64 2) := (S5.out.2.2.1.at 0 _ rfl).1)
    | (have _q := S5; clear _q; refine wpList_load_w (by rfl) 114 (.tmp 7) rfl W3.heap.size 0 (fnd 2 y z F) rfl _ Tryd.underlying114 rfl (fnd_info _ _ _ _) S5.out.2.1 ?_)
    | (have _q := S5; clear _q; refine wpList_load_w (by rfl) 114 (.tmp 8) rfl (W3.heap.size + 1) 0 (fnd 2 y' z' G) rfl _ Tryd.underlying114 rfl (fnd_info _ _ _ _) S5.out.2.2.1 ?_)
    | (have _q := S5; clear _q; go_at_call 72; refine (older_found 2 y z 2 y' z' F G _).mono ?_; rintro e W6 ⟨rfl, hB⟩; rw [HO.out]
       have S6 : Hid (jS w W3.heap.size (fnd 2 y z F) (fnd 2 y' z' G) W6) := S5.out.below hB
       clear hB S5 c7 c8
       have c7 : W6.cell? ⟨W3.heap.size, 0, none⟩ = some (.int .i64 2) := (S6.out.2.1.at 0 _ rfl).1
       have c8 : W6.cell? ⟨W3.heap.size + 1, 0, none⟩ = some (.int .i64 2) := (S6.out.2.2.1.at 0 _ rfl).1)
    | (have _q := S6; clear _q; refine wpList_load_w (by rfl) 114 (.tmp 7) rfl W3.heap.size 0 (fnd 2 y z F) rfl _ Tryd.underlying114 rfl (fnd_info _ _ _ _) S6.out.2.1 ?_)
    | (have _q := S6; clear _q; refine wpList_load_w (by rfl) 114 (.tmp 8) rfl (W3.heap.size + 1) 0 (fnd 2 y' z' G) rfl _ Tryd.underlying114 rfl (fnd_info _ _ _ _) S6.out.2.2.1 ?_)
    | (have _q := S6; clear _q; go_at_call 71; refine (state_found 2 y z 3 false F _).mono ?_; rintro e W7 ⟨rfl, hB⟩
       have S7 : Hid (jS w W3.heap.size (fnd 2 y z F) (fnd 2 y' z' G) W7) := S6.out.below hB
       clear hB S6 c7 c8
       have c7 : W7.cell? ⟨W3.heap.size, 0, none⟩ = some (.int .i64 2) := (S7.out.2.1.at 0 _ rfl).1
       have c8 : W7.cell? ⟨W3.heap.size + 1, 0, none⟩ = some (.int .i64 2) := (S7.out.2.2.1.at 0 _ rfl).1)
    | (have _q := S7; clear _q; refine wpList_store_rec rfl 34 (.tmp 6) (.tmp 57) rfl w.heap.size 0 _ (ss 3 y z false) rfl rfl S7.out.1 rfl (by kernel_rfl) (ss_one _ _ _ _) ?_; intro W9 hR9 hB9))
  have hl := hR9.run_load 34 _ Tryd.underlying34 rfl (by kernel_rfl)
  refine bodyPost_ret (v := .agg (ss 3 y z false).toArray) (by simp [results, Tryd.results47, asAddr, Act.put, hl]) rfl ⟨rfl, S7.out.2.2.2.trans (hB9.below (Nat.le_refl _) S7.out.2.2.2.size)⟩
set_option maxRecDepth 100000 in
set_option maxHeartbeats 1000000 in
theorem judge_mend0 (a a' : Option Addr) (n C n' C' : Nat) (f f' : Nat → Int) (k : Int) (w : World) (y z y' z' : Int) (F G : Nat → Int) (hj : JArg a n C f a' n' C' f' w) (hk : isSl k = true) (hh : FhIs a n C f k (fnd 0 y z F)) (hp : FpIs a' n' C' f' k (fnd 2 y' z' G))  :
    Calls Tryd.prog 47 #[.slice a n C, .slice a' n' C', .int .i64 k] w fun e w' => e = .returned (.agg (ss 1 y' z' true).toArray) ∧ Below w.heap.size w w' := by
  have HK : Hid (isSl k = true) := hk
  have HJ : Hid (JArg a n C f a' n' C' f' w) := hj
  have HH : Hid (FhIs a n C f k (fnd 0 y z F)) := hh
  have HP : Hid (FpIs a' n' C' f' k (fnd 2 y' z' G)) := hp
  clear hk hj hh hp
  have T0 : Hid True := trivial
  go_enter Tryd.func47, Tryd.ntmps47
  go_wp2_with (first
    | (have _q := T0; clear _q; refine wpList_alloc_rec rfl 34 rfl (ss 0 0 0 false) w.heap.size rfl zeroSs ?_; intro W1 hR1 hB1 hz1
       have R1 : Hid (Rec19 W1 w.heap.size 0 (ss 0 0 0 false)) := hR1
       have B1 : Hid (Below w.heap.size w W1) := hB1
       clear hR1 hB1 hz1 T0)
    | (have _q := B1; clear _q; go_at_call 67; refine (isSlot_any k _).mono ?_; rintro e w3 ⟨rfl, rfl⟩; rw [HK.out])
    | (have _q := B1; clear _q; go_at_call 68; refine (HH.out _ (HJ.out.below B1.out).tab (HJ.out.below B1.out).arg).mono ?_; rintro e W2 ⟨rfl, hB2⟩
       have R2 : Hid (Rec19 W2 w.heap.size 0 (ss 0 0 0 false)) := R1.out.below hB2
       have B2 : Hid (Below w.heap.size w W2) := B1.out.trans (hB2.mono B1.out.size)
       clear hB2 R1 B1)
    | (have _q := B2; clear _q; go_at_call 69; refine (HP.out _ (HJ.out.below B2.out).tab (HJ.out.below B2.out).arg').mono ?_; rintro e W3 ⟨rfl, hB3⟩
       have R3 : Hid (Rec19 W3 w.heap.size 0 (ss 0 0 0 false)) := R2.out.below hB3
       have B3 : Hid (Below w.heap.size w W3) := B2.out.trans (hB3.mono B2.out.size)
       have T3 : Hid True := trivial
       clear hB3 R2 B2)
    | (have _q := T3; clear _q; refine wpList_alloc_rec rfl 114 rfl (fnd 0 0 0 (fun _ => 0)) W3.heap.size rfl zeroFnd ?_; intro V1 r1 b1 z1
       clear T3)
    | (have _q := z1; clear _q; refine wpList_alloc_rec rfl 114 rfl (fnd 0 0 0 (fun _ => 0)) (W3.heap.size + 1) z1 zeroFnd ?_; intro V2 r2 b2 z2
       have q1 := r1.below (by rw [z1]; exact b2)
       have T4 : Hid (W3.heap.size + 2 = V2.heap.size) := z2.symm
       have B4 : Hid (Below W3.heap.size W3 V2) := b1.trans (b2.mono (by omega))
       clear z1 r1 b1 b2 z2)
    | (have _q := T4; clear _q; refine wpList_store_rec rfl 114 (.tmp 7) (.tmp 15) rfl W3.heap.size 0 _ (fnd 0 y z F) rfl rfl q1 (by simp only [fnd_len]) (fnd_info _ _ _ _) (fnd_one _ _ _ _) ?_; intro V3 r3 b3
       have q2 := r2.but b3 (by omega)
       have B5 : Hid (Below W3.heap.size W3 V3) := B4.out.trans (b3.below (Nat.le_refl _) B4.out.size)
       clear B4 T4 b3 r2 q1)
    | (have _q := B5; clear _q; refine wpList_store_rec rfl 114 (.tmp 8) (.tmp 18) rfl (W3.heap.size + 1) 0 _ (fnd 2 y' z' G) rfl rfl q2 (by simp only [fnd_len]) (fnd_info _ _ _ _) (fnd_one _ _ _ _) ?_; intro W4 r4 b4
       have F4 : Below W3.heap.size W3 W4 := B5.out.trans (b4.below (by omega) B5.out.size)
       have N4 : Hid (w.heap.size < W3.heap.size) := R3.out.2.2
       have S4 : Hid (jS w W3.heap.size (fnd 0 y z F) (fnd 2 y' z' G) W4) := ⟨R3.out.below F4, r3.but b4 (by omega), r4, B3.out.trans (F4.mono B3.out.size)⟩
       have c7 : W4.cell? ⟨W3.heap.size, 0, none⟩ = some (.int .i64 0) := (S4.out.2.1.at 0 _ rfl).1
       have c8 : W4.cell? ⟨W3.heap.size + 1, 0, none⟩ = some (.int .i64 2) := (S4.out.2.2.1.at 0 _ rfl).1
       clear F4 B5 r3 r4 b4 q2 R3 B3)
    | (have _q := S4; clear _q; refine wpList_load_w (by rfl) 114 (.tmp 7) rfl W3.heap.size 0 (fnd 0 y z F) rfl _ Tryd.underlying114 rfl (fnd_info _ _ _ _) S4.out.2.1 ?_)
    | (have _q := S4; clear _q; refine wpList_load_w (by rfl) 114 (.tmp 8) rfl (W3.heap.size + 1) 0 (fnd 2 y' z' G) rfl _ Tryd.underlying114 rfl (fnd_info _ _ _ _) S4.out.2.2.1 ?_)
    | (have _q := S4; clear _q; go_at_call 71; refine (state_found 2 y' z' 1 true G _).mono ?_; rintro e W6 ⟨rfl, hB⟩
       have S6 : Hid (jS w W3.heap.size (fnd 0 y z F) (fnd 2 y' z' G) W6) := S4.out.below hB
       clear hB S4 c7 c8
       have c7 : W6.cell? ⟨W3.heap.size, 0, none⟩ = some (.int .i64 0) := (S6.out.2.1.at 0 _ rfl).1
       have c8 : W6.cell? ⟨W3.heap.size + 1, 0, none⟩ = some (.int .i64 2) := (S6.out.2.2.1.at 0 _ rfl).1)
    | (have _q := S6; clear _q; refine wpList_store_rec rfl 34 (.tmp 6) (.tmp 51) rfl w.heap.size 0 _ (ss 1 y' z' true) rfl rfl S6.out.1 rfl (by kernel_rfl) (ss_one _ _ _ _) ?_; intro W9 hR9 hB9))
  have hl := hR9.run_load 34 _ Tryd.underlying34 rfl (by kernel_rfl)
  refine bodyPost_ret (v := .agg (ss 1 y' z' true).toArray) (by simp [results, Tryd.results47, asAddr, Act.put, hl]) rfl ⟨rfl, S6.out.2.2.2.trans (hB9.below (Nat.le_refl _) S6.out.2.2.2.size)⟩
set_option maxRecDepth 100000 in
set_option maxHeartbeats 1000000 in
theorem judge_mend1 (a a' : Option Addr) (n C n' C' : Nat) (f f' : Nat → Int) (k : Int) (w : World) (y z y' z' : Int) (F G : Nat → Int) (hj : JArg a n C f a' n' C' f' w) (hk : isSl k = true) (hh : FhIs a n C f k (fnd 1 y z F)) (hp : FpIs a' n' C' f' k (fnd 2 y' z' G))  :
    Calls Tryd.prog 47 #[.slice a n C, .slice a' n' C', .int .i64 k] w fun e w' => e = .returned (.agg (ss 1 y' z' true).toArray) ∧ Below w.heap.size w w' := by
  have HK : Hid (isSl k = true) := hk
  have HJ : Hid (JArg a n C f a' n' C' f' w) := hj
  have HH : Hid (FhIs a n C f k (fnd 1 y z F)) := hh
  have HP : Hid (FpIs a' n' C' f' k (fnd 2 y' z' G)) := hp
  clear hk hj hh hp
  have T0 : Hid True := trivial
  go_enter Tryd.func47, Tryd.ntmps47
  go_wp2_with (first
    | (have _q := T0; clear _q; refine wpList_alloc_rec rfl 34 rfl (ss 0 0 0 false) w.heap.size rfl zeroSs ?_; intro W1 hR1 hB1 hz1
       have R1 : Hid (Rec19 W1 w.heap.size 0 (ss 0 0 0 false)) := hR1
       have B1 : Hid (Below w.heap.size w W1) := hB1
       clear hR1 hB1 hz1 T0)
    | (have _q := B1; clear _q; go_at_call 67; refine (isSlot_any k _).mono ?_; rintro e w3 ⟨rfl, rfl⟩; rw [HK.out])
    | (have _q := B1; clear _q; go_at_call 68; refine (HH.out _ (HJ.out.below B1.out).tab (HJ.out.below B1.out).arg).mono ?_; rintro e W2 ⟨rfl, hB2⟩
       have R2 : Hid (Rec19 W2 w.heap.size 0 (ss 0 0 0 false)) := R1.out.below hB2
       have B2 : Hid (Below w.heap.size w W2) := B1.out.trans (hB2.mono B1.out.size)
       clear hB2 R1 B1)
    | (have _q := B2; clear _q; go_at_call 69; refine (HP.out _ (HJ.out.below B2.out).tab (HJ.out.below B2.out).arg').mono ?_; rintro e W3 ⟨rfl, hB3⟩
       have R3 : Hid (Rec19 W3 w.heap.size 0 (ss 0 0 0 false)) := R2.out.below hB3
       have B3 : Hid (Below w.heap.size w W3) := B2.out.trans (hB3.mono B2.out.size)
       have T3 : Hid True := trivial
       clear hB3 R2 B2)
    | (have _q := T3; clear _q; refine wpList_alloc_rec rfl 114 rfl (fnd 0 0 0 (fun _ => 0)) W3.heap.size rfl zeroFnd ?_; intro V1 r1 b1 z1
       clear T3)
    | (have _q := z1; clear _q; refine wpList_alloc_rec rfl 114 rfl (fnd 0 0 0 (fun _ => 0)) (W3.heap.size + 1) z1 zeroFnd ?_; intro V2 r2 b2 z2
       have q1 := r1.below (by rw [z1]; exact b2)
       have T4 : Hid (W3.heap.size + 2 = V2.heap.size) := z2.symm
       have B4 : Hid (Below W3.heap.size W3 V2) := b1.trans (b2.mono (by omega))
       clear z1 r1 b1 b2 z2)
    | (have _q := T4; clear _q; refine wpList_store_rec rfl 114 (.tmp 7) (.tmp 15) rfl W3.heap.size 0 _ (fnd 1 y z F) rfl rfl q1 (by simp only [fnd_len]) (fnd_info _ _ _ _) (fnd_one _ _ _ _) ?_; intro V3 r3 b3
       have q2 := r2.but b3 (by omega)
       have B5 : Hid (Below W3.heap.size W3 V3) := B4.out.trans (b3.below (Nat.le_refl _) B4.out.size)
       clear B4 T4 b3 r2 q1)
    | (have _q := B5; clear _q; refine wpList_store_rec rfl 114 (.tmp 8) (.tmp 18) rfl (W3.heap.size + 1) 0 _ (fnd 2 y' z' G) rfl rfl q2 (by simp only [fnd_len]) (fnd_info _ _ _ _) (fnd_one _ _ _ _) ?_; intro W4 r4 b4
       have F4 : Below W3.heap.size W3 W4 := B5.out.trans (b4.below (by omega) B5.out.size)
       have N4 : Hid (w.heap.size < W3.heap.size) := R3.out.2.2
       have S4 : Hid (jS w W3.heap.size (fnd 1 y z F) (fnd 2 y' z' G) W4) := ⟨R3.out.below F4, r3.but b4 (by omega), r4, B3.out.trans (F4.mono B3.out.size)⟩
       have c7 : W4.cell? ⟨W3.heap.size, 0, none⟩ = some (.int .i64 1) := (S4.out.2.1.at 0 _ rfl).1
       have c8 : W4.cell? ⟨W3.heap.size + 1, 0, none⟩ = some (.int .i64 2) := (S4.out.2.2.1.at 0 _ rfl).1
       clear F4 B5 r3 r4 b4 q2 R3 B3)
    | (have _q := S4; clear _q; refine wpList_load_w (by rfl) 114 (.tmp 7) rfl W3.heap.size 0 (fnd 1 y z F) rfl _ Tryd.underlying114 rfl (fnd_info _ _ _ _) S4.out.2.1 ?_)
    | (have _q := S4; clear _q; refine wpList_load_w (by rfl) 114 (.tmp 8) rfl (W3.heap.size + 1) 0 (fnd 2 y' z' G) rfl _ Tryd.underlying114 rfl (fnd_info _ _ _ _) S4.out.2.2.1 ?_)
    | (have _q := S4; clear _q; go_at_call 71; refine (state_found 2 y' z' 1 true G _).mono ?_; rintro e W6 ⟨rfl, hB⟩
       have S6 : Hid (jS w W3.heap.size (fnd 1 y z F) (fnd 2 y' z' G) W6) := S4.out.below hB
       clear hB S4 c7 c8
       have c7 : W6.cell? ⟨W3.heap.size, 0, none⟩ = some (.int .i64 1) := (S6.out.2.1.at 0 _ rfl).1
       have c8 : W6.cell? ⟨W3.heap.size + 1, 0, none⟩ = some (.int .i64 2) := (S6.out.2.2.1.at 0 _ rfl).1)
    | (have _q := S6; clear _q; refine wpList_store_rec rfl 34 (.tmp 6) (.tmp 51) rfl w.heap.size 0 _ (ss 1 y' z' true) rfl rfl S6.out.1 rfl (by kernel_rfl) (ss_one _ _ _ _) ?_; intro W9 hR9 hB9))
  have hl := hR9.run_load 34 _ Tryd.underlying34 rfl (by kernel_rfl)
  refine bodyPost_ret (v := .agg (ss 1 y' z' true).toArray) (by simp [results, Tryd.results47, asAddr, Act.put, hl]) rfl ⟨rfl, S6.out.2.2.2.trans (hB9.below (Nat.le_refl _) S6.out.2.2.2.size)⟩
set_option maxRecDepth 100000 in
set_option maxHeartbeats 1000000 in
theorem judge_lost (a a' : Option Addr) (n C n' C' : Nat) (f f' : Nat → Int) (k : Int) (w : World) (y z y' z' : Int) (F G : Nat → Int) (hj : JArg a n C f a' n' C' f' w) (hk : isSl k = true) (hh : FhIs a n C f k (fnd 2 y z F)) (hp : FpIs a' n' C' f' k (fnd 0 y' z' G))  :
    Calls Tryd.prog 47 #[.slice a n C, .slice a' n' C', .int .i64 k] w fun e w' => e = .returned (.agg (ss 3 y z false).toArray) ∧ Below w.heap.size w w' := by
  have HK : Hid (isSl k = true) := hk
  have HJ : Hid (JArg a n C f a' n' C' f' w) := hj
  have HH : Hid (FhIs a n C f k (fnd 2 y z F)) := hh
  have HP : Hid (FpIs a' n' C' f' k (fnd 0 y' z' G)) := hp
  clear hk hj hh hp
  have T0 : Hid True := trivial
  go_enter Tryd.func47, Tryd.ntmps47
  go_wp2_with (first
    | (have _q := T0; clear _q; refine wpList_alloc_rec rfl 34 rfl (ss 0 0 0 false) w.heap.size rfl zeroSs ?_; intro W1 hR1 hB1 hz1
       have R1 : Hid (Rec19 W1 w.heap.size 0 (ss 0 0 0 false)) := hR1
       have B1 : Hid (Below w.heap.size w W1) := hB1
       clear hR1 hB1 hz1 T0)
    | (have _q := B1; clear _q; go_at_call 67; refine (isSlot_any k _).mono ?_; rintro e w3 ⟨rfl, rfl⟩; rw [HK.out])
    | (have _q := B1; clear _q; go_at_call 68; refine (HH.out _ (HJ.out.below B1.out).tab (HJ.out.below B1.out).arg).mono ?_; rintro e W2 ⟨rfl, hB2⟩
       have R2 : Hid (Rec19 W2 w.heap.size 0 (ss 0 0 0 false)) := R1.out.below hB2
       have B2 : Hid (Below w.heap.size w W2) := B1.out.trans (hB2.mono B1.out.size)
       clear hB2 R1 B1)
    | (have _q := B2; clear _q; go_at_call 69; refine (HP.out _ (HJ.out.below B2.out).tab (HJ.out.below B2.out).arg').mono ?_; rintro e W3 ⟨rfl, hB3⟩
       have R3 : Hid (Rec19 W3 w.heap.size 0 (ss 0 0 0 false)) := R2.out.below hB3
       have B3 : Hid (Below w.heap.size w W3) := B2.out.trans (hB3.mono B2.out.size)
       have T3 : Hid True := trivial
       clear hB3 R2 B2)
    | (have _q := T3; clear _q; refine wpList_alloc_rec rfl 114 rfl (fnd 0 0 0 (fun _ => 0)) W3.heap.size rfl zeroFnd ?_; intro V1 r1 b1 z1
       clear T3)
    | (have _q := z1; clear _q; refine wpList_alloc_rec rfl 114 rfl (fnd 0 0 0 (fun _ => 0)) (W3.heap.size + 1) z1 zeroFnd ?_; intro V2 r2 b2 z2
       have q1 := r1.below (by rw [z1]; exact b2)
       have T4 : Hid (W3.heap.size + 2 = V2.heap.size) := z2.symm
       have B4 : Hid (Below W3.heap.size W3 V2) := b1.trans (b2.mono (by omega))
       clear z1 r1 b1 b2 z2)
    | (have _q := T4; clear _q; refine wpList_store_rec rfl 114 (.tmp 7) (.tmp 15) rfl W3.heap.size 0 _ (fnd 2 y z F) rfl rfl q1 (by simp only [fnd_len]) (fnd_info _ _ _ _) (fnd_one _ _ _ _) ?_; intro V3 r3 b3
       have q2 := r2.but b3 (by omega)
       have B5 : Hid (Below W3.heap.size W3 V3) := B4.out.trans (b3.below (Nat.le_refl _) B4.out.size)
       clear B4 T4 b3 r2 q1)
    | (have _q := B5; clear _q; refine wpList_store_rec rfl 114 (.tmp 8) (.tmp 18) rfl (W3.heap.size + 1) 0 _ (fnd 0 y' z' G) rfl rfl q2 (by simp only [fnd_len]) (fnd_info _ _ _ _) (fnd_one _ _ _ _) ?_; intro W4 r4 b4
       have F4 : Below W3.heap.size W3 W4 := B5.out.trans (b4.below (by omega) B5.out.size)
       have N4 : Hid (w.heap.size < W3.heap.size) := R3.out.2.2
       have S4 : Hid (jS w W3.heap.size (fnd 2 y z F) (fnd 0 y' z' G) W4) := ⟨R3.out.below F4, r3.but b4 (by omega), r4, B3.out.trans (F4.mono B3.out.size)⟩
       have c7 : W4.cell? ⟨W3.heap.size, 0, none⟩ = some (.int .i64 2) := (S4.out.2.1.at 0 _ rfl).1
       have c8 : W4.cell? ⟨W3.heap.size + 1, 0, none⟩ = some (.int .i64 0) := (S4.out.2.2.1.at 0 _ rfl).1
       clear F4 B5 r3 r4 b4 q2 R3 B3))
  refine wp_load_mid (P := Tryd.prog) 114 (.tmp 7) rfl W3.heap.size 0 rfl (fnd 2 y z F) _ S4.out.2.1.1 Tryd.underlying114 rfl (fnd_info _ _ _ _) ?_
  go_wp2_with (first
    | (have _q := S4; clear _q; go_at_call 71; refine (state_found 2 y z 3 false F _).mono ?_; rintro e W6 ⟨rfl, hB⟩
       have S6 : Hid (jS w W3.heap.size (fnd 2 y z F) (fnd 0 y' z' G) W6) := S4.out.below hB
       clear hB S4 c7 c8
       have c7 : W6.cell? ⟨W3.heap.size, 0, none⟩ = some (.int .i64 2) := (S6.out.2.1.at 0 _ rfl).1
       have c8 : W6.cell? ⟨W3.heap.size + 1, 0, none⟩ = some (.int .i64 0) := (S6.out.2.2.1.at 0 _ rfl).1)
    | (have _q := S6; clear _q; refine wpList_store_rec rfl 34 (.tmp 6) (.tmp 57) rfl w.heap.size 0 _ (ss 3 y z false) rfl rfl S6.out.1 rfl (by kernel_rfl) (ss_one _ _ _ _) ?_; intro W9 hR9 hB9))
  have hl := hR9.run_load 34 _ Tryd.underlying34 rfl (by kernel_rfl)
  refine bodyPost_ret (v := .agg (ss 3 y z false).toArray) (by simp [results, Tryd.results47, asAddr, Act.put, hl]) rfl ⟨rfl, S6.out.2.2.2.trans (hB9.below (Nat.le_refl _) S6.out.2.2.2.size)⟩
set_option maxRecDepth 100000 in
set_option maxHeartbeats 1000000 in
theorem judge_bad (a a' : Option Addr) (n C n' C' : Nat) (f f' : Nat → Int) (k : Int) (w : World) (y z y' z' : Int) (F G : Nat → Int) (hj : JArg a n C f a' n' C' f' w) (hk : isSl k = true) (hh : FhIs a n C f k (fnd 0 y z F)) (hp : FpIs a' n' C' f' k (fnd 0 y' z' G))  :
    Calls Tryd.prog 47 #[.slice a n C, .slice a' n' C', .int .i64 k] w fun e w' => e = .returned (.agg (ss 3 0 0 false).toArray) ∧ Below w.heap.size w w' := by
  have HK : Hid (isSl k = true) := hk
  have HJ : Hid (JArg a n C f a' n' C' f' w) := hj
  have HH : Hid (FhIs a n C f k (fnd 0 y z F)) := hh
  have HP : Hid (FpIs a' n' C' f' k (fnd 0 y' z' G)) := hp
  clear hk hj hh hp
  have T0 : Hid True := trivial
  go_enter Tryd.func47, Tryd.ntmps47
  go_wp2_with (first
    | (have _q := T0; clear _q; refine wpList_alloc_rec rfl 34 rfl (ss 0 0 0 false) w.heap.size rfl zeroSs ?_; intro W1 hR1 hB1 hz1
       have R1 : Hid (Rec19 W1 w.heap.size 0 (ss 0 0 0 false)) := hR1
       have B1 : Hid (Below w.heap.size w W1) := hB1
       clear hR1 hB1 hz1 T0)
    | (have _q := B1; clear _q; go_at_call 67; refine (isSlot_any k _).mono ?_; rintro e w3 ⟨rfl, rfl⟩; rw [HK.out])
    | (have _q := B1; clear _q; go_at_call 68; refine (HH.out _ (HJ.out.below B1.out).tab (HJ.out.below B1.out).arg).mono ?_; rintro e W2 ⟨rfl, hB2⟩
       have R2 : Hid (Rec19 W2 w.heap.size 0 (ss 0 0 0 false)) := R1.out.below hB2
       have B2 : Hid (Below w.heap.size w W2) := B1.out.trans (hB2.mono B1.out.size)
       clear hB2 R1 B1)
    | (have _q := B2; clear _q; go_at_call 69; refine (HP.out _ (HJ.out.below B2.out).tab (HJ.out.below B2.out).arg').mono ?_; rintro e W3 ⟨rfl, hB3⟩
       have R3 : Hid (Rec19 W3 w.heap.size 0 (ss 0 0 0 false)) := R2.out.below hB3
       have B3 : Hid (Below w.heap.size w W3) := B2.out.trans (hB3.mono B2.out.size)
       have T3 : Hid True := trivial
       clear hB3 R2 B2)
    | (have _q := T3; clear _q; refine wpList_alloc_rec rfl 114 rfl (fnd 0 0 0 (fun _ => 0)) W3.heap.size rfl zeroFnd ?_; intro V1 r1 b1 z1
       clear T3)
    | (have _q := z1; clear _q; refine wpList_alloc_rec rfl 114 rfl (fnd 0 0 0 (fun _ => 0)) (W3.heap.size + 1) z1 zeroFnd ?_; intro V2 r2 b2 z2
       have q1 := r1.below (by rw [z1]; exact b2)
       have T4 : Hid (W3.heap.size + 2 = V2.heap.size) := z2.symm
       have B4 : Hid (Below W3.heap.size W3 V2) := b1.trans (b2.mono (by omega))
       clear z1 r1 b1 b2 z2)
    | (have _q := T4; clear _q; refine wpList_store_rec rfl 114 (.tmp 7) (.tmp 15) rfl W3.heap.size 0 _ (fnd 0 y z F) rfl rfl q1 (by simp only [fnd_len]) (fnd_info _ _ _ _) (fnd_one _ _ _ _) ?_; intro V3 r3 b3
       have q2 := r2.but b3 (by omega)
       have B5 : Hid (Below W3.heap.size W3 V3) := B4.out.trans (b3.below (Nat.le_refl _) B4.out.size)
       clear B4 T4 b3 r2 q1)
    | (have _q := B5; clear _q; refine wpList_store_rec rfl 114 (.tmp 8) (.tmp 18) rfl (W3.heap.size + 1) 0 _ (fnd 0 y' z' G) rfl rfl q2 (by simp only [fnd_len]) (fnd_info _ _ _ _) (fnd_one _ _ _ _) ?_; intro W4 r4 b4
       have F4 : Below W3.heap.size W3 W4 := B5.out.trans (b4.below (by omega) B5.out.size)
       have N4 : Hid (w.heap.size < W3.heap.size) := R3.out.2.2
       have S4 : Hid (jS w W3.heap.size (fnd 0 y z F) (fnd 0 y' z' G) W4) := ⟨R3.out.below F4, r3.but b4 (by omega), r4, B3.out.trans (F4.mono B3.out.size)⟩
       have c7 : W4.cell? ⟨W3.heap.size, 0, none⟩ = some (.int .i64 0) := (S4.out.2.1.at 0 _ rfl).1
       have c8 : W4.cell? ⟨W3.heap.size + 1, 0, none⟩ = some (.int .i64 0) := (S4.out.2.2.1.at 0 _ rfl).1
       obtain ⟨d0, g0⟩ := S4.out.1.at 0 (.int .i64 0) rfl
       obtain ⟨d1, g1⟩ := S4.out.1.at 1 (.int .i64 0) rfl
       obtain ⟨d2, g2⟩ := S4.out.1.at 2 (.int .i64 0) rfl
       obtain ⟨d3, g3⟩ := S4.out.1.at 3 (.bool false) rfl
       clear F4 B5 r3 r4 b4 q2 R3 B3))
  have hR9 : Rec19 ((((W4.setCell ⟨w.heap.size, 0, none⟩ (.int .i64 3)).setCell ⟨w.heap.size, 1, none⟩ (.int .i64 0)).setCell ⟨w.heap.size, 2, none⟩ (.int .i64 0)).setCell ⟨w.heap.size, 3, none⟩ (.bool false)) w.heap.size 0 (ss 3 0 0 false) := S4.out.1.store (ss 3 0 0 false) rfl
  have hB9 : Below w.heap.size w ((((W4.setCell ⟨w.heap.size, 0, none⟩ (.int .i64 3)).setCell ⟨w.heap.size, 1, none⟩ (.int .i64 0)).setCell ⟨w.heap.size, 2, none⟩ (.int .i64 0)).setCell ⟨w.heap.size, 3, none⟩ (.bool false)) := (((S4.out.2.2.2.setCell (Nat.le_refl _) _).setCell (Nat.le_refl _) _).setCell (Nat.le_refl _) _).setCell (Nat.le_refl _) _
  generalize (((W4.setCell ⟨w.heap.size, 0, none⟩ (.int .i64 3)).setCell ⟨w.heap.size, 1, none⟩ (.int .i64 0)).setCell ⟨w.heap.size, 2, none⟩ (.int .i64 0)).setCell ⟨w.heap.size, 3, none⟩ (.bool false) = W9 at hR9 hB9 ⊢
  have hl := hR9.run_load 34 _ Tryd.underlying34 rfl (by kernel_rfl)
  refine bodyPost_ret (v := .agg (ss 3 0 0 false).toArray) (by simp [results, Tryd.results47, asAddr, hl]) rfl ⟨rfl, hB9⟩
set_option maxRecDepth 100000 in
set_option maxHeartbeats 1000000 in
theorem judge_empty (a a' : Option Addr) (n C n' C' : Nat) (f f' : Nat → Int) (k : Int) (w : World) (y z y' z' : Int) (F G : Nat → Int) (hj : JArg a n C f a' n' C' f' w) (hk : isSl k = true) (hh : FhIs a n C f k (fnd 1 y z F)) (hp : FpIs a' n' C' f' k (fnd 0 y' z' G)) (hn : NgOk a' n' C' f') (hz : zeroN n' f' = true) :
    Calls Tryd.prog 47 #[.slice a n C, .slice a' n' C', .int .i64 k] w fun e w' => e = .returned (.agg (ss 4 0 0 false).toArray) ∧ Below w.heap.size w w' := by
  have HK : Hid (isSl k = true) := hk
  have HJ : Hid (JArg a n C f a' n' C' f' w) := hj
  have HH : Hid (FhIs a n C f k (fnd 1 y z F)) := hh
  have HP : Hid (FpIs a' n' C' f' k (fnd 0 y' z' G)) := hp
  clear hk hj hh hp
  have HN : Hid (NgOk a' n' C' f') := hn
  have HZ : Hid (zeroN n' f' = true) := hz
  clear hn hz
  have T0 : Hid True := trivial
  go_enter Tryd.func47, Tryd.ntmps47
  go_wp2_with (first
    | (have _q := T0; clear _q; refine wpList_alloc_rec rfl 34 rfl (ss 0 0 0 false) w.heap.size rfl zeroSs ?_; intro W1 hR1 hB1 hz1
       have R1 : Hid (Rec19 W1 w.heap.size 0 (ss 0 0 0 false)) := hR1
       have B1 : Hid (Below w.heap.size w W1) := hB1
       clear hR1 hB1 hz1 T0)
    | (have _q := B1; clear _q; go_at_call 67; refine (isSlot_any k _).mono ?_; rintro e w3 ⟨rfl, rfl⟩; rw [HK.out])
    | (have _q := B1; clear _q; go_at_call 68; refine (HH.out _ (HJ.out.below B1.out).tab (HJ.out.below B1.out).arg).mono ?_; rintro e W2 ⟨rfl, hB2⟩
       have R2 : Hid (Rec19 W2 w.heap.size 0 (ss 0 0 0 false)) := R1.out.below hB2
       have B2 : Hid (Below w.heap.size w W2) := B1.out.trans (hB2.mono B1.out.size)
       clear hB2 R1 B1)
    | (have _q := B2; clear _q; go_at_call 69; refine (HP.out _ (HJ.out.below B2.out).tab (HJ.out.below B2.out).arg').mono ?_; rintro e W3 ⟨rfl, hB3⟩
       have R3 : Hid (Rec19 W3 w.heap.size 0 (ss 0 0 0 false)) := R2.out.below hB3
       have B3 : Hid (Below w.heap.size w W3) := B2.out.trans (hB3.mono B2.out.size)
       have T3 : Hid True := trivial
       clear hB3 R2 B2)
    | (have _q := T3; clear _q; refine wpList_alloc_rec rfl 114 rfl (fnd 0 0 0 (fun _ => 0)) W3.heap.size rfl zeroFnd ?_; intro V1 r1 b1 z1
       clear T3)
    | (have _q := z1; clear _q; refine wpList_alloc_rec rfl 114 rfl (fnd 0 0 0 (fun _ => 0)) (W3.heap.size + 1) z1 zeroFnd ?_; intro V2 r2 b2 z2
       have q1 := r1.below (by rw [z1]; exact b2)
       have T4 : Hid (W3.heap.size + 2 = V2.heap.size) := z2.symm
       have B4 : Hid (Below W3.heap.size W3 V2) := b1.trans (b2.mono (by omega))
       clear z1 r1 b1 b2 z2)
    | (have _q := T4; clear _q; refine wpList_store_rec rfl 114 (.tmp 7) (.tmp 15) rfl W3.heap.size 0 _ (fnd 1 y z F) rfl rfl q1 (by simp only [fnd_len]) (fnd_info _ _ _ _) (fnd_one _ _ _ _) ?_; intro V3 r3 b3
       have q2 := r2.but b3 (by omega)
       have B5 : Hid (Below W3.heap.size W3 V3) := B4.out.trans (b3.below (Nat.le_refl _) B4.out.size)
       clear B4 T4 b3 r2 q1)
    | (have _q := B5; clear _q; refine wpList_store_rec rfl 114 (.tmp 8) (.tmp 18) rfl (W3.heap.size + 1) 0 _ (fnd 0 y' z' G) rfl rfl q2 (by simp only [fnd_len]) (fnd_info _ _ _ _) (fnd_one _ _ _ _) ?_; intro W4 r4 b4
       have F4 : Below W3.heap.size W3 W4 := B5.out.trans (b4.below (by omega) B5.out.size)
       have N4 : Hid (w.heap.size < W3.heap.size) := R3.out.2.2
       have S4 : Hid (jS w W3.heap.size (fnd 1 y z F) (fnd 0 y' z' G) W4) := ⟨R3.out.below F4, r3.but b4 (by omega), r4, B3.out.trans (F4.mono B3.out.size)⟩
       have c7 : W4.cell? ⟨W3.heap.size, 0, none⟩ = some (.int .i64 1) := (S4.out.2.1.at 0 _ rfl).1
       have c8 : W4.cell? ⟨W3.heap.size + 1, 0, none⟩ = some (.int .i64 0) := (S4.out.2.2.1.at 0 _ rfl).1
       clear F4 B5 r3 r4 b4 q2 R3 B3)
    | (have _q := S4; clear _q; go_at_call 73; refine (HN.out _ (HJ.out.below S4.out.2.2.2).arg').mono ?_; rintro e W5 ⟨rfl, hB⟩; rw [HZ.out]
       have S5 : Hid (jS w W3.heap.size (fnd 1 y z F) (fnd 0 y' z' G) W5) := S4.out.below hB
       clear hB S4 c7 c8
       have c7 : W5.cell? ⟨W3.heap.size, 0, none⟩ = some (.int .i64 1) := (S5.out.2.1.at 0 _ rfl).1
       have c8 : W5.cell? ⟨W3.heap.size + 1, 0, none⟩ = some (.int .i64 0) := (S5.out.2.2.1.at 0 _ rfl).1)
    | (have _q := S5; clear _q; refine wpList_build_to rfl 34 _ rfl (ss 4 0 0 false).toArray (by kernel_rfl) ?_)
    | (have _q := S5; clear _q; refine wpList_store_rec rfl 34 (.tmp 6) (.tmp 66) rfl w.heap.size 0 _ (ss 4 0 0 false) rfl rfl S5.out.1 rfl (by kernel_rfl) (ss_one _ _ _ _) ?_; intro W9 hR9 hB9))
  have hl := hR9.run_load 34 _ Tryd.underlying34 rfl (by kernel_rfl)
  refine bodyPost_ret (v := .agg (ss 4 0 0 false).toArray) (by simp [results, Tryd.results47, asAddr, Act.put, hl]) rfl ⟨rfl, S5.out.2.2.2.trans (hB9.below (Nat.le_refl _) S5.out.2.2.2.size)⟩
set_option maxRecDepth 100000 in
set_option maxHeartbeats 1000000 in
theorem judge_torn (a a' : Option Addr) (n C n' C' : Nat) (f f' : Nat → Int) (k : Int) (w : World) (y z y' z' : Int) (F G : Nat → Int) (hj : JArg a n C f a' n' C' f' w) (hk : isSl k = true) (hh : FhIs a n C f k (fnd 1 y z F)) (hp : FpIs a' n' C' f' k (fnd 0 y' z' G)) (hn : NgOk a' n' C' f') (hz : zeroN n' f' = false) :
    Calls Tryd.prog 47 #[.slice a n C, .slice a' n' C', .int .i64 k] w fun e w' => e = .returned (.agg (ss 2 0 0 false).toArray) ∧ Below w.heap.size w w' := by
  have HK : Hid (isSl k = true) := hk
  have HJ : Hid (JArg a n C f a' n' C' f' w) := hj
  have HH : Hid (FhIs a n C f k (fnd 1 y z F)) := hh
  have HP : Hid (FpIs a' n' C' f' k (fnd 0 y' z' G)) := hp
  clear hk hj hh hp
  have HN : Hid (NgOk a' n' C' f') := hn
  have HZ : Hid (zeroN n' f' = false) := hz
  clear hn hz
  have T0 : Hid True := trivial
  go_enter Tryd.func47, Tryd.ntmps47
  go_wp2_with (first
    | (have _q := T0; clear _q; refine wpList_alloc_rec rfl 34 rfl (ss 0 0 0 false) w.heap.size rfl zeroSs ?_; intro W1 hR1 hB1 hz1
       have R1 : Hid (Rec19 W1 w.heap.size 0 (ss 0 0 0 false)) := hR1
       have B1 : Hid (Below w.heap.size w W1) := hB1
       clear hR1 hB1 hz1 T0)
    | (have _q := B1; clear _q; go_at_call 67; refine (isSlot_any k _).mono ?_; rintro e w3 ⟨rfl, rfl⟩; rw [HK.out])
    | (have _q := B1; clear _q; go_at_call 68; refine (HH.out _ (HJ.out.below B1.out).tab (HJ.out.below B1.out).arg).mono ?_; rintro e W2 ⟨rfl, hB2⟩
       have R2 : Hid (Rec19 W2 w.heap.size 0 (ss 0 0 0 false)) := R1.out.below hB2
       have B2 : Hid (Below w.heap.size w W2) := B1.out.trans (hB2.mono B1.out.size)
       clear hB2 R1 B1)
    | (have _q := B2; clear _q; go_at_call 69; refine (HP.out _ (HJ.out.below B2.out).tab (HJ.out.below B2.out).arg').mono ?_; rintro e W3 ⟨rfl, hB3⟩
       have R3 : Hid (Rec19 W3 w.heap.size 0 (ss 0 0 0 false)) := R2.out.below hB3
       have B3 : Hid (Below w.heap.size w W3) := B2.out.trans (hB3.mono B2.out.size)
       have T3 : Hid True := trivial
       clear hB3 R2 B2)
    | (have _q := T3; clear _q; refine wpList_alloc_rec rfl 114 rfl (fnd 0 0 0 (fun _ => 0)) W3.heap.size rfl zeroFnd ?_; intro V1 r1 b1 z1
       clear T3)
    | (have _q := z1; clear _q; refine wpList_alloc_rec rfl 114 rfl (fnd 0 0 0 (fun _ => 0)) (W3.heap.size + 1) z1 zeroFnd ?_; intro V2 r2 b2 z2
       have q1 := r1.below (by rw [z1]; exact b2)
       have T4 : Hid (W3.heap.size + 2 = V2.heap.size) := z2.symm
       have B4 : Hid (Below W3.heap.size W3 V2) := b1.trans (b2.mono (by omega))
       clear z1 r1 b1 b2 z2)
    | (have _q := T4; clear _q; refine wpList_store_rec rfl 114 (.tmp 7) (.tmp 15) rfl W3.heap.size 0 _ (fnd 1 y z F) rfl rfl q1 (by simp only [fnd_len]) (fnd_info _ _ _ _) (fnd_one _ _ _ _) ?_; intro V3 r3 b3
       have q2 := r2.but b3 (by omega)
       have B5 : Hid (Below W3.heap.size W3 V3) := B4.out.trans (b3.below (Nat.le_refl _) B4.out.size)
       clear B4 T4 b3 r2 q1)
    | (have _q := B5; clear _q; refine wpList_store_rec rfl 114 (.tmp 8) (.tmp 18) rfl (W3.heap.size + 1) 0 _ (fnd 0 y' z' G) rfl rfl q2 (by simp only [fnd_len]) (fnd_info _ _ _ _) (fnd_one _ _ _ _) ?_; intro W4 r4 b4
       have F4 : Below W3.heap.size W3 W4 := B5.out.trans (b4.below (by omega) B5.out.size)
       have N4 : Hid (w.heap.size < W3.heap.size) := R3.out.2.2
       have S4 : Hid (jS w W3.heap.size (fnd 1 y z F) (fnd 0 y' z' G) W4) := ⟨R3.out.below F4, r3.but b4 (by omega), r4, B3.out.trans (F4.mono B3.out.size)⟩
       have c7 : W4.cell? ⟨W3.heap.size, 0, none⟩ = some (.int .i64 1) := (S4.out.2.1.at 0 _ rfl).1
       have c8 : W4.cell? ⟨W3.heap.size + 1, 0, none⟩ = some (.int .i64 0) := (S4.out.2.2.1.at 0 _ rfl).1
       clear F4 B5 r3 r4 b4 q2 R3 B3)
    | (have _q := S4; clear _q; go_at_call 73; refine (HN.out _ (HJ.out.below S4.out.2.2.2).arg').mono ?_; rintro e W5 ⟨rfl, hB⟩; rw [HZ.out]
       have S5 : Hid (jS w W3.heap.size (fnd 1 y z F) (fnd 0 y' z' G) W5) := S4.out.below hB
       clear hB S4 c7 c8
       have c7 : W5.cell? ⟨W3.heap.size, 0, none⟩ = some (.int .i64 1) := (S5.out.2.1.at 0 _ rfl).1
       have c8 : W5.cell? ⟨W3.heap.size + 1, 0, none⟩ = some (.int .i64 0) := (S5.out.2.2.1.at 0 _ rfl).1)
    | (have _q := S5; clear _q; refine wpList_build_to rfl 34 _ rfl (ss 2 0 0 false).toArray (by kernel_rfl) ?_)
    | (have _q := S5; clear _q; refine wpList_store_rec rfl 34 (.tmp 6) (.tmp 19) rfl w.heap.size 0 _ (ss 2 0 0 false) rfl rfl S5.out.1 rfl (by kernel_rfl) (ss_one _ _ _ _) ?_; intro W9 hR9 hB9))
  have hl := hR9.run_load 34 _ Tryd.underlying34 rfl (by kernel_rfl)
  refine bodyPost_ret (v := .agg (ss 2 0 0 false).toArray) (by simp [results, Tryd.results47, asAddr, Act.put, hl]) rfl ⟨rfl, S5.out.2.2.2.trans (hB9.below (Nat.le_refl _) S5.out.2.2.2.size)⟩
end Go.Proofs.YtijpoipcadhchaaDoor
