/-
  Walks, not a claim by itself: the statements' awake. By the verifier.
-/
import Derived.Test.YtfpgkckcifjkcaaDoorOKn0
namespace Go.Proofs.YtfpgkckcifjkcaaDoor
open Go.RowKit
theorem IRow.front {W : World} {g N : Nat} {f : Nat → Int} (h : IRow W g .u8 N f) (hf : ∀ j, 0 ≤ f j ∧ f j < 256) (n : Nat) (hn : n ≤ N) : Arg W (some ⟨g, 0, none⟩) n f :=
  Arg.of ((h.lies (fun j _ => hf j)).part 0 n (by omega)).zero
theorem ng_row (g : Nat) (f : Nat → Int) : NgOk (some ⟨g, 0, none⟩) 1280 1280 f := fun W hA => by
  rcases hA with ⟨h, _⟩ | ⟨_, b, off, hb, hl⟩
  · omega
  injection hb with hb
  injection hb with h1 h2
  subst h1 h2
  exact noughts_c _ _ 5 1280 f W hl (by omega) (by omega)
/-- Judge of a header's and a prepare's bytes. -/
theorem judge_row (g g' : Nat) (C : Nat) (f f' : Nat → Int) (k : Int) (L : List Value) (w : World) (hT : Tab w) (hA : Arg w (some ⟨g, 0, none⟩) 256 f) (hA' : Arg w (some ⟨g', 0, none⟩) 1280 f') (hC : 256 ≤ C) (hL : judgeL 256 f 1280 f' k = L) :
    Calls Tryd.prog 22 #[.slice (some ⟨g, 0, none⟩) 256 C, .slice (some ⟨g', 0, none⟩) 1280 1280, .int .i64 k] w fun e w' => e = .returned (.agg L.toArray) ∧ Below w.heap.size w w' := by
  subst hL
  exact judge_any _ _ 256 C 1280 1280 f f' k w hT hA hA' hC (Nat.le_refl _) (by omega) (ng_row g' f')
theorem pv_whole (op vw k : Int) (hok : okH (upd (pvH op vw) 2 ((0 : Nat) : Int)) = true) (hp : isPrep (pvH op vw) k = true) :
    prepOK 1280 (pvF op vw) k = true ∧ (∀ j, j < 16 → hdrF (pvF op vw) j = pvH op vw j) ∧ headCode (pvF op vw) = 0 := by
  obtain ⟨a, b, c⟩ := slot_whole (pvH op vw) (fun _ => 0) 0 1280 k (by omega) hok (pv_words op vw) hp (pvF op vw) (fun j hj => by unfold pvF slotF; rw [if_pos hj])
  exact ⟨a, fun j hj => (b j hj).trans (pv_size op vw j), c⟩
theorem ok17 : okH (upd (pvH 17 2) 2 ((0 : Nat) : Int)) = true := pv_ok 17 2 (by omega) (by omega) (by omega) (by omega)
theorem ok1 : okH (upd (pvH 1 0) 2 ((0 : Nat) : Int)) = true := pv_ok 1 0 (by omega) (by omega) (by omega) (by omega)
theorem p17 : isPrep (pvH 17 2) 1 = true := by decide
theorem p1 : isPrep (pvH 1 0) 1 = true := by decide
theorem w17 : prepOK 1280 (pvF 17 2) 1 = true ∧ (∀ j, j < 16 → hdrF (pvF 17 2) j = pvH 17 2 j) ∧ headCode (pvF 17 2) = 0 := pv_whole 17 2 1 ok17 p17
theorem w1 : prepOK 1280 (pvF 1 0) 1 = true ∧ (∀ j, j < 16 → hdrF (pvF 1 0) j = pvH 1 0 j) ∧ headCode (pvF 1 0) = 0 := pv_whole 1 0 1 ok1 p1
theorem h17 : fhK 256 (pvF 17 2) 1 = 2 := head_whole rfl w17.2.2 (by rw [isPrep_congr _ _ 1 w17.2.1]; exact p17)
theorem h1 : fhK 256 (pvF 1 0) 1 = 2 := head_whole rfl w1.2.2 (by rw [isPrep_congr _ _ 1 w1.2.1]; exact p1)
theorem o17 : hdrF (pvF 17 2) 5 = 17 ∧ hdrF (pvF 17 2) 3 = 2 := ⟨w17.2.1 5 (by omega), w17.2.1 3 (by omega)⟩
theorem o1 : hdrF (pvF 1 0) 5 = 1 ∧ hdrF (pvF 1 0) 3 = 0 := ⟨w1.2.1 5 (by omega), w1.2.1 3 (by omega)⟩
theorem pv_other : ¬ txtN 256 (pvF 1 0) = txtN 256 (pvF 17 2) := txt_op (fun j _ => pvF_byte _ _ j) (fun j _ => pvF_byte _ _ j) 5 (by omega) (by rw [o17.1, o1.1]; omega)
theorem sl1 : ¬ isSl 1 = false := by decide
theorem jd1 : judgeL 256 (pvF 17 2) 1280 (pvF 17 2) 1 = ss 1 17 2 false := by
  unfold judgeL
  rw [if_neg sl1, if_pos w17.1, if_pos h17, if_pos rfl, o17.1, o17.2]
theorem jd2 : judgeL 256 (pvF 1 0) 1280 (pvF 17 2) 1 = ss 1 17 2 true := by
  unfold judgeL
  rw [if_neg sl1, if_pos w17.1, if_pos h1, if_neg pv_other, o17.1, o17.2, o1.1, o1.2, if_pos (by decide)]
theorem jd3 : judgeL 256 (pvF 17 2) 1280 (pvF 1 0) 1 = ss 3 17 2 false := by
  unfold judgeL
  rw [if_neg sl1, if_pos w1.1, if_pos h17, if_neg (fun e => pv_other e.symm), o17.1, o17.2, o1.1, o1.2, if_neg (by decide)]
/-- What stays in awake. -/
def aS (w : World) (p q : Nat) (W : World) : Prop := IRow W p .u8 1280 (pvF 17 2) ∧ IRow W q .u8 1280 (pvF 1 0) ∧ Tab W ∧ Below w.heap.size w W
theorem aS.below {w : World} {p q : Nat} {W W' : World} (s : aS w p q W) (hB : Below W.heap.size W W') : aS w p q W' :=
  ⟨s.1.below hB, s.2.1.below hB, s.2.2.1.below hB s.2.2.1.2, s.2.2.2.trans (hB.mono s.2.2.2.size)⟩
set_option maxRecDepth 100000 in
set_option maxHeartbeats 1000000 in
theorem awake_ok (w : World) (hT : Tab w) : Calls Tryd.prog 18 #[] w fun e w' => e = .returned (.bool true) ∧ Below w.heap.size w w' := by
  have hT0 := hT.2
  have TT : Hid (Tab w) := hT
  clear hT
  have T0 : Hid True := trivial
  go_enter Tryd.func18, Tryd.ntmps18
  go_wp2_with (first
    | (have _q := T0; clear _q; go_at_call 24; refine (prepare_ok 17 2 _ TT.out ok17 (by decide)).mono ?_; rintro e W1 ⟨p, rfl, hp, hR1, hB1⟩
       have P1 : Hid (IRow W1 p .u8 1280 (pvF 17 2)) := hR1
       have B1 : Hid (Below w.heap.size w W1) := hB1
       clear T0 hR1 hB1 hp)
    | (have _q := B1; clear _q; refine wpList_alloc_rec rfl 29 rfl (msg (fun _ => 0) none 0 0) W1.heap.size rfl zeroMsg ?_; intro W2 R2 B2 z2)
    | (have _q := B1; clear _q; refine wpList_store_rec rfl 29 (.tmp 1) (.tmp 9) rfl W1.heap.size 0 _ (msg (pvH 17 2) none 0 0) rfl rfl R2 rfl (by kernel_rfl) (msg_one _ _ _ _) ?_; intro W3 R3 B3
       have F3 : Below W1.heap.size W1 W3 := B2.trans (B3.below (Nat.le_refl _) (by omega))
       have P3 : Hid (IRow W3 p .u8 1280 (pvF 17 2)) := P1.out.below F3
       have E3 : Hid (Below w.heap.size w W3) := B1.out.trans (F3.mono B1.out.size)
       clear F3 R3 B3 R2 B2 z2 P1 B1)
    | (have _q := P3; clear _q; go_at_call 24; refine (prepare_ok 1 0 _ (TT.out.below E3.out hT0) ok1 (by decide)).mono ?_; rintro e W4 ⟨q, rfl, hq, hR4, hB4⟩
       have P4 : Hid (aS w p q W4) := ⟨P3.out.below hB4, hR4, TT.out.below (E3.out.trans (hB4.mono E3.out.size)) hT0, E3.out.trans (hB4.mono E3.out.size)⟩
       clear hR4 hB4 hq P3 E3)
    | (have _q := P4; clear _q; refine wpList_alloc_rec rfl 29 rfl (msg (fun _ => 0) none 0 0) W4.heap.size rfl zeroMsg ?_; intro W5 R5 B5 z5)
    | (have _q := P4; clear _q; refine wpList_store_rec rfl 29 (.tmp 4) (.tmp 14) rfl W4.heap.size 0 _ (msg (pvH 1 0) none 0 0) rfl rfl R5 rfl (by kernel_rfl) (msg_one _ _ _ _) ?_; intro W6 R6 B6
       have F6 : Below W4.heap.size W4 W6 := B5.trans (B6.below (Nat.le_refl _) (by omega))
       have P6 : Hid (aS w p q W6) := P4.out.below F6
       clear F6 R6 B6 R5 B5 z5 P4)
    | (have _q := P6; clear _q; go_at_call 14; refine (of_any 17 _).mono ?_; rintro e w3 ⟨rfl, rfl⟩; rw [show ofI 17 = 1 from rfl])
    | (have _q := P6; clear _q; go_at_call 22; refine (judge_row p p 1280 _ _ 1 _ _ P6.out.2.2.1 (P6.out.1.front (pvF_byte _ _) 256 (by omega)) (P6.out.1.front (pvF_byte _ _) 1280 (by omega)) (by omega) jd1).mono ?_; rintro e W7 ⟨rfl, hB⟩
       have P7 : Hid (aS w p q W7) := P6.out.below hB
       clear hB P6)
    | (have _q := P7; clear _q; go_at_call 25; refine (is_true 1 17 2 false _).mono ?_; rintro e W8 ⟨rfl, hB⟩
       have P8 : Hid (aS w p q W8) := P7.out.below hB
       clear hB P7)
    | (have _q := P8; clear _q; go_at_call 22; refine (judge_row q p 1280 _ _ 1 _ _ P8.out.2.2.1 (P8.out.2.1.front (pvF_byte _ _) 256 (by omega)) (P8.out.1.front (pvF_byte _ _) 1280 (by omega)) (by omega) jd2).mono ?_; rintro e W9 ⟨rfl, hB⟩
       have P9 : Hid (aS w p q W9) := P8.out.below hB
       clear hB P8)
    | (have _q := P9; clear _q; go_at_call 25; refine (is_true 1 17 2 true _).mono ?_; rintro e V1 ⟨rfl, hB⟩
       have Q1 : Hid (aS w p q V1) := P9.out.below hB
       clear hB P9)
    | (have _q := Q1; clear _q; go_at_call 22; refine (judge_row p q 1280 _ _ 1 _ _ Q1.out.2.2.1 (Q1.out.1.front (pvF_byte _ _) 256 (by omega)) (Q1.out.2.1.front (pvF_byte _ _) 1280 (by omega)) (by omega) jd3).mono ?_; rintro e V2 ⟨rfl, hB⟩
       have Q2 : Hid (aS w p q V2) := Q1.out.below hB
       clear hB Q1)
    | (have _q := Q2; clear _q; go_at_call 25; refine (is_true 3 17 2 false _).mono ?_; rintro e V3 ⟨rfl, hB⟩
       have Q3 : Hid (aS w p q V3) := Q2.out.below hB
       clear hB Q2))
  go_ret
  exact ⟨rfl, Q3.out.2.2.2⟩
end Go.Proofs.YtfpgkckcifjkcaaDoor
