/-
  Walks, not a claim by itself: the statements' prepare and is. By the verifier.
-/
import Derived.Test.YtfpgkckcifjkcaaDoorOAbs
import Derived.Test.YtfpgkckcifjkcaaDoorONgt
namespace Go.Proofs.YtfpgkckcifjkcaaDoor
open Go.RowKit
/-- The header of a prepare. -/
def pvH (op vw : Int) (j : Nat) : Int := if j = 0 then 2 else if j = 5 then op else if j = 3 then vw else 0
theorem pv_words (op vw : Int) : Words (pvH op vw) := ⟨by unfold Word pvH; simp, by unfold Word pvH; simp, by unfold Word pvH; simp⟩
theorem pv_size (op vw : Int) (j : Nat) : upd (pvH op vw) 2 ((0 : Nat) : Int) j = pvH op vw j := by
  unfold upd
  by_cases e : j = 2
  · subst e; rfl
  · rw [if_neg e]
theorem pv_ok (op vw : Int) (h0 : 0 ≤ op) (h1 : op ≤ 1073741824) (v0 : 0 ≤ vw) (v1 : vw ≤ 1073741824) : okH (upd (pvH op vw) 2 ((0 : Nat) : Int)) = true := by
  rw [okH_iff]
  intro k hk
  unfold within
  rw [Bool.and_eq_true, decide_eq_true_iff, decide_eq_true_iff, pv_size]
  match k, hk with
  | 0, _ | 1, _ | 2, _ | 4, _ | 6, _ | 7, _ | 8, _ | 9, _ | 10, _ | 11, _ | 12, _ => exact ⟨by simp [pvH, pos, fle], by simp [pvH, pos, fmo]⟩
  | 3, _ => exact ⟨v0, v1⟩
  | 5, _ => exact ⟨h0, h1⟩
  | k + 13, hk => omega
/-- The slot's bytes of such a prepare. -/
def pvF (op vw : Int) : Nat → Int := slotF (pvH op vw) 0 (fun _ => 0)
theorem pvF_byte (op vw : Int) (j : Nat) : 0 ≤ pvF op vw j ∧ pvF op vw j < 256 := slotF_byte _ 0 _ (fun j h => by omega) j
set_option maxRecDepth 100000 in
set_option maxHeartbeats 400000 in
theorem prepare_ok (op vw : Int) (w : World) (hT : Tab w) (hok : okH (upd (pvH op vw) 2 ((0 : Nat) : Int)) = true) (hp : isPrep (pvH op vw) (ofI (pvH op vw 5)) = true) :
    Calls Tryd.prog 24 #[.int .i64 op, .int .i64 vw] w fun e w' => ∃ g, e = .returned (.tuple #[.agg (msg (pvH op vw) none 0 0).toArray, .slice (some ⟨g, 0, none⟩) 1280 1280, .bool true]) ∧ w.heap.size ≤ g ∧ IRow w' g .u8 1280 (pvF op vw) ∧ Below w.heap.size w w' := by
  have hT0 := hT.2
  have TT : Hid (Tab w) := hT
  have HK : Hid (okH (upd (pvH op vw) 2 ((0 : Nat) : Int)) = true) := hok
  have HP : Hid (isPrep (pvH op vw) (ofI (pvH op vw 5)) = true) := hp
  clear hT hok hp
  have T0 : Hid True := trivial
  go_enter Tryd.func24, Tryd.ntmps24
  go_wp2_with (first
    | (have _q := T0; clear _q; refine wpList_alloc_rec rfl 29 rfl (msg (fun _ => 0) none 0 0) w.heap.size rfl zeroMsg ?_; intro W1 R1 B1 z1; clear T0)
    | (have _q := R1; clear _q; refine wpList_build_to rfl 26 _ rfl (hcs (pvH op vw)).toArray (by kernel_rfl) ?_)
    | (have _q := R1; clear _q; refine wpList_build_to rfl 29 _ rfl (msg (pvH op vw) none 0 0).toArray (by kernel_rfl) ?_)
    | (have _q := R1; clear _q; refine wpList_alloc_rec rfl 29 rfl (msg (fun _ => 0) none 0 0) (w.heap.size + 1) z1 zeroMsg ?_; intro W2 R2 B2 z2)
    | (have _q := R1; clear _q; refine wpList_store_rec rfl 29 (.tmp 7) (.tmp 13) rfl (w.heap.size + 1) 0 _ (msg (pvH op vw) none 0 0) rfl rfl R2 rfl (by kernel_rfl) (msg_one _ _ _ _) ?_; intro W3 R3 B3
       have F3 : Below (w.heap.size + 1) W1 W3 := B2.trans (B3.below (by omega) (by omega))
       have E3 : Hid (Below w.heap.size w W3) := B1.trans (F3.mono (by omega))
       have S3 : Hid (Rec19 W3 w.heap.size 0 (msg (fun _ => 0) none 0 0)) := R1.below (by rw [z1]; exact F3)
       have M3 : Hid (Rec19 W3 (w.heap.size + 1) 0 (msg (pvH op vw) none 0 0)) := R3
       clear F3 R3 B3 R2 B2 z2 R1 B1 z1)
    | (have _q := S3; clear _q; refine wpList_load_rec rfl 29 (.tmp 7) rfl (w.heap.size + 1) 0 (msg (pvH op vw) none 0 0) rfl _ Tryd.underlying29 rfl (by kernel_rfl) M3.out ?_)
    | (have _q := S3; clear _q; go_at_call 9; refine (sbytes_ok (pvH op vw) none 0 0 (fun _ => 0) _ (by omega) (TT.out.below E3.out hT0) (.inl ⟨rfl, .inl rfl⟩) (Nat.le_refl _) (pv_words op vw) HK.out HP.out).mono ?_; rintro e W4 ⟨g, rfl, hg, hR4, hB4⟩
       have S4 : Hid (Rec19 W4 w.heap.size 0 (msg (fun _ => 0) none 0 0)) := S3.out.below hB4
       have M4 : Hid (Rec19 W4 (w.heap.size + 1) 0 (msg (pvH op vw) none 0 0)) := M3.out.below hB4
       have G4 : Hid (IRow W4 g .u8 1280 (pvF op vw)) := hR4
       have E4 : Hid (Below w.heap.size w W4) := E3.out.trans (hB4.mono E3.out.size)
       have N4 : Hid (w.heap.size + 1 < g) := Nat.lt_of_lt_of_le M3.out.2.2 hg
       clear hR4 hB4 hg S3 M3 E3)
    | (have _q := S4; clear _q; refine wpList_load_rec rfl 29 (.tmp 7) rfl (w.heap.size + 1) 0 (msg (pvH op vw) none 0 0) rfl _ Tryd.underlying29 rfl (by kernel_rfl) M4.out ?_)
    | (have _q := S4; clear _q; refine wpList_store_rec rfl 29 (.tmp 4) (.tmp 19) rfl w.heap.size 0 _ (msg (pvH op vw) none 0 0) rfl rfl S4.out rfl (by kernel_rfl) (msg_one _ _ _ _) ?_; intro W6 R6 B6))
  have hl := R6.run_load 29 _ Tryd.underlying29 rfl (by kernel_rfl)
  have n4 := N4.out
  refine bodyPost_ret (v := .tuple #[.agg (msg (pvH op vw) none 0 0).toArray, .slice (some ⟨g, 0, none⟩) 1280 1280, .bool true]) (by simp [results, Tryd.results24, asAddr, hl]) rfl ⟨g, rfl, by omega, G4.out.but B6 (by omega), E4.out.trans (B6.below (Nat.le_refl _) E4.out.size)⟩
theorem eql_ss (a b c : Int) (d : Bool) (w : World) : (binOp .eql 45 (.agg (ss a b c d).toArray) (.agg (ss a b c d).toArray)).run Tryd.prog w = .ok (.bool true) w := by
  simp [go_sem, ss]
theorem guard_ss : Tryd.prog.eqGuardType Tryd.prog.depth 45 = false := by kernel_rfl
set_option maxRecDepth 100000 in
set_option maxHeartbeats 400000 in
theorem is_true (a b c : Int) (d : Bool) (w : World) : Calls Tryd.prog 25 #[.agg (ss a b c d).toArray, .int .i64 a, .int .i64 b, .int .i64 c, .bool d] w fun e w' => e = .returned (.bool true) ∧ Below w.heap.size w w' := by
  have T0 : Hid True := trivial
  go_enter Tryd.func25, Tryd.ntmps25
  go_wp2_with (first
    | (have _q := T0; clear _q; refine wpList_box_rec rfl 45 (.tmp 0) rfl (ss a b c d) rfl w.heap.size rfl ?_; intro W0 R0 B0 z0; clear T0)
    | (have _q := R0; clear _q; refine wpList_load_rec rfl 45 (.tmp 5) rfl w.heap.size 0 (ss a b c d) rfl _ Tryd.underlying45 rfl (by kernel_rfl) R0 ?_)
    | (have _q := R0; clear _q; refine wpList_build_to rfl 45 _ rfl (ss a b c d).toArray (by kernel_rfl) ?_)
    | (have _q := R0; clear _q; refine wpList_eql_w (by rfl) 45 45 (.tmp 11) (.tmp 16) rfl (ss a b c d).toArray rfl rfl (eql_ss a b c d) guard_ss ?_))
  go_ret
  exact ⟨rfl, B0⟩
end Go.Proofs.YtfpgkckcifjkcaaDoor
