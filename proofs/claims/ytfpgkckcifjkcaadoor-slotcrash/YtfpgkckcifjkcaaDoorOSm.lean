/-
  Walks, not a claim by itself: messages held against one another, whatever they are. By the verifier.
-/
import Derived.Test.YtfpgkckcifjkcaaDoorMSame
namespace Go.Proofs.YtfpgkckcifjkcaaDoor
open Go.RowKit
theorem wpList_eql_b {ops : Array Oper} {rest : List Oper} {op : Oper} {a : Act} {w : World} {Q : Exit → Act → World → Prop} (hw : Region.wanted op (yielded ops a.tmps) = true) (t t' : TypeId) (x y : Operand) (ho : op.op = .binOp .eql t x y t')
    (X Y : Array Value) (hx : a.eval x = .agg X) (hy : a.eval y = .agg Y) (b : Bool) (he : ∀ w, (binOp .eql t (.agg X) (.agg Y)).run Tryd.prog w = .ok (.bool b) w) (hg : Tryd.prog.eqGuardType Tryd.prog.depth t = false)
    (hK : wpList Tryd.prog ops Q rest (a.put op.dst (.bool b)) w) : wpList Tryd.prog ops Q (op :: rest) a w := by
  refine wpList_step fun K hK' => ?_
  rw [if_pos hw]
  unfold Oper.wp execOp
  simp only [ho, hx, hy, Sem.run_bind, run_eqGuard_agg _ _ _ _ _ _ _ hg, Result.andThen_ok, he]
  exact hK' _ _ hK
set_option maxRecDepth 100000 in
set_option maxHeartbeats 4000000 in
theorem eql_hdr_no (h g : Nat → Int) (w : World) (hn : ¬ ∀ j, j < 16 → h j = g j) : (binOp .eql 26 (.agg (hcs h).toArray) (.agg (hcs g).toArray)).run Tryd.prog w = .ok (.bool false) w := by
  simp [go_sem, hcs]
  intro h0 h1 h2 h3 h4 h5 h6 h7 h8 h9 h10 h11 h12 h13 h14 h15
  refine hn fun j hj => ?_
  match j, hj with
  | 0, _ => assumption
  | 1, _ => assumption
  | 2, _ => assumption
  | 3, _ => assumption
  | 4, _ => assumption
  | 5, _ => assumption
  | 6, _ => assumption
  | 7, _ => assumption
  | 8, _ => assumption
  | 9, _ => assumption
  | 10, _ => assumption
  | 11, _ => assumption
  | 12, _ => assumption
  | 13, _ => assumption
  | 14, _ => assumption
  | 15, _ => assumption
  | j + 16, hj => omega
set_option maxRecDepth 100000 in
set_option maxHeartbeats 400000 in
theorem sameMsg_eq (h : Nat → Int) (a a' : Option Addr) (n m C C' : Nat) (f g : Nat → Int) (w : World) (hA : Arg w a n f) (hA' : Arg w a' m g) :
    Calls Tryd.prog 21 #[.agg (msg h a n C).toArray, .agg (msg h a' m C').toArray] w fun e w' => e = .returned (.bool (decide (txtN n f = txtN m g))) ∧ Below w.heap.size w w' := by
  have HA : Hid (Arg w a n f) := hA
  have HA' : Hid (Arg w a' m g) := hA'
  obtain ⟨b, hb⟩ : ∃ b, decide (txtN n f = txtN m g) = b := ⟨_, rfl⟩
  have HB : Hid (decide (txtN n f = txtN m g) = b) := hb
  rw [hb]
  clear hA hA' hb
  go_enter Tryd.func21, Tryd.ntmps21
  go_wp2_with (first
    | (refine wpList_box_rec rfl 29 (.tmp 0) rfl (msg h a n C) rfl w.heap.size rfl ?_; intro W0 R0 B0 z0)
    | (refine wpList_box_rec rfl 29 (.tmp 1) rfl (msg h a' m C') rfl (w.heap.size + 1) z0 ?_; intro W1 R1 B1 z1
       have S0 : Hid (Rec19 W1 w.heap.size 0 (msg h a n C)) := R0.below (by rw [z0]; exact B1)
       have S1 : Hid (Rec19 W1 (w.heap.size + 1) 0 (msg h a' m C')) := R1
       have E1 : Hid (Below w.heap.size w W1) := B0.trans (B1.mono (by omega))
       obtain ⟨c0, _⟩ := S0.out.at 16 _ (msg_body h a n C)
       obtain ⟨c1, _⟩ := R1.at 16 _ (msg_body h a' m C')
       clear R0 B0 z0 R1 B1 z1)
    | (refine wpList_load_rec rfl 26 (.tmp 5) rfl w.heap.size 0 (hcs h) rfl _ Tryd.underlying26 rfl (by kernel_rfl) S0.out.head ?_)
    | (refine wpList_load_rec rfl 26 (.tmp 7) rfl (w.heap.size + 1) 0 (hcs h) rfl _ Tryd.underlying26 rfl (by kernel_rfl) S1.out.head ?_)
    | (refine wpList_eql_w (by rfl) 26 26 (.tmp 6) (.tmp 8) rfl (hcs h).toArray rfl rfl (eql_hdr h) guard_hdr ?_)
    | (go_at_call 13; refine (same_any a a' n m C C' f g _ (HA.out.below E1.out) (HA'.out.below E1.out)).mono ?_; rintro e W2 ⟨rfl, hW2⟩; rw [hW2, HB.out]; clear hW2 W2))
  go_ret
  exact ⟨rfl, E1.out⟩
set_option maxRecDepth 100000 in
set_option maxHeartbeats 400000 in
theorem sameMsg_no (h h' : Nat → Int) (a a' : Option Addr) (n m C C' : Nat) (w : World) (hn : ¬ ∀ j, j < 16 → h j = h' j) :
    Calls Tryd.prog 21 #[.agg (msg h a n C).toArray, .agg (msg h' a' m C').toArray] w fun e w' => e = .returned (.bool false) ∧ Below w.heap.size w w' := by
  have HN : Hid (¬ ∀ j, j < 16 → h j = h' j) := hn
  clear hn
  go_enter Tryd.func21, Tryd.ntmps21
  go_wp2_with (first
    | (refine wpList_box_rec rfl 29 (.tmp 0) rfl (msg h a n C) rfl w.heap.size rfl ?_; intro W0 R0 B0 z0)
    | (refine wpList_box_rec rfl 29 (.tmp 1) rfl (msg h' a' m C') rfl (w.heap.size + 1) z0 ?_; intro W1 R1 B1 z1
       have S0 : Hid (Rec19 W1 w.heap.size 0 (msg h a n C)) := R0.below (by rw [z0]; exact B1)
       have S1 : Hid (Rec19 W1 (w.heap.size + 1) 0 (msg h' a' m C')) := R1
       have E1 : Hid (Below w.heap.size w W1) := B0.trans (B1.mono (by omega))
       clear R0 B0 z0 R1 B1 z1)
    | (refine wpList_load_rec rfl 26 (.tmp 5) rfl w.heap.size 0 (hcs h) rfl _ Tryd.underlying26 rfl (by kernel_rfl) S0.out.head ?_)
    | (refine wpList_load_rec rfl 26 (.tmp 7) rfl (w.heap.size + 1) 0 (hcs h') rfl _ Tryd.underlying26 rfl (by kernel_rfl) S1.out.head ?_)
    | (refine wpList_eql_b (by rfl) 26 26 (.tmp 6) (.tmp 8) rfl (hcs h).toArray (hcs h').toArray rfl rfl false (fun w => eql_hdr_no h h' w HN.out) guard_hdr ?_))
  go_ret
  exact ⟨rfl, E1.out⟩
/-- SameMessage, whatever it is handed. -/
theorem sameMsg_gen (h h' : Nat → Int) (a a' : Option Addr) (n m C C' : Nat) (f g : Nat → Int) (w : World) (hA : Arg w a n f) (hA' : Arg w a' m g) : ∃ b : Bool, (b = true → ∀ j, j < 16 → h j = h' j) ∧
    Calls Tryd.prog 21 #[.agg (msg h a n C).toArray, .agg (msg h' a' m C').toArray] w fun e w' => e = .returned (.bool b) ∧ Below w.heap.size w w' := by
  by_cases e : ∀ j, j < 16 → h j = h' j
  · refine ⟨decide (txtN n f = txtN m g), fun _ => e, ?_⟩
    rw [show msg h a n C = msg h' a n C from by unfold msg; rw [hcs_congr h h' e]]
    exact sameMsg_eq h' a a' n m C C' f g w hA hA'
  · exact ⟨false, fun q => (by cases q), sameMsg_no h h' a a' n m C C' w e⟩
end Go.Proofs.YtfpgkckcifjkcaaDoor
