/-
  Walks, not a claim by itself: messages held against one another. By the verifier.
-/
import Derived.Test.YtijpoipcadhchaaDoorMLaw
namespace Go.Proofs.YtijpoipcadhchaaDoor
open Go.RowKit
set_option maxRecDepth 100000 in
set_option maxHeartbeats 2000000 in
theorem eql_hdr (h : Nat → Int) (w : World) : (binOp .eql 26 (.agg (hcs h).toArray) (.agg (hcs h).toArray)).run Tryd.prog w = .ok (.bool true) w := by
  simp [go_sem, hcs]
theorem guard_hdr : Tryd.prog.eqGuardType Tryd.prog.depth 26 = false := by kernel_rfl
theorem wpList_eql_w {ops : Array Oper} {rest : List Oper} {op : Oper} {a : Act} {w : World} {Q : Exit → Act → World → Prop} (hw : Region.wanted op (yielded ops a.tmps) = true) (t t' : TypeId) (x y : Operand) (ho : op.op = .binOp .eql t x y t')
    (X : Array Value) (hx : a.eval x = .agg X) (hy : a.eval y = .agg X) (he : ∀ w, (binOp .eql t (.agg X) (.agg X)).run Tryd.prog w = .ok (.bool true) w) (hg : Tryd.prog.eqGuardType Tryd.prog.depth t = false)
    (hK : wpList Tryd.prog ops Q rest (a.put op.dst (.bool true)) w) : wpList Tryd.prog ops Q (op :: rest) a w := by
  refine wpList_step fun K hK' => ?_
  rw [if_pos hw]
  unfold Oper.wp execOp
  simp only [ho, hx, hy, Sem.run_bind, run_eqGuard_agg _ _ _ _ _ _ _ hg, Result.andThen_ok, he]
  exact hK' _ _ hK
set_option maxRecDepth 100000 in
set_option maxHeartbeats 400000 in
theorem sameMsg_any (h : Nat → Int) (a a' : Option Addr) (n m C C' : Nat) (f g : Nat → Int) (w : World) (hA : Arg w a n f) (hA' : Arg w a' m g) (hnm : n = m) (hfg : ∀ j, j < n → f j = g j) :
    Calls Tryd.prog 8 #[.agg (msg h a n C).toArray, .agg (msg h a' m C').toArray] w fun e w' => e = .returned (.bool true) ∧ Below w.heap.size w w' := by
  subst hnm
  have HA : Hid (Arg w a n f) := hA
  have HA' : Hid (Arg w a' n g) := hA'
  have TX : decide (txtN n f = txtN n g) = true := decide_eq_true (txtN_congr n f g hfg)
  clear hA hA' hfg
  go_enter Tryd.func8, Tryd.ntmps8
  go_wp2_with (first
    | (refine wpList_box_rec rfl 29 (.tmp 0) rfl (msg h a n C) rfl w.heap.size rfl ?_; intro W0 R0 B0 z0)
    | (refine wpList_box_rec rfl 29 (.tmp 1) rfl (msg h a' n C') rfl (w.heap.size + 1) z0 ?_; intro W1 R1 B1 z1
       have S0 : Hid (Rec19 W1 w.heap.size 0 (msg h a n C)) := R0.below (by rw [z0]; exact B1)
       have S1 : Hid (Rec19 W1 (w.heap.size + 1) 0 (msg h a' n C')) := R1
       have E1 : Hid (Below w.heap.size w W1) := B0.trans (B1.mono (by omega))
       obtain ⟨c0, _⟩ := S0.out.at 16 _ (msg_body h a n C)
       obtain ⟨c1, _⟩ := R1.at 16 _ (msg_body h a' n C')
       clear R0 B0 z0 R1 B1 z1)
    | (refine wpList_load_rec rfl 26 (.tmp 5) rfl w.heap.size 0 (hcs h) rfl _ Tryd.underlying26 rfl (by kernel_rfl) S0.out.head ?_)
    | (refine wpList_load_rec rfl 26 (.tmp 7) rfl (w.heap.size + 1) 0 (hcs h) rfl _ Tryd.underlying26 rfl (by kernel_rfl) S1.out.head ?_)
    | (refine wpList_eql_w (by rfl) 26 26 (.tmp 6) (.tmp 8) rfl (hcs h).toArray rfl rfl (eql_hdr h) guard_hdr ?_)
    | (go_at_call 26; refine (same_any a a' n n C C' f g _ (HA.out.below E1.out) (HA'.out.below E1.out)).mono ?_; rintro e W2 ⟨rfl, hW2⟩; rw [hW2, TX]; clear hW2 W2))
  go_ret
  exact ⟨rfl, E1.out⟩
end Go.Proofs.YtijpoipcadhchaaDoor
