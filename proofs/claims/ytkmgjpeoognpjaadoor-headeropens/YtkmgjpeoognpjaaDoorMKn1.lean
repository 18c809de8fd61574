/-
  Walks, not a claim by itself: the chapter's message, and bytes of which one is turned. By the verifier.
-/
import Derived.Test.YtkmgjpeoognpjaaDoorMSame
import Derived.Test.YtkmgjpeoognpjaaDoorMEval
import Derived.Test.YtkmgjpeoognpjaaDoorBCopy
import Derived.Lib.SlBytesConst
namespace Go.Proofs.YtkmgjpeoognpjaaDoor
open Go.RowKit
/-- The header that the chapter's message is made of; with its Size. -/
def hOne (j : Nat) : Int := if j = 0 then 1 else 0
def hAb : Nat → Int := upd hOne 2 ((2 : Nat) : Int)
theorem words_one : Words hOne := ⟨by unfold Word hOne; decide, by unfold Word hOne; decide, by unfold Word hOne; decide⟩
theorem ok_ab : okH hAb = true := by kernel_rfl
theorem words_ab : Words hAb := words_one.size _
theorem ab_byte : ∀ j, j < 2 → 0 ≤ fnAb j ∧ fnAb j < 256 := by decide
theorem abConv (w : World) : (convert 27 27 (.slice (some ⟨w.heap.size, 0, none⟩) 2 2)).run Tryd.prog (w.alloc (.cells #[.int .u8 97, .int .u8 98] 5)) = .ok (.slice (some ⟨w.heap.size, 0, none⟩) 2 2) (w.alloc (.cells #[.int .u8 97, .int .u8 98] 5 (2, 3))) :=
  Go.Lib.run_convert_bytes_const (P := Tryd.prog) w 27 5 _ 2 2 Tryd.underlying27 Tryd.underlying5
theorem abLies (w : World) : Lies (w.alloc (.cells #[.int .u8 97, .int .u8 98] 5 (2, 3))) w.heap.size 0 2 fnAb := by
  refine ⟨fun j hj => ?_, ab_byte, by simp⟩
  rw [cell_of_row _ _ _ _ _ _ (heap_alloc_new w _)]
  match j, hj with
  | 0, _ | 1, _ => rfl
  | j + 2, hj => omega
theorem Own.row {w : World} {base : Nat} {v : Value} {n : Nat} {F : Nat → Int} (h : Own w base v n F) (hn : 0 < n) : ∃ g cap, v = .slice (some ⟨g, 0, none⟩) n cap ∧ base ≤ g ∧ n ≤ cap ∧ IRow w g .u8 n F := by
  rcases h.2 with ⟨_, h0⟩ | ⟨g, cap, cur, rfl, hbg, hg, hnc, _, hsz, htake⟩
  · omega
  refine ⟨g, cap, rfl, hbg, hnc, fun j hj => ?_, fun j => ?_, (Array.getElem?_eq_some_iff.1 hg).1⟩
  · rw [cell_of_row w g j cur 5 (0, 0) hg]
    have := cl_at .u8 n F j hj
    rw [← htake, List.getElem?_take, if_pos (by omega)] at this
    simpa using this
  · simp [World.frozen?, hg]
/-- What ab answers. -/
def AbPost (w : World) (e : Ending) (w' : World) : Prop := ∃ x g : Nat, e = .returned (.tuple #[.agg (msg hAb (some ⟨x, 0, none⟩) 2 2).toArray, .slice (some ⟨g, 0, none⟩) 258 258, .bool true]) ∧ w.heap.size ≤ g ∧ Lies w' x 0 2 fnAb ∧ IRow w' g .u8 258 (msgF hAb 2 fnAb) ∧ Below w.heap.size w w'
set_option maxRecDepth 100000 in
set_option maxHeartbeats 400000 in
theorem ab_any (w : World) (hT : Tab w) : Calls Tryd.prog 22 #[] w (AbPost w) := by
  have hT0 := hT.2
  have TT : Hid (Tab w) := hT
  clear hT
  go_enter Tryd.func22, Tryd.ntmps22
  go_wp2_with (first
    | (refine wpList_alloc_rec rfl 29 rfl (msg (fun _ => 0) none 0 0) w.heap.size rfl zeroMsg ?_; intro W1 R1 B1 z1
       have hcv := abConv W1
       have L1 := abLies W1
       have C1 : Below W1.heap.size W1 (W1.alloc (.cells #[.int .u8 97, .int .u8 98] 5 (2, 3))) := (Below.refl _ _).alloc (Nat.le_refl _) _
       rw [z1] at hcv L1 C1)
    | (refine wpList_build_to rfl 26 _ rfl (hcs hOne).toArray (by kernel_rfl) ?_)
    | (refine wpList_build_to rfl 29 _ rfl (msg hOne (some ⟨w.heap.size + 1, 0, none⟩) 2 2).toArray (by kernel_rfl) ?_)
    | (refine wpList_alloc_rec rfl 29 rfl (msg (fun _ => 0) none 0 0) (w.heap.size + 1 + 1) (by simp [z1]) zeroMsg ?_; intro W2 R2 B2 z2)
    | (refine wpList_store_rec rfl 29 (.tmp 3) (.tmp 9) rfl (w.heap.size + 1 + 1) 0 _ (msg hOne (some ⟨w.heap.size + 1, 0, none⟩) 2 2) rfl rfl R2 rfl (by kernel_rfl) (msg_one _ _ _ _) ?_; intro W3 R3 B3
       have F3 : Below (w.heap.size + 1) W1 W3 := (C1.trans (B2.mono (by omega))).trans (B3.below (by omega) (by omega))
       have E3 : Hid (Below w.heap.size w W3) := B1.trans (F3.mono (by omega))
       have S3 : Hid (Rec19 W3 w.heap.size 0 (msg (fun _ => 0) none 0 0)) := R1.below (by rw [z1]; exact F3)
       have M3 : Hid (Rec19 W3 (w.heap.size + 1 + 1) 0 (msg hOne (some ⟨w.heap.size + 1, 0, none⟩) 2 2)) := R3
       have L3 : Hid (Lies W3 (w.heap.size + 1) 0 2 fnAb) := (L1.below (by simpa [z1] using B2)).but B3 (by omega)
       clear F3 R3 B3 R2 B2 z2 R1 B1 C1 L1 hcv z1)
    | (refine wpList_load_rec rfl 29 (.tmp 3) rfl (w.heap.size + 1 + 1) 0 (msg hOne (some ⟨w.heap.size + 1, 0, none⟩) 2 2) rfl _ Tryd.underlying29 rfl (by kernel_rfl) M3.out ?_)
    | (go_at_call 9; refine (mseal_ok hOne (some ⟨w.heap.size + 1, 0, none⟩) 2 2 fnAb _ (by omega) (TT.out.below E3.out hT0) (Arg.of L3.out) (Nat.le_refl _) words_one ok_ab).mono ?_; rintro e W4 ⟨g, rfl, hg, hR4, hB4⟩
       have S4 := S3.out.below hB4
       have M4 := M3.out.below hB4
       have L4 := L3.out.below hB4
       have E4 := E3.out.trans (hB4.mono E3.out.size)
       have G4 : w.heap.size + 3 ≤ g := by have := M3.out.2.2; omega
       obtain ⟨c2, f2⟩ := M4.at 2 (.int .i64 (hOne 2)) rfl
       have M5 : Hid (Rec19 (W4.setCell ⟨w.heap.size + 1 + 1, 2, none⟩ (.int .i64 2)) (w.heap.size + 1 + 1) 0 (msg hAb (some ⟨w.heap.size + 1, 0, none⟩) 2 2)) := M4.set 2 (.int .i64 2) (by rw [msg_len]; omega)
       have S5 : Hid (Rec19 (W4.setCell ⟨w.heap.size + 1 + 1, 2, none⟩ (.int .i64 2)) w.heap.size 0 (msg (fun _ => 0) none 0 0)) := S4.but (But.set _ _ _) (by omega)
       have L5 : Hid (Lies (W4.setCell ⟨w.heap.size + 1 + 1, 2, none⟩ (.int .i64 2)) (w.heap.size + 1) 0 2 fnAb) := L4.but (But.set _ _ _) (by omega)
       have R5 : Hid (IRow (W4.setCell ⟨w.heap.size + 1 + 1, 2, none⟩ (.int .i64 2)) g .u8 258 (msgF hAb 2 fnAb)) := hR4.but (But.set _ _ _) (by omega)
       have E5 : Hid (Below w.heap.size w (W4.setCell ⟨w.heap.size + 1 + 1, 2, none⟩ (.int .i64 2))) := E4.setCell (by show _ ≤ w.heap.size + 1 + 1; omega) _
       clear S4 M4 L4 E4 hR4 hB4 hg S3 M3 L3 E3)
    | (refine wpList_load_rec rfl 29 (.tmp 3) rfl (w.heap.size + 1 + 1) 0 (msg hAb (some ⟨w.heap.size + 1, 0, none⟩) 2 2) rfl _ Tryd.underlying29 rfl (by kernel_rfl) M5.out ?_)
    | (refine wpList_store_rec rfl 29 (.tmp 0) (.tmp 17) rfl w.heap.size 0 _ (msg hAb (some ⟨w.heap.size + 1, 0, none⟩) 2 2) rfl rfl S5.out rfl (by kernel_rfl) (msg_one _ _ _ _) ?_; intro W6 R6 B6))
  have hl := R6.run_load 29 _ Tryd.underlying29 rfl (by kernel_rfl)
  refine bodyPost_ret (v := .tuple #[.agg (msg hAb (some ⟨w.heap.size + 1, 0, none⟩) 2 2).toArray, .slice (some ⟨g, 0, none⟩) 258 258, .bool true]) (by simp [results, Tryd.results22, asAddr, hl]) rfl ⟨w.heap.size + 1, g, rfl, by omega, L5.out.but B6 (by omega), R5.out.but B6 (by omega), E5.out.trans (B6.below (Nat.le_refl _) E5.out.size)⟩
/-- What turned answers. -/
def TurnPost (w : World) (n at' : Nat) (f : Nat → Int) (e : Ending) (w' : World) : Prop := ∃ g cap : Nat, e = .returned (.slice (some ⟨g, 0, none⟩) n cap) ∧ w.heap.size ≤ g ∧ n ≤ cap ∧ IRow w' g .u8 n (upd f at' (bits .xor .u8 (f at') 1)) ∧ Below w.heap.size w w'
set_option maxRecDepth 100000 in
set_option maxHeartbeats 400000 in
theorem turned_any (a : Option Addr) (n C at' : Nat) (f : Nat → Int) (w : World) (h : Arg w a n f) (ha : at' < n) (hn : n ≤ 1000000) : Calls Tryd.prog 23 #[.slice a n C, .int .i64 at'] w (TurnPost w n at' f) := by
  have HA : Hid (Arg w a n f) := h
  clear h
  have e1 : (at' : Int) < n := by omega
  go_enter Tryd.func23, Tryd.ntmps23
  go_wp2_with (go_at_call 24; refine (copy_any a n C f _ HA.out hn).mono ?_; rintro e W1 ⟨v, rfl, hO, hB1⟩; obtain ⟨g, cap, rfl, hg, hc, hR⟩ := hO.row (by omega); have c0 := hR.1 at' ha; have f0 := hR.2.1 at'; have R1 : Hid (IRow W1 g .u8 n f) := hR; have E1 : Hid (Below w.heap.size w W1) := hB1; clear hR hB1 hO)
  exact bodyPost_ret (v := .slice (some ⟨g, 0, none⟩) n cap) (by simp [results, Tryd.results23, go_sem]) rfl ⟨g, cap, rfl, hg, hc, R1.out.set _ _, E1.out.setCell hg _⟩
end Go.Proofs.YtkmgjpeoognpjaaDoor
