/-
  Walks, not a claim by itself: level's Over, and the reference's. By the verifier.
-/
import Derived.Test.YtcjapldhfolpnaaDoorLvKd
namespace Go.Proofs.YtcjapldhfolpnaaDoor
open Go.RowKit
attribute [-go_sem] Builtin.append_
/-- How many tables a level has. -/
def lenD (m : List (List Rn)) (i : Nat) : Nat := ((m[i]?).getD []).length
/-- What Over answers. -/
def ovD (m : List (List Rn)) : Int × Bool := if mayB m then (if 4 < lenD m 0 then (0, true) else if 8 < lenD m 1 then (1, true) else if 16 < lenD m 2 then (2, true) else (0, false)) else (0, false)
theorem lenD_at {ls : List LR} {i : Nat} {x : LR} (h : ls[i]? = some x) : lenD (rns ls) i = x.rs.length := by
  unfold lenD rns
  rw [List.getElem?_map, h]
  simp
theorem lenD_none {ls : List LR} {i : Nat} (h : ls.length ≤ i) : lenD (rns ls) i = 0 := by
  unfold lenD rns
  rw [List.getElem?_eq_none (by simpa using h)]
  rfl
/-- The program's own table of how many tables a level may have. -/
def Room (W : World) : Prop := W.rangeAt 0 0 [.int .i64 4, .int .i64 8, .int .i64 16] ∧ 0 < W.heap.size
theorem Room.below {W W' : World} (h : Room W) (hB : Below W.heap.size W W') : Room W' := ⟨fun j v hj => (hB.cell (p := ⟨0, 0 + j, none⟩) h.2).trans (h.1 j v hj), Nat.lt_of_lt_of_le h.2 hB.size⟩
set_option maxRecDepth 100000 in
theorem lof_any {W : World} {A : Option Addr} {ls : List LR} (L C i : Nat) (hL : ls.length = L) (h : Lvs W A ls) (hl : L ≤ 1000) : Calls Tryd.prog 34 #[.slice A L C, .int .i64 (i : Int)] W fun e w' => (∃ a c, e = .returned (.slice a (lenD (rns ls) i) c)) ∧ w' = W := by
  by_cases hi : L ≤ i
  · have N := hidIt (lenD_none (ls := ls) (i := i) (by omega))
    have c1 : ((L : Int) ≤ (i : Int)) = True := eq_true (by omega)
    have c1' : (L ≤ i) = True := eq_true hi
    clear hi h hL
    go_enter Tryd.func34, Tryd.ntmps34
    go_wp2_with fail
    exact bodyPost_ret (v := .slice none 0 0) (by simp [results, Tryd.results34, go_sem]) rfl ⟨⟨none, 0, by rw [N.out]⟩, rfl⟩
  · obtain ⟨x, hx⟩ : ∃ x, ls[i]? = some x := ⟨_, List.getElem?_eq_getElem (by omega)⟩
    have N := hidIt (lenD_at hx)
    obtain ⟨b, o, ha, hc, hb⟩ := h.at i x hx
    subst ha
    have c1 : ((L : Int) ≤ (i : Int)) = False := eq_false (by omega)
    have c1' : (L ≤ i) = False := eq_false hi
    obtain ⟨i0, i1, _⟩ := tb_ar i L (by omega) (by omega)
    unfold LR.v at hc
    clear hi h hL hb hx
    go_enter Tryd.func34, Tryd.ntmps34
    go_wp2_with fail
    exact bodyPost_ret (v := .slice x.a x.rs.length x.c) (by simp [results, Tryd.results34, go_sem]) rfl ⟨⟨x.a, x.c, by rw [N.out]⟩, rfl⟩
theorem ovD_no {m : List (List Rn)} (h : mayB m = false) : ovD m = (0, false) := by unfold ovD; rw [h]; rfl
theorem ovD_0 {m : List (List Rn)} (h : mayB m = true) (h0 : 4 < lenD m 0) : ovD m = (0, true) := by unfold ovD; rw [if_pos h, if_pos h0]
theorem ovD_1 {m : List (List Rn)} (h : mayB m = true) (h0 : ¬ 4 < lenD m 0) (h1 : 8 < lenD m 1) : ovD m = (1, true) := by unfold ovD; rw [if_pos h, if_neg h0, if_pos h1]
theorem ovD_2 {m : List (List Rn)} (h : mayB m = true) (h0 : ¬ 4 < lenD m 0) (h1 : ¬ 8 < lenD m 1) (h2 : 16 < lenD m 2) : ovD m = (2, true) := by unfold ovD; rw [if_pos h, if_neg h0, if_neg h1, if_pos h2]
theorem ovD_3 {m : List (List Rn)} (h : mayB m = true) (h0 : ¬ 4 < lenD m 0) (h1 : ¬ 8 < lenD m 1) (h2 : ¬ 16 < lenD m 2) : ovD m = (0, false) := by unfold ovD; rw [if_pos h, if_neg h0, if_neg h1, if_neg h2]
/-- What both answer. -/
def OvPost (W : World) (m : List (List Rn)) (e : Ending) (w' : World) : Prop := e = .returned (.tuple #[.int .i64 (ovD m).1, .bool (ovD m).2]) ∧ Below W.heap.size W w'
set_option maxRecDepth 100000 in
set_option maxHeartbeats 1000000 in
theorem lover_any {W : World} {A : Option Addr} {ls : List LR} (L C : Nat) (hL : ls.length = L) (h : Lvs W A ls) (hs : ∀ x ∈ ls, x.rs.length ≤ 1000) (hl : L ≤ 1000) (hR : Room W) : Calls Tryd.prog 10 #[.slice A L C] W (OvPost W (rns ls)) := by
  have HL := hidIt h
  have HN := hidIt (And.intro hL (And.intro hs hl))
  have HR := hidIt hR
  cases hm : mayB (rns ls) with
  | false =>
    have MI : Hid (mayI (rns ls) = 2) := hidIt (by unfold mayI; rw [hm]; rfl)
    have FI := hidIt (ovD_no hm)
    clear h hL hs hm hR hl
    go_enter Tryd.func10, Tryd.ntmps10
    go_wp2_with (go_at_call 13; refine (lcheck_any L C HN.out.1 HL.out (fun x hx => by have := HN.out.2.1 x hx; omega)).mono ?_; rw [MI.out]; rintro e W2 ⟨rfl, hb⟩; have E2 := hidIt hb; clear hb)
    exact bodyPost_ret (v := .tuple #[.int .i64 0, .bool false]) (by simp [results, Tryd.results10, go_sem]) rfl ⟨by rw [FI.out], E2.out⟩
  | true =>
    have MI : Hid (mayI (rns ls) = 0) := hidIt (by unfold mayI; rw [hm]; rfl)
    have MB := hidIt hm
    clear h hL hs hm hR hl
    go_enter Tryd.func10, Tryd.ntmps10
    go_wp2_with (first
      | (go_at_call 13; refine (lcheck_any L C HN.out.1 HL.out (fun x hx => by have := HN.out.2.1 x hx; omega)).mono ?_; rw [MI.out]; rintro e W2 ⟨rfl, hb⟩; have E2 := hidIt hb; clear hb)
      | (refine wpList_load_mid rfl 56 (.global 0) rfl 0 0 rfl [.int .i64 4, .int .i64 8, .int .i64 16] _ (HR.out.below E2.out).1 Tryd.underlying56 rfl (by kernel_rfl) ?_))
    go_loopw [10] (fun iv wr => ∃ k : Nat, k ≤ 3 ∧ iv = .int .i64 (k : Int) ∧ Hid (Below W.heap.size W wr ∧ (0 < k → ¬ 4 < lenD (rns ls) 0) ∧ (1 < k → ¬ 8 < lenD (rns ls) 1) ∧ (2 < k → ¬ 16 < lenD (rns ls) 2))) (fun iv _ => 3 - (RowKit.intOf iv).toNat)
    case atStart => exact ⟨0, by omega, rfl, hidIt ⟨E2.out, by omega, by omega, by omega⟩⟩
    case round =>
      clear E2
      obtain ⟨k, hk, rfl, HI⟩ := hrel
      rename World => wr
      have hk3 : k = 0 ∨ k = 1 ∨ k = 2 ∨ k = 3 := by omega
      clear hk
      rcases hk3 with rfl | rfl | rfl | rfl
      · have G := hidIt (fun (U : World) (hU : Below W.heap.size W U) => lof_any L C 0 HN.out.1 (HL.out.below hU) HN.out.2.2)
        have p1 : ∀ w, (Instr.index 56 (.agg #[.int .i64 4, .int .i64 8, .int .i64 16]) (.int .i64 ((0 : Nat) : Int))).run Tryd.prog w = .ok (.int .i64 4) w := fun w => by kernel_rfl
        have p2 : ∀ w, (Instr.index 56 (.agg #[.int .i64 4, .int .i64 8, .int .i64 16]) (.int .i64 0)).run Tryd.prog w = .ok (.int .i64 4) w := fun w => by kernel_rfl
        by_cases hc : 4 < lenD (rns ls) 0
        · have FI := hidIt (ovD_0 MB.out hc)
          have hc' : (4 < (lenD (rns ls) 0 : Int)) = True := eq_true (by omega)
          clear hc
          obtain ⟨q, hq⟩ : ∃ q, q = lenD (rns ls) 0 := ⟨_, rfl⟩
          rw [← hq] at hc' G
          clear hq
          go_wp2_with (go_at_call 34; refine (G.out _ HI.out.1).mono ?_; rintro e W3 ⟨⟨a3, c3, rfl⟩, hw⟩; rw [hw]; clear hw)
          exact bodyPost_ret (v := .tuple #[.int .i64 0, .bool true]) (by simp [results, Tryd.results10, go_sem]) rfl ⟨by rw [FI.out], HI.out.1⟩
        · have NX : Hid (Below W.heap.size W wr ∧ (0 < 1 → ¬ 4 < lenD (rns ls) 0) ∧ (1 < 1 → ¬ 8 < lenD (rns ls) 1) ∧ (2 < 1 → ¬ 16 < lenD (rns ls) 2)) := hidIt ⟨HI.out.1, (fun _ => hc), (fun z => by omega), (fun z => by omega)⟩
          have hc' : (4 < (lenD (rns ls) 0 : Int)) = False := eq_false (by omega)
          clear hc HI
          have NB := hidIt NX.out.1
          obtain ⟨q, hq⟩ : ∃ q, q = lenD (rns ls) 0 := ⟨_, rfl⟩
          rw [← hq] at hc' G
          clear hq
          go_wp2_with (go_at_call 34; refine (G.out _ NB.out).mono ?_; rintro e W3 ⟨⟨a3, c3, rfl⟩, hw⟩; rw [hw]; clear hw)
          exact ⟨⟨1, by omega, rfl, NX⟩, by decide⟩
      · have G := hidIt (fun (U : World) (hU : Below W.heap.size W U) => lof_any L C 1 HN.out.1 (HL.out.below hU) HN.out.2.2)
        have p1 : ∀ w, (Instr.index 56 (.agg #[.int .i64 4, .int .i64 8, .int .i64 16]) (.int .i64 ((1 : Nat) : Int))).run Tryd.prog w = .ok (.int .i64 8) w := fun w => by kernel_rfl
        have p2 : ∀ w, (Instr.index 56 (.agg #[.int .i64 4, .int .i64 8, .int .i64 16]) (.int .i64 1)).run Tryd.prog w = .ok (.int .i64 8) w := fun w => by kernel_rfl
        by_cases hc : 8 < lenD (rns ls) 1
        · have FI := hidIt (ovD_1 MB.out (HI.out.2.1 (by omega)) hc)
          have hc' : (8 < (lenD (rns ls) 1 : Int)) = True := eq_true (by omega)
          clear hc
          obtain ⟨q, hq⟩ : ∃ q, q = lenD (rns ls) 1 := ⟨_, rfl⟩
          rw [← hq] at hc' G
          clear hq
          go_wp2_with (go_at_call 34; refine (G.out _ HI.out.1).mono ?_; rintro e W3 ⟨⟨a3, c3, rfl⟩, hw⟩; rw [hw]; clear hw)
          exact bodyPost_ret (v := .tuple #[.int .i64 1, .bool true]) (by simp [results, Tryd.results10, go_sem]) rfl ⟨by rw [FI.out], HI.out.1⟩
        · have NX : Hid (Below W.heap.size W wr ∧ (0 < 2 → ¬ 4 < lenD (rns ls) 0) ∧ (1 < 2 → ¬ 8 < lenD (rns ls) 1) ∧ (2 < 2 → ¬ 16 < lenD (rns ls) 2)) := hidIt ⟨HI.out.1, (fun _ => HI.out.2.1 (by omega)), (fun _ => hc), (fun z => by omega)⟩
          have hc' : (8 < (lenD (rns ls) 1 : Int)) = False := eq_false (by omega)
          clear hc HI
          have NB := hidIt NX.out.1
          obtain ⟨q, hq⟩ : ∃ q, q = lenD (rns ls) 1 := ⟨_, rfl⟩
          rw [← hq] at hc' G
          clear hq
          go_wp2_with (go_at_call 34; refine (G.out _ NB.out).mono ?_; rintro e W3 ⟨⟨a3, c3, rfl⟩, hw⟩; rw [hw]; clear hw)
          exact ⟨⟨2, by omega, rfl, NX⟩, by decide⟩
      · have G := hidIt (fun (U : World) (hU : Below W.heap.size W U) => lof_any L C 2 HN.out.1 (HL.out.below hU) HN.out.2.2)
        have p1 : ∀ w, (Instr.index 56 (.agg #[.int .i64 4, .int .i64 8, .int .i64 16]) (.int .i64 ((2 : Nat) : Int))).run Tryd.prog w = .ok (.int .i64 16) w := fun w => by kernel_rfl
        have p2 : ∀ w, (Instr.index 56 (.agg #[.int .i64 4, .int .i64 8, .int .i64 16]) (.int .i64 2)).run Tryd.prog w = .ok (.int .i64 16) w := fun w => by kernel_rfl
        by_cases hc : 16 < lenD (rns ls) 2
        · have FI := hidIt (ovD_2 MB.out (HI.out.2.1 (by omega)) (HI.out.2.2.1 (by omega)) hc)
          have hc' : (16 < (lenD (rns ls) 2 : Int)) = True := eq_true (by omega)
          clear hc
          obtain ⟨q, hq⟩ : ∃ q, q = lenD (rns ls) 2 := ⟨_, rfl⟩
          rw [← hq] at hc' G
          clear hq
          go_wp2_with (go_at_call 34; refine (G.out _ HI.out.1).mono ?_; rintro e W3 ⟨⟨a3, c3, rfl⟩, hw⟩; rw [hw]; clear hw)
          exact bodyPost_ret (v := .tuple #[.int .i64 2, .bool true]) (by simp [results, Tryd.results10, go_sem]) rfl ⟨by rw [FI.out], HI.out.1⟩
        · have NX : Hid (Below W.heap.size W wr ∧ (0 < 3 → ¬ 4 < lenD (rns ls) 0) ∧ (1 < 3 → ¬ 8 < lenD (rns ls) 1) ∧ (2 < 3 → ¬ 16 < lenD (rns ls) 2)) := hidIt ⟨HI.out.1, (fun _ => HI.out.2.1 (by omega)), (fun _ => HI.out.2.2.1 (by omega)), (fun _ => hc)⟩
          have hc' : (16 < (lenD (rns ls) 2 : Int)) = False := eq_false (by omega)
          clear hc HI
          have NB := hidIt NX.out.1
          obtain ⟨q, hq⟩ : ∃ q, q = lenD (rns ls) 2 := ⟨_, rfl⟩
          rw [← hq] at hc' G
          clear hq
          go_wp2_with (go_at_call 34; refine (G.out _ NB.out).mono ?_; rintro e W3 ⟨⟨a3, c3, rfl⟩, hw⟩; rw [hw]; clear hw)
          exact ⟨⟨3, by omega, rfl, NX⟩, by decide⟩
      · have FI := hidIt (ovD_3 MB.out (HI.out.2.1 (by omega)) (HI.out.2.2.1 (by omega)) (HI.out.2.2.2 (by omega)))
        go_wp2_with fail
        exact bodyPost_ret (v := .tuple #[.int .i64 0, .bool false]) (by simp [results, Tryd.results10, go_sem]) rfl ⟨by rw [FI.out], HI.out.1⟩
end Go.Proofs.YtcjapldhfolpnaaDoor
