/-
  Walks, not a claim by itself: superblock's laid and Bytes. By the verifier.
-/
import Derived.Test.YtfapmogjmjlokaaSLay
import Derived.Test.YtfapmogjmjlokaaSChk2
import Derived.Test.YtfapmogjmjlokaaCSeal
namespace Go.Proofs.Ytfapmogjmjlokaa
open Go.RowKit
/-- The first p numbers are laid. -/
def layF (s : Sup) (p : Nat) (j : Nat) : Int := if j < 4 * p then s.beh j else 0
theorem layF_step (s : Sup) (p : Nat) : over (layF s p) (4 * p) 4 (byt (s.num p)) = layF s (p + 1) := by
  funext j
  unfold over layF
  by_cases h : 4 * p ≤ j ∧ j < 4 * p + 4
  · rw [if_pos h, if_pos (by omega)]
    unfold Sup.beh
    rw [show j / 4 = p by omega, show j % 4 = j - 4 * p by omega]
  · rw [if_neg h]
    by_cases g : j < 4 * p
    · rw [if_pos g, if_pos (by omega)]
    · rw [if_neg g, if_neg (by omega)]
theorem layF_end (s : Sup) (j : Nat) : layF s (11 + 2 * s.k) j = s.beh j := by
  unfold layF
  by_cases h : j < 4 * (11 + 2 * s.k)
  · rw [if_pos h]
  · rw [if_neg h]
    unfold Sup.beh Sup.num
    rw [if_neg (by omega), if_neg (by omega), if_neg (by omega), if_neg (by omega)]
    unfold byt up8
    simp
/-- What lies in memory while p numbers are laid. -/
structure LaidS (w wr : World) (s : Sup) (a : Option Addr) (C p : Nat) : Prop where
  put : PutAt wr (w.heap.size + 3) (w.heap.size + 2) 496 (4 * p) (layF s p)
  recd : Rec19 wr w.heap.size 0 (supC s a C)
  row : IRow wr (w.heap.size + 1) .u8 496 (fun _ => 0)
  bel : Below w.heap.size w wr
theorem LaidS.below {w wr u : World} {s : Sup} {a : Option Addr} {C p : Nat} (h : LaidS w wr s a C p) (hB : Below wr.heap.size wr u) : LaidS w u s a C p :=
  ⟨⟨(hB.cell (p := ⟨w.heap.size + 3, 0, none⟩) h.put.bl).trans h.put.cell, (hB.frozen (p := ⟨w.heap.size + 3, 0, none⟩) h.put.bl).trans h.put.fr, h.put.row.below hB, Nat.lt_of_lt_of_le h.put.bl hB.size, h.put.ne⟩, h.recd.below hB, h.row.below hB, h.bel.trans (hB.mono h.bel.size)⟩
theorem LaidS.step {w wr u : World} {s : Sup} {a : Option Addr} {C p : Nat} {x : Int} (h : LaidS w wr s a C p) (hx : x = s.num p) (hP : PutAt u (w.heap.size + 3) (w.heap.size + 2) 496 (4 * p + 4) (over (layF s p) (4 * p) 4 (byt x))) (hO : Off [w.heap.size + 2, w.heap.size + 3] wr u) : LaidS w u s a C (p + 1) := by
  subst hx
  rw [layF_step] at hP
  exact ⟨hP, h.recd.off hO (by simp), h.row.off hO (by simp), h.bel.trans (hO.below (by simp) h.bel.size)⟩
theorem zero8_496 : (Try.prog.info? 67).bind (·.zero) = some (.agg (cl .u8 496 fun _ => 0).toArray) := by kernel_rfl
def lay1Rel (w : World) (s : Sup) (a : Option Addr) (C : Nat) (i : Value) (wr : World) : Prop := ∃ k : Nat, k ≤ 9 ∧ i = .int .i64 k ∧ LaidS w wr s a C k
def lay2Rel (w : World) (s : Sup) (a : Option Addr) (C : Nat) (i : Value) (wr : World) : Prop := ∃ k : Nat, k ≤ s.k ∧ i = .int .i64 k ∧ LaidS w wr s a C (11 + 2 * k)
/-- A number is put. -/
theorem laid_put (w wr : World) (s : Sup) (a : Option Addr) (C p : Nat) (x : Int) (h : LaidS w wr s a C p) (hx : x = s.num p) (hp : p ≤ 75) :
    Calls Try.prog 67 #[.int .i64 x, .pointer (some ⟨w.heap.size + 3, 0, none⟩)] wr fun e u => e = .returned (.tuple #[]) ∧ LaidS w u s a C (p + 1) := by
  refine (put1_any wr _ _ 496 (4 * p) (layF s p) x h.put (by omega) (by omega)).mono ?_
  rintro e u ⟨rfl, h1, h2, _⟩
  exact ⟨rfl, h.step hx h1 h2⟩
theorem laid_put2 (w wr : World) (s : Sup) (a : Option Addr) (C p : Nat) (x : Int) (h : LaidS w wr s a C p) (hx : x = s.num p) (hp : p ≤ 75) :
    Calls Try.prog 67 #[.int .i64 x, .pointer (some ⟨w.heap.size + 3, 0, none⟩)] wr fun e u => e = .returned (.tuple #[]) ∧ LaidS w u s a C (p + 1) ∧ Off [w.heap.size + 2, w.heap.size + 3] wr u := by
  refine (put1_any wr _ _ 496 (4 * p) (layF s p) x h.put (by omega) (by omega)).mono ?_
  rintro e u ⟨rfl, h1, h2, _⟩
  exact ⟨rfl, h.step hx h1 h2, h2⟩
theorem num_x (s : Sup) (k : Nat) (h : k < 9) : s.x k = s.num k := by unfold Sup.num; rw [if_pos h]
theorem num_f (s : Sup) : fetN s.f = s.num 9 := rfl
theorem num_k (s : Sup) : (s.k : Int) = s.num 10 := rfl
theorem num_h (s : Sup) (j : Nat) (h : j < 2 * s.k) : s.h j = s.num (11 + j) := by
  unfold Sup.num
  rw [if_neg (by omega), if_neg (by omega), if_neg (by omega), if_pos (by omega), show 11 + j - 11 = j by omega]
theorem supC_x (s : Sup) (a : Option Addr) (C : Nat) : ∀ k : Nat, k < 9 → (supC s a C)[k]? = some (.int .i64 (s.x k))
  | 0, _ | 1, _ | 2, _ | 3, _ | 4, _ | 5, _ | 6, _ | 7, _ | 8, _ => rfl
  | k + 9, h => absurd h (by omega)
set_option maxRecDepth 100000 in
set_option maxHeartbeats 1000000 in
theorem laid_any (s : Sup) (a : Option Addr) (C : Nat) (w : World) (hA : HArg w a s.k s.h) (hk : s.k ≤ 32) :
    Calls Try.prog 32 #[supV s a C] w fun e w' => e = .returned (.agg (cl .u8 496 s.beh).toArray) ∧ Below w.heap.size w w' := by
  have HA : Hid (HArg w a s.k s.h) := hA
  clear hA
  have T1 : Hid True := trivial
  have T2 : Hid True := trivial
  unfold supV
  go_enter Try.func32, Try.ntmps32
  go_wp2_with (first
    | (refine wpList_box_rec rfl 26 (.tmp 0) rfl (supC s a C) rfl w.heap.size rfl ?_; intro W0 R0 B0 z0)
    | (have _q := T1; clear T1; refine wpList_alloc_row rfl 67 rfl .u8 496 (w.heap.size + 1) z0 zero8_496 ?_; intro W1 R1 B1 z1)
    | (have _q := T2; clear T2; refine wpList_alloc_row rfl 67 rfl .u8 496 (w.heap.size + 2) (by rw [z1]) zero8_496 ?_; intro W2 R2 B2 z2)
    | (go_at_call 54; refine (putter_let _ _ _ _ _ rfl).mono ?_; rintro e W3 ⟨rfl, c3, f3, B3, z3⟩; rw [z2])
    | (go_at_call 55; refine (fields_any w.heap.size _).mono ?_; rintro e W4 ⟨rfl, B4⟩))
  have L0 : LaidS w W4 s a C 0 := by
    have q1 : Below w.heap.size w W1 := B0.trans (B1.mono (by omega))
    have q2 : Below w.heap.size w W2 := q1.trans (B2.mono (by omega))
    have q3 : Below w.heap.size w W3 := q2.trans (B3.mono q2.size)
    have r1 : Below W1.heap.size W1 W3 := (B2.mono (by omega)).trans (B3.mono (by omega))
    have r0 : Below W0.heap.size W0 W3 := (B1.mono (by omega)).trans (r1.mono (by omega))
    refine LaidS.below ⟨⟨?_, ?_, ?_, ?_, ?_⟩, R0.below r0, R1.below r1, q3⟩ B4
    · have := c3
      rw [z2] at this
      exact this
    · have := f3
      rw [z2] at this
      exact this
    · exact (R2.below (B3.mono (by omega))).congr (fun j _ => by unfold layF; rw [if_neg (by omega)])
    · omega
    · omega
  have ST : Hid (lay1Rel w s a C (.int .i64 0) W4) := ⟨0, by omega, rfl, L0⟩
  clear L0 R0 B0 z0 R1 B1 z1 R2 B2 z2 c3 f3 B3 z3 B4
  go_loopw [13] (fun i wr => lay1Rel w s a C i wr) (fun i _ => 9 - (RowKit.intOf i).toNat)
  case atStart => exact ST.out
  case round =>
    obtain ⟨k, hk9, rfl, hL⟩ := hrel
    clear ST
    have LL : Hid (LaidS w wr s a C k) := hL
    by_cases hlt : k < 9
    · have p1 : ∀ w', (Instr.index 101 (.agg (fptr w.heap.size).toArray) (.int .i64 k)).run Try.prog w' = .ok (.pointer (some ⟨w.heap.size, k, none⟩)) w' := fun w' => fptr_index _ w' k hlt
      obtain ⟨c0, _⟩ := hL.recd.cel k _ (supC_x s a C k hlt)
      clear hL
      have e0 : (k : Int) < 9 := by omega
      go_wp2_with (go_at_call 67; refine (laid_put w _ s a C k (s.x k) LL.out (num_x s k hlt) (by omega)).mono ?_; rintro e w5 ⟨rfl, h5⟩; have L5 : Hid (LaidS w w5 s a C (k + 1)) := h5; clear h5)
      go_roundw
      case rel => exact ⟨k + 1, by omega, by go_num, L5.out⟩
      case measure => simp [RowKit.intOf]; omega
    · obtain rfl : k = 9 := by omega
      rw [show ((9 : Nat) : Int) = 9 from rfl]
      obtain ⟨c9, _⟩ := hL.recd.cel 9 (.bool s.f) rfl
      have c10 : ∀ (u : World) (p : Nat), LaidS w u s a C p → u.cell? ⟨w.heap.size, 10, none⟩ = some (.slice a s.k C) := fun u p h => (h.recd.cel 10 _ rfl).1
      have C10 : Hid (∀ (u : World) (p : Nat), LaidS w u s a C p → u.cell? ⟨w.heap.size, 10, none⟩ = some (.slice a s.k C)) := c10
      clear hL c10
      obtain ⟨b, hb⟩ : ∃ b, s.f = b := ⟨_, rfl⟩
      have FN : Hid (fetN b = s.num 9) := by show fetN b = s.num 9; rw [← hb]; rfl
      rw [hb] at c9
      clear hb
      have K9 : Hid True := trivial
      have K10 : Hid True := trivial
      cases b
      all_goals
        go_wp2_with (first
          | (go_at_call 67; have _q := K9; clear K9; refine (laid_put w _ s a C 9 _ LL.out FN.out (by omega)).mono ?_; rintro e w6 ⟨rfl, h6⟩; have L6 : Hid (LaidS w w6 s a C 10) := h6; have c10 := C10.out _ _ h6; clear h6)
          | (go_at_call 67; have _q := K10; clear K10; refine (laid_put w _ s a C 10 _ L6.out (num_k s) (by omega)).mono ?_; rintro e w7 ⟨rfl, h7⟩; have L7 : Hid (LaidS w w7 s a C 11) := h7; have c10' := C10.out _ _ h7; clear h7))
        have ST : Hid (lay2Rel w s a C (.int .i64 0) w7) := ⟨0, by omega, rfl, L7.out⟩
        clear L6 L7 c10 c10' C10 LL c9 FN
        go_loopw [35] (fun i wr => lay2Rel w s a C i wr) (fun i _ => s.k - (RowKit.intOf i).toNat)
        case atStart => exact ST.out
        case round =>
          obtain ⟨k, hks, rfl, hL⟩ := hrel
          clear ST
          have LL : Hid (LaidS w wr s a C (11 + 2 * k)) := hL
          by_cases hlt : k < s.k
          · rcases HA.out with e | ⟨b, off, rfl, hc, hb⟩
            · omega
            have RG : wr.rangeAt b (off + k * 2) [.int .i64 (s.h (2 * k)), .int .i64 (s.h (2 * k + 1))] := fun j v hj => by
              have h2 : j < 2 := (List.getElem?_eq_some_iff.1 hj).1
              have c := (hL.bel.cell (p := ⟨b, off + (2 * k + j), none⟩) hb).trans (hc (2 * k + j) (by omega))
              rw [show off + k * 2 + j = off + (2 * k + j) by omega, c]
              match j, h2 with
              | 0, _ | 1, _ => simpa using hj
            have HR : Hid (wr.rangeAt b (off + k * 2) [.int .i64 (s.h (2 * k)), .int .i64 (s.h (2 * k + 1))]) := RG
            have i0 : (k : Int) < s.k := by omega
            have i1 : (0 : Int) ≤ (k : Int) := by omega
            clear hL hc RG
            have K1 : Hid True := trivial
            have K2 : Hid True := trivial
            go_wp2_with (first
              | (refine wpList_load_mid (P := Try.prog) rfl 75 (.tmp 37) rfl b (off + k * 2) (by first | rfl | simp) _ _ HR.out Try.underlying75 rfl (by kernel_rfl) ?_)
              | (refine wpList_alloc_rec rfl 75 rfl [.int .i64 0, .int .i64 0] wr.heap.size rfl (by kernel_rfl) ?_; intro W5 R5 B5 z5)
              | (refine wpList_store_rec rfl 75 (.tmp 9) (.tmp 38) rfl wr.heap.size 0 _ [.int .i64 (s.h (2 * k)), .int .i64 (s.h (2 * k + 1))] rfl rfl R5 rfl (by kernel_rfl) (by intro v hv; simp at hv; rcases hv with rfl | rfl <;> rfl) ?_; intro W6 R6 B6
                 obtain ⟨d0, _⟩ := R6.cel 0 _ rfl
                 have V6 : Below wr.heap.size wr W6 := B5.trans (B6.below (Nat.le_refl _) (by omega))
                 have L6 : Hid (LaidS w W6 s (some ⟨b, off, none⟩) C (11 + 2 * k)) := LL.out.below V6
                 have G6 : Hid (wr.heap.size < W6.heap.size) := R6.2.2
                 have R6' : Hid (Rec19 W6 wr.heap.size 0 [.int .i64 (s.h (2 * k)), .int .i64 (s.h (2 * k + 1))]) := R6
                 clear R6 B6 R5 B5 z5 V6)
              | (go_at_call 67; have _q := K1; clear K1; refine (laid_put2 w _ s _ C (11 + 2 * k) (s.h (2 * k)) L6.out (num_h s (2 * k) (by omega)) (by omega)).mono ?_; rintro e w6 ⟨rfl, h6, o6⟩
                 have d1 : w6.cell? ⟨wr.heap.size, 1, none⟩ = some (.int .i64 (s.h (2 * k + 1))) := ((R6'.out.off o6 (by have := LL.out.put.bl; simp; omega)).cel 1 _ rfl).1
                 have L8 : Hid (LaidS w w6 s (some ⟨b, off, none⟩) C (11 + 2 * k + 1)) := h6; clear h6 o6)
              | (go_at_call 67; have _q := K2; clear K2; refine (laid_put w _ s _ C (11 + 2 * k + 1) (s.h (2 * k + 1)) L8.out (num_h s (2 * k + 1) (by omega)) (by omega)).mono ?_; rintro e w7 ⟨rfl, h7⟩; have L9 : Hid (LaidS w w7 s (some ⟨b, off, none⟩) C (11 + 2 * (k + 1))) := h7; clear h7))
            go_roundw
            case rel => exact ⟨k + 1, by omega, by go_num, L9.out⟩
            case measure => simp [RowKit.intOf]; omega
          · obtain rfl : k = s.k := by omega
            have RD : Hid (IRow wr (w.heap.size + 2) .u8 496 s.beh) := hL.put.row.congr (fun j _ => layF_end s j)
            have RO : Hid (IRow wr (w.heap.size + 1) .u8 496 (fun _ => 0)) := hL.row
            have BE : Hid (Below w.heap.size w wr) := hL.bel
            clear hL LL
            go_wp2_with (first
              | (refine wpList_load_irow rfl 67 (.tmp 3) rfl (w.heap.size + 2) .u8 496 s.beh rfl _ Try.underlying67 rfl (by kernel_rfl) RD.out ?_)
              | (refine wpList_store_row rfl 67 (.tmp 2) (.tmp 48) rfl (w.heap.size + 1) .u8 496 s.beh (fun _ => 0) rfl rfl RO.out (by kernel_rfl) ?_; intro W9 R9 B9 z9))
            have hl := R9.run_load 67 _ Try.underlying67 rfl (by kernel_rfl)
            refine bodyPost_ret (v := .agg (cl .u8 496 s.beh).toArray) (by simp [results, Try.results32, asAddr, Act.put, hl]) rfl ⟨rfl, ?_⟩
            exact BE.out.trans (B9.below (by omega) BE.out.size)
end Go.Proofs.Ytfapmogjmjlokaa
