/-
  Walks, not a claim by itself: the examples that the laws ask of every program. By the verifier.
-/
import Derived.Test.YtoehbljnapdbgaaEFour
namespace Go.Proofs.Ytoehbljnapdbgaa
open Go.RowKit Go.Maps
def byteF (l : List Int) (j : Nat) : Int := l.getD j 0
theorem lies_lit (w : World) (L : List Int) (hL : ∀ x ∈ L, 0 ≤ x ∧ x < 256) : Lies (w.alloc (.cells (L.map fun x => Value.int .u8 x).toArray 5)) w.heap.size 0 L.length (byteF L) := by
  refine ⟨fun k hk => ?_, fun k hk => ?_, by simp⟩
  · rw [Nat.zero_add, cell_of_row _ _ _ _ _ _ (heap_alloc_new w _), List.getElem?_toArray, List.getElem?_map, List.getElem?_eq_getElem hk]
    unfold byteF
    rw [List.getD_eq_getElem?_getD, List.getElem?_eq_getElem hk]
    rfl
  · unfold byteF
    rw [List.getD_eq_getElem?_getD, List.getElem?_eq_getElem hk]
    exact hL _ (List.getElem_mem hk)
theorem karg_lit (w : World) (L : List Bool) : KArg (w.alloc (.cells (L.map fun x => Value.bool x).toArray 4)) (some ⟨w.heap.size, 0, none⟩) L.length (fun i => L.getD i false) := by
  refine .inr ⟨w.heap.size, 0, rfl, fun k hk => ?_, by simp⟩
  rw [Nat.zero_add, cell_of_row _ _ _ _ _ _ (heap_alloc_new w _), List.getElem?_toArray, List.getElem?_map, List.getElem?_eq_getElem hk]
  show _ = some (Value.bool (L.getD k false))
  rw [List.getD_eq_getElem?_getD, List.getElem?_eq_getElem hk]
  rfl
theorem FourIs.up1 {D : Dsk} (h : FourIs D) (a : Nat) (f : Nat → Int) (c : Nat) : ((D.wrote a f c).more).free := by
  refine ⟨(D.wrote_fz a f c).trans h.fz, (D.wrote_out a f c).trans h.out, ?_, ?_⟩
  · show 0 ≤ (D.wrote a f c).ops + 1
    rw [D.wrote_ops, h.ops]; omega
  · show (D.wrote a f c).ops + 1 ≤ 1000000
    rw [D.wrote_ops, h.ops]; omega
/-- The disk of 'awake', before its crash. -/
def wak (D : Dsk) : Dsk := ((D.wrote 0 (fun _ => 2) 1).more.wrote 3 (fun _ => 2) 1).more
theorem wak_N {D : Dsk} (h : FourIs D) : (wak D).N = 4 := h.N
theorem wak_lo {D : Dsk} (h : FourIs D) (n : Nat) : (wak D).lo n = (decide (n = 0) || decide (n = 3)) := by
  show ((D.wrote 0 (fun _ => 2) 1).more.wrote 3 (fun _ => 2) 1).lo n = _
  rw [Dsk.wrote_lo]
  show (_ || (D.wrote 0 (fun _ => 2) 1).lo n) = _
  rw [Dsk.wrote_lo, h.lo, Bool.or_false, Bool.or_comm]
  congr 1 <;> (rw [decide_eq_decide]; omega)
theorem wak_L {D : Dsk} (h : FourIs D) : looseN (wak D).N (wak D).lo = [0, 3] := by
  have e : (wak D).lo = fun n => decide (n = 0) || decide (n = 3) := funext (wak_lo h)
  rw [wak_N h, e]
  decide
theorem wak_sec {D : Dsk} (h : FourIs D) (n j : Nat) (hn : n < 4) (hj : j < 256) : at256 (wak D).sec n j = if n = 0 ∨ n = 3 then 2 else fourG n := by
  show at256 ((D.wrote 0 (fun _ => 2) 1).more.wrote 3 (fun _ => 2) 1).sec n j = _
  rw [Dsk.wrote_sec _ _ _ _ _ hj]
  show (if _ then _ else at256 (D.wrote 0 (fun _ => 2) 1).sec n j) = _
  rw [Dsk.wrote_sec _ _ _ _ _ hj, h.sec n j hn hj]
  split
  · rw [if_pos (by omega)]
  · split
    · rw [if_pos (by omega)]
    · rw [if_neg (by omega)]
theorem wak_ob {D : Dsk} (h : FourIs D) (j : Nat) (hj : j < 256) : at256 (wak D).ob 0 j = 1 := by
  show at256 ((D.wrote 0 (fun _ => 2) 1).more.wrote 3 (fun _ => 2) 1).ob 0 j = _
  rw [Dsk.wrote_ob _ _ _ _ _ hj, if_neg (by omega)]
  show at256 (D.wrote 0 (fun _ => 2) 1).ob 0 j = _
  rw [Dsk.wrote_ob _ _ _ _ _ hj, if_pos ⟨by omega, h.lo 0⟩, h.sec 0 j (by omega) hj]
  rfl
theorem wak_crash {D : Dsk} (h : FourIs D) (n j : Nat) (hn : n < 4) (hj : j < 256) : at256 ((wak D).crash 2 (fun i => [false, true].getD i false) 9).sec n j = byteF [1, 1, 2, 2] n := by
  show at256 (crashK (looseN (wak D).N (wak D).lo) (wak D).sec (wak D).ob 2 _ 9 (looseN (wak D).N (wak D).lo).length).1 n j = _
  rw [wak_L h]
  have e : (crashK [0, 3] (wak D).sec (wak D).ob 2 (fun i => [false, true].getD i false) 9 [0, 3].length).1 = putF (wak D).sec 0 (at256 (wak D).ob 0) := rfl
  rw [e]
  by_cases g : n = 0
  · subst g
    rw [putF_same _ _ _ _ hj, wak_ob h j hj]
    rfl
  · rw [putF_other _ _ _ _ _ hj g, wak_sec h n j hn hj]
    match n, hn, g with
    | 1, _, _ => rfl
    | 2, _, _ => rfl
    | 3, _, _ => rfl
set_option maxRecDepth 100000 in
set_option maxHeartbeats 1000000 in
theorem awake_any (w : World) : Calls Try.prog 11 #[] w fun e w' => e = .returned (.bool true) ∧ Below w.heap.size w w' := by
  go_enter Try.func11, Try.ntmps11
  go_wp2_with fail
  refine (four_any _).mono ?_
  rintro e w1 ⟨d, s, m, D, rfl, S1, HF⟩
  have S1 : Hid (St w w1 d s m D) := S1
  have HF : Hid (FourIs D) := HF
  go_wp2_with fail
  refine (sector_any 2 _).mono ?_
  rintro e w2 ⟨rfl, o2, b2⟩
  have S2 : Hid (St w w2 d s m D) := S1.out.below b2
  have L2 : Hid (Lies w2 w1.heap.size 0 256 (fun _ => 2)) := o2.irow.lies (fun _ _ => by omega)
  have E2 : Hid (w1.heap.size ≠ s ∧ w1.heap.size ≠ m) := ⟨by have := S1.out.at'.sl; omega, by have := S1.out.at'.ml; omega⟩
  clear o2 b2
  go_wp2_with fail
  refine (st_write w _ d s m 0 _ 0 1 _ _ _ _ _ S2.out HF.out.free rfl rfl L2.out (by omega) (by omega) (by omega) (by rw [HF.out.N]; decide) E2.out).mono ?_
  rintro e w3 ⟨rfl, m3, S3, -, -⟩
  have S3 : Hid (St w w3 d s m3 (D.wrote 0 (fun _ => 2) 1).more) := S3
  clear S2 L2 E2 S1
  go_wp2_with fail
  refine (sector_any 2 _).mono ?_
  rintro e w4 ⟨rfl, o4, b4⟩
  have S4 : Hid (St w w4 d s m3 (D.wrote 0 (fun _ => 2) 1).more) := S3.out.below b4
  have L4 : Hid (Lies w4 w3.heap.size 0 256 (fun _ => 2)) := o4.irow.lies (fun _ _ => by omega)
  have E4 : Hid (w3.heap.size ≠ s ∧ w3.heap.size ≠ m3) := ⟨by have := S3.out.at'.sl; omega, by have := S3.out.at'.ml; omega⟩
  clear o4 b4
  go_wp2_with fail
  refine (st_write w _ d s m3 3 _ 0 1 _ _ _ _ _ S4.out (HF.out.up1 _ _ _) rfl rfl L4.out (by omega) (by omega) (by omega) (by show 3 + 1 ≤ D.N; rw [HF.out.N]; decide) E4.out).mono ?_
  rintro e w5 ⟨rfl, m5, S5, -, -⟩
  have S5 : Hid (St w w5 d s m5 (wak D)) := S5
  clear S4 L4 E4 S3
  go_wp2_with fail
  refine (st_crash w _ d s m5 2 _ _ (wak D) _ _ (S5.out.below ((Below.refl _ _).alloc (Nat.le_refl _) _)) (karg_lit w5 [false, true]) (fun r e => by have := S5.out.at'.sl; cases e; show w5.heap.size ≠ s; omega)).mono ?_
  rintro e w6 ⟨rfl, m6, S6, -, -⟩
  have S6 : Hid (St w w6 d s m6 ((wak D).crash 2 (fun i => [false, true].getD i false) 9)) := S6
  clear S5
  go_wp2_with fail
  refine (reads_any _ d s m6 0 4 _ 0 _ _ 0 false (byteF [1, 1, 2, 2]) (S6.out.at'.alloc _) rfl rfl (by show 0 + 4 ≤ (wak D).N; rw [wak_N HF.out]; decide) (by omega) (lies_lit w6 [1, 1, 2, 2] (by decide)) (fun k j hk hj => by rw [Nat.zero_add]; exact wak_crash HF.out k j hk hj)).mono ?_
  rintro e w7 ⟨rfl, b7⟩
  have S7 : Hid (Below w.heap.size w w7) := S6.out.bel.trans ((((Below.refl _ _).alloc (Nat.le_refl _) _).trans (b7.mono (by simp))).mono S6.out.bel.size)
  clear S6 b7
  go_wp2_with fail
  go_ret
  exact ⟨rfl, S7.out⟩
end Go.Proofs.Ytoehbljnapdbgaa
