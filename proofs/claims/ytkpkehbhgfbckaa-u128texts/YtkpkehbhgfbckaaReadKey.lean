/-
  Walks, not a claim by itself: u128.ReadKey. By the verifier.
-/
import Derived.Test.YtkpkehbhgfbckaaRead
import Derived.Test.YtkpkehbhgfbckaaKey
namespace Go.Proofs.Ytkpkehbhgfbckaa
open Go.RowKit

theorem readkey_no (a : Option Addr) (len cap : Nat) (w : World) (h : len ≠ 16) :
    Calls Try.prog 23 #[.slice a len cap] w fun e w' => e = .returned (.tuple #[U 0 0, .int .i64 4]) ∧ Below w.heap.size w w' := by
  have h' : ((len : Int) != 16) = true := by simp; omega
  go_enter Try.func23, Try.ntmps23
  go_wp2
  exact bodyPost_ret (v := .tuple #[U 0 0, .int .i64 4]) (by simp [results, Try.results23, go_sem]) rfl ⟨rfl, (Below.refl _ _).alloc (Nat.le_refl _) _⟩

theorem len16 : Try.prog.arrayLen 42 = 16 := by kernel_rfl
theorem arr16 : Try.prog.underlying 42 = some (.array (Try.prog.arrayLen 42) (Try.prog.elem 42)) := by kernel_rfl
theorem siz16 (w : World) : (sizeOf (Try.prog.elem 42)).run Try.prog w = .ok 1 w := by kernel_rfl
theorem cut16 (b : Nat) (w : World) : (Instr.sliceAt 42 (.pointer (some ⟨b, 0, none⟩)) none none none).run Try.prog w = .ok (.slice (some ⟨b, 0, none⟩) 16 16) w := by
  rw [run_sliceAt_array_all w 42 _ arr16, siz16, len16]
  simp [Result.andThen, slicedAt, Addr.add]

/-- What holds at the head of ReadKey's loop. -/
def TurnRel (w : World) (f : Nat → Int) (i : Value) (wr : World) : Prop := ∃ k : Nat, k ≤ 16 ∧ i = .int .i64 k ∧ (∀ j, j < 16 → wr.cell? ⟨w.heap.size + 1, j, none⟩ = some (.int .u8 (if 16 ≤ j + k then f (15 - j) else 0))) ∧
  (∀ j, wr.frozen? ⟨w.heap.size + 1, j, none⟩ = false) ∧ w.heap.size + 1 < wr.heap.size ∧ wr.cell? ⟨w.heap.size, 0, none⟩ = some (.int .u64 0) ∧ wr.cell? ⟨w.heap.size, 1, none⟩ = some (.int .u64 0) ∧ wr.frozen? ⟨w.heap.size, 0, none⟩ = false ∧ wr.frozen? ⟨w.heap.size, 1, none⟩ = false ∧ Below w.heap.size w wr
theorem turn_rel0 (w : World) (f : Nat → Int) (T : TypeId) (C : Array Value) (hC : C = (List.replicate 16 (Value.int .u8 0)).toArray) :
    TurnRel w f (.int .i64 0) ((w.alloc (.cells #[.int .u64 0, .int .u64 0] T)).alloc (.cells C 42)) := by
  refine ⟨0, by omega, rfl, ?_, ?_, by simp, by simp [go_sem], by simp [go_sem], by simp [go_sem], by simp [go_sem], ((Below.refl _ _).alloc (Nat.le_refl _) _).alloc (by simp) _⟩
  · intro j hj
    rw [World.cell?_alloc_at _ _ _ _ (by simp), hC, rep16 j _ hj, if_neg (by omega)]
  · intro j; simp [go_sem]
theorem turn_rel1 (w wr : World) (f : Nat → Int) (k m : Nat) (hk : k < 16) (hm : m = 15 - k) (v : Int) (hv : v = f k) (hc : ∀ j, j < 16 → wr.cell? ⟨w.heap.size + 1, j, none⟩ = some (.int .u8 (if 16 ≤ j + k then f (15 - j) else 0)))
    (hf : ∀ j, wr.frozen? ⟨w.heap.size + 1, j, none⟩ = false) (hz : w.heap.size + 1 < wr.heap.size) (r0 : wr.cell? ⟨w.heap.size, 0, none⟩ = some (.int .u64 0)) (r1 : wr.cell? ⟨w.heap.size, 1, none⟩ = some (.int .u64 0)) (s0 : wr.frozen? ⟨w.heap.size, 0, none⟩ = false) (s1 : wr.frozen? ⟨w.heap.size, 1, none⟩ = false) (bel : Below w.heap.size w wr) :
    TurnRel w f (.int .i64 ((k : Int) + 1)) (wr.setCell ⟨w.heap.size + 1, m, none⟩ (.int .u8 v)) := by
  subst hm hv
  refine ⟨k + 1, by omega, by go_num, ?_, by simp [hf], by simp [World.setCell]; omega, ?_, ?_, by simp [s0], by simp [s1], bel.setCell (Nat.le_succ _) _⟩
  · intro j hj
    by_cases e : 15 - k = j
    · subst e
      rw [World.cell?_setCell_same _ _ _ (hc _ hj), if_pos (by omega), show 15 - (15 - k) = k from by omega]
    · rw [World.cell?_setCell_other _ _ _ _ (by intro hh; injection hh; omega), hc j hj]
      by_cases g : 16 ≤ j + k
      · rw [if_pos g, if_pos (by omega)]
      · rw [if_neg g, if_neg (by omega)]
  · rw [World.cell?_setCell_other _ _ _ _ (by intro hh; injection hh; omega), r0]
  · rw [World.cell?_setCell_other _ _ _ _ (by intro hh; injection hh; omega), r1]

set_option maxRecDepth 100000 in
set_option maxHeartbeats 1000000 in
theorem readkey_ok (b off cap : Nat) (f : Nat → Int) (w : World) (h : Row16 w b off f) :
    Calls Try.prog 23 #[.slice (some ⟨b, off, none⟩) 16 cap] w fun e w' => e = .returned (.tuple #[U (le8 fun j => f (7 - j)) (le8 fun j => f (15 - j)), .int .i64 0]) ∧ Below w.heap.size w w' := by
  have ef : le8 (fun j => f (7 - j)) = le8 (fun j => f (15 - (8 + j))) := rfl
  rw [ef]
  clear ef
  have hcut := cut16 (w.heap.size + 1)
  have H : Hid (Row16 w b off f) := h
  clear h
  go_enter Try.func23, Try.ntmps23
  go_wp2_with fail
  go_loopw [13] (fun i wr => TurnRel w f i wr) (fun i _ => 16 - (intOf i).toNat)
  case atStart => exact turn_rel0 w f _ _ (by rfl)
  case round =>
    obtain ⟨k, hk, rfl, hc, hf, hz, r0, r1, s0, s1, bel⟩ := hrel
    have HC : Hid (∀ j, j < 16 → wr.cell? ⟨w.heap.size + 1, j, none⟩ = some (.int .u8 (if 16 ≤ j + k then f (15 - j) else 0))) := hc
    have BE : Hid (Below w.heap.size w wr) := bel
    clear bel
    by_cases hlt : k < 16
    · have gk := hc (15 - k) (by omega)
      have fk := (H.out.below BE.out).1 k hlt
      clear hc
      go_wp2_with fail
      exact ⟨turn_rel1 w wr f k _ hlt rfl _ rfl HC.out hf hz r0 r1 s0 s1 BE.out, by simp [intOf]; omega⟩
    · obtain rfl : k = 16 := by omega
      have R : Row16 wr (w.heap.size + 1) 0 (fun j => f (15 - j)) := ⟨fun j hj => by rw [Nat.zero_add, hc j hj, if_pos (by omega)], fun j hj => H.out.2.1 (15 - j) (by omega), hz⟩
      clear hc
      go_wp2_with fail
      refine (read_ok (w.heap.size + 1) 0 16 (fun j => f (15 - j)) _ (by omega) R).mono ?_
      rintro e w5 ⟨rfl, hb5⟩
      have q0 := (hb5.cell (p := ⟨w.heap.size, 0, none⟩) (by simp; omega)).trans r0
      have q1 := (hb5.cell (p := ⟨w.heap.size, 1, none⟩) (by simp; omega)).trans r1
      have t0 := (hb5.frozen (p := ⟨w.heap.size, 0, none⟩) (by simp; omega)).trans s0
      have t1 := (hb5.frozen (p := ⟨w.heap.size, 1, none⟩) (by simp; omega)).trans s1
      clear R
      go_wp2_with fail
      refine bodyPost_ret (v := .tuple #[U (le8 fun j => f (15 - (8 + j))) (le8 fun j => f (15 - j)), .int .i64 0]) (by simp [results, Try.results23, go_sem, q0, q1]) rfl ⟨rfl, ?_⟩
      exact (((BE.out.trans (hb5.mono (by omega))).setCell (p := ⟨w.heap.size, 0, none⟩) (Nat.le_refl _) _).setCell (p := ⟨w.heap.size, 1, none⟩) (Nat.le_refl _) _)
end Go.Proofs.Ytkpkehbhgfbckaa
