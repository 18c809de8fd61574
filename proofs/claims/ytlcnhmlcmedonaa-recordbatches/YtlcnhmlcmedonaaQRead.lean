/-
  Walks, not a claim by itself: the reference's Read and ReadKey. By the verifier.
-/
import Derived.Test.YtlcnhmlcmedonaaQOf
namespace Go.Proofs.Ytlcnhmlcmedonaa
open Go.RowKit
theorem RowF.other {u : World} {b : Nat} {f : Nat → Int} (k : RowF u b f) (b' o : Nat) (v : Value) (hne : b' ≠ b) : RowF (u.setCell ⟨b', o, none⟩ v) b f :=
  ⟨fun j hj => by rw [World.cell?_setCell_other _ _ _ _ (by intro e; injection e; omega), k.1 j hj], by have := k.2; simp [World.setCell]; omega⟩
theorem RowF.set {u : World} {b : Nat} {f : Nat → Int} (k : RowF u b f) (i : Nat) (hi : i < 16) (m : Int) : RowF (u.setCell ⟨b, i, none⟩ (.int .u8 m)) b (fun j => if j = i then m else f j) := by
  refine ⟨fun j hj => ?_, by have := k.2; simp [World.setCell]; omega⟩
  show (u.setCell ⟨b, i, none⟩ (.int .u8 m)).cell? ⟨b, j, none⟩ = some (.int .u8 (if j = i then m else f j))
  by_cases e : j = i
  · subst e; rw [if_pos rfl, World.cell?_setCell_same _ _ _ (k.1 j hj)]
  · rw [if_neg e, World.cell?_setCell_other _ _ _ _ (by intro h; injection h; omega), k.1 j hj]
theorem RowF.zeros (u : World) : RowF (u.alloc (.cells #[.int .u8 0, .int .u8 0, .int .u8 0, .int .u8 0, .int .u8 0, .int .u8 0, .int .u8 0, .int .u8 0, .int .u8 0, .int .u8 0, .int .u8 0, .int .u8 0, .int .u8 0, .int .u8 0, .int .u8 0, .int .u8 0] 74)) u.heap.size (fun _ => 0) := by
  refine ⟨fun j hj => ?_, by simp⟩
  rw [World.cell?_alloc_at _ _ _ _ rfl]
  match j, hj with
  | 0, _ => rfl
  | 1, _ => rfl
  | 2, _ => rfl
  | 3, _ => rfl
  | 4, _ => rfl
  | 5, _ => rfl
  | 6, _ => rfl
  | 7, _ => rfl
  | 8, _ => rfl
  | 9, _ => rfl
  | 10, _ => rfl
  | 11, _ => rfl
  | 12, _ => rfl
  | 13, _ => rfl
  | 14, _ => rfl
  | 15, _ => rfl
  | j + 16, hj => omega
/-- The cells of a row, written out. -/
def cellsZ (z : Nat → Int) : List Value := [.int .u8 (z 0), .int .u8 (z 1), .int .u8 (z 2), .int .u8 (z 3), .int .u8 (z 4), .int .u8 (z 5), .int .u8 (z 6), .int .u8 (z 7), .int .u8 (z 8), .int .u8 (z 9), .int .u8 (z 10), .int .u8 (z 11), .int .u8 (z 12), .int .u8 (z 13), .int .u8 (z 14), .int .u8 (z 15)]
theorem RowF.range {u : World} {b : Nat} {z : Nat → Int} (k : RowF u b z) : u.rangeAt b 0 (cellsZ z) := by
  intro j v hv
  have hj : j < 16 := by
    have hl : (cellsZ z).length = 16 := rfl
    rcases Nat.lt_or_ge j 16 with h | h
    · exact h
    · rw [List.getElem?_eq_none (by omega)] at hv; cases hv
  rw [Nat.zero_add, k.1 j hj]
  match j, hj, hv with
  | 0, _, hv => exact hv
  | 1, _, hv => exact hv
  | 2, _, hv => exact hv
  | 3, _, hv => exact hv
  | 4, _, hv => exact hv
  | 5, _, hv => exact hv
  | 6, _, hv => exact hv
  | 7, _, hv => exact hv
  | 8, _, hv => exact hv
  | 9, _, hv => exact hv
  | 10, _, hv => exact hv
  | 11, _, hv => exact hv
  | 12, _, hv => exact hv
  | 13, _, hv => exact hv
  | 14, _, hv => exact hv
  | 15, _, hv => exact hv
  | j + 16, hj, _ => omega

theorem rof_row (z : Nat → Int) (w : World) (hz : ∀ j, j < 16 → 0 ≤ z j ∧ z j < 256) :
    Calls Try.prog 60 #[.agg (cellsZ z).toArray] w fun e w' => e = .returned (U (le8 fun j => z (8 + j)) (le8 z)) ∧ Below w.heap.size w w' :=
  rof_any (z 0) (z 1) (z 2) (z 3) (z 4) (z 5) (z 6) (z 7) (z 8) (z 9) (z 10) (z 11) (z 12) (z 13) (z 14) (z 15) z w hz (fun j hj => by
    match j, hj with
    | 0, _ => rfl
    | 1, _ => rfl
    | 2, _ => rfl
    | 3, _ => rfl
    | 4, _ => rfl
    | 5, _ => rfl
    | 6, _ => rfl
    | 7, _ => rfl
    | 8, _ => rfl
    | 9, _ => rfl
    | 10, _ => rfl
    | 11, _ => rfl
    | 12, _ => rfl
    | 13, _ => rfl
    | 14, _ => rfl
    | 15, _ => rfl
    | j + 16, hj => omega)

/-- What holds at the head of the loop. -/
def rreadRel (w : World) (f : Nat → Int) (i : Value) (wr : World) : Prop := ∃ k : Nat, k ≤ 16 ∧ i = .int .i64 k ∧ RowF wr (w.heap.size + 1) (fun j => if j < k then f j else 0) ∧ (∀ j, wr.frozen? ⟨w.heap.size + 1, j, none⟩ = false) ∧ AtW wr w.heap.size 0 0 ∧ Below w.heap.size w wr
theorem rread_no (a : Option Addr) (len cap : Nat) (w : World) (h : len ≠ 16) :
    Calls Try.prog 58 #[.slice a len cap] w fun e w' => e = .returned (.tuple #[U 0 0, .int .i64 4]) ∧ Below w.heap.size w w' := by
  have h' : ((len : Int) != 16) = true := by simp; omega
  go_enter Try.func58, Try.ntmps58
  go_wp2
  exact bodyPost_ret (v := .tuple #[U 0 0, .int .i64 4]) (by simp [results, Try.results58, go_sem]) rfl ⟨rfl, (Below.refl _ _).alloc (Nat.le_refl _) _⟩
theorem rread_rel1 (w wr : World) (f : Nat → Int) (k m : Nat) (hk : k < 16) (hm : m = k) (v : Int) (hv : v = f k) (hZ : RowF wr (w.heap.size + 1) (fun j => if j < k then f j else 0)) (hf : ∀ j, wr.frozen? ⟨w.heap.size + 1, j, none⟩ = false) (hR : AtW wr w.heap.size 0 0) (bel : Below w.heap.size w wr) :
    rreadRel w f (.int .i64 ((k : Int) + 1)) (wr.setCell ⟨w.heap.size + 1, m, none⟩ (.int .u8 v)) := by
  subst hv; rw [hm]; clear hm m
  refine ⟨k + 1, by omega, by go_num, ?_, by intro j; simp [hf], hR.other _ _ _ (by omega), bel.setCell (Nat.le_succ _) _⟩
  have := hZ.set (k) (by omega) (f k)
  refine ⟨fun j hj => ?_, this.2⟩
  rw [this.1 j hj]
  congr 2
  show (if j = k then f k else (if j < k then f j else 0)) = (if j < k + 1 then f j else 0)
  by_cases e : j = k
  · rw [if_pos e, if_pos (by omega)]; rw [e]
  · rw [if_neg e]
    by_cases g : j < k
    · rw [if_pos g, if_pos (by omega)]
    · rw [if_neg g, if_neg (by omega)]
set_option maxRecDepth 100000 in
set_option maxHeartbeats 1000000 in
theorem rread_ok (b off cap : Nat) (f : Nat → Int) (w : World) (h : Row16 w b off f) :
    Calls Try.prog 58 #[.slice (some ⟨b, off, none⟩) 16 cap] w fun e w' => e = .returned (.tuple #[U (le8 fun j => (f) (8 + j)) (le8 (f)), .int .i64 0]) ∧ Below w.heap.size w w' := by
  have H : Hid (Row16 w b off f) := h
  have ST : Hid (rreadRel w f (.int .i64 0) ((w.alloc (.cells #[.int .u64 0, .int .u64 0] 24)).alloc (.cells #[.int .u8 0, .int .u8 0, .int .u8 0, .int .u8 0, .int .u8 0, .int .u8 0, .int .u8 0, .int .u8 0, .int .u8 0, .int .u8 0, .int .u8 0, .int .u8 0, .int .u8 0, .int .u8 0, .int .u8 0, .int .u8 0] 74))) := by
    refine ⟨0, by omega, rfl, ?_, fun j => by simp [go_sem], (AtW.new w 0 0 _).alloc _, ((Below.refl _ _).alloc (Nat.le_refl _) _).alloc (by simp) _⟩
    have := RowF.zeros (w.alloc (.cells #[.int .u64 0, .int .u64 0] 24))
    rw [World.size_alloc] at this
    exact ⟨fun j hj => by rw [this.1 j hj]; congr 2, this.2⟩
  clear h
  go_enter Try.func58, Try.ntmps58
  go_wp2_with fail
  go_loopw [5] (fun i wr => rreadRel w f i wr) (fun i _ => 16 - (intOf i).toNat)
  case atStart => exact ST.out
  case round =>
    obtain ⟨k, hk, rfl, hZ, hf, hR, bel⟩ := hrel
    have BE : Hid (Below w.heap.size w wr) := bel
    clear bel ST
    by_cases hlt : k < 16
    · have fk := (H.out.below BE.out).1 k hlt
      have gk := hZ.1 (k) (by omega)
      go_wp2_with fail
      exact ⟨rread_rel1 w wr f k _ hlt rfl _ rfl hZ hf hR BE.out, by simp [intOf]; omega⟩
    · obtain rfl : k = 16 := by omega
      have hZ' : RowF wr (w.heap.size + 1) (f) := ⟨fun j hj => by rw [hZ.1 j hj]; congr 2; exact if_pos (by omega), hZ.2⟩
      have hby : Hid (∀ j, j < 16 → 0 ≤ (f) j ∧ (f) j < 256) := fun j hj => H.out.2.1 j (by omega)
      obtain ⟨r0, r1, r2, r3, rz⟩ := id hR
      clear hZ
      go_wp2_with (refine wpList_load_mid rfl 74 (.tmp 4) rfl (w.heap.size + 1) 0 rfl (cellsZ (f)) _ (RowF.range hZ') Try.underlying74 rfl (by kernel_rfl) ?_)
      refine (rof_row (f) _ hby.out).mono ?_
      rintro e w5 ⟨rfl, hb5⟩
      obtain ⟨q0, q1, q2, q3, qz⟩ := hR.below hb5
      have E5 : Hid (Below w.heap.size w w5) := BE.out.trans (hb5.mono BE.out.size)
      clear r0 r1 r2 r3 rz hb5
      go_wp2_with fail
      refine bodyPost_ret (v := .tuple #[U (le8 fun j => (f) (8 + j)) (le8 (f)), .int .i64 0]) (by simp [results, Try.results58, go_sem, q0, q1]) rfl ⟨rfl, ?_⟩
      exact (E5.out.setCell (p := ⟨w.heap.size, 0, none⟩) (Nat.le_refl _) _).setCell (p := ⟨w.heap.size, 1, none⟩) (Nat.le_refl _) _

end Go.Proofs.Ytlcnhmlcmedonaa
