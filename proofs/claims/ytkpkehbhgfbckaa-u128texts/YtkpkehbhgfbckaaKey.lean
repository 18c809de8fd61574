/-
  Walks, not a claim by itself: u128.Key hands back a number's bytes, the highest first, in new memory. By the verifier.
-/
import Derived.Test.YtkpkehbhgfbckaaBytes
namespace Go.Proofs.Ytkpkehbhgfbckaa
open Go.RowKit

/-- A number's bytes, the lowest first. -/
def bytesL (h l : Int) : List Int := [l % 256, l / 256 % 256, l / 65536 % 256, l / 16777216 % 256, l / 4294967296 % 256, l / 1099511627776 % 256, l / 281474976710656 % 256, l / 72057594037927936, h % 256, h / 256 % 256, h / 65536 % 256, h / 16777216 % 256, h / 4294967296 % 256, h / 1099511627776 % 256, h / 281474976710656 % 256, h / 72057594037927936]
/-- An array of bytes, shut to the walk. -/
def A16 (L : List Int) : Value := .agg (L.map (Value.int .u8)).toArray
theorem bytesOf_A16 (h l : Int) : BytesOf h l = A16 (bytesL h l) := rfl

theorem index16L (b0 b1 b2 b3 b4 b5 b6 b7 b8 b9 b10 b11 b12 b13 b14 b15 : Int) (w : World) : ∀ k : Nat, k < 16 → (Instr.index 42 (A16 [b0, b1, b2, b3, b4, b5, b6, b7, b8, b9, b10, b11, b12, b13, b14, b15]) (.int .i64 k)).run Try.prog w = .ok (.int .u8 ([b0, b1, b2, b3, b4, b5, b6, b7, b8, b9, b10, b11, b12, b13, b14, b15].getD k 0)) w
  | 0, _ => by kernel_rfl
  | 1, _ => by kernel_rfl
  | 2, _ => by kernel_rfl
  | 3, _ => by kernel_rfl
  | 4, _ => by kernel_rfl
  | 5, _ => by kernel_rfl
  | 6, _ => by kernel_rfl
  | 7, _ => by kernel_rfl
  | 8, _ => by kernel_rfl
  | 9, _ => by kernel_rfl
  | 10, _ => by kernel_rfl
  | 11, _ => by kernel_rfl
  | 12, _ => by kernel_rfl
  | 13, _ => by kernel_rfl
  | 14, _ => by kernel_rfl
  | 15, _ => by kernel_rfl
  | k + 16, h => by omega
theorem index16 (h l : Int) (w : World) (k : Nat) (hk : k < 16) : (Instr.index 42 (A16 (bytesL h l)) (.int .i64 k)).run Try.prog w = .ok (.int .u8 ((bytesL h l).getD k 0)) w :=
  index16L _ _ _ _ _ _ _ _ _ _ _ _ _ _ _ _ w k hk
theorem make16 (w : World) : (Instr.makeSlice 34 (.int .i64 16) (.int .i64 16)).run Try.prog w = .ok (.slice (some ⟨w.heap.size, 0, none⟩) 16 16) (w.alloc (.cells #[.int .u8 0, .int .u8 0, .int .u8 0, .int .u8 0, .int .u8 0, .int .u8 0, .int .u8 0, .int .u8 0, .int .u8 0, .int .u8 0, .int .u8 0, .int .u8 0, .int .u8 0, .int .u8 0, .int .u8 0, .int .u8 0] 5)) := by kernel_rfl

/-- What holds at the head of Key's loop. -/
def KeyRel (w : World) (L : List Int) (i : Value) (wr : World) : Prop := ∃ k : Nat, k ≤ 16 ∧ i = .int .i64 k ∧ (∀ j, j < 16 → wr.cell? ⟨w.heap.size + 1, j, none⟩ = some (.int .u8 (if 16 ≤ j + k then L.getD (15 - j) 0 else 0))) ∧
  (∀ j, wr.frozen? ⟨w.heap.size + 1, j, none⟩ = false) ∧ w.heap.size + 1 < wr.heap.size ∧ Below w.heap.size w wr

theorem rep16 (j : Nat) (v : Value) (h : j < 16) : (List.replicate 16 v).toArray[j]? = some v := by
  rw [List.getElem?_toArray, List.getElem?_replicate, if_pos h]
theorem key_rel0 (w w1 : World) (h l : Int) (L : List Int) (T : TypeId) (C : Array Value) (hC : C = (List.replicate 16 (Value.int .u8 0)).toArray)
    (hb : Below ((w.alloc (.cells #[.int .u64 h, .int .u64 l] T)).alloc (.cells C 5)).heap.size ((w.alloc (.cells #[.int .u64 h, .int .u64 l] T)).alloc (.cells C 5)) w1) : KeyRel w L (.int .i64 0) w1 := by
  obtain ⟨hc, hf⟩ := bcell hb
  have hz : w.heap.size + 1 < w1.heap.size := by have := hb.size; simp at this; omega
  refine ⟨0, by omega, rfl, ?_, ?_, hz, (((Below.refl _ _).alloc (Nat.le_refl _) _).alloc (by simp) _).trans (hb.mono (by simp; omega))⟩
  · intro j hj
    rw [hc _ _ (by simp), World.cell?_alloc_at _ _ _ _ (by simp), hC, rep16 j _ hj, if_neg (by omega)]
  · intro j
    rw [hf _ _ (by simp)]; simp [go_sem]
theorem key_rel1 (w wr : World) (L : List Int) (k m : Nat) (hk : k < 16) (hm : m = 15 - k) (v : Int) (hv : v = L.getD k 0) (hc : ∀ j, j < 16 → wr.cell? ⟨w.heap.size + 1, j, none⟩ = some (.int .u8 (if 16 ≤ j + k then L.getD (15 - j) 0 else 0)))
    (hf : ∀ j, wr.frozen? ⟨w.heap.size + 1, j, none⟩ = false) (hz : w.heap.size + 1 < wr.heap.size) (bel : Below w.heap.size w wr) :
    KeyRel w L (.int .i64 ((k : Int) + 1)) (wr.setCell ⟨w.heap.size + 1, m, none⟩ (.int .u8 v)) := by
  subst hm hv
  refine ⟨k + 1, by omega, by go_num, ?_, by simp [hf], by simp [World.setCell]; omega, bel.setCell (Nat.le_succ _) _⟩
  intro j hj
  by_cases e : 15 - k = j
  · subst e
    rw [World.cell?_setCell_same _ _ _ (hc _ hj), if_pos (by omega), show 15 - (15 - k) = k from by omega]
  · rw [World.cell?_setCell_other _ _ _ _ (by intro hh; injection hh; omega), hc j hj]
    by_cases g : 16 ≤ j + k
    · rw [if_pos g, if_pos (by omega)]
    · rw [if_neg g, if_neg (by omega)]

set_option maxRecDepth 100000 in
set_option maxHeartbeats 1000000 in
/-- u128.Key. -/
theorem key_any (h l : Int) (w : World) (h1 : Word h) (h2 : Word l) :
    Calls Try.prog 25 #[U h l] w fun e w' => e = .returned (.slice (some ⟨w.heap.size + 1, 0, none⟩) 16 16) ∧ (∀ j, j < 16 → w'.cell? ⟨w.heap.size + 1, j, none⟩ = some (.int .u8 ((bytesL h l).getD (15 - j) 0))) ∧
      (∀ j, w'.frozen? ⟨w.heap.size + 1, j, none⟩ = false) ∧ w.heap.size + 1 < w'.heap.size ∧ Below w.heap.size w w' := by
  have hmk := make16
  have hix := fun (w : World) (k : Nat) (hk : k < 16) => index16 h l w k hk
  obtain ⟨L, hL⟩ : ∃ L, L = bytesL h l := ⟨_, rfl⟩
  rw [← hL] at hix ⊢
  have HL : Hid (L = bytesL h l) := hL
  clear hL
  go_enter Try.func25, Try.ntmps25
  go_wp2_with fail
  refine (bytes_any h l _ h1 h2).mono ?_
  rintro e w1 ⟨rfl, hb⟩
  rw [bytesOf_A16, ← HL.out]
  have R := key_rel0 w w1 h l L _ _ (by rfl) hb
  clear hb
  go_wp2_with fail
  go_loopw [9] (fun i wr => KeyRel w L i wr) (fun i _ => 16 - (intOf i).toNat)
  case atStart => exact R
  case round =>
    obtain ⟨k, hk, rfl, hc, hf, hz, bel⟩ := hrel
    have HC : Hid (∀ j, j < 16 → wr.cell? ⟨w.heap.size + 1, j, none⟩ = some (.int .u8 (if 16 ≤ j + k then L.getD (15 - j) 0 else 0))) := hc
    have BE : Hid (Below w.heap.size w wr) := bel
    clear bel R
    by_cases hlt : k < 16
    · have hix := fun w => hix w k hlt
      have gk := hc (15 - k) (by omega)
      clear hc
      go_wp2_with fail
      exact ⟨key_rel1 w wr L k _ hlt rfl _ (by rw [List.getD_eq_getElem?_getD]) HC.out hf hz BE.out, by simp [intOf]; omega⟩
    · obtain rfl : k = 16 := by omega
      clear hc
      go_wp2_with fail
      go_ret
      refine ⟨rfl, ?_, hf, hz, BE.out⟩
      intro j hj
      rw [HC.out j hj, if_pos (by omega)]
end Go.Proofs.Ytkpkehbhgfbckaa
