/-
  Walks, not a claim by itself: DiskNone. By the verifier.
-/
import Derived.Test.YtoehbljnapdbgaaENone
namespace Go.Proofs.Ytoehbljnapdbgaa
open Go.RowKit Go.Maps
/-- What holds at the head of the loop. -/
def noneRel (w : World) (i : Value) (wr : World) : Prop := ∃ k : Nat, k ≤ 2 ∧ i = .int .i64 k ∧ Below w.heap.size w wr
/-- The list of the two that are none. -/
def TwoNo (W : World) (b : Nat) (k : Nat) : Prop := ∃ p, W.cell? ⟨b, k, none⟩ = some (.pointer p) ∧ NoD W p
theorem TwoNo.below {W W' : World} {b k : Nat} (h : TwoNo W b k) (hb : b < W.heap.size) (hB : Below W.heap.size W W') : TwoNo W' b k := by
  obtain ⟨p, c, n⟩ := h
  exact ⟨p, (hB.cell (p := ⟨b, k, none⟩) hb).trans c, n.below hB⟩
theorem none_less {k : Nat} (hlt : k < 2) : 2 - (RowKit.intOf (.int .i64 ((k : Int) + 1))).toNat < 2 - (RowKit.intOf (.int .i64 (k : Int))).toNat := by simp [RowKit.intOf]; omega
theorem none_next {W V U : World} {k : Nat} (hlt : k < 2) (h1 : Below W.heap.size W V) (h2 : Below V.heap.size V U) : noneRel W (.int .i64 ((k : Int) + 1)) U := ⟨k + 1, by omega, by go_num, h1.trans (h2.mono h1.size)⟩
/-- A zero Disk and the list. -/
def noneW (w : World) : World := (w.alloc (.cells #[.pointer none, .slice none 0 0, .map none, .int .i64 0, .pointer none, .bool false] 38)).alloc (.cells #[.pointer none, .pointer (some ⟨w.heap.size, 0, none⟩)] 33)
theorem noneW_below (w : World) : Below w.heap.size w (noneW w) := ((Below.refl _ _).alloc (Nat.le_refl _) _).alloc (by simp) _
theorem noneW_size (w : World) : (noneW w).heap.size = w.heap.size + 1 + 1 := by simp [noneW]
theorem noneW_no (w : World) (k : Nat) (hk : k < 2) : TwoNo (noneW w) (w.heap.size + 1) k := by
  have z1 : (w.alloc (.cells #[.pointer none, .slice none 0 0, .map none, .int .i64 0, .pointer none, .bool false] 38)).heap.size = w.heap.size + 1 := by simp
  have c : ∀ k, (noneW w).cell? ⟨w.heap.size + 1, k, none⟩ = (#[Value.pointer none, Value.pointer (some ⟨w.heap.size, 0, none⟩)])[k]? := fun k => by
    unfold noneW
    rw [← z1, cell_of_row _ _ _ _ _ _ (heap_alloc_new _ _)]
  match k, hk with
  | 0, _ => exact ⟨none, c 0, .inl rfl⟩
  | 1, _ =>
    refine ⟨some ⟨w.heap.size, 0, none⟩, c 1, .inr ⟨w.heap.size, rfl, ?_, by rw [noneW_size]; omega⟩⟩
    have B : Below (w.alloc (.cells #[.pointer none, .slice none 0 0, .map none, .int .i64 0, .pointer none, .bool false] 38)).heap.size _ (noneW w) := (Below.refl _ _).alloc (Nat.le_refl _) _
    rw [B.cell (p := ⟨w.heap.size, 0, none⟩) (by rw [z1]; exact Nat.lt_succ_self _), cell_of_row _ _ _ _ _ _ (heap_alloc_new _ _)]
    rfl
theorem none_long (x : Int) (a : Option Addr) (n C : Nat) (w : World) (h : 1000 < n) : Calls Try.prog 4 #[.int .i64 x, .slice a n C] w fun e w' => e = .returned (.bool true) ∧ Below w.heap.size w w' := by
  have h1 : (1000 : Int) < n := by omega
  go_enter Try.func4, Try.ntmps4
  go_wp2_with fail
  refine (awake_any _).mono ?_
  rintro e w2 ⟨rfl, b2⟩
  have B2 : Hid (Below w.heap.size w w2) := b2
  clear b2
  go_wp2_with fail
  go_ret
  exact ⟨rfl, B2.out⟩
set_option maxRecDepth 100000 in
set_option maxHeartbeats 1000000 in
theorem none_short (x : Int) (a : Option Addr) (n C : Nat) (w : World) (h : ¬ 1000 < n) : Calls Try.prog 4 #[.int .i64 x, .slice a n C] w fun e w' => e = .returned (.bool true) ∧ Below w.heap.size w w' := by
  have h1 : ¬ (1000 : Int) < n := by omega
  have ST : Hid (noneRel (noneW w) (.int .i64 0) (noneW w)) := ⟨0, by omega, rfl, Below.refl _ _⟩
  have TN : Hid (∀ k, k < 2 → TwoNo (noneW w) (w.heap.size + 1) k) := noneW_no w
  have BW : Hid (Below w.heap.size w (noneW w)) := noneW_below w
  have ZW : Hid (w.heap.size + 1 < (noneW w).heap.size) := by show _ < _; rw [noneW_size]; omega
  clear h
  go_enter Try.func4, Try.ntmps4
  go_wp2_with fail
  go_loopw [6] (fun i wr => noneRel (noneW w) i wr) (fun i _ => 2 - (RowKit.intOf i).toNat)
  case atStart => exact ST.out
  case round =>
    obtain ⟨k, hk, rfl, hB⟩ := hrel
    clear ST
    by_cases hlt : k < 2
    · obtain ⟨p, c0, np⟩ := (TN.out k hlt).below ZW.out hB
      have NP : Hid (NoD wr p) := np
      have BE : Hid (Below (noneW w).heap.size (noneW w) wr) := hB
      have i0 : (k : Int) < 2 := by omega
      have i1 : (0 : Int) ≤ (k : Int) := by omega
      clear np hB
      go_wp2_with fail
      refine (read_no _ p x 1 NP.out).mono ?_
      rintro e w1 ⟨rfl, rfl⟩
      go_wp2_with fail
      refine (write_no _ p a x n C NP.out).mono ?_
      rintro e w2 ⟨rfl, b2⟩
      have N2 : Hid (NoD w2 p) := NP.out.below b2
      have B2 : Hid (Below w1.heap.size w1 w2) := b2
      clear b2 NP c0
      go_wp2_with fail
      refine (flush_no _ p N2.out).mono ?_
      rintro e w3 ⟨rfl, b3⟩
      have N3 : Hid (NoD w3 p) := N2.out.below b3
      have B3 : Hid (Below w1.heap.size w1 w3) := B2.out.trans (b3.mono B2.out.size)
      clear b3 N2 B2
      go_wp2_with (first
        | (go_at_call 15; refine (turn_no _ p x 0 1 N3.out).mono ?_; rintro e w4 ⟨rfl, h4⟩; rw [h4]; clear h4 w4)
        | (go_at_call 16; refine (crash_no _ p none 0 0 0 N3.out).mono ?_; rintro e w4 ⟨rfl, h4⟩; rw [h4]; clear h4 w4)
        | (go_at_call 17; refine (sectors_no _ p N3.out).mono ?_; rintro e w4 ⟨rfl, h4⟩; rw [h4]; clear h4 w4)
        | (go_at_call 18; refine (loose_no _ p N3.out).mono ?_; rintro e w4 ⟨rfl, h4⟩; rw [h4]; clear h4 w4)
        | (go_at_call 19; refine (ops_no _ p N3.out).mono ?_; rintro e w4 ⟨rfl, h4⟩; rw [h4]; clear h4 w4)
        | (go_at_call 20; refine (up_no _ p N3.out).mono ?_; rintro e w4 ⟨rfl, h4⟩; rw [h4]; clear h4 w4)
        | (go_at_call 21; refine (clone_no _ p N3.out).mono ?_; rintro e w4 ⟨rfl, h4⟩; rw [h4]; clear h4 w4))
      have B4 : Below w3.heap.size w3 (w3.alloc (.cells #[.pointer p] 33)) := (Below.refl _ _).alloc (Nat.le_refl _) _
      refine (fuse_no _ p w3.heap.size _ 1 (N3.out.below B4) (by rw [cell_of_row _ _ _ _ _ _ (heap_alloc_new _ _)]; rfl)).mono ?_
      rintro e w4 ⟨rfl, h4⟩
      rw [h4]
      have RR : Hid (noneRel (noneW w) (.int .i64 ((k : Int) + 1)) (w3.alloc (.cells #[.pointer p] 33))) := none_next hlt BE.out (B3.out.trans (B4.mono B3.out.size))
      clear h4 w4 B4 N3 B3 BE
      go_wp2_with fail
      go_roundw
      case rel => exact RR.out
      case measure => exact none_less hlt
    · have i0 : ¬ (k : Int) < 2 := by omega
      have BE : Hid (Below w.heap.size w wr) := BW.out.trans (hB.mono BW.out.size)
      clear hB
      go_wp2_with fail
      refine (awake_any _).mono ?_
      rintro e w2 ⟨rfl, b2⟩
      have B2 : Hid (Below w.heap.size w w2) := BE.out.trans (b2.mono BE.out.size)
      clear b2
      go_wp2_with fail
      go_ret
      exact ⟨rfl, B2.out⟩
end Go.Proofs.Ytoehbljnapdbgaa
