/-
  Walks, not a claim by itself: the kit's OverBytes, over a slice of 16 bytes. By the verifier.
-/
import Derived.Test.YthgoionmooolaaaRRead
namespace Go.Proofs.Ythgoionmooolaaa
open Go.RowKit
/-- What holds at the head of the loop. -/
def overRel (w : World) (b : Nat) (i : Value) (wr : World) : Prop := ∃ k : Nat, k ≤ 16 ∧ i = .int .i64 k ∧ (∃ g, RowF wr b g) ∧ (∀ j, wr.frozen? ⟨b, j, none⟩ = false) ∧ Below b w wr
theorem over_rel1 (w wr : World) (b k m : Nat) (hk : k < 16) (hm : m = k) (v : Int) (g : Nat → Int) (hZ : RowF wr b g) (hf : ∀ j, wr.frozen? ⟨b, j, none⟩ = false) (bel : Below b w wr) :
    overRel w b (.int .i64 ((k : Int) + 1)) (wr.setCell ⟨b, m, none⟩ (.int .u8 v)) := by
  rw [hm]
  exact ⟨k + 1, by omega, by go_num, ⟨_, hZ.set k (by omega) v⟩, by intro j; simp [hf], bel.setCell (Nat.le_refl _) _⟩
set_option maxRecDepth 100000 in
set_option maxHeartbeats 1000000 in
theorem over_any (b : Nat) (f : Nat → Int) (w : World) (h : RowF w b f) (hf : ∀ j, w.frozen? ⟨b, j, none⟩ = false) :
    Calls Try.prog 14 #[.slice (some ⟨b, 0, none⟩) 16 16] w fun e w' => e = .returned (.tuple #[]) ∧ Below b w w' := by
  have ST : Hid (overRel w b (.int .i64 0) w) := ⟨0, by omega, rfl, ⟨f, h⟩, hf, Below.refl _ _⟩
  have hb := h.2
  clear h hf
  go_enter Try.func14, Try.ntmps14
  go_wp2_with fail
  go_loopw [3] (fun i wr => overRel w b i wr) (fun i _ => 16 - (intOf i).toNat)
  case atStart => exact ST.out
  case round =>
    obtain ⟨k, hk, rfl, ⟨g, hZ⟩, hf, bel⟩ := hrel
    have BE : Hid (Below b w wr) := bel
    clear bel ST
    by_cases hlt : k < 16
    · have gk := hZ.1 k hlt
      go_wp2_with fail
      exact ⟨over_rel1 w wr b k _ hlt rfl _ g hZ hf BE.out, by simp [intOf]; omega⟩
    · obtain rfl : k = 16 := by omega
      go_wp2_with fail
      exact bodyPost_end (v := .tuple #[]) (by simp [results, Try.results14, go_sem]) rfl ⟨rfl, BE.out⟩
end Go.Proofs.Ythgoionmooolaaa
