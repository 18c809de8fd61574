/-
  Walks, not a claim by itself: u128.Read. By the verifier.
-/
import Derived.Test.YtlcnhmlcmedonaaRWord
import Derived.Deep.RegionHeld3
import Derived.Deep.DeepFit
namespace Go.Proofs.Ytlcnhmlcmedonaa
open Go.RowKit

/-- Sixteen bytes lie in a row. -/
def Row16 (u : World) (b off : Nat) (f : Nat → Int) : Prop := (∀ j, j < 16 → u.cell? ⟨b, off + j, none⟩ = some (.int .u8 (f j))) ∧ (∀ j, j < 16 → 0 ≤ f j ∧ f j < 256) ∧ b < u.heap.size
theorem Row16.below {u v : World} {b off : Nat} {f : Nat → Int} (h : Row16 u b off f) (hb : Below u.heap.size u v) : Row16 v b off f :=
  ⟨fun j hj => (hb.cell (p := ⟨b, off + j, none⟩) h.2.2).trans (h.1 j hj), h.2.1, Nat.lt_of_lt_of_le h.2.2 hb.size⟩
theorem Row16.drew {u : World} {b off : Nat} {f : Nat → Int} (h : Row16 u b off f) : Row16 u.drew b off f := h
theorem Row16.alloc {u : World} {b off : Nat} {f : Nat → Int} (h : Row16 u b off f) (o : Obj) : Row16 (u.alloc o) b off f := h.below ((Below.refl _ _).alloc (Nat.le_refl _) _)

theorem read_no (a : Option Addr) (len cap : Nat) (w : World) (h : len ≠ 16) :
    Calls Try.prog 56 #[.slice a len cap] w fun e w' => e = .returned (.tuple #[U 0 0, .int .i64 4]) ∧ Below w.heap.size w w' := by
  have h' : ((len : Int) != 16) = true := by simp; omega
  go_enter Try.func56, Try.ntmps56
  go_wp2
  exact bodyPost_ret (v := .tuple #[U 0 0, .int .i64 4]) (by simp [results, Try.results56, go_sem]) rfl ⟨rfl, (Below.refl _ _).alloc (Nat.le_refl _) _⟩

set_option maxHeartbeats 1000000 in
theorem read_ok (b off cap : Nat) (f : Nat → Int) (w : World) (hcap : 16 ≤ cap) (h : Row16 w b off f) :
    Calls Try.prog 56 #[.slice (some ⟨b, off, none⟩) 16 cap] w fun e w' => e = .returned (.tuple #[U (le8 fun j => f (8 + j)) (le8 f), .int .i64 0]) ∧ Below w.heap.size w w' := by
  have k1 : (8 : Int) ≤ cap := by omega
  have k2 : (16 : Int) ≤ cap := by omega
  have k3 : ¬ cap = 8 := by omega
  have k4 : ¬ cap = 0 := by omega
  have H : Hid (Row16 w b off f) := h
  clear h
  go_enter Try.func56, Try.ntmps56
  go_wp2_with fail
  go_region_held3 (fun w' => True) (trivial)
    (first
      | (go_at_call 59; (go_fit (word_row b (off + 8) (cap - 8) (fun j => f (8 + j)) _ (fun j hj => by rw [Nat.add_assoc]; exact (((H.out).alloc _).drew).1 (8 + j) (by omega)) (fun j hj => H.out.2.1 (8 + j) (by omega)))); rintro e w' ⟨rfl, hw⟩; rw [hw]; clear hw)
      | (go_at_call 59; go_must (go_fit (word_row b off cap f _ (fun j hj => (((H.out).alloc _).drew).1 j (by omega)) (fun j hj => H.out.2.1 j (by omega)))); rintro e w' ⟨rfl, hw⟩; rw [hw]; clear hw))
  go_wp2
  refine bodyPost_ret (v := .tuple #[U (le8 fun j => f (8 + j)) (le8 f), .int .i64 0]) (by simp [results, Try.results56, go_sem]) rfl ⟨rfl, ?_⟩
  repeat (first | exact Below.refl _ _ | refine Below.drew ?_ | refine Below.alloc ?_ (by simp <;> omega) _)
end Go.Proofs.Ytlcnhmlcmedonaa
