/-
  Walks, not a claim by itself: parts for the reference's walks. By the verifier.
-/
import Derived.Test.YtlcnhmlcmedonaaRdR
import Derived.Deep.MidRow
namespace Go.Proofs.Ytlcnhmlcmedonaa
open Go.RowKit
/-- A number lies in a block that may be written. -/
def AtW (u : World) (b : Nat) (h l : Int) : Prop := u.cell? ⟨b, 0, none⟩ = some (.int .u64 h) ∧ u.cell? ⟨b, 1, none⟩ = some (.int .u64 l) ∧ u.frozen? ⟨b, 0, none⟩ = false ∧ u.frozen? ⟨b, 1, none⟩ = false ∧ b < u.heap.size
theorem AtW.below {u v : World} {b : Nat} {h l : Int} (k : AtW u b h l) (hb : Below u.heap.size u v) : AtW v b h l := by
  obtain ⟨c0, c1, f0, f1, z⟩ := k
  exact ⟨(hb.cell z).trans c0, (hb.cell z).trans c1, (hb.frozen z).trans f0, (hb.frozen z).trans f1, Nat.lt_of_lt_of_le z hb.size⟩
theorem AtW.alloc {u : World} {b : Nat} {h l : Int} (k : AtW u b h l) (o : Obj) : AtW (u.alloc o) b h l := k.below ((Below.refl _ _).alloc (Nat.le_refl _) _)
theorem AtW.new (u : World) (h l : Int) (t : TypeId) : AtW (u.alloc (.cells #[.int .u64 h, .int .u64 l] t)) u.heap.size h l := ⟨by simp [go_sem], by simp [go_sem], by simp [go_sem], by simp [go_sem], by simp⟩
theorem AtW.set {u : World} {b : Nat} {h l : Int} (k : AtW u b h l) (p q : Int) : AtW ((u.setCell ⟨b, 0, none⟩ (.int .u64 p)).setCell ⟨b, 1, none⟩ (.int .u64 q)) b p q := by
  obtain ⟨c0, c1, f0, f1, z⟩ := k
  refine ⟨?_, ?_, by simp [f0], by simp [f1], by simp [World.setCell]; omega⟩
  · rw [World.cell?_setCell_other _ _ _ _ (by simp), World.cell?_setCell_same _ _ _ c0]
  · rw [World.cell?_setCell_same _ _ _ (u := .int .u64 l)]
    rw [World.cell?_setCell_other _ _ _ _ (by simp), c1]
theorem AtW.other {u : World} {b : Nat} {h l : Int} (k : AtW u b h l) (b' o : Nat) (v : Value) (hne : b' ≠ b) : AtW (u.setCell ⟨b', o, none⟩ v) b h l := by
  obtain ⟨c0, c1, f0, f1, z⟩ := k
  refine ⟨?_, ?_, by simp [f0], by simp [f1], by simp [World.setCell]; omega⟩
  · rw [World.cell?_setCell_other _ _ _ _ (by intro e; injection e; omega), c0]
  · rw [World.cell?_setCell_other _ _ _ _ (by intro e; injection e; omega), c1]
/-- A row of sixteen bytes. -/
def RowF (u : World) (b : Nat) (f : Nat → Int) : Prop := (∀ j, j < 16 → u.cell? ⟨b, j, none⟩ = some (.int .u8 (f j))) ∧ b < u.heap.size
theorem RowF.below {u v : World} {b : Nat} {f : Nat → Int} (k : RowF u b f) (hb : Below u.heap.size u v) : RowF v b f :=
  ⟨fun j hj => (hb.cell (p := ⟨b, j, none⟩) k.2).trans (k.1 j hj), Nat.lt_of_lt_of_le k.2 hb.size⟩
theorem RowF.alloc {u : World} {b : Nat} {f : Nat → Int} (k : RowF u b f) (o : Obj) : RowF (u.alloc o) b f := k.below ((Below.refl _ _).alloc (Nat.le_refl _) _)
theorem RowF.drew {u : World} {b : Nat} {f : Nat → Int} (k : RowF u b f) : RowF u.drew b f := k
end Go.Proofs.Ytlcnhmlcmedonaa
