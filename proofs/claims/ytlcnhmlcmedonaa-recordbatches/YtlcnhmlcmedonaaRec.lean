/-
  Plain notions, not a claim by itself: words, rows of bytes, worlds that are the same but for one block. By the verifier.
-/
import Derived.Test.YtlcnhmlcmedonaaBase
import Derived.Test.YtlcnhmlcmedonaaRows
import Derived.WalkKit
import Derived.WalkSpells
import Derived.RowKit3
import Derived.Below
import Derived.Laws.IdiomCopy
import Derived.Deep.Light
import Derived.Deep.QuietTactic
import Derived.BigQuiet
import Derived.WalkSmall
namespace Go.Proofs.Ytlcnhmlcmedonaa
open Go.RowKit

/-- A word of 64 bits. -/
def Word (x : Int) : Prop := 0 ≤ x ∧ x < 18446744073709551616
/-- A number of 128 bits as Go has it. -/
abbrev U (h l : Int) : Value := .agg #[.int .u64 h, .int .u64 l]
theorem word_zero : Word 0 := ⟨by omega, by omega⟩

/-- A row of N bytes that may be written. -/
def Row (u : World) (b N : Nat) (f : Nat → Int) : Prop := (∀ j, j < N → u.cell? ⟨b, j, none⟩ = some (.int .u8 (f j))) ∧ (∀ j, u.frozen? ⟨b, j, none⟩ = false) ∧ b < u.heap.size
theorem Row.but {u v : World} {b c N : Nat} {f : Nat → Int} (h : Row u b N f) (hb : But c u v) (hn : b ≠ c) : Row v b N f :=
  ⟨fun j hj => (hb.cell (p := ⟨b, j, none⟩) h.2.2 hn).trans (h.1 j hj), fun j => (hb.frozen (p := ⟨b, j, none⟩) h.2.2 hn).trans (h.2.1 j), Nat.lt_of_lt_of_le h.2.2 hb.size⟩
theorem Row.below {u v : World} {b N : Nat} {f : Nat → Int} (h : Row u b N f) (hb : Below u.heap.size u v) : Row v b N f :=
  ⟨fun j hj => (hb.cell (p := ⟨b, j, none⟩) h.2.2).trans (h.1 j hj), fun j => (hb.frozen (p := ⟨b, j, none⟩) h.2.2).trans (h.2.1 j), Nat.lt_of_lt_of_le h.2.2 hb.size⟩
theorem Row.alloc {u : World} {b N : Nat} {f : Nat → Int} (h : Row u b N f) (o : Obj) : Row (u.alloc o) b N f := h.below ((Below.refl _ _).alloc (Nat.le_refl _) _)
theorem Row.drew {u : World} {b N : Nat} {f : Nat → Int} (h : Row u b N f) : Row u.drew b N f := h
/-- g laid over f from off on, n places. -/
def lay (f : Nat → Int) (off n : Nat) (g : Nat → Int) (j : Nat) : Int := if j < off then f j else if j < off + n then g (j - off) else f j
theorem lay_zero (f : Nat → Int) (off : Nat) (g : Nat → Int) : lay f off 0 g = f := by
  funext j
  unfold lay
  by_cases h : j < off
  · rw [if_pos h]
  · rw [if_neg h, if_neg (by omega)]
theorem Row.set {u : World} {b N off k : Nat} {f g : Nat → Int} (h : Row u b N (lay f off k g)) (v : Int) (hv : v = g k) : Row (u.setCell ⟨b, off + k, none⟩ (.int .u8 v)) b N (lay f off (k + 1) g) := by
  refine ⟨fun j hj => ?_, fun j => by simp [h.2.1], by simp [World.setCell]; exact h.2.2⟩
  by_cases e : j = off + k
  · subst e
    rw [World.cell?_setCell_same' _ _ _ (by rw [h.1 _ hj]; rfl)]
    unfold lay
    rw [if_neg (by omega), if_pos (by omega), hv, show off + k - off = k by omega]
  · have := h.1 j hj
    unfold lay at this ⊢
    rw [World.cell?_setCell_other _ (a := ⟨b, off + k, none⟩) (b := ⟨b, j, none⟩) _ (fun q => e (by injection q with _ q; exact q.symm)), this]
    by_cases h1 : j < off
    · rw [if_pos h1, if_pos h1]
    · by_cases h2 : j < off + k
      · rw [if_neg h1, if_pos h2, if_neg h1, if_pos (by omega)]
      · rw [if_neg h1, if_neg h2, if_neg h1, if_neg (by omega)]
end Go.Proofs.Ytlcnhmlcmedonaa
