/-
  Walks, not a claim by itself: three lists that lie apart. By the verifier.
-/
import Derived.Test.YtfpgkckcifjkcaaDoorBApart2
namespace Go.Proofs.YtfpgkckcifjkcaaDoor
open Go.RowKit
/-- Three lists that lie apart. -/
theorem three_apart (B : Nat) (W : World) (L0 L1 L2 : Lst) (F0 F1 F2 : Nat → Int) (h0 : L0.ok B W F0) (h1 : L1.ok B W F1) (h2 : L2.ok B W F2) (hB : B ≤ W.heap.size)
    (l0 : ∀ p, L0.a = some p → p.block < W.heap.size) (l1 : ∀ p, L1.a = some p → p.block < W.heap.size) (l2 : ∀ p, L2.a = some p → p.block < W.heap.size)
    (d01 : ∀ p q, L0.a = some p → L1.a = some q → p.block ≠ q.block) (d02 : ∀ p q, L0.a = some p → L2.a = some q → p.block ≠ q.block) (d12 : ∀ p q, L1.a = some p → L2.a = some q → p.block ≠ q.block) :
    Calls Tryd.prog 17 #[.slice (some ⟨W.heap.size, 0, none⟩) 3 3] (W.alloc (.cells #[L0.val, L1.val, L2.val] 27)) fun e w' => e = .returned (.bool true) ∧ Below B W w' := by
  let Ls : Nat → Lst := fun k => match k with | 0 => L0 | 1 => L1 | _ => L2
  let Fs : Nat → Nat → Int := fun k => match k with | 0 => F0 | 1 => F1 | _ => F2
  have hb : Below W.heap.size W (W.alloc (.cells #[L0.val, L1.val, L2.val] 27)) := (Below.refl _ _).alloc (Nat.le_refl _) _
  have inv : ApInv (W.alloc (.cells #[L0.val, L1.val, L2.val] 27)) B W.heap.size 3 Ls Fs (W.alloc (.cells #[L0.val, L1.val, L2.val] 27)) := by
    refine ⟨fun k hk => ?_, fun k hk => ?_, Nat.le_refl _, Below.refl _ _⟩
    · rw [World.cell?_alloc_at _ _ _ _ rfl]
      match k, hk with
      | 0, _ => rfl
      | 1, _ => rfl
      | 2, _ => rfl
      | k + 3, hk => omega
    · match k, hk with
      | 0, _ => exact h0.below hb
      | 1, _ => exact h1.below hb
      | 2, _ => exact h2.below hb
      | k + 3, hk => omega
  have sep : ApSep (W.alloc (.cells #[L0.val, L1.val, L2.val] 27)) B W.heap.size 3 Ls := by
    refine ⟨by simp, by simp; omega, fun k hk p hp => ?_, fun i k hi hk hne p q hp hq => ?_⟩
    · have : p.block < W.heap.size := by
        match k, hk, hp with
        | 0, _, hp => exact l0 p hp
        | 1, _, hp => exact l1 p hp
        | 2, _, hp => exact l2 p hp
        | k + 3, hk, _ => omega
      exact ⟨by omega, by simp; omega⟩
    · match i, k, hi, hk, hp, hq with
      | 0, 0, _, _, _, _ => exact absurd rfl hne
      | 1, 1, _, _, _, _ => exact absurd rfl hne
      | 2, 2, _, _, _, _ => exact absurd rfl hne
      | 0, 1, _, _, hp, hq => exact d01 p q hp hq
      | 0, 2, _, _, hp, hq => exact d02 p q hp hq
      | 1, 2, _, _, hp, hq => exact d12 p q hp hq
      | 1, 0, _, _, hp, hq => exact (d01 q p hq hp).symm
      | 2, 0, _, _, hp, hq => exact (d02 q p hq hp).symm
      | 2, 1, _, _, hp, hq => exact (d12 q p hq hp).symm
      | i + 3, _, hi, _, _, _ => omega
      | _, k + 3, _, hk, _, _ => omega
  refine (apart_any B W.heap.size 3 3 Ls Fs _ inv sep (by omega)).mono ?_
  rintro e w' ⟨rfl, hB'⟩
  exact ⟨rfl, (hb.mono hB).trans hB'⟩
end Go.Proofs.YtfpgkckcifjkcaaDoor
