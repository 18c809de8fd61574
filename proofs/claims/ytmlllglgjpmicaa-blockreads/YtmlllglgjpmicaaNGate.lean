/-
  Laws for the walk, not a claim by itself: records made and stored in a region that draws its order; two lists that lie apart. By the verifier.
-/
import Derived.Test.YtmlllglgjpmicaaGate
import Derived.Test.YtmlllglgjpmicaaBApart2
namespace Go.Proofs.Ytmlllglgjpmicaa
open Go.RowKit
section
variable {ops : Array Oper} {Q : Exit → Act → World → Prop} {md : Region.Mode} {S : World → Prop}
/-- A new variable of several cells comes up. -/
theorem all_alloc_rec {i : Nat} {o : Oper} {rs : List Nat} {fuel : Nat} {listed : Array Bool} {a : Act} {w : World} (d : Option Tmp) (ty : TypeId) (ho : ops[i]? = some o) (hd : o.dst = d) (hop : o.op = .alloc ty) (hw : Region.wanted o (yielded ops a.tmps) = true)
    (cs : List Value) (hz : (Try.prog.info? ty).bind (·.zero) = some (.agg cs.toArray))
    (h : ∀ (X : Nat) (W : World), w.heap.size = X → Rec19 W X 0 cs → Below X w W → S W ∧ (S W → wpAnyH Try.prog md ops Q S fuel (listed.setIfInBounds i true) (a.put d (.pointer (some ⟨X, 0, none⟩))) W))
    (hs : AllReadyH Try.prog md ops Q S fuel listed a w rs) : AllReadyH Try.prog md ops Q S fuel listed a w (i :: rs) := by
  subst hd
  refine AllReadyH.cons ho (fun K hK => ?_) hs
  rw [if_pos hw]
  unfold Oper.wp execOp
  cases hi : Try.prog.info? ty with
  | none => simp [hi] at hz
  | some i =>
    have hz' : i.zero = some (.agg cs.toArray) := by simpa [hi] using hz
    have h' := h w.heap.size _ rfl (Rec19.new w ty cs) ((Below.refl _ _).alloc (Nat.le_refl _) _)
    simp only [hop]
    simp [Instr.alloc, zeroValue, typeInfo, hi, hz', newVar, newRow, Value.cells, Result.andThen]
    exact hK.out _ _ h'.1 h'.2
/-- Several cells are stored. -/
theorem all_store_rec {i : Nat} {o : Oper} {rs : List Nat} {fuel : Nat} {listed : Array Bool} {a : Act} {w : World} (d : Option Tmp) (ty : TypeId) (x y : Operand) (ho : ops[i]? = some o) (hd : o.dst = d) (hop : o.op = .store ty x y) (hw : Region.wanted o (yielded ops a.tmps) = true)
    (b : Nat) (cs vs : List Value) (hx : a.eval x = .pointer (some ⟨b, 0, none⟩)) (hy : a.eval y = .agg vs.toArray)
    (hr : Rec19 w b 0 cs) (hl : cs.length = vs.length) (hi : (Try.prog.info? ty).map (·.size) = some vs.length) (h1 : ∀ v ∈ vs, v.oneCell' = true)
    (h : ∀ W : World, Rec19 W b 0 vs → But b w W → S W ∧ (S W → wpAnyH Try.prog md ops Q S fuel (listed.setIfInBounds i true) (a.put d undef) W))
    (hs : AllReadyH Try.prog md ops Q S fuel listed a w rs) : AllReadyH Try.prog md ops Q S fuel listed a w (i :: rs) := by
  subst hd
  refine AllReadyH.cons ho (fun K hK => ?_) hs
  rw [if_pos hw]
  refine wp_store_mid ty x y hop b 0 vs.toArray hx hy ?_ ?_ (all_oneCell_toArray h1) ?_
  · simpa [hl] using hr.2.1
  · simpa using hi
  · have h' := h _ (hr.store vs hl) (But.cells _ _ _)
    exact hK.out _ _ h'.1 h'.2
end
/-- Two lists that lie apart. -/
theorem two_apart (B : Nat) (W : World) (L0 L1 : Lst) (F0 F1 : Nat → Int) (h0 : L0.ok B W F0) (h1 : L1.ok B W F1) (hB : B ≤ W.heap.size)
    (l0 : ∀ p, L0.a = some p → p.block < W.heap.size) (l1 : ∀ p, L1.a = some p → p.block < W.heap.size)
    (d01 : ∀ p q, L0.a = some p → L1.a = some q → p.block ≠ q.block) :
    Calls Try.prog 17 #[.slice (some ⟨W.heap.size, 0, none⟩) 2 2] (W.alloc (.cells #[L0.val, L1.val] 25)) fun e w' => e = .returned (.bool true) ∧ Below B W w' := by
  let Ls : Nat → Lst := fun k => match k with | 0 => L0 | _ => L1
  let Fs : Nat → Nat → Int := fun k => match k with | 0 => F0 | _ => F1
  have hb : Below W.heap.size W (W.alloc (.cells #[L0.val, L1.val] 25)) := (Below.refl _ _).alloc (Nat.le_refl _) _
  have inv : ApInv (W.alloc (.cells #[L0.val, L1.val] 25)) B W.heap.size 2 Ls Fs (W.alloc (.cells #[L0.val, L1.val] 25)) := by
    refine ⟨fun k hk => ?_, fun k hk => ?_, Nat.le_refl _, Below.refl _ _⟩
    · rw [World.cell?_alloc_at _ _ _ _ rfl]
      match k, hk with
      | 0, _ => rfl
      | 1, _ => rfl
      | k + 2, hk => omega
    · match k, hk with
      | 0, _ => exact h0.below hb
      | 1, _ => exact h1.below hb
      | k + 2, hk => omega
  have sep : ApSep (W.alloc (.cells #[L0.val, L1.val] 25)) B W.heap.size 2 Ls := by
    refine ⟨by simp, by simp; omega, fun k hk p hp => ?_, fun i k hi hk hne p q hp hq => ?_⟩
    · have : p.block < W.heap.size := by
        match k, hk, hp with
        | 0, _, hp => exact l0 p hp
        | 1, _, hp => exact l1 p hp
        | k + 2, hk, _ => omega
      exact ⟨by omega, by simp; omega⟩
    · match i, k, hi, hk, hp, hq with
      | 0, 0, _, _, _, _ => exact absurd rfl hne
      | 1, 1, _, _, _, _ => exact absurd rfl hne
      | 0, 1, _, _, hp, hq => exact d01 p q hp hq
      | 1, 0, _, _, hp, hq => exact (d01 q p hq hp).symm
      | i + 2, _, hi, _, _, _ => omega
      | _, k + 2, _, hk, _, _ => omega
  refine (apart_any B W.heap.size 2 2 Ls Fs _ inv sep (by omega)).mono ?_
  rintro e w' ⟨rfl, hB'⟩
  exact ⟨rfl, (hb.mono hB).trans hB'⟩
end Go.Proofs.Ytmlllglgjpmicaa
