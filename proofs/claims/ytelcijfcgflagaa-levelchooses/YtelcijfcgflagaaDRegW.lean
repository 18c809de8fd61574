/-
  Laws for the walk, not a claim by itself: a region that draws its order, in a fence outside of every round. By the verifier.
-/
import Derived.Test.YtelcijfcgflagaaDReg
namespace Go.Proofs.Ytelcijfcgflagaa
open Go.RowKit
theorem rows_wd {n : Nat} {P : Program} {row : String} {args : Array Value} {w : World} {R : Value → World → Prop} (h : Rows P row args w R) : RowsIn Fence.wide n P row args w R :=
  fun c cs _ => let ⟨v, w', r, s⟩ := h c cs; ⟨v, w', r, stepsIn_wide.2 s⟩
theorem upon_wd {n : Nat} {P : Program} {o : Oper} {a : Act} {K : Act → World → Prop} {Q : Exit → Act → World → Prop} {r : Result Next} (h : o.upon P a K Q r) : o.uponIn Fence.wide (n + 1) P a K Q r := by
  cases r with
  | ok x w' =>
    cases x with
    | value v => exact h
    | skip => exact h
    | defer d => exact h
    | enter f args => exact ⟨fun _ => by omega, callsIn_wide.2 h⟩
    | row row args => exact ⟨fun _ => by omega, rows_wd h⟩
    | _ => exact (h : False).elim
  | halt x w' => cases x <;> first | exact h | exact (h : False).elim
theorem op_wd {n : Nat} {P : Program} {ops : Array Oper} {Q : Exit → Act → World → Prop} {i : Nat} {K : Act → World → Prop} {a : Act} {w : World} (hd : ∀ (i : Nat) (o : Oper) c, ops[i]? = some o → o.op ≠ .defer c) (h : wpOp P ops (Only Q) i K a w) : wpOpIn Fence.wide (n + 1) P ops (Only Q) i K a w := by
  unfold wpOp at h
  unfold wpOpIn
  cases e : ops[i]? with
  | none => simpa only [e] using h
  | some o =>
    simp only [e] at h ⊢
    by_cases g : Region.wanted o (yielded ops a.tmps) = true
    · rw [if_pos g] at h ⊢
      rcases h with h | ⟨_, _, _, h, _⟩
      · refine ⟨fun f _ => trivial, ?_⟩
        rw [Oper.semAt_eq _ _ _ (hd i o · e)]
        exact upon_wd h
      · cases h
    · rw [if_neg g] at h ⊢
      exact ⟨fun f _ => trivial, h⟩
theorem any_wd {n : Nat} {P : Program} {ops : Array Oper} {Q : Exit → Act → World → Prop} {md : Region.Mode} (hd : ∀ (i : Nat) (o : Oper) c, ops[i]? = some o → o.op ≠ .defer c) : ∀ (fuel : Nat) (listed : Array Bool) (a : Act) (w : World), wpAny P md ops (Only Q) fuel listed a w → wpAnyIn Fence.wide (n + 1) P md ops (Only Q) fuel listed a w
  | 0, _, _, _, h => h
  | fuel + 1, _, _, _, h => ⟨h.1, fun i hi => op_wd hd (wpOp_mono (fun a' w' h' => any_wd hd fuel _ a' w' h') (h.2 i hi))⟩
/-- A region that draws its order: S is shown once, and handed on. -/
theorem region_wd {n : Nat} {P : Program} {id : Nat} {ops : Array Oper} {Q : Exit → Act → World → Prop} {S : World → Prop} {a : Act} {w : World} (hm : P.follows .mixedOrders = true) (hd : noDefer ops = true) (hS : S w.drew)
    (h : S w.drew → wpAnyH P .any ops (Only Q) S ops.size (Array.replicate ops.size false) a w.drew) : (Code.region id ops true).wpIn Fence.wide (n + 1) P Q a w :=
  wpIn_mono (wpIn_region_any hm (any_wd (noDefer_at hd) _ _ _ _ (wpAny_of_held _ _ _ _ (h hS)))) (fun e a w h => by obtain ⟨rfl, h⟩ := h; exact h)
end Go.Proofs.Ytelcijfcgflagaa
