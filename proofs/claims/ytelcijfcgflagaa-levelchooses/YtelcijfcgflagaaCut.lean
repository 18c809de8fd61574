/-
  Laws for the walk, not a claim by itself: a slice is cut from its front. By the verifier.
-/
import Derived.Test.YtelcijfcgflagaaRecs
namespace Go.Proofs.Ytelcijfcgflagaa
open Go.RowKit
/-- Where a slice begins that is cut by l elements of z cells: at its end it stays where it was. -/
def cutP (b o l z cap : Nat) : Addr := if cap = l then ⟨b, o, none⟩ else ⟨b, o + l * z, none⟩
theorem run_slice_low (T e : TypeId) (z : Nat) (ht : Try.prog.underlying T = some (.slice e)) (hs : (Try.prog.info? e).map (·.size) = some z) (b o len cap l : Nat) (hl : l ≤ len) (w : World) :
    (Instr.slice T (.slice (some ⟨b, o, none⟩) len cap) (some (.int .i64 (l : Int))) none none).run Try.prog w = .ok (.slice (some (cutP b o l z cap)) (len - l) (cap - l)) w := by
  cases hq : Try.prog.info? e with
  | none => simp [hq] at hs
  | some i =>
    have hz : i.size = z := by simpa [hq] using hs
    simp [Instr.slice, Instr.sliceBounds, run_underlying ht, Instr.sliceBound, asIntOf, hl, sizeOf, typeInfo, hq, hz]
    unfold cutP
    by_cases h : cap = l
    · rw [if_pos h, if_pos h]
    · rw [if_neg h, if_neg h, Addr.add_mid]
theorem wpList_cut {ops : Array Oper} {rest : List Oper} {op : Oper} {a : Act} {w : World} {Q : Exit → Act → World → Prop} (hw : Region.wanted op (yielded ops a.tmps) = true) (T e : TypeId) (x y : Operand) (ho : op.op = .slice T x (some y) none none)
    (z : Nat) (ht : Try.prog.underlying T = some (.slice e)) (he : Try.prog.underlying T = some (.slice (Try.prog.elem T))) (hs : (Try.prog.info? e).map (·.size) = some z) (b o len cap l : Nat) (i : Int) (hx : a.eval x = .slice (some ⟨b, o, none⟩) len cap) (hy : a.eval y = .int .i64 i) (hi : i = (l : Int)) (hl : l ≤ len)
    (hK : wpList Try.prog ops Q rest (a.put op.dst (.slice (some (cutP b o l z cap)) (len - l) (cap - l))) w) : wpList Try.prog ops Q (op :: rest) a w := by
  subst hi
  refine wpList_step fun K hK' => ?_
  rw [if_pos hw]
  unfold Oper.wp execOp
  simp only [ho, hx, Option.map_some, Option.map_none, hy, Sem.run_bind, run_sliceAt_slice _ _ _ _ _ _ he, run_slice_low T e z ht hs b o len cap l hl, Result.andThen_ok]
  exact hK' _ _ hK
theorem run_slice_high (T e : TypeId) (ht : Try.prog.underlying T = some (.slice e)) (z : Nat) (hs : (Try.prog.info? e).map (·.size) = some z) (b o len cap l : Nat) (hl : l ≤ cap) (w : World) :
    (Instr.slice T (.slice (some ⟨b, o, none⟩) len cap) none (some (.int .i64 (l : Int))) none).run Try.prog w = .ok (.slice (some ⟨b, o, none⟩) l cap) w := by
  cases hq : Try.prog.info? e with
  | none => simp [hq] at hs
  | some i =>
    simp [Instr.slice, Instr.sliceBounds, run_underlying ht, Instr.sliceBound, asIntOf, hl, sizeOf, typeInfo, hq]
    intro _
    simp [Addr.add]
theorem wpList_top {ops : Array Oper} {rest : List Oper} {op : Oper} {a : Act} {w : World} {Q : Exit → Act → World → Prop} (hw : Region.wanted op (yielded ops a.tmps) = true) (T e : TypeId) (x y : Operand) (ho : op.op = .slice T x none (some y) none)
    (z : Nat) (ht : Try.prog.underlying T = some (.slice e)) (he : Try.prog.underlying T = some (.slice (Try.prog.elem T))) (hs : (Try.prog.info? e).map (·.size) = some z) (b o len cap l : Nat) (i : Int) (hx : a.eval x = .slice (some ⟨b, o, none⟩) len cap) (hy : a.eval y = .int .i64 i) (hi : i = (l : Int)) (hl : l ≤ cap)
    (hK : wpList Try.prog ops Q rest (a.put op.dst (.slice (some ⟨b, o, none⟩) l cap)) w) : wpList Try.prog ops Q (op :: rest) a w := by
  subst hi
  refine wpList_step fun K hK' => ?_
  rw [if_pos hw]
  unfold Oper.wp execOp
  simp only [ho, hx, Option.map_some, Option.map_none, hy, Sem.run_bind, run_sliceAt_slice _ _ _ _ _ _ he, run_slice_high T e ht z hs b o len cap l hl, Result.andThen_ok]
  exact hK' _ _ hK
theorem cut_lies {w : World} {b o len cap l : Nat} {f : Nat → Int} (h : Lies w b o len f) (hc : len ≤ cap) (hl : l ≤ len) : Arg w (some (cutP b o l 1 cap)) (len - l) (fun j => f (l + j)) := by
  unfold cutP
  by_cases e : cap = l
  · rw [if_pos e]; exact .inl ⟨by omega, .inr ⟨_, rfl⟩⟩
  · rw [if_neg e, Nat.mul_one]
    exact Arg.part h l (len - l) (by omega)
end Go.Proofs.Ytelcijfcgflagaa
