/-
  Laws and walks, not a claim by itself: heads appended to an empty list; CopySuper. By the verifier.
-/
import Derived.Test.YtigpnngjfgbaeaaSSof0
namespace Go.Proofs.Ytigpnngjfgbaeaa
open Go.RowKit Go.Maps
theorem size_head : ∃ i, Try.prog.info? 75 = some i := by
  obtain ⟨i0, hi, _⟩ := info_parts info_head
  exact ⟨i0, hi⟩
set_option maxRecDepth 100000 in
/-- Heads behind an empty list of ones own. -/
theorem heads_app {W : World} {base : Nat} {v : Value} {a : Option Addr} {k C : Nat} {h : Nat → Int} (ho : OwnI W base 75 2 v 0 h) (hA : HArg W a k h) (hk : k ≤ 1000) (hb : base ≤ W.heap.size) :
    ∃ a' C' W', (Builtin.append_ #[24, 24] 24 #[v, .slice a k C]).run Try.prog W = .ok (.slice a' k C') W' ∧ HArg W' a' k h ∧ k ≤ C' ∧ Below base W W' ∧ (0 < k → ∃ r, a' = some ⟨r, 0, none⟩ ∧ base ≤ r) ∧ W.heap.size ≤ W'.heap.size := by
  obtain ⟨i0, hi, hz0, hz1, hz2⟩ := info_parts info_head
  by_cases k0 : k = 0
  · subst k0
    obtain ⟨a0, c0, rfl, hc0⟩ := ho.slice
    have run0 : (Builtin.append_ #[24, 24] 24 #[.slice a0 0 c0, .slice none 0 C]).run Try.prog W = .ok (.slice a0 0 c0) W := by
      rcases ho.2 with ⟨e, _⟩ | ⟨g, cap, cur, e, _, _, hnc, _⟩
      · injection e with e1 _ e3
        subst e1 e3
        simp [Builtin.append_, run_underlying Try.underlying24, sizeOf, typeInfo, hi, Builtin.lenOf, Builtin.firstCells]
      · injection e with e1 _ e3
        subst e1 e3
        simp [Builtin.append_, run_underlying Try.underlying24, sizeOf, typeInfo, hi, Builtin.lenOf, Builtin.firstCells, hnc, storeCells]
    cases a with
    | none => exact ⟨a0, c0, W, run0, .inl rfl, by omega, Below.refl _ _, fun q => absurd q (by omega), Nat.le_refl _⟩
    | some p =>
      obtain ⟨v', W', h1, h2, h3, _⟩ := run_append_own (P := Try.prog) W base 24 24 75 i0 _ 2 16 Try.underlying24 hi hz0 hz1 hz2 rfl (by omega) _ 0 _ ho p 0 C [] (by simp) (fun j u hj => by simp at hj) (fun u hu => by cases hu) (by unfold maxLen; omega) (by omega) hb
      have h2' : OwnI W' base 75 2 v' 0 h := by
        unfold OwnI
        rw [List.append_nil] at h2
        exact h2
      obtain ⟨a', C', rfl, hc⟩ := h2'.slice
      have bel : Below base W W' := (Below.refl _ _).grown h3 hb (fun k hk => (World.ownsRow.lt ho k hk).1)
      exact ⟨a', C', W', h1, .inl rfl, hc, bel, fun q => absurd q (by omega), bel.size⟩
  · rcases hA with e | ⟨b, off, rfl, hc, hx⟩
    · exact absurd e k0
    obtain ⟨v', W', h1, h2, h3⟩ := OwnI.app (ty := 24) (C := C) (m := k) Try.underlying24 info_head rfl (by omega) (by omega) ho b off (G := h) (fun j hj => hc j (by omega)) (by omega) hb
    rw [Nat.zero_add] at h2
    obtain ⟨g, cap, rfl, hg, hcap, hcell, hgl⟩ := h2.form (by omega)
    refine ⟨some ⟨g, 0, none⟩, cap, W', h1, .inr ⟨g, 0, rfl, fun j hj => ?_, hgl⟩, hcap, h3, fun _ => ⟨g, rfl, hg⟩, h3.size⟩
    rw [Nat.zero_add, hcell j (by omega)]
    unfold cat
    rw [if_neg (by omega), Nat.zero_mul, Nat.sub_zero]
end Go.Proofs.Ytigpnngjfgbaeaa
