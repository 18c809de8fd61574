/-
  Walks, not a claim by itself: a bit of the words of a set. By the verifier.
-/
import Derived.Test.YtkncnpjhfcfmnaaDoorFBits
import Derived.Test.YtkncnpjhfcfmnaaDoorReg
import Derived.Test.YtkncnpjhfcfmnaaDoorGate
import Derived.Laws.Bits64b
namespace Go.Proofs.YtkncnpjhfcfmnaaDoor
open Go.RowKit
theorem hidIt {p : Prop} (h : p) : Hid p := h
/-- Eight words lie in a block. -/
structure WAt (W : World) (b o : Nat) (p : Nat → Bool) : Prop where
  c : ∀ j, j < 8 → W.cell? ⟨b, o + j, none⟩ = some (.int .u64 ((wd p j : Nat) : Int))
  f : ∀ j, j < 8 → W.frozen? ⟨b, o + j, none⟩ = false
  l : b < W.heap.size
theorem WAt.drew {W : World} {b o : Nat} {p : Nat → Bool} (h : WAt W b o p) : WAt W.drew b o p := ⟨h.c, h.f, h.l⟩
theorem WAt.below {W W' : World} {b o : Nat} {p : Nat → Bool} (h : WAt W b o p) (hb : Below W.heap.size W W') : WAt W' b o p :=
  ⟨fun j hj => (hb.cell (p := ⟨b, o + j, none⟩) h.l).trans (h.c j hj), fun j hj => (hb.frozen (p := ⟨b, o + j, none⟩) h.l).trans (h.f j hj), Nat.lt_of_lt_of_le h.l hb.size⟩
theorem WAt.but {W W' : World} {b o x : Nat} {p : Nat → Bool} (h : WAt W b o p) (hb : But x W W') (hn : b ≠ x) : WAt W' b o p :=
  ⟨fun j hj => (hb.cell (p := ⟨b, o + j, none⟩) h.l hn).trans (h.c j hj), fun j hj => (hb.frozen (p := ⟨b, o + j, none⟩) h.l hn).trans (h.f j hj), Nat.lt_of_lt_of_le h.l hb.size⟩
theorem WAt.congr {W : World} {b o : Nat} {p q : Nat → Bool} (h : WAt W b o p) (e : ∀ i, i < 512 → p i = q i) : WAt W b o q :=
  ⟨fun j hj => by rw [h.c j hj, wd_congr p q j fun i hi => e _ (by omega)], h.f, h.l⟩
/-- A store of a word. -/
theorem WAt.set {W : World} {b o : Nat} {p q : Nat → Bool} (h : WAt W b o p) (k : Nat) (hk : k < 8) (he : ∀ j, j < 8 → j ≠ k → wd q j = wd p j) : WAt (W.setCell ⟨b, o + k, none⟩ (.int .u64 ((wd q k : Nat) : Int))) b o q := by
  refine ⟨fun j hj => ?_, fun j hj => by simp [h.f j hj], by simp [World.setCell]; exact h.l⟩
  by_cases e : j = k
  · subst e
    rw [World.cell?_setCell_same' _ _ _ (by rw [h.c _ hj]; rfl)]
  · rw [World.cell?_setCell_other _ (a := ⟨b, o + k, none⟩) (b := ⟨b, o + j, none⟩) _ (fun q => e (by injection q with _ q; omega)), h.c j hj, he j hj e]
/-- A store elsewhere in the block. -/
theorem WAt.other {W : World} {b o x : Nat} {p : Nat → Bool} {v : Value} (h : WAt W b o p) (hx : x < o ∨ o + 8 ≤ x) : WAt (W.setCell ⟨b, x, none⟩ v) b o p :=
  ⟨fun j hj => by rw [World.cell?_setCell_other _ (a := ⟨b, x, none⟩) (b := ⟨b, o + j, none⟩) _ (fun q => by injection q with _ q; omega), h.c j hj], fun j hj => by simp [h.f j hj], by simp [World.setCell]; exact h.l⟩
theorem pow_wrap (i : Nat) : IntKind.u64.wrap ((2 : Int) ^ (i % 64)) = (2 : Int) ^ (i % 64) := by
  have h := pow_lt64 (i % 64) (by omega)
  have e : ((2 : Int) ^ (i % 64)) = ((2 ^ (i % 64) : Nat) : Int) := by simp
  rw [IntKind.wrap_u64, e]
  generalize 2 ^ (i % 64) = m at *
  omega
theorem place_ok (i : Nat) (hi : i < 512) (W : World) : Calls Tryd.prog 57 #[.int .i64 ((i : Int) + 1)] W fun e w' => e = .returned (.tuple #[.int .i64 ((i : Int) / 64), .int .u64 ((2 : Int) ^ (i % 64))]) ∧ w' = W.drew := by
  have e1 : IntKind.i64.wrap ((i : Int) + 1 - 1) = (i : Int) := by rw [IntKind.wrap_i64]; omega
  have e1' : wrap64 ((i : Int) + 1 - 1) = (i : Int) := by unfold wrap64; omega
  have e2 := pow_wrap i
  go_enter Tryd.func57, Tryd.ntmps57
  go_wp2
  go_region
  go_wp2
  go_ret2
  exact ⟨by simp [pow_wrap i], rfl⟩
theorem and_has (p : Nat → Bool) (i : Nat) : bits .and .u64 ((wd p (i / 64) : Nat) : Int) ((2 : Int) ^ (i % 64)) = ((wd p (i / 64) &&& 2 ^ (i % 64) : Nat) : Int) := by
  have e : ((2 : Int) ^ (i % 64)) = ((2 ^ (i % 64) : Nat) : Int) := by simp
  rw [e]
  exact u64_and_nat _ _ (wd_lt _ _) (pow_lt64 _ (by omega))
theorem and_clear (p : Nat → Bool) (i : Nat) : bits .andNot .u64 ((wd p (i / 64) : Nat) : Int) ((2 : Int) ^ (i % 64)) = ((wd (updB p i false) (i / 64) : Nat) : Int) := by
  have e : ((2 : Int) ^ (i % 64)) = ((2 ^ (i % 64) : Nat) : Int) := by simp
  rw [e, u64_andNot_nat _ _ (wd_lt _ _) (pow_lt64 _ (by omega)), wd_clear]
theorem or_set (p : Nat → Bool) (i : Nat) : bits .or .u64 ((wd p (i / 64) : Nat) : Int) ((2 : Int) ^ (i % 64)) = ((wd (updB p i true) (i / 64) : Nat) : Int) := by
  have e : ((2 : Int) ^ (i % 64)) = ((2 ^ (i % 64) : Nat) : Int) := by simp
  rw [e, u64_or_nat _ _ (wd_lt _ _) (pow_lt64 _ (by omega)), wd_set]
theorem whas_ok (b o : Nat) (p : Nat → Bool) (i : Nat) (hi : i < 512) (W : World) (h : WAt W b o p) : Calls Tryd.prog 55 #[.pointer (some ⟨b, o, none⟩), .int .i64 ((i : Int) + 1)] W fun e w' => e = .returned (.bool (p i)) ∧ w' = W.drew := by
  have c1 : W.drew.cell? ⟨b, o + i / 64, none⟩ = some (.int .u64 ((wd p (i / 64) : Nat) : Int)) := h.c _ (by omega)
  have e1 : ((i : Int) / 64).toNat = i / 64 := by omega
  have e2 : (0 : Int) ≤ (i : Int) / 64 := by omega
  have e3 : (i : Int) / 64 < 8 := by omega
  have P := place_ok i hi W
  have hm : (bits .and .u64 ((wd p (i / 64) : Nat) : Int) ((2 : Int) ^ (i % 64)) != 0) = p i := by
    rw [and_has]
    cases hp : p i with
    | false => have := wd_has p i; simp [hp] at this; simp [this]
    | true => have := wd_has p i; simp [hp] at this; simpa using this
  clear h
  go_enter Tryd.func55, Tryd.ntmps55
  go_wp2_with (go_at_call 57; refine P.mono ?_; rintro e w' ⟨rfl, hw⟩; subst hw)
  go_ret
  exact ⟨by simp, rfl⟩
/-- Nothing but eight cells of a block is changed. -/
structure InB (b o : Nat) (W w' : World) : Prop where
  but : But b W w'
  size : w'.heap.size = W.heap.size
  c : ∀ x, (x < o ∨ o + 8 ≤ x) → w'.cell? ⟨b, x, none⟩ = W.cell? ⟨b, x, none⟩
  f : ∀ x, w'.frozen? ⟨b, x, none⟩ = W.frozen? ⟨b, x, none⟩
theorem InB.refl (b o : Nat) (W : World) : InB b o W W := ⟨But.refl _ _, rfl, fun _ _ => rfl, fun _ => rfl⟩
theorem InB.drew (b o : Nat) (W : World) : InB b o W W.drew := ⟨(But.refl _ _).drew, rfl, fun _ _ => rfl, fun _ => rfl⟩
theorem InB.set (b o : Nat) (W : World) (k : Nat) (hk : k < 8) (v : Value) : InB b o W (W.setCell ⟨b, o + k, none⟩ v) :=
  ⟨But.set _ _ _, by simp [World.setCell], fun x hx => World.cell?_setCell_other _ (a := ⟨b, o + k, none⟩) (b := ⟨b, x, none⟩) _ (fun q => by injection q with _ q; omega), fun x => by simp⟩
theorem InB.trans {b o : Nat} {U V W : World} (h : InB b o U V) (k : InB b o V W) : InB b o U W :=
  ⟨h.but.trans k.but, k.size.trans h.size, fun x hx => (k.c x hx).trans (h.c x hx), fun x => (k.f x).trans (h.f x)⟩
theorem WAt.in {W W' : World} {b o o' : Nat} {p : Nat → Bool} (h : WAt W b o p) (k : InB b o' W W') (ho : o' + 8 ≤ o ∨ o + 8 ≤ o') : WAt W' b o p :=
  ⟨fun j hj => (k.c _ (by omega)).trans (h.c j hj), fun j hj => (k.f _).trans (h.f j hj), by rw [k.size]; exact h.l⟩
theorem WAt.clear {W : World} {b o : Nat} {p : Nat → Bool} (h : WAt W b o p) (i : Nat) (hi : i < 512) (v : Bool) : WAt (W.setCell ⟨b, o + i / 64, none⟩ (.int .u64 ((wd (updB p i v) (i / 64) : Nat) : Int))) b o (updB p i v) :=
  h.set (i / 64) (by omega) fun j _ hj => wd_off p i v j hj
theorem updB_twice (p : Nat → Bool) (i : Nat) (u v : Bool) : updB (updB p i u) i v = updB p i v := by
  funext j; unfold updB; split <;> rfl
theorem wput_ok (b o : Nat) (p : Nat → Bool) (i : Nat) (hi : i < 512) (v : Bool) (W : World) (h : WAt W b o p) : Calls Tryd.prog 51 #[.pointer (some ⟨b, o, none⟩), .int .i64 ((i : Int) + 1), .bool v] W fun e w' => e = .returned (.tuple #[]) ∧ WAt w' b o (updB p i v) ∧ InB b o W w' := by
  have c1 : W.drew.cell? ⟨b, o + i / 64, none⟩ = some (.int .u64 ((wd p (i / 64) : Nat) : Int)) := h.c _ (by omega)
  have c1' : W.drew.drew.cell? ⟨b, o + i / 64, none⟩ = some (.int .u64 ((wd p (i / 64) : Nat) : Int)) := h.c _ (by omega)
  have f1 : W.drew.drew.frozen? ⟨b, o + i / 64, none⟩ = false := h.f _ (by omega)
  have e1 : ((i : Int) / 64).toNat = i / 64 := by omega
  have e2 : (0 : Int) ≤ (i : Int) / 64 := by omega
  have e3 : (i : Int) / 64 < 8 := by omega
  have P := place_ok i hi W
  have a1 := and_clear p i
  have a2 := or_set (updB p i false) i
  rw [updB_twice] at a2
  have H1 := (h.clear i hi false).drew.drew
  have H2 := ((h.clear i hi false).clear i hi true).drew.drew.drew
  rw [updB_twice] at H2
  have c2 : ((W.setCell ⟨b, o + i / 64, none⟩ (.int .u64 ((wd (updB p i false) (i / 64) : Nat) : Int))).drew.drew).cell? ⟨b, o + i / 64, none⟩ = some (.int .u64 ((wd (updB p i false) (i / 64) : Nat) : Int)) := H1.c _ (by omega)
  have c3 : ((W.setCell ⟨b, o + i / 64, none⟩ (.int .u64 ((wd (updB p i false) (i / 64) : Nat) : Int))).drew.drew.drew).cell? ⟨b, o + i / 64, none⟩ = some (.int .u64 ((wd (updB p i false) (i / 64) : Nat) : Int)) := H1.c _ (by omega)
  have f3 : ((W.setCell ⟨b, o + i / 64, none⟩ (.int .u64 ((wd (updB p i false) (i / 64) : Nat) : Int))).drew.drew.drew).frozen? ⟨b, o + i / 64, none⟩ = false := H1.f _ (by omega)
  have I1 : Hid (InB b o W (W.setCell ⟨b, o + i / 64, none⟩ (.int .u64 ((wd (updB p i false) (i / 64) : Nat) : Int))).drew.drew) := (InB.set _ _ _ _ (by omega) _).trans ((InB.drew _ _ _).trans (InB.drew _ _ _))
  have G1 : Hid (WAt (W.setCell ⟨b, o + i / 64, none⟩ (.int .u64 ((wd (updB p i false) (i / 64) : Nat) : Int))).drew.drew b o (updB p i false)) := H1
  have G2 := hidIt H2
  have I2 := hidIt ((((InB.set b o W (i / 64) (by omega) (.int .u64 ((wd (updB p i false) (i / 64) : Nat) : Int))).trans (InB.set b o _ (i / 64) (by omega) (.int .u64 ((wd (updB p i true) (i / 64) : Nat) : Int)))).trans (InB.drew _ _ _)).trans ((InB.drew _ _ _).trans (InB.drew _ _ _)))
  clear h H1 H2
  cases v with
  | false =>
    go_enter Tryd.func51, Tryd.ntmps51
    go_wp2_with (go_at_call 57; refine P.mono ?_; rintro e w' ⟨rfl, hw⟩; subst hw)
    go_region
    go_wp2
    go_end0
    exact ⟨rfl, G1.out, I1.out⟩
  | true =>
    go_enter Tryd.func51, Tryd.ntmps51
    go_wp2_with (go_at_call 57; refine P.mono ?_; rintro e w' ⟨rfl, hw⟩; subst hw)
    go_region
    go_wp2
    go_region
    go_wp2
    go_end0
    exact ⟨rfl, G2.out, I2.out⟩
end Go.Proofs.YtkncnpjhfcfmnaaDoor
