
/-
  Walks, not a claim by itself: New of a set. By the verifier.
-/
import Derived.Test.YtblphlcnbnklmaaGreatDoorFBits
import Derived.Test.YtblphlcnbnklmaaGreatDoorReg
import Derived.Test.YtblphlcnbnklmaaGreatDoorGate
import Derived.Laws.Bits64b
import Derived.LaidEql
import Derived.Test.YtblphlcnbnklmaaGreatDoorIter
import Derived.Test.YtblphlcnbnklmaaGreatDoorReg2
namespace Go.Proofs.YtblphlcnbnklmaaGreatDoor
open Go.RowKit
/-- Eight words lie in a block. -/
structure WAt (W : World) (b o : Nat) (p : Nat → Bool) : Prop where
  c : ∀ j, j < 8 → W.cell? ⟨b, o + j, none⟩ = some (.int .u64 ((wd p j : Nat) : Int))
  f : ∀ j, j < 8 → W.frozen? ⟨b, o + j, none⟩ = false
  l : b < W.heap.size
theorem WAt.drew {W : World} {b o : Nat} {p : Nat → Bool} (h : WAt W b o p) : WAt W.drew b o p := ⟨h.c, h.f, h.l⟩
theorem WAt.below {W W' : World} {b o : Nat} {p : Nat → Bool} (h : WAt W b o p) (hb : Below W.heap.size W W') : WAt W' b o p :=
  ⟨fun j hj => (hb.cell (p := ⟨b, o + j, none⟩) h.l).trans (h.c j hj), fun j hj => (hb.frozen (p := ⟨b, o + j, none⟩) h.l).trans (h.f j hj), Nat.lt_of_lt_of_le h.l hb.size⟩
theorem WAt.but {W W' : World} {b o x : Nat} {p : Nat → Bool} (h : WAt W b o p) (hb : But x W W') (hn : b ≠ x) : WAt W' b o p :=
  ⟨fun j hj => (hb.cell (p := ⟨b, o + j, none⟩) h.l hn).trans (h.c j hj), fun j hj => (hb.frozen (p := ⟨b, o + j, none⟩) h.l hn).trans (h.f j hj), Nat.lt_of_lt_of_le h.l hb.size⟩
theorem WAt.congr {W : World} {b o : Nat} {p q : Nat → Bool} (h : WAt W b o p) (e : ∀ i, i < 512 → p i = q i) : WAt W b o q :=
  ⟨fun j hj => by rw [h.c j hj, wd_congr p q j fun i hi => e _ (by omega)], h.f, h.l⟩
/-- A store of a word. -/
theorem WAt.set {W : World} {b o : Nat} {p q : Nat → Bool} (h : WAt W b o p) (k : Nat) (hk : k < 8) (he : ∀ j, j < 8 → j ≠ k → wd q j = wd p j) : WAt (W.setCell ⟨b, o + k, none⟩ (.int .u64 ((wd q k : Nat) : Int))) b o q := by
  refine ⟨fun j hj => ?_, fun j hj => by simp [h.f j hj], by simp [World.setCell]; exact h.l⟩
  by_cases e : j = k
  · subst e
    rw [World.cell?_setCell_same' _ _ _ (by rw [h.c _ hj]; rfl)]
  · rw [World.cell?_setCell_other _ (a := ⟨b, o + k, none⟩) (b := ⟨b, o + j, none⟩) _ (fun q => e (by injection q with _ q; omega)), h.c j hj, he j hj e]
/-- A store elsewhere in the block. -/
theorem WAt.other {W : World} {b o x : Nat} {p : Nat → Bool} {v : Value} (h : WAt W b o p) (hx : x < o ∨ o + 8 ≤ x) : WAt (W.setCell ⟨b, x, none⟩ v) b o p :=
  ⟨fun j hj => by rw [World.cell?_setCell_other _ (a := ⟨b, x, none⟩) (b := ⟨b, o + j, none⟩) _ (fun q => by injection q with _ q; omega), h.c j hj], fun j hj => by simp [h.f j hj], by simp [World.setCell]; exact h.l⟩
theorem pow_wrap (i : Nat) : IntKind.u64.wrap ((2 : Int) ^ (i % 64)) = (2 : Int) ^ (i % 64) := by
  have h := pow_lt64 (i % 64) (by omega)
  have e : ((2 : Int) ^ (i % 64)) = ((2 ^ (i % 64) : Nat) : Int) := by simp
  rw [IntKind.wrap_u64, e]
  generalize 2 ^ (i % 64) = m at *
  omega
theorem place_ok (i : Nat) (hi : i < 512) (W : World) : Calls Tryz.prog 193 #[.int .i64 ((i : Int) + 1)] W fun e w' => e = .returned (.tuple #[.int .i64 ((i : Int) / 64), .int .u64 ((2 : Int) ^ (i % 64))]) ∧ w' = W.drew := by
  have e1 : IntKind.i64.wrap ((i : Int) + 1 - 1) = (i : Int) := by rw [IntKind.wrap_i64]; omega
  have e1' : wrap64 ((i : Int) + 1 - 1) = (i : Int) := by unfold wrap64; omega
  have e2 := pow_wrap i
  go_enter Tryz.func193, Tryz.ntmps193
  go_wp2
  go_region
  go_wp2
  go_ret2
  exact ⟨by simp [pow_wrap i], rfl⟩
theorem and_has (p : Nat → Bool) (i : Nat) : bits .and .u64 ((wd p (i / 64) : Nat) : Int) ((2 : Int) ^ (i % 64)) = ((wd p (i / 64) &&& 2 ^ (i % 64) : Nat) : Int) := by
  have e : ((2 : Int) ^ (i % 64)) = ((2 ^ (i % 64) : Nat) : Int) := by simp
  rw [e]
  exact u64_and_nat _ _ (wd_lt _ _) (pow_lt64 _ (by omega))
theorem and_clear (p : Nat → Bool) (i : Nat) : bits .andNot .u64 ((wd p (i / 64) : Nat) : Int) ((2 : Int) ^ (i % 64)) = ((wd (updB p i false) (i / 64) : Nat) : Int) := by
  have e : ((2 : Int) ^ (i % 64)) = ((2 ^ (i % 64) : Nat) : Int) := by simp
  rw [e, u64_andNot_nat _ _ (wd_lt _ _) (pow_lt64 _ (by omega)), wd_clear]
theorem or_set (p : Nat → Bool) (i : Nat) : bits .or .u64 ((wd p (i / 64) : Nat) : Int) ((2 : Int) ^ (i % 64)) = ((wd (updB p i true) (i / 64) : Nat) : Int) := by
  have e : ((2 : Int) ^ (i % 64)) = ((2 ^ (i % 64) : Nat) : Int) := by simp
  rw [e, u64_or_nat _ _ (wd_lt _ _) (pow_lt64 _ (by omega)), wd_set]
theorem whas_ok (b o : Nat) (p : Nat → Bool) (i : Nat) (hi : i < 512) (W : World) (h : WAt W b o p) : Calls Tryz.prog 192 #[.pointer (some ⟨b, o, none⟩), .int .i64 ((i : Int) + 1)] W fun e w' => e = .returned (.bool (p i)) ∧ w' = W.drew := by
  have c1 : W.drew.cell? ⟨b, o + i / 64, none⟩ = some (.int .u64 ((wd p (i / 64) : Nat) : Int)) := h.c _ (by omega)
  have e1 : ((i : Int) / 64).toNat = i / 64 := by omega
  have e2 : (0 : Int) ≤ (i : Int) / 64 := by omega
  have e3 : (i : Int) / 64 < 8 := by omega
  have P := place_ok i hi W
  have hm : (bits .and .u64 ((wd p (i / 64) : Nat) : Int) ((2 : Int) ^ (i % 64)) != 0) = p i := by
    rw [and_has]
    cases hp : p i with
    | false => have := wd_has p i; simp [hp] at this; simp [this]
    | true => have := wd_has p i; simp [hp] at this; simpa using this
  clear h
  go_enter Tryz.func192, Tryz.ntmps192
  go_wp2_with (go_at_call 193; refine P.mono ?_; rintro e w' ⟨rfl, hw⟩; subst hw)
  go_ret
  exact ⟨by simp, rfl⟩
/-- Nothing but eight cells of a block is changed. -/
structure InB (b o : Nat) (W w' : World) : Prop where
  but : But b W w'
  size : w'.heap.size = W.heap.size
  c : ∀ x, (x < o ∨ o + 8 ≤ x) → w'.cell? ⟨b, x, none⟩ = W.cell? ⟨b, x, none⟩
  f : ∀ x, w'.frozen? ⟨b, x, none⟩ = W.frozen? ⟨b, x, none⟩
theorem InB.refl (b o : Nat) (W : World) : InB b o W W := ⟨But.refl _ _, rfl, fun _ _ => rfl, fun _ => rfl⟩
theorem InB.drew (b o : Nat) (W : World) : InB b o W W.drew := ⟨(But.refl _ _).drew, rfl, fun _ _ => rfl, fun _ => rfl⟩
theorem InB.set (b o : Nat) (W : World) (k : Nat) (hk : k < 8) (v : Value) : InB b o W (W.setCell ⟨b, o + k, none⟩ v) :=
  ⟨But.set _ _ _, by simp [World.setCell], fun x hx => World.cell?_setCell_other _ (a := ⟨b, o + k, none⟩) (b := ⟨b, x, none⟩) _ (fun q => by injection q with _ q; omega), fun x => by simp⟩
theorem InB.trans {b o : Nat} {U V W : World} (h : InB b o U V) (k : InB b o V W) : InB b o U W :=
  ⟨h.but.trans k.but, k.size.trans h.size, fun x hx => (k.c x hx).trans (h.c x hx), fun x => (k.f x).trans (h.f x)⟩
theorem WAt.in {W W' : World} {b o o' : Nat} {p : Nat → Bool} (h : WAt W b o p) (k : InB b o' W W') (ho : o' + 8 ≤ o ∨ o + 8 ≤ o') : WAt W' b o p :=
  ⟨fun j hj => (k.c _ (by omega)).trans (h.c j hj), fun j hj => (k.f _).trans (h.f j hj), by rw [k.size]; exact h.l⟩
theorem WAt.clear {W : World} {b o : Nat} {p : Nat → Bool} (h : WAt W b o p) (i : Nat) (hi : i < 512) (v : Bool) : WAt (W.setCell ⟨b, o + i / 64, none⟩ (.int .u64 ((wd (updB p i v) (i / 64) : Nat) : Int))) b o (updB p i v) :=
  h.set (i / 64) (by omega) fun j _ hj => wd_off p i v j hj
theorem updB_twice (p : Nat → Bool) (i : Nat) (u v : Bool) : updB (updB p i u) i v = updB p i v := by
  funext j; unfold updB; split <;> rfl
theorem wput_ok (b o : Nat) (p : Nat → Bool) (i : Nat) (hi : i < 512) (v : Bool) (W : World) (h : WAt W b o p) : Calls Tryz.prog 166 #[.pointer (some ⟨b, o, none⟩), .int .i64 ((i : Int) + 1), .bool v] W fun e w' => e = .returned (.tuple #[]) ∧ WAt w' b o (updB p i v) ∧ InB b o W w' := by
  have c1 : W.drew.cell? ⟨b, o + i / 64, none⟩ = some (.int .u64 ((wd p (i / 64) : Nat) : Int)) := h.c _ (by omega)
  have c1' : W.drew.drew.cell? ⟨b, o + i / 64, none⟩ = some (.int .u64 ((wd p (i / 64) : Nat) : Int)) := h.c _ (by omega)
  have f1 : W.drew.drew.frozen? ⟨b, o + i / 64, none⟩ = false := h.f _ (by omega)
  have e1 : ((i : Int) / 64).toNat = i / 64 := by omega
  have e2 : (0 : Int) ≤ (i : Int) / 64 := by omega
  have e3 : (i : Int) / 64 < 8 := by omega
  have P := place_ok i hi W
  have a1 := and_clear p i
  have a2 := or_set (updB p i false) i
  rw [updB_twice] at a2
  have H1 := (h.clear i hi false).drew.drew
  have H2 := ((h.clear i hi false).clear i hi true).drew.drew.drew
  rw [updB_twice] at H2
  have c2 : ((W.setCell ⟨b, o + i / 64, none⟩ (.int .u64 ((wd (updB p i false) (i / 64) : Nat) : Int))).drew.drew).cell? ⟨b, o + i / 64, none⟩ = some (.int .u64 ((wd (updB p i false) (i / 64) : Nat) : Int)) := H1.c _ (by omega)
  have c3 : ((W.setCell ⟨b, o + i / 64, none⟩ (.int .u64 ((wd (updB p i false) (i / 64) : Nat) : Int))).drew.drew.drew).cell? ⟨b, o + i / 64, none⟩ = some (.int .u64 ((wd (updB p i false) (i / 64) : Nat) : Int)) := H1.c _ (by omega)
  have f3 : ((W.setCell ⟨b, o + i / 64, none⟩ (.int .u64 ((wd (updB p i false) (i / 64) : Nat) : Int))).drew.drew.drew).frozen? ⟨b, o + i / 64, none⟩ = false := H1.f _ (by omega)
  have I1 : Hid (InB b o W (W.setCell ⟨b, o + i / 64, none⟩ (.int .u64 ((wd (updB p i false) (i / 64) : Nat) : Int))).drew.drew) := (InB.set _ _ _ _ (by omega) _).trans ((InB.drew _ _ _).trans (InB.drew _ _ _))
  have G1 : Hid (WAt (W.setCell ⟨b, o + i / 64, none⟩ (.int .u64 ((wd (updB p i false) (i / 64) : Nat) : Int))).drew.drew b o (updB p i false)) := H1
  have G2 := hidIt H2
  have I2 := hidIt ((((InB.set b o W (i / 64) (by omega) (.int .u64 ((wd (updB p i false) (i / 64) : Nat) : Int))).trans (InB.set b o _ (i / 64) (by omega) (.int .u64 ((wd (updB p i true) (i / 64) : Nat) : Int)))).trans (InB.drew _ _ _)).trans ((InB.drew _ _ _).trans (InB.drew _ _ _)))
  clear h H1 H2
  cases v with
  | false =>
    go_enter Tryz.func166, Tryz.ntmps166
    go_wp2_with (go_at_call 193; refine P.mono ?_; rintro e w' ⟨rfl, hw⟩; subst hw)
    go_region
    go_wp2
    go_end0
    exact ⟨rfl, G1.out, I1.out⟩
  | true =>
    go_enter Tryz.func166, Tryz.ntmps166
    go_wp2_with (go_at_call 193; refine P.mono ?_; rintro e w' ⟨rfl, hw⟩; subst hw)
    go_region
    go_wp2
    go_region
    go_wp2
    go_end0
    exact ⟨rfl, G2.out, I2.out⟩
end Go.Proofs.YtblphlcnbnklmaaGreatDoor
namespace Go.Proofs.YtblphlcnbnklmaaGreatDoor
open Go.RowKit
/-- The library's table. -/
def DTab (W : World) : Prop := ∀ j, j < 64 → W.cell? ⟨1, j, none⟩ = some (.int .u8 ((Lib.deBruijn64tab.getD j 0 : Nat) : Int))
theorem tz_key (x a : Nat) (hx : x < 18446744073709551616) (hx0 : x ≠ 0) (hlow : x &&& (18446744073709551616 - x) = a) :
    IntKind.u64.wrap (bits BinOp.and IntKind.u64 (x : Int) (IntKind.u64.wrap (-(x : Int))) * 285870213051353865) / 288230376151711744 = ((a * 285870213051353865 % 18446744073709551616 / 288230376151711744 : Nat) : Int) := by
  have e1 : IntKind.u64.wrap (-(x : Int)) = ((18446744073709551616 - x : Nat) : Int) := by rw [IntKind.wrap_u64]; omega
  rw [e1, u64_and_nat x _ hx (by omega), hlow, IntKind.wrap_u64]
  omega
set_option maxHeartbeats 1000000 in
theorem tz_core (x k idx : Nat) (w : World) (hx0 : ((x : Int) == 0) = false)
    (key : IntKind.u64.wrap (bits BinOp.and IntKind.u64 (x : Int) (IntKind.u64.wrap (-(x : Int))) * 285870213051353865) / 288230376151711744 = (idx : Int))
    (hi : idx < 64) (hk : k < 64) (hcell : w.cell? ⟨1, idx, none⟩ = some (.int .u8 k)) :
    Calls Tryz.prog 196 #[.int .u64 x] w fun e w' => e = .returned (.int .i64 k) ∧ w' = w := by
  go_enter Tryz.func196, Tryz.ntmps196
  go_wp2_with (simp only [key])
  go_ret
  exact ⟨rfl, rfl⟩
theorem tz_ok (x : Nat) (hx : x < 18446744073709551616) (hx0 : x ≠ 0) (w : World) (hT : DTab w) :
    Calls Tryz.prog 196 #[.int .u64 x] w fun e w' => e = .returned (.int .i64 ((Lib.ctz 64 x : Nat) : Int)) ∧ w' = w := by
  obtain ⟨hlow, hk⟩ := Lib.lowest_bit 64 x hx0 hx
  obtain ⟨hi, htab⟩ := Lib.deBruijn64_at _ hk
  refine tz_core x _ _ w (by simpa using hx0) (tz_key x _ hx hx0 hlow) hi hk ?_
  rw [hT _ hi, htab]
/-- The lowest place from k on (n: none before that). -/
def lowFrom (p : Nat → Bool) : Nat → Nat → Option Nat
  | _, 0 => none
  | k, n + 1 => if p k then some k else lowFrom p (k + 1) n
theorem low_some (p : Nat → Bool) (i : Nat) (hp : p i = true) : ∀ n k, k ≤ i → i < k + n → (∀ j, k ≤ j → j < i → p j = false) → lowFrom p k n = some i
  | 0, k, h1, h2, _ => by omega
  | n + 1, k, h1, h2, h3 => by
    unfold lowFrom
    by_cases e : k = i
    · subst e
      rw [if_pos hp]
    · rw [if_neg (by rw [h3 k (Nat.le_refl _) (by omega)]; simp)]
      exact low_some p i hp n (k + 1) (by omega) (by omega) fun j hj hi => h3 j (by omega) hi
theorem low_none (p : Nat → Bool) : ∀ n k, (∀ j, k ≤ j → j < k + n → p j = false) → lowFrom p k n = none
  | 0, k, _ => rfl
  | n + 1, k, h => by
    unfold lowFrom
    rw [if_neg (by rw [h k (Nat.le_refl _) (by omega)]; simp)]
    exact low_none p n (k + 1) fun j hj hi => h j (by omega) (by omega)
/-- The lowest bit of all. -/
def low (p : Nat → Bool) : Option Nat := lowFrom p 0 512
def lowV (o : Option Nat) : Value := match o with
  | some i => .tuple #[.int .i64 ((i : Int) + 1), .bool true]
  | none => .tuple #[.int .i64 0, .bool false]
set_option maxRecDepth 100000 in
set_option maxHeartbeats 1000000 in
theorem wlowest_ok (b o : Nat) (p : Nat → Bool) (W : World) (h : WAt W b o p) (hT : DTab W) : Calls Tryz.prog 172 #[.pointer (some ⟨b, o, none⟩)] W fun e w' => e = .returned (lowV (low p)) ∧ Below W.heap.size W w' := by
  have H := hidIt h
  have T := hidIt hT
  clear h hT
  go_enter Tryz.func172, Tryz.ntmps172
  go_wp2
  go_loopw [7] (fun i wr => ∃ k : Nat, k ≤ 8 ∧ i = .int .i64 (k : Int) ∧ Below W.heap.size W wr ∧ ∀ j, j < 64 * k → p j = false) (fun i _ => 8 - (RowKit.intOf i).toNat)
  case atStart => exact ⟨0, Nat.zero_le _, rfl, Below.refl _ _, fun j hj => by omega⟩
  case round =>
    obtain ⟨k, hk, rfl, hB, hz⟩ := hrel
    have Z := hidIt hz
    have B := hidIt hB
    clear hz hB
    by_cases hlt : k < 8
    · have i0 : (k : Int) < 8 := by omega
      have i1 : (0 : Int) ≤ (k : Int) := by omega
      have c1 : wr.drew.cell? ⟨b, o + k, none⟩ = some (.int .u64 ((wd p k : Nat) : Int)) := (H.out.below B.out).c k hlt
      by_cases hw : wd p k = 0
      · rw [hw] at c1
        go_wp2
        go_region
        all_goals go_wp2
        have Z2 : ∀ j, j < 64 * (k + 1) → p j = false := fun j hj => by
          by_cases e : j < 64 * k
          · exact Z.out j e
          · rw [wd_zero] at hw
            have := hw (j - 64 * k) (by omega)
            rwa [show 64 * k + (j - 64 * k) = j by omega] at this
        exact ⟨⟨k + 1, by omega, by simp, B.out.drew, Z2⟩, by simp [RowKit.intOf]; omega⟩
      · obtain ⟨l1, l2, l3⟩ := wd_low p k hw
        have TZ := hidIt (tz_ok (wd p k) (wd_lt p k) hw wr.drew (fun j hj => (B.out.cell (p := ⟨1, j, none⟩) (World.block_lt_of_cell? _ ⟨1, 0, none⟩ (T.out 0 (by omega)))).trans (T.out j hj)))
        have hL : low p = some (k * 64 + Lib.ctz 64 (wd p k)) := low_some p _ (by rw [Nat.mul_comm]; exact l2) 512 0 (Nat.zero_le _) (by omega) (fun j _ hj => by
          by_cases e : j < 64 * k
          · exact Z.out j e
          · have := l3 (j - 64 * k) (by omega)
            rwa [show 64 * k + (j - 64 * k) = j by omega] at this)
        generalize Lib.ctz 64 (wd p k) = c at TZ hL l1
        have hx : (((wd p k : Nat) : Int) != 0) = true := by simpa using hw
        generalize wd p k = x at c1 hx TZ
        have e1 : IntKind.i64.wrap ((k : Int) * 64) = (k : Int) * 64 := by rw [IntKind.wrap_i64]; omega
        have e2 : wrap64 ((k : Int) * 64) = (k : Int) * 64 := by unfold wrap64; omega
        have e3 : IntKind.i64.wrap ((k : Int) * 64 + (c : Int)) = (k : Int) * 64 + (c : Int) := by rw [IntKind.wrap_i64]; omega
        have e4 : wrap64 ((k : Int) * 64 + (c : Int)) = (k : Int) * 64 + (c : Int) := by unfold wrap64; omega
        have e5 : IntKind.i64.wrap ((k : Int) * 64 + (c : Int) + 1) = (k : Int) * 64 + (c : Int) + 1 := by rw [IntKind.wrap_i64]; omega
        have e6 : wrap64 ((k : Int) * 64 + (c : Int) + 1) = (k : Int) * 64 + (c : Int) + 1 := by unfold wrap64; omega
        have HL := hidIt hL
        clear l2 l3 hw hL
        go_wp2
        go_region
        all_goals go_wp2_with (go_at_call 196; refine TZ.out.mono ?_; rintro e w' ⟨rfl, hw⟩; subst hw)
        all_goals go_ret2
        all_goals exact ⟨by rw [HL.out]; simp [lowV], B.out.drew⟩
    · obtain rfl : k = 8 := by omega
      have i0 : ¬ (8 : Int) < 8 := by omega
      rw [show ((8 : Nat) : Int) = 8 from rfl]
      go_wp2
      go_ret2
      refine ⟨?_, B.out⟩
      have : low p = none := low_none p 512 0 (fun j _ hj => Z.out j (by omega))
      rw [this]
      rfl
end Go.Proofs.YtblphlcnbnklmaaGreatDoor
namespace Go.Proofs.YtblphlcnbnklmaaGreatDoor
open Go.RowKit
/-- A row that is boxed: the world behind it is a letter. -/
theorem wpList_box_row {ops : Array Oper} {rest : List Oper} {op : Oper} {a : Act} {w : World} {Q : Exit → Act → World → Prop} (hgd : op.guard = none) (ty : TypeId) (x : Operand) (ho : op.op = .box ty x) (k : IntKind) (N : Nat) (f : Nat → Int) (H : Nat) (hH : w.heap.size = H) (hx : a.eval x = .agg (cl k N f).toArray)
    (hK : ∀ W, IRow W H k N f → Below H w W → W.heap.size = H + 1 → wpList Tryz.prog ops Q rest (a.put op.dst (.pointer (some ⟨H, 0, none⟩))) W) : wpList Tryz.prog ops Q (op :: rest) a w := by
  subst hH
  refine wpList_plain hgd fun K hK' => ?_
  unfold Oper.wp execOp
  simp only [ho, hx]
  simp [Instr.box, newVar, newRow, Value.cells, Result.andThen]
  exact hK' _ _ (hK _ (IRow.new w ty k N f) ((Below.refl _ _).alloc (Nat.le_refl _) _) (by simp))
/-- The words as numbers. -/
def wds (p : Nat → Bool) (j : Nat) : Int := ((wd p j : Nat) : Int)
theorem zero48 : (Tryz.prog.info? 182).bind (·.zero) = some (.agg (cl .u64 8 fun _ => 0).toArray) := by kernel_rfl
def half (p q : Nat → Bool) (k : Nat) (j : Nat) : Int := if j < k then wds (fun i => p i || q i) j else wds p j
theorem half_step (p q : Nat → Bool) (k : Nat) : upd (half p q k) k (wds (fun i => p i || q i) k) = half p q (k + 1) := by
  funext j
  unfold upd half
  by_cases h : j = k
  · subst h; rw [if_pos rfl, if_pos (by omega)]
  · rw [if_neg h]
    by_cases h2 : j < k
    · rw [if_pos h2, if_pos (by omega)]
    · rw [if_neg h2, if_neg (by omega)]
set_option maxRecDepth 100000 in
set_option maxHeartbeats 1000000 in
theorem wwith_ok (p q : Nat → Bool) (W : World) : Calls Tryz.prog 152 #[.agg (cl .u64 8 (wds p)).toArray, .agg (cl .u64 8 (wds q)).toArray] W fun e w' => e = .returned (.agg (cl .u64 8 (wds fun i => p i || q i)).toArray) ∧ Below W.heap.size W w' := by
  go_enter Tryz.func152, Tryz.ntmps152
  go_wp2_with (first
    | (refine wpList_box_row rfl 182 (.tmp 0) rfl .u64 8 (wds p) W.heap.size rfl rfl ?_; intro W1 R1 B1 z1)
    | (refine wpList_box_row rfl 182 (.tmp 1) rfl .u64 8 (wds q) (W.heap.size + 1) z1 rfl ?_; intro W2 R2 B2 z2; have R1' := R1.below (by rw [z1]; exact B2); clear R1)
    | (refine wpList_alloc_row rfl 182 rfl .u64 8 (W.heap.size + 1 + 1) z2 zero48 ?_; intro W3 R3 B3 z3; have I0 : Hid (IRow W3 W.heap.size .u64 8 (half p q 0) ∧ IRow W3 (W.heap.size + 1) .u64 8 (wds q) ∧ IRow W3 (W.heap.size + 1 + 1) .u64 8 (fun _ => 0) ∧ Below W.heap.size W W3) := ⟨(R1'.below (by rw [z2]; exact B3)).congr (fun j _ => by simp [half]), R2.below (by rw [z2]; exact B3), R3, (B1.trans (B2.mono (by omega))).trans (B3.mono (by omega))⟩; clear R1' R2 R3 B1 B2 B3 z1 z2 z3))
  go_loopw [6] (fun i wr => ∃ k : Nat, k ≤ 8 ∧ i = .int .i64 (k : Int) ∧ Hid (IRow wr W.heap.size .u64 8 (half p q k) ∧ IRow wr (W.heap.size + 1) .u64 8 (wds q) ∧ IRow wr (W.heap.size + 1 + 1) .u64 8 (fun _ => 0) ∧ Below W.heap.size W wr)) (fun i _ => 8 - (RowKit.intOf i).toNat)
  case atStart => exact ⟨0, Nat.zero_le _, rfl, I0⟩
  case round =>
    obtain ⟨k, hk, rfl, hI⟩ := hrel
    by_cases hlt : k < 8
    · have i0 : (k : Int) < 8 := by omega
      have i1 : (0 : Int) ≤ (k : Int) := by omega
      have c1 : wr.drew.cell? ⟨W.heap.size, k, none⟩ = some (.int .u64 (wds p k)) := by
        have := hI.out.1.1 k hlt
        rw [show half p q k k = wds p k by simp [half]] at this
        exact this
      have c2 : wr.drew.cell? ⟨W.heap.size + 1, k, none⟩ = some (.int .u64 (wds q k)) := hI.out.2.1.1 k hlt
      have f1 : wr.drew.frozen? ⟨W.heap.size, k, none⟩ = false := hI.out.1.2.1 k
      have ha : bits .or .u64 (wds p k) (wds q k) = wds (fun i => p i || q i) k := by
        unfold wds
        rw [u64_or_nat _ _ (wd_lt _ _) (wd_lt _ _), wd_or]
      have R := hidIt (hI.out.1.set k (wds (fun i => p i || q i) k)).drew
      rw [half_step] at R
      have B : But W.heap.size wr (wr.setCell ⟨W.heap.size, k, none⟩ (.int .u64 (wds (fun i => p i || q i) k))).drew := (But.set _ _ _).drew
      have R2 := hidIt (hI.out.2.1.but B (by omega))
      have R3 := hidIt (hI.out.2.2.1.but B (by omega))
      have R4 := hidIt (hI.out.2.2.2.trans (B.below (Nat.le_refl _) (Nat.le_of_lt hI.out.1.2.2)))
      clear B hI
      go_wp2
      go_region
      all_goals go_wp2
      all_goals exact ⟨⟨k + 1, by omega, by simp, R.out, R2.out, R3.out, R4.out⟩, by simp [RowKit.intOf]; omega⟩
    · obtain rfl : k = 8 := by omega
      have i0 : ¬ (8 : Int) < 8 := by omega
      rw [show ((8 : Nat) : Int) = 8 from rfl]
      have RA := hidIt (hI.out.1.congr (g := wds fun i => p i || q i) (fun j hj => by simp [half, hj]))
      go_wp2_with (first
        | (refine wpList_load_irow rfl 182 (.tmp 2) rfl W.heap.size .u64 8 (wds fun i => p i || q i) rfl _ Tryz.underlying182 rfl (by kernel_rfl) RA.out ?_)
        | (refine wpList_store_row rfl 182 (.tmp 4) (.tmp 18) rfl (W.heap.size + 1 + 1) .u64 8 (wds fun i => p i || q i) _ rfl rfl hI.out.2.2.1 (by kernel_rfl) ?_; intro W9 R9 B9 z9))
      have hl := R9.run_load 182 _ Tryz.underlying182 rfl (by kernel_rfl)
      exact bodyPost_ret (v := .agg (cl .u64 8 (wds fun i => p i || q i)).toArray) (by simp [results, Tryz.results152, asAddr, hl]) rfl ⟨rfl, hI.out.2.2.2.trans (B9.below (by omega) (Nat.le_of_lt hI.out.1.2.2))⟩
end Go.Proofs.YtblphlcnbnklmaaGreatDoor
namespace Go.Proofs.YtblphlcnbnklmaaGreatDoor
open Go.RowKit
/-- Which are free, which are let go. -/
def fr (h : Nat → Nat) (i : Nat) : Bool := decide (h i = 0)
def gn (h : Nat → Nat) (i : Nat) : Bool := decide (h i = 2)
/-- How a block is once it is put so. -/
def putS (x : Nat) : Nat := if x = 0 then 0 else if x = 2 then 2 else 1
def setH (h : Nat → Nat) (i x : Nat) (j : Nat) : Nat := if j = i then putS x else h j
theorem fr_set (h : Nat → Nat) (i x : Nat) : fr (setH h i x) = updB (fr h) i (decide (x = 0)) := by
  funext j; unfold fr setH updB putS
  by_cases e : j = i
  · rw [if_pos e, if_pos e]; by_cases e0 : x = 0
    · simp [e0]
    · by_cases e2 : x = 2 <;> simp [e0, e2]
  · rw [if_neg e, if_neg e]
theorem gn_set (h : Nat → Nat) (i x : Nat) : gn (setH h i x) = updB (gn h) i (decide (x = 2)) := by
  funext j; unfold gn setH updB putS
  by_cases e : j = i
  · rw [if_pos e, if_pos e]; by_cases e0 : x = 0
    · simp [e0]
    · by_cases e2 : x = 2 <;> simp [e0, e2]
  · rw [if_neg e, if_neg e]
/-- A set in memory. -/
structure SAt (W : World) (b n : Nat) (h : Nat → Nat) : Prop where
  c0 : W.cell? ⟨b, 0, none⟩ = some (.pointer (some ⟨b, 0, none⟩))
  c1 : W.cell? ⟨b, 1, none⟩ = some (.int .i64 (n : Int))
  fw : WAt W b 2 (fr h)
  gw : WAt W b 10 (gn h)
/-- What holds of every set. -/
structure SOk (n : Nat) (h : Nat → Nat) : Prop where
  n1 : 1 ≤ n
  n2 : n ≤ 512
  out : ∀ i, n ≤ i → h i = 1
  le : ∀ i, h i ≤ 2
theorem SAt.l {W : World} {b n : Nat} {h : Nat → Nat} (s : SAt W b n h) : b < W.heap.size := s.fw.l
theorem SAt.below {W W' : World} {b n : Nat} {h : Nat → Nat} (s : SAt W b n h) (hb : Below W.heap.size W W') : SAt W' b n h :=
  ⟨(hb.cell (p := ⟨b, 0, none⟩) s.l).trans s.c0, (hb.cell (p := ⟨b, 1, none⟩) s.l).trans s.c1, s.fw.below hb, s.gw.below hb⟩
theorem SAt.but {W W' : World} {b n x : Nat} {h : Nat → Nat} (s : SAt W b n h) (hb : But x W W') (hn : b ≠ x) : SAt W' b n h :=
  ⟨(hb.cell (p := ⟨b, 0, none⟩) s.l hn).trans s.c0, (hb.cell (p := ⟨b, 1, none⟩) s.l hn).trans s.c1, s.fw.but hb hn, s.gw.but hb hn⟩
theorem putS_le (x : Nat) : putS x ≤ 2 := by unfold putS; split; · omega
                                             · split <;> omega
theorem SOk.set {n : Nat} {h : Nat → Nat} (s : SOk n h) (i x : Nat) (hi : i < n) : SOk n (setH h i x) :=
  ⟨s.n1, s.n2, fun j hj => by unfold setH; rw [if_neg (by omega)]; exact s.out j hj, fun j => by
    unfold setH
    split
    · exact putS_le x
    · exact s.le j⟩
/-- The same heap, but for what was drawn. -/
def Same (W w' : World) : Prop := Below W.heap.size W w' ∧ w'.heap.size = W.heap.size
theorem Same.refl (W : World) : Same W W := ⟨Below.refl _ _, rfl⟩
theorem Same.drew (W : World) : Same W W.drew := ⟨(Below.refl _ _).drew, rfl⟩
theorem Same.trans {U V W : World} (h : Same U V) (k : Same V W) : Same U W := ⟨h.1.trans (k.1.mono (by rw [h.2]; exact Nat.le_refl _)), k.2.trans h.2⟩
theorem eqis_ptr (d : Nat) (a : Addr) (w : World) : (Op.equalIn (d + 1) 65 (.pointer (some a)) (.pointer (some a))).run Tryz.prog w = .ok true w := by
  simp [Op.equalIn, run_underlying Tryz.underlying65, run_sameAddr_same]
theorem eqls_ptr (a : Addr) (w : World) : (binOp .eql 65 (.pointer (some a)) (.pointer (some a))).run Tryz.prog w = .ok (.bool true) w := by
  have h : (Op.equal 65 (.pointer (some a)) (.pointer (some a))).run Tryz.prog w = .ok true w := eqis_ptr 9999 a w
  simp only [binOp]
  simp [h]
theorem eqis_nil (d : Nat) (a : Addr) (w : World) : (Op.equalIn (d + 1) 65 (.pointer none) (.pointer (some a))).run Tryz.prog w = .ok false w := by
  simp [Op.equalIn, run_underlying Tryz.underlying65]
theorem eqls_nil (a : Addr) (w : World) : (binOp .eql 65 (.pointer none) (.pointer (some a))).run Tryz.prog w = .ok (.bool false) w := by
  have h : (Op.equal 65 (.pointer none) (.pointer (some a))).run Tryz.prog w = .ok false w := eqis_nil 9999 a w
  simp only [binOp]
  simp [h]
theorem smade_ok (W : World) (b n : Nat) (h : Nat → Nat) (s : SAt W b n h) : Calls Tryz.prog 149 #[.pointer (some ⟨b, 0, none⟩)] W fun e w' => e = .returned (.bool true) ∧ w' = W := by
  have c0 := s.c0
  have hp := eqls_ptr ⟨b, 0, none⟩
  clear s
  go_enter Tryz.func149, Tryz.ntmps149
  go_wp2_with fail
  go_ret
  exact ⟨rfl, rfl⟩
theorem smade_nil (W : World) : Calls Tryz.prog 149 #[.pointer none] W fun e w' => e = .returned (.bool false) ∧ w' = W := by
  go_enter Tryz.func149, Tryz.ntmps149
  go_wp2_with fail
  go_ret
  exact ⟨rfl, rfl⟩
theorem smade_no (W : World) (b : Nat) (c0 : W.cell? ⟨b, 0, none⟩ = some (.pointer none)) : Calls Tryz.prog 149 #[.pointer (some ⟨b, 0, none⟩)] W fun e w' => e = .returned (.bool false) ∧ w' = W := by
  have hp := eqls_nil ⟨b, 0, none⟩
  go_enter Tryz.func149, Tryz.ntmps149
  go_wp2_with fail
  go_ret
  exact ⟨rfl, rfl⟩
/-- Is there such a block? -/
def hasI (n : Nat) (x : Int) : Bool := decide (1 ≤ x) && decide (x ≤ (n : Int))
theorem shas_ok (W : World) (b n : Nat) (h : Nat → Nat) (x : Int) (s : SAt W b n h) : Calls Tryz.prog 207 #[.pointer (some ⟨b, 0, none⟩), .int .i64 x] W fun e w' => e = .returned (.bool (hasI n x)) ∧ w' = W := by
  have c1 := s.c1
  clear s
  by_cases h1 : 1 ≤ x
  · by_cases h2 : x ≤ (n : Int)
    · rw [show hasI n x = true by simp [hasI, h1, h2]]
      go_enter Tryz.func207, Tryz.ntmps207
      go_wp2_with fail
      go_ret
      exact ⟨rfl, rfl⟩
    · rw [show hasI n x = false by simp [hasI, h1, h2]]
      go_enter Tryz.func207, Tryz.ntmps207
      go_wp2_with fail
      go_ret
      exact ⟨rfl, rfl⟩
  · rw [show hasI n x = false by simp [hasI, h1]]
    go_enter Tryz.func207, Tryz.ntmps207
    go_wp2_with fail
    go_ret
    exact ⟨rfl, rfl⟩
theorem how_ok (W : World) (b n : Nat) (h : Nat → Nat) (i : Nat) (hi : i < 512) (hle : h i ≤ 2) (s : SAt W b n h) : Calls Tryz.prog 165 #[.pointer (some ⟨b, 0, none⟩), .int .i64 ((i : Int) + 1)] W fun e w' => e = .returned (.int .i64 ((h i : Nat) : Int)) ∧ Same W w' := by
  have A := whas_ok b 2 (fr h) i hi W s.fw
  have B := hidIt fun (u : World) (hu : WAt u b 10 (gn h)) => whas_ok b 10 (gn h) i hi u hu
  have G := hidIt s.gw.drew
  have L := s.l
  clear s
  by_cases h0 : h i = 0
  · rw [show fr h i = true by simp [fr, h0]] at A
    go_enter Tryz.func165, Tryz.ntmps165
    go_wp2_with (go_at_call 192; refine A.mono ?_; rintro e w' ⟨rfl, hw⟩; subst hw)
    go_ret
    exact ⟨by simp [h0], Same.drew _⟩
  · rw [show fr h i = false by simp [fr, h0]] at A
    by_cases h2 : h i = 2
    · have B' := hidIt (B.out _ G.out)
      rw [show gn h i = true by simp [gn, h2]] at B'
      go_enter Tryz.func165, Tryz.ntmps165
      go_wp2_with (first | (go_at_call 192; have _q := L; clear L; refine A.mono ?_; rintro e w' ⟨rfl, hw⟩; subst hw) | (go_at_call 192; refine B'.out.mono ?_; rintro e w' ⟨rfl, hw⟩; subst hw))
      go_ret
      exact ⟨by simp [h2], (Same.drew _).trans (Same.drew _)⟩
    · have h1 : h i = 1 := by omega
      have B' := hidIt (B.out _ G.out)
      rw [show gn h i = false by simp [gn, h1]] at B'
      go_enter Tryz.func165, Tryz.ntmps165
      go_wp2_with (first | (go_at_call 192; have _q := L; clear L; refine A.mono ?_; rintro e w' ⟨rfl, hw⟩; subst hw) | (go_at_call 192; refine B'.out.mono ?_; rintro e w' ⟨rfl, hw⟩; subst hw))
      go_ret
      exact ⟨by simp [h1], (Same.drew _).trans (Same.drew _)⟩
theorem sput_ok (W : World) (b n : Nat) (h : Nat → Nat) (i x : Nat) (hi : i < 512) (s : SAt W b n h) : Calls Tryz.prog 105 #[.pointer (some ⟨b, 0, none⟩), .int .i64 ((i : Int) + 1), .int .i64 (x : Int)] W fun e w' => e = .returned (.tuple #[]) ∧ SAt w' b n (setH h i x) ∧ But b W w' ∧ w'.heap.size = W.heap.size := by
  have A := hidIt (wput_ok b 2 (fr h) i hi (decide (x = 0)) W s.fw)
  have B := hidIt fun (u : World) (hu : WAt u b 10 (gn h)) => wput_ok b 10 (gn h) i hi (decide (x = 2)) u hu
  have S := hidIt s
  clear s
  have e0 : ((x : Int) == 0) = decide (x = 0) := by rw [Bool.eq_iff_iff]; simp
  have e2 : ((x : Int) == 2) = decide (x = 2) := by rw [Bool.eq_iff_iff]; simp; omega
  go_enter Tryz.func105, Tryz.ntmps105
  go_wp2_with (first
    | (go_at_call 166; refine A.out.mono ?_; clear A; rintro e w1 ⟨rfl, q1, q2⟩; have Q1 := hidIt q1; have Q2 := hidIt q2; clear q1 q2)
    | (go_at_call 166; refine (B.out _ (S.out.gw.in Q2.out (by omega))).mono ?_; clear B; rintro e w2 ⟨rfl, q3, q4⟩; have Q3 := hidIt q3; have Q4 := hidIt q4; clear q3 q4))
  go_end0
  refine ⟨rfl, ⟨?_, ?_, ?_, ?_⟩, Q2.out.but.trans Q4.out.but, Q4.out.size.trans Q2.out.size⟩
  · rw [Q4.out.c 0 (by omega), Q2.out.c 0 (by omega)]; exact S.out.c0
  · rw [Q4.out.c 1 (by omega), Q2.out.c 1 (by omega)]; exact S.out.c1
  · rw [fr_set]; exact Q1.out.in Q4.out (by omega)
  · rw [gn_set]; exact Q3.out
end Go.Proofs.YtblphlcnbnklmaaGreatDoor
namespace Go.Proofs.YtblphlcnbnklmaaGreatDoor
open Go.RowKit
/-- What turn answers, and what becomes of the blocks. -/
def turnE (n : Nat) (h : Nat → Nat) (x : Int) (a : Nat) : Int := if hasI n x then (if h (x.toNat - 1) = a then 0 else 9) else 5
def turnH (n : Nat) (h : Nat → Nat) (x : Int) (a c : Nat) : Nat → Nat := if hasI n x then (if h (x.toNat - 1) = a then setH h (x.toNat - 1) c else h) else h
theorem hasI_iff {n : Nat} {x : Int} : hasI n x = true ↔ 1 ≤ x ∧ x ≤ (n : Int) := by simp [hasI]
theorem turn_sok {n : Nat} {h : Nat → Nat} (s : SOk n h) (x : Int) (a c : Nat) : SOk n (turnH n h x a c) := by
  unfold turnH
  split
  · rename_i hx
    rw [hasI_iff] at hx
    split
    · exact s.set _ _ (by omega)
    · exact s
  · exact s
theorem fturn_ok (W : World) (b n : Nat) (h : Nat → Nat) (x : Int) (a c : Nat) (s : SAt W b n h) (k : SOk n h) : Calls Tryz.prog 188 #[.pointer (some ⟨b, 0, none⟩), .int .i64 x, .int .i64 (a : Int), .int .i64 (c : Int)] W fun e w' => e = .returned (.int .i64 (turnE n h x a)) ∧ SAt w' b n (turnH n h x a c) ∧ But b W w' ∧ w'.heap.size = W.heap.size := by
  have M := hidIt (smade_ok W b n h s)
  have H := hidIt (shas_ok W b n h x s)
  unfold turnE turnH
  cases hx : hasI n x with
  | false =>
    rw [hx] at H
    have S := hidIt s
    clear s
    go_enter Tryz.func188, Tryz.ntmps188
    go_wp2_with (first
      | (go_at_call 149; refine M.out.mono ?_; rintro e w' ⟨rfl, hw⟩; subst hw)
      | (go_at_call 207; refine H.out.mono ?_; rintro e w' ⟨rfl, hw⟩; subst hw))
    go_ret
    exact ⟨by simp, S.out, But.refl _ _, rfl⟩
  | true =>
    rw [hx] at H
    rw [hasI_iff] at hx
    obtain ⟨i, rfl⟩ : ∃ i : Nat, x = (i : Int) + 1 := ⟨x.toNat - 1, by omega⟩
    rw [show ((i : Int) + 1).toNat - 1 = i by omega]
    have i5 : i < 512 := by have := k.n2; omega
    have HW := hidIt (how_ok W b n h i i5 (k.le i) s)
    have P := hidIt fun (u : World) (su : SAt u b n h) => sput_ok u b n h i c i5 su
    have S := hidIt s
    clear s hx
    simp only [if_true]
    by_cases ha : h i = a
    · have e1 : (((h i : Nat) : Int) != (a : Int)) = false := by simp [ha]
      rw [if_pos ha, if_pos ha]
      go_enter Tryz.func188, Tryz.ntmps188
      go_wp2_with (first
        | (go_at_call 149; refine M.out.mono ?_; rintro e w' ⟨rfl, hw⟩; subst hw)
        | (go_at_call 207; refine H.out.mono ?_; rintro e w' ⟨rfl, hw⟩; subst hw)
        | (go_at_call 165; refine HW.out.mono ?_; rintro e w1 ⟨rfl, hs⟩; have HS := hidIt hs; clear hs)
        | (go_at_call 105; refine (P.out _ (S.out.below HS.out.1)).mono ?_; rintro e w2 ⟨rfl, q1, q2, q3⟩; have Q := hidIt (And.intro q1 (And.intro q2 q3)); clear q1 q2 q3))
      go_ret
      exact ⟨rfl, Q.out.1, (But.of HS.out.1).trans Q.out.2.1, Q.out.2.2.trans HS.out.2⟩
    · have e1 : (((h i : Nat) : Int) != (a : Int)) = true := by simpa using (fun q => ha (by omega))
      rw [if_neg ha, if_neg ha]
      go_enter Tryz.func188, Tryz.ntmps188
      go_wp2_with (first
        | (go_at_call 149; refine M.out.mono ?_; rintro e w' ⟨rfl, hw⟩; subst hw)
        | (go_at_call 207; refine H.out.mono ?_; rintro e w' ⟨rfl, hw⟩; subst hw)
        | (go_at_call 165; refine HW.out.mono ?_; rintro e w1 ⟨rfl, hs⟩; have HS := hidIt hs; clear hs))
      go_ret
      exact ⟨rfl, S.out.below HS.out.1, But.of HS.out.1, HS.out.2⟩
theorem release_ok (W : World) (b n : Nat) (h : Nat → Nat) (x : Int) (s : SAt W b n h) (k : SOk n h) : Calls Tryz.prog 148 #[.pointer (some ⟨b, 0, none⟩), .int .i64 x] W fun e w' => e = .returned (.int .i64 (turnE n h x 1)) ∧ SAt w' b n (turnH n h x 1 2) ∧ But b W w' ∧ w'.heap.size = W.heap.size := by
  have T := hidIt (fturn_ok W b n h x 1 2 s k)
  clear s k
  go_enter Tryz.func148, Tryz.ntmps148
  go_wp2_with (go_at_call 188; refine T.out.mono ?_; rintro e w' ⟨rfl, q⟩; have Q := hidIt q; clear q)
  go_ret
  exact ⟨rfl, Q.out⟩
/-- What Is tells. -/
def isI (n : Nat) (h : Nat → Nat) (x : Int) : Int := if hasI n x then ((h (x.toNat - 1) : Nat) : Int) else -1
/-- What Acquire answers, and what becomes of the blocks. -/
def acqV (o : Option Nat) : Value := match o with
  | some i => .tuple #[.int .i64 ((i : Int) + 1), .int .i64 0]
  | none => .tuple #[.int .i64 0, .int .i64 8]
def acqH (h : Nat → Nat) (o : Option Nat) : Nat → Nat := match o with
  | some i => setH h i 1
  | none => h
theorem lowFrom_lt (p : Nat → Bool) (i : Nat) : ∀ n k, lowFrom p k n = some i → i < k + n ∧ k ≤ i ∧ p i = true
  | 0, k, h => by cases h
  | n + 1, k, h => by
    unfold lowFrom at h
    split at h
    · injection h with h; subst h; exact ⟨by omega, Nat.le_refl _, by assumption⟩
    · have := lowFrom_lt p i n (k + 1) h; exact ⟨by omega, by omega, this.2.2⟩
theorem low_free {n : Nat} {h : Nat → Nat} {i : Nat} (k : SOk n h) (hl : low (fr h) = some i) : i < n ∧ h i = 0 := by
  have := lowFrom_lt _ _ _ _ hl
  have hz : h i = 0 := by simpa [fr] using this.2.2
  refine ⟨?_, hz⟩
  apply Nat.lt_of_not_le
  intro q
  have := k.out i q
  omega
theorem acq_sok {n : Nat} {h : Nat → Nat} (k : SOk n h) : SOk n (acqH h (low (fr h))) := by
  cases hl : low (fr h) with
  | none => exact k
  | some i => exact k.set _ _ (low_free k hl).1
set_option maxHeartbeats 400000 in
theorem acquire_ok (W : World) (b n : Nat) (h : Nat → Nat) (s : SAt W b n h) (k : SOk n h) (hT : DTab W) : Calls Tryz.prog 121 #[.pointer (some ⟨b, 0, none⟩)] W fun e w' => e = .returned (acqV (low (fr h))) ∧ SAt w' b n (acqH h (low (fr h))) ∧ But b W w' := by
  have M := hidIt (smade_ok W b n h s)
  have Lo := hidIt (wlowest_ok b 2 (fr h) W s.fw hT)
  have S := hidIt s
  clear s hT
  cases hl : low (fr h) with
  | none =>
    rw [hl] at Lo
    clear k
    unfold lowV at Lo
    go_enter Tryz.func121, Tryz.ntmps121
    go_wp2_with (first
      | (go_at_call 149; refine M.out.mono ?_; rintro e w' ⟨rfl, hw⟩; subst hw)
      | (go_at_call 172; refine Lo.out.mono ?_; rintro e w1 ⟨rfl, hs⟩; have HS := hidIt hs; clear hs))
    go_ret2
    exact ⟨rfl, S.out.below HS.out, But.of HS.out⟩
  | some i =>
    rw [hl] at Lo
    have i5 : i < 512 := by have := (low_free k hl).1; have := k.n2; omega
    have P := hidIt fun (u : World) (su : SAt u b n h) => sput_ok u b n h i 1 i5 su
    unfold lowV at Lo
    clear k
    go_enter Tryz.func121, Tryz.ntmps121
    go_wp2_with (first
      | (go_at_call 149; refine M.out.mono ?_; rintro e w' ⟨rfl, hw⟩; subst hw)
      | (go_at_call 172; refine Lo.out.mono ?_; rintro e w1 ⟨rfl, hs⟩; have HS := hidIt hs; clear hs)
      | (go_at_call 105; refine (P.out _ (S.out.below HS.out)).mono ?_; rintro e w2 ⟨rfl, q1, q2, q3⟩; have Q := hidIt (And.intro q1 q2); clear q1 q2 q3))
    go_ret2
    exact ⟨rfl, Q.out.1, (But.of HS.out).trans Q.out.2⟩
end Go.Proofs.YtblphlcnbnklmaaGreatDoor
namespace Go.Proofs.YtblphlcnbnklmaaGreatDoor
open Go.RowKit Go.Shelf
attribute [local go_sem] Oper.semAt_some
/-- The closure's boxes. -/
structure ThrMem (Bn Bh n : Nat) (hv : Value) (W : World) : Prop where
  cn : W.cell? ⟨Bn, 0, none⟩ = some (.int .i64 (n : Int))
  ch : W.cell? ⟨Bh, 0, none⟩ = some hv
theorem through_in (F : Fence) (m : Nat) (h5 : F.fn 164) (hro : F.round = none) (n : Int) (f : FuncId) (xs ys : Array Value) (w : World) :
    CallsIn F m Tryz.prog 164 #[.int .i64 n, .func (.func f) xs ys] w fun e w' => e = .returned (.func (.func 191) #[] #[.pointer (some ⟨w.heap.size, 0, none⟩), .pointer (some ⟨w.heap.size + 1, 0, none⟩)]) ∧ w' = (w.alloc (.cells #[.int .i64 n] 3)).alloc (.cells #[.func (.func f) xs ys] 209) := by
  refine callsIn_of_wp Tryz.func164 rfl h5 ?_ hro
  simp only [Tryz.ntmps164, List.size_toArray, List.length_cons, List.length_nil, Nat.reduceAdd, Nat.reduceSub, Array.replicate_succ, Array.replicate_zero, List.push_toArray, List.append_toArray, List.nil_append, List.cons_append]
  gi_wp2
  go_ret
  exact ⟨rfl, rfl⟩
set_option maxRecDepth 100000 in
set_option maxHeartbeats 2000000 in
theorem through1_in (m : Nat) (hm : 1 ≤ m) (l Bn Bh n : Nat) (hn : n ≤ 512) (f : FuncId) (hen : ∀ args V, (callFunc f args).run Tryz.prog V = .ok (.enter f args) V) (xs ys : List Value) (v : Nat → Int) (J : Nat → World → Prop) (Jx : World → Prop) (hM : ∀ k W, J k W → ThrMem Bn Bh n (.func (.func f) xs.toArray ys.toArray) W) (hB : ∀ k W W', J k W → Below W.heap.size W W' → J k W')
    (hH : ∀ k W, k < n → J k W → Calls Tryz.prog f (xs ++ ((Value.int .i64 ((k : Int) + 1)) :: ys)).toArray W fun e w' => e = .returned (.int .i64 (v k)) ∧ Below W.heap.size W w')
    (hY : ∀ k W, k < n → J k W → YieldAt Fence.wide (m - 1) Tryz.prog l #[.int .i64 ((k : Int) + 1), .int .i64 (v k)] W fun e W' => (e = .returned (.bool true) ∧ J (k + 1) W') ∨ (e = .returned (.bool false) ∧ Jx W'))
    (W : World) (h0 : J 0 W) :
    CallsIn Fence.wide m Tryz.prog 191 #[.func (.yield l) #[] #[], .pointer (some ⟨Bn, 0, none⟩), .pointer (some ⟨Bh, 0, none⟩)] W fun e W' => (∃ v, e = .returned v) ∧ (J n W' ∨ Jx W') := by
  refine callsIn_of_wp Tryz.func191 rfl trivial ?_ rfl
  simp only [Tryz.ntmps191, List.size_toArray, List.length_cons, List.length_nil, Nat.reduceAdd, Nat.reduceSub, Array.replicate_succ, Array.replicate_zero, List.push_toArray, List.append_toArray, List.nil_append, List.cons_append]
  gi_wp2
  gi_loopw [4] (fun i wr => ∃ k : Nat, k ≤ n ∧ i = .int .i64 ((k : Int) + 1) ∧ J k wr) (fun i _ => 600 - (RowKit.intOf i).toNat)
  case atStart => exact ⟨0, Nat.zero_le _, rfl, h0⟩
  case round =>
    obtain ⟨k, hk, rfl, hJ⟩ := hrel
    have M := hM k wr hJ
    have c1 := M.cn
    have c2 := M.ch
    clear M
    by_cases hlt : k < n
    · have HC := hidIt (hH k wr hlt hJ)
      have HJ := hidIt hJ
      have i0 : (k : Int) + 1 ≤ (n : Int) := by omega
      have i1 : IntKind.i64.wrap ((k : Int) + 1 + 1) = (k : Int) + 1 + 1 := by rw [IntKind.wrap_i64]; omega
      have i2 : wrap64 ((k : Int) + 1 + 1) = (k : Int) + 1 + 1 := by unfold wrap64; omega
      clear hJ h0
      gi_wp2
      refine ⟨trivial, ?_⟩
      refine CallsIn.mono ((callsIn_wide (n := _)).2 HC.out) ?_
      rintro e W2 ⟨rfl, B2⟩
      obtain ⟨fn, tmps, assign, body, hy, hR⟩ := hY k W2 hlt (hB k wr W2 HJ.out B2)
      clear B2
      gi_wp2
      refine hR.mono ?_
      rintro e W3 (⟨rfl, hJ3⟩ | ⟨rfl, hJx3⟩)
      · gi_wp2
        go_roundw
        case rel => exact ⟨k + 1, by omega, by simp, hJ3⟩
        case measure => simp [RowKit.intOf]; omega
      · gi_wp2
        refine bodyPost_ret (results_none rfl _ _ _) rfl ?_
        exact ⟨⟨_, rfl⟩, .inr hJx3⟩
    · obtain rfl : k = n := by omega
      have i0 : ¬ (k : Int) + 1 ≤ (k : Int) := by omega
      gi_wp2
      go_end0
      exact ⟨⟨_, rfl⟩, .inl hJ⟩
/-- A range over the blocks, outside of every other such loop. -/
theorem range_thr {m : Nat} {gop : Operand} (p1 p2 : Tmp) {assign body : Code} {Q : Exit → Act → World → Prop} {a : Act} {w : World} (hm : 2 ≤ m) (Bn Bh n : Nat) (hn : n ≤ 512) (f : FuncId) (hen : ∀ args V, (callFunc f args).run Tryz.prog V = .ok (.enter f args) V) (xs ys : List Value) (v : Nat → Int)
    (hg : a.eval gop = .func (.func 191) #[] #[.pointer (some ⟨Bn, 0, none⟩), .pointer (some ⟨Bh, 0, none⟩)]) (I : Nat → World → Prop) (hIb : ∀ k W W', I k W → Below w.heap.size W W' → I k W') (hIs : ∀ k W, I k W → w.heap.size ≤ W.heap.size) (h0 : I 0 w)
    (hM : ∀ k W, I k W → ThrMem Bn Bh n (.func (.func f) xs.toArray ys.toArray) W)
    (hH : ∀ k W, k < n → I k W → Calls Tryz.prog f (xs ++ ((Value.int .i64 ((k : Int) + 1)) :: ys)).toArray W fun e w' => e = .returned (.int .i64 (v k)) ∧ Below W.heap.size W w')
    (hround : ∀ (l k : Nat) (W : World), k < n → I k W → w.heap.size ≤ l → l < W.heap.size → assign.wpIn (Fence.wide.inRound l) (m - 1 - 1) Tryz.prog
      (Exit.then (fun a₁ W₁ => KeepsFrom w.heap.size W W₁ ∧ ∀ W₂, But l W₁ W₂ → W₂.heap.size = W₁.heap.size → body.wpIn (Fence.wide.inRound l) (m - 1 - 1) Tryz.prog (rndP w.heap.size I (fun _ _ => False) k W₂) a₁ W₂) (fun _ _ _ => False))
      { tmps := (a.tmps.setIfInBounds p1 (.int .i64 ((k : Int) + 1))).setIfInBounds p2 (.int .i64 (v k)), defers := [] } W)
    (hdone : ∀ (D : Nat) (W : World), w.heap.size ≤ D → I n W → W.heap[D]? = some (.deferred (some [])) → Q .normal { a with defers := { target := .collected D, args := #[] } :: a.defers } W) :
    (Code.rangeFunc gop #[p1, p2] assign body).wpIn Fence.wide m Tryz.prog Q a w :=
  range_iter p1 p2 hm 191 #[.pointer (some ⟨Bn, 0, none⟩), .pointer (some ⟨Bh, 0, none⟩)] n (fun k => .int .i64 ((k : Int) + 1)) (fun k => .int .i64 (v k)) (fun _ _ => by simp [go_sem]) hg I (fun _ _ => False) hIb hIs (fun _ _ _ h _ => h) (fun _ _ h => h.elim) h0
    (fun l J Jx hJ hB hY V h0 => through1_in (m - 1) (by omega) l Bn Bh n hn f hen xs ys v J Jx (fun k W h => hM k W (hJ k W h)) hB (fun k W hk h => hH k W hk (hJ k W h)) hY V h0)
    hround hdone (fun _ _ _ _ h _ => h.elim)
end Go.Proofs.YtblphlcnbnklmaaGreatDoor
namespace Go.Proofs.YtblphlcnbnklmaaGreatDoor
open Go.RowKit Go.Shelf
attribute [local go_sem] Oper.semAt_some
/-- What each answers, made in a world of that size. -/
def eachV (H : Nat) : Value := .func (.func 191) #[] #[.pointer (some ⟨H, 0, none⟩), .pointer (some ⟨H + 1, 0, none⟩)]
def howV (b : Nat) : Value := .func (.func 165) #[.pointer (some ⟨b, 0, none⟩)] #[]
def eachW (W : World) (b n : Nat) : World := (W.alloc (.cells #[.int .i64 (n : Int)] 3)).alloc (.cells #[howV b] 209)
theorem each_ok (W : World) (b n : Nat) (h : Nat → Nat) (s : SAt W b n h) : Calls Tryz.prog 104 #[.pointer (some ⟨b, 0, none⟩)] W fun e w' => e = .returned (eachV W.heap.size) ∧ w' = eachW W b n := by
  have c1 := s.c1
  clear s
  have T := hidIt ((callsIn_wide (n := 1)).1 (through_in Fence.wide 1 trivial rfl (n : Int) 165 #[.pointer (some ⟨b, 0, none⟩)] #[] W))
  go_enter Tryz.func104, Tryz.ntmps104
  go_wp2_with (go_at_call 164; refine T.out.mono ?_; rintro e w' ⟨rfl, hw⟩; subst hw)
  go_ret
  exact ⟨rfl, rfl⟩
theorem eachW_size (W : World) (b n : Nat) : (eachW W b n).heap.size = W.heap.size + 1 + 1 := by simp [eachW]
theorem eachW_below (W : World) (b n : Nat) : Below W.heap.size W (eachW W b n) := ((Below.refl _ _).alloc (Nat.le_refl _) _).alloc (by simp) _
theorem eachW_mem (W : World) (b n : Nat) : ThrMem W.heap.size (W.heap.size + 1) n (howV b) (eachW W b n) := ⟨by simp [eachW, go_sem], by simp [eachW, go_sem]⟩
/-- How many of the first n are so. -/
def cnt (h : Nat → Nat) (x : Nat) : Nat → Nat
  | 0 => 0
  | n + 1 => cnt h x n + if h n = x then 1 else 0
theorem cnt_le (h : Nat → Nat) (x : Nat) : ∀ n, cnt h x n ≤ n
  | 0 => Nat.le_refl _
  | n + 1 => by have := cnt_le h x n; unfold cnt; split <;> omega
theorem ThrMem.below {Bn Bh n B : Nat} {v : Value} {W W' : World} (h : ThrMem Bn Bh n v W) (hb : Below B W W') (h1 : Bn < B) (h2 : Bh < B) : ThrMem Bn Bh n v W' :=
  ⟨(hb.cell (p := ⟨Bn, 0, none⟩) h1).trans h.cn, (hb.cell (p := ⟨Bh, 0, none⟩) h2).trans h.ch⟩
/-- What holds while blocks are counted: in W's next two blocks lie what is asked and how many there were. -/
structure CntI (W : World) (b n : Nat) (h : Nat → Nat) (Bn x : Nat) (k : Nat) (X : World) : Prop where
  m : ThrMem Bn (Bn + 1) n (howV b) X
  s : SAt X b n h
  c : X.cell? ⟨W.heap.size, 0, none⟩ = some (.int .i64 (x : Int))
  d : X.cell? ⟨W.heap.size + 1, 0, none⟩ = some (.int .i64 ((cnt h x k : Nat) : Int))
  f : X.frozen? ⟨W.heap.size + 1, 0, none⟩ = false
  b : Below W.heap.size W X
  z : W.heap.size + 1 + 1 ≤ X.heap.size
theorem SAt.belowB {W W' : World} {b n B : Nat} {h : Nat → Nat} (s : SAt W b n h) (hb : Below B W W') (hl : b < B) : SAt W' b n h :=
  ⟨(hb.cell (p := ⟨b, 0, none⟩) hl).trans s.c0, (hb.cell (p := ⟨b, 1, none⟩) hl).trans s.c1,
   ⟨fun j hj => (hb.cell (p := ⟨b, 2 + j, none⟩) hl).trans (s.fw.c j hj), fun j hj => (hb.frozen (p := ⟨b, 2 + j, none⟩) hl).trans (s.fw.f j hj), Nat.lt_of_lt_of_le s.l hb.size⟩,
   ⟨fun j hj => (hb.cell (p := ⟨b, 10 + j, none⟩) hl).trans (s.gw.c j hj), fun j hj => (hb.frozen (p := ⟨b, 10 + j, none⟩) hl).trans (s.gw.f j hj), Nat.lt_of_lt_of_le s.l hb.size⟩⟩
theorem CntI.below {W X X' : World} {b n Bn x k : Nat} {h : Nat → Nat} (i : CntI W b n h Bn x k X) (hb : Below (W.heap.size + 1 + 1) X X') (h1 : Bn + 1 < W.heap.size) (h2 : b < W.heap.size) : CntI W b n h Bn x k X' :=
  ⟨i.m.below hb (by omega) (by omega), i.s.belowB hb (by omega), (hb.cell (p := ⟨W.heap.size, 0, none⟩) (by show W.heap.size < _; omega)).trans i.c, (hb.cell (p := ⟨W.heap.size + 1, 0, none⟩) (by show W.heap.size + 1 < _; omega)).trans i.d, (hb.frozen (p := ⟨W.heap.size + 1, 0, none⟩) (by show W.heap.size + 1 < _; omega)).trans i.f, i.b.trans (hb.mono (by omega)), Nat.le_trans i.z hb.size⟩
theorem CntI.step {W X : World} {b n Bn x k : Nat} {h : Nat → Nat} (i : CntI W b n h Bn x k X) (h1 : Bn + 1 < W.heap.size) (h2 : b < W.heap.size) (he : h k = x) : CntI W b n h Bn x (k + 1) (X.setCell ⟨W.heap.size + 1, 0, none⟩ (.int .i64 (((cnt h x k : Nat) : Int) + 1))) ∧ KeepsFrom (W.heap.size + 1 + 1) X (X.setCell ⟨W.heap.size + 1, 0, none⟩ (.int .i64 (((cnt h x k : Nat) : Int) + 1))) := by
  have B : But (W.heap.size + 1) X (X.setCell ⟨W.heap.size + 1, 0, none⟩ (.int .i64 (((cnt h x k : Nat) : Int) + 1))) := But.set _ _ _
  have B1 := B.below (B := W.heap.size + 1) (Nat.le_refl _) (by have := i.z; omega)
  refine ⟨⟨i.m.below B1 (by omega) (by omega), i.s.belowB B1 (by omega), (B1.cell (p := ⟨W.heap.size, 0, none⟩) (by show W.heap.size < _; omega)).trans i.c, ?_, by simpa using i.f, i.b.trans (B1.mono (by omega)), by have := i.z; have := B.size; omega⟩, keeps_but B (by omega)⟩
  rw [World.cell?_setCell_same' _ _ _ (by rw [i.d]; rfl)]
  simp [cnt, he]
theorem CntI.skip {W X : World} {b n Bn x k : Nat} {h : Nat → Nat} (i : CntI W b n h Bn x k X) (he : h k ≠ x) : CntI W b n h Bn x (k + 1) X :=
  ⟨i.m, i.s, i.c, by rw [i.d]; simp [cnt, he], i.f, i.b, i.z⟩
set_option maxRecDepth 100000 in
set_option maxHeartbeats 1000000 in
theorem count_ok (W : World) (b n : Nat) (h : Nat → Nat) (Bn x : Nat) (s : SAt W b n h) (k : SOk n h) (hM : ThrMem Bn (Bn + 1) n (howV b) W) (hl : Bn + 1 < W.heap.size) : Calls Tryz.prog 150 #[eachV Bn, .int .i64 (x : Int)] W fun e w' => e = .returned (.int .i64 ((cnt h x n : Nat) : Int)) ∧ Below W.heap.size W w' := by
  refine (callsIn_wide (n := 5)).1 ?_
  have hb := s.l
  have S := hidIt s
  have K := hidIt k
  have M := hidIt hM
  clear s k hM
  refine callsIn_of_wp_marks Tryz.func150 rfl trivial ?_ rfl
  simp only [Tryz.ntmps150, List.size_toArray, List.length_cons, List.length_nil, Nat.reduceAdd, Nat.reduceSub, Array.replicate_succ, Array.replicate_zero, List.push_toArray, List.append_toArray, List.nil_append, List.cons_append]
  gi_wp2
  have I0 : CntI W b n h Bn x 0 ((W.alloc (.cells #[.int .i64 (x : Int)] 3)).alloc (.cells #[.int .i64 0] 3)) := by
    have B : Below W.heap.size W ((W.alloc (.cells #[.int .i64 (x : Int)] 3)).alloc (.cells #[.int .i64 0] 3)) := ((Below.refl _ _).alloc (Nat.le_refl _) _).alloc (by simp) _
    exact ⟨M.out.below B (by omega) hl, S.out.below B, by simp [go_sem], by simp [go_sem, cnt], by simp [go_sem], B, by simp⟩
  have z1 : ((W.alloc (.cells #[.int .i64 (x : Int)] 3)).alloc (.cells #[.int .i64 0] 3)).heap.size = W.heap.size + 1 + 1 := by simp
  generalize ((W.alloc (.cells #[.int .i64 (x : Int)] 3)).alloc (.cells #[.int .i64 0] 3)) = W1 at I0 z1 ⊢
  have n5 := K.out.n2
  refine range_thr (m := 5) 9 10 (by omega) Bn (Bn + 1) n n5 165 (fun _ _ => by simp [go_sem]) [.pointer (some ⟨b, 0, none⟩)] [] (fun i => ((h i : Nat) : Int)) rfl (CntI W b n h Bn x) (fun k X X' i hB => i.below (by rw [← z1]; exact hB) hl hb) (fun k X i => by rw [z1]; exact i.z) I0 (fun k X i => i.m) (fun k X hk i => (how_ok X b n h k (by omega) (K.out.le k) i.s).mono fun e w' q => ⟨q.1, q.2.1⟩) ?_ ?_
  · intro l k X hk hI hl1 hl2
    have i0 : Hid (∀ X', But l X X' → CntI W b n h Bn x k X') := fun X' hB => hI.below (hB.below (by omega) hI.z) hl hb
    clear hI I0
    rw [z1] at hl1 ⊢
    simp only [List.setIfInBounds_toArray, List.set_cons_zero, List.set_cons_succ]
    gi_wp2
    refine ⟨KeepsFrom.refl _ _, fun X2 hB2 hz2 => ?_⟩
    have I2 := i0.out X2 hB2
    clear i0 hB2 hz2
    have c1 := I2.c
    have d1 := I2.d
    have f1 := I2.f
    by_cases he : h k = x
    · have e1 : (((h k : Nat) : Int) == (x : Int)) = true := by simp [he]
      have st := hidIt (I2.step hl hb he)
      have cl := cnt_le h x k
      have i1 : IntKind.i64.wrap (((cnt h x k : Nat) : Int) + 1) = ((cnt h x k : Nat) : Int) + 1 := by rw [IntKind.wrap_i64]; omega
      have i2 : wrap64 (((cnt h x k : Nat) : Int) + 1) = ((cnt h x k : Nat) : Int) + 1 := by unfold wrap64; omega
      clear I2 cl
      generalize ((h k : Nat) : Int) = hk' at e1
      gi_wp2
      exact ⟨st.out.2, st.out.1⟩
    · have e1 : (((h k : Nat) : Int) == (x : Int)) = false := by simpa using (fun q => he (by omega))
      have st := hidIt (I2.skip he)
      clear I2
      generalize ((h k : Nat) : Int) = hk' at e1
      gi_wp2
      exact ⟨KeepsFrom.refl _ _, st.out⟩
  · intro D X hD hI hd
    have d1 := hI.d
    have E := hidIt hI.b
    rw [z1] at hD
    clear hI I0
    gi_wp2
    refine And.intro (by simp) (Or.inl ⟨_, _, rfl, run_takeDeferred hd, ?_⟩)
    refine ⟨.int .i64 ((cnt h x n : Nat) : Int), by simp [results, Tryz.results150, go_sem], rfl, ?_⟩
    exact E.out.trans ((But.putO _ D _).below (by omega) E.out.size)
end Go.Proofs.YtblphlcnbnklmaaGreatDoor
namespace Go.Proofs.YtblphlcnbnklmaaGreatDoor
open Go.RowKit Go.Shelf
set_option maxRecDepth 100000 in
theorem counts_ok (W : World) (b n : Nat) (h : Nat → Nat) (s : SAt W b n h) (k : SOk n h) : Calls Tryz.prog 89 #[.pointer (some ⟨b, 0, none⟩)] W fun e w' => e = .returned (.tuple #[.int .i64 ((cnt h 0 n : Nat) : Int), .int .i64 ((cnt h 1 n : Nat) : Int), .int .i64 ((cnt h 2 n : Nat) : Int)]) ∧ Below W.heap.size W w' := by
  have M := hidIt (smade_ok W b n h s)
  have E := hidIt (each_ok W b n h s)
  have B0 := hidIt (eachW_below W b n)
  have z0 := hidIt (eachW_size W b n)
  have C : Hid (∀ x u, Below (eachW W b n).heap.size (eachW W b n) u → Calls Tryz.prog 150 #[eachV W.heap.size, .int .i64 ((x : Nat) : Int)] u fun e w' => e = .returned (.int .i64 ((cnt h x n : Nat) : Int)) ∧ Below u.heap.size u w') := fun x u hu =>
    count_ok u b n h W.heap.size x ((s.below B0.out).below hu) k ((eachW_mem W b n).below hu (by rw [eachW_size]; omega) (by rw [eachW_size]; omega)) (by have := hu.size; rw [eachW_size] at this; omega)
  clear s k
  generalize eachW W b n = W0 at *
  have t0 : Hid True := trivial
  have t1 : Hid True := trivial
  go_enter Tryz.func89, Tryz.ntmps89
  go_wp2_with (first
    | (go_at_call 149; refine M.out.mono ?_; rintro e w' ⟨rfl, hw⟩; subst hw)
    | (go_at_call 104; refine E.out.mono ?_; rintro e w' ⟨rfl, hw⟩; subst hw)
    | (go_at_call 150; have _q := t0; clear t0 _q; refine (C.out 0 _ (Below.refl _ _)).mono ?_; rintro e w1 ⟨rfl, hb⟩; have B1 := hidIt hb; clear hb)
    | (go_at_call 150; have _q := t1; clear t1 _q; refine (C.out 1 _ B1.out).mono ?_; rintro e w2 ⟨rfl, hb⟩; have B2 := hidIt (B1.out.trans (hb.mono B1.out.size)); clear hb)
    | (go_at_call 150; refine (C.out 2 _ B2.out).mono ?_; rintro e w3 ⟨rfl, hb⟩; have B3 := hidIt (B2.out.trans (hb.mono B2.out.size)); clear hb))
  exact bodyPost_ret (v := .tuple #[.int .i64 ((cnt h 0 n : Nat) : Int), .int .i64 ((cnt h 1 n : Nat) : Int), .int .i64 ((cnt h 2 n : Nat) : Int)]) (by simp [results, Tryz.results89, go_sem]) rfl ⟨rfl, B0.out.trans (B3.out.mono B0.out.size)⟩
/-- All that were let go are free. -/
def setl (h : Nat → Nat) (i : Nat) : Nat := if h i = 2 then 0 else h i
theorem setl_fr (h : Nat → Nat) : (fun i => fr h i || gn h i) = fr (setl h) := by
  funext i; unfold fr gn setl
  by_cases e : h i = 2
  · simp [e]
  · simp [e]
theorem setl_gn (h : Nat → Nat) : (fun _ => false) = gn (setl h) := by
  funext i; unfold gn setl
  by_cases e : h i = 2
  · simp [e]
  · simp [e]
theorem SOk.setl {n : Nat} {h : Nat → Nat} (k : SOk n h) : SOk n (setl h) := ⟨k.n1, k.n2, fun i hi => by unfold Proofs.YtblphlcnbnklmaaGreatDoor.setl; rw [k.out i hi]; rfl, fun i => by unfold Proofs.YtblphlcnbnklmaaGreatDoor.setl; have := k.le i; split <;> omega⟩
theorem WAt.range {W : World} {b o : Nat} {p : Nat → Bool} (h : WAt W b o p) : W.rangeAt b o (cl .u64 8 (wds p)) := fun j v hj => by
  obtain ⟨hk, rfl⟩ := cl_at' hj
  exact h.c j hk
theorem WAt.store {W : World} {b o : Nat} {p : Nat → Bool} (h : WAt W b o p) (q : Nat → Bool) :
    ∃ W2, (Instr.storeAt 182 (.pointer (some ⟨b, o, none⟩)) (.agg (cl .u64 8 (wds q)).toArray)).run Tryz.prog W = .ok () W2 ∧ WAt W2 b o q ∧ InB b o W W2 := by
  have th : W.there b o 8 := fun j hj => ⟨by rw [h.c j hj]; rfl, h.f j hj⟩
  have th' : W.there b o (cl .u64 8 (wds q)).length := by rw [cl_len]; exact th
  refine ⟨_, run_storeAt_mid (P := Tryz.prog) W b o _ (cl .u64 8 (wds q)).toArray (by simpa using th') (by rw [List.size_toArray, cl_len]; kernel_rfl) (all_oneCell_toArray (cl_one _ _ _)), ⟨fun j hj => ?_, fun j hj => by rw [World.frozen?_setCells]; exact h.f j hj, by rw [size_cells]; exact h.l⟩, ⟨But.cells _ _ _, size_cells _ _ _ _, fun x hx => World.cell?_setCells_out _ _ _ _ _ (fun _ _ => by simpa [cl_len] using hx), fun x => World.frozen?_setCells _ _ _ _ _⟩⟩
  exact World.rangeAt_setCells_same W b o _ th' j _ (cl_at .u64 8 (wds q) j hj)

/-- What the drawn region of Settle does. -/
theorem wds_zero : Tryz.prog.built 182 [] = some (cl .u64 8 (wds fun _ => false)).toArray := by kernel_rfl
set_option maxRecDepth 100000 in
set_option maxHeartbeats 1000000 in
theorem fsettle_ok (W : World) (b n : Nat) (h : Nat → Nat) (s : SAt W b n h) (k : SOk n h) : Calls Tryz.prog 91 #[.pointer (some ⟨b, 0, none⟩)] W fun e w' => e = .returned (.int .i64 ((cnt h 2 n : Nat) : Int)) ∧ SAt w' b n (setl h) ∧ But b W w' := by
  have M := hidIt (smade_ok W b n h s)
  have E := hidIt (each_ok W b n h s)
  have B0 := hidIt (eachW_below W b n)
  have C : Hid (∀ x u, Below (eachW W b n).heap.size (eachW W b n) u → Calls Tryz.prog 150 #[eachV W.heap.size, .int .i64 ((x : Nat) : Int)] u fun e w' => e = .returned (.int .i64 ((cnt h x n : Nat) : Int)) ∧ Below u.heap.size u w') := fun x u hu =>
    count_ok u b n h W.heap.size x ((s.below B0.out).below hu) k ((eachW_mem W b n).below hu (by rw [eachW_size]; omega) (by rw [eachW_size]; omega)) (by have := hu.size; rw [eachW_size] at this; omega)
  have S := hidIt s
  clear s k
  generalize eachW W b n = W0 at *
  go_enter Tryz.func91, Tryz.ntmps91
  go_wp2_with (first
    | (go_at_call 149; refine M.out.mono ?_; rintro e w' ⟨rfl, hw⟩; subst w')
    | (go_at_call 104; refine E.out.mono ?_; rintro e w' ⟨rfl, hw⟩; subst w')
    | (go_at_call 150; refine (C.out 2 _ (Below.refl _ _)).mono ?_; rintro e w1 ⟨rfl, hb⟩; have B1 := hidIt (B0.out.trans (hb.mono B0.out.size)); clear hb))
  have S1 := hidIt ((S.out.below B1.out).below (Below.refl _ _).drew)
  refine wp_region_noPanic ?_
  refine wp_region_held_drew (S := fun _ => True) (by kernel_rfl) trivial (fun hHeld => ?_)
  have WW := hidIt fun (u : World) => wwith_ok (fr h) (gn h) u
  refine take_at (i := 0) (v := ?_) (some 10) rfl rfl (by kernel_rfl) (by kernel_rfl) (by kernel_rfl) (fun _ _ _ h => h) (Or.inl ⟨by rfl, ?_⟩) (by assumption) ?_
  rotate_left
  · (intro w hSw; go_simp; try with_reducible rfl)
  simp only [Act.put, List.setIfInBounds_toArray, List.set_cons_zero, List.set_cons_succ]
  refine take_at (i := 1) (v := ?_) (some 11) rfl rfl (by kernel_rfl) (by kernel_rfl) (by kernel_rfl) (fun _ _ _ h => h) (Or.inl ⟨by rfl, ?_⟩) (by assumption) ?_
  rotate_left
  · (intro w hSw; go_simp; try with_reducible rfl)
  simp only [Act.put, List.setIfInBounds_toArray, List.set_cons_zero, List.set_cons_succ]
  refine take_at (i := 2) (v := ?_) (some 12) rfl rfl (by kernel_rfl) (by kernel_rfl) (by kernel_rfl) (fun _ _ _ h => h) (Or.inl ⟨by rfl, ?_⟩) (by assumption) ?_
  rotate_left
  · (intro w hSw; go_simp; try with_reducible rfl)
  simp only [Act.put, List.setIfInBounds_toArray, List.set_cons_zero, List.set_cons_succ]
  refine take_at (i := 3) (v := ?_) (some 13) rfl rfl (by kernel_rfl) (by kernel_rfl) (by kernel_rfl) (fun _ _ _ h => h) (Or.inl ⟨by rfl, ?_⟩) (by assumption) ?_
  rotate_left
  · (intro w hSw; go_simp; try with_reducible rfl)
  simp only [Act.put, List.setIfInBounds_toArray, List.set_cons_zero, List.set_cons_succ]
  refine take_at (i := 4) (v := ?_) (some 14) rfl rfl (by kernel_rfl) (by kernel_rfl) (by kernel_rfl) (fun _ _ _ h => h) (Or.inl ⟨by rfl, ?_⟩) (by assumption) ?_
  rotate_left
  · (intro w hSw; go_simp; try with_reducible rfl)
  simp only [Act.put, List.setIfInBounds_toArray, List.set_cons_zero, List.set_cons_succ]
  refine take_at (i := 6) (v := ?_) (some 16) rfl rfl (by kernel_rfl) (by kernel_rfl) (by kernel_rfl) (fun _ _ _ h => h) (Or.inl ⟨by rfl, ?_⟩) (by assumption) ?_
  rotate_left
  · (intro w hSw; go_simp; try with_reducible rfl)
  simp only [Act.put, List.setIfInBounds_toArray, List.set_cons_zero, List.set_cons_succ]
  refine take_at (i := 7) (v := ?_) (some 17) rfl rfl (by kernel_rfl) (by kernel_rfl) (by kernel_rfl) (fun _ _ _ h => h) (Or.inl ⟨by rfl, ?_⟩) (by assumption) ?_
  rotate_left
  · (intro w hSw; go_simp; try with_reducible rfl)
  simp only [Act.put, List.setIfInBounds_toArray, List.set_cons_zero, List.set_cons_succ]
  refine take_at (i := 8) (v := ?_) (some 18) rfl rfl (by kernel_rfl) (by kernel_rfl) (by kernel_rfl) (fun _ _ _ h => h) (Or.inl ⟨by rfl, ?_⟩) (by assumption) ?_
  rotate_left
  · (intro w hSw; go_simp; try with_reducible rfl)
  simp only [Act.put, List.setIfInBounds_toArray, List.set_cons_zero, List.set_cons_succ]
  refine take_at (i := 11) (v := .agg (cl .u64 8 (wds fun _ => false)).toArray) (some 21) rfl rfl (by kernel_rfl) (by kernel_rfl) (by kernel_rfl) (fun _ _ _ h => h) (Or.inl ⟨by rfl, fun w _ => bld_run 182 #[] rfl _ (by simpa using wds_zero)⟩) (by assumption) ?_
  simp only [Act.put, List.setIfInBounds_toArray, List.set_cons_zero, List.set_cons_succ]
  refine pair_at (i := 5) (j := 9) (some 15) (some 19) rfl rfl rfl rfl (by kernel_rfl) (by rfl) (by rfl) _ _ _ _ (rowload_run 182 (.tmp 14) rfl b 2 (cl .u64 8 (wds (fr h))) rfl _ S1.out.fw.range Tryz.underlying182 rfl (by rw [cl_len]; kernel_rfl)) (rowload_run 182 (.tmp 18) rfl b 10 (cl .u64 8 (wds (gn h))) rfl _ S1.out.gw.range Tryz.underlying182 rfl (by rw [cl_len]; kernel_rfl)) ⟨trivial, trivial⟩ (fun hHeld => ?_) (fun hHeld => ?_)
  · simp only [Act.put, List.setIfInBounds_toArray, List.set_cons_zero, List.set_cons_succ]
    refine step_at (i := 9) (some 19) rfl rfl (by rfl) (by kernel_rfl) _ _ (rowload_run 182 (.tmp 18) rfl b 10 (cl .u64 8 (wds (gn h))) rfl _ S1.out.gw.range Tryz.underlying182 rfl (by rw [cl_len]; kernel_rfl)) trivial (fun hHeld => ?_)
    simp only [Act.put, List.setIfInBounds_toArray, List.set_cons_zero, List.set_cons_succ]
    refine call_at (i := 10) (some 20) 152 _ _ rfl rfl rfl (by rfl) (by kernel_rfl) #[.agg (cl .u64 8 (wds (fr h))).toArray, .agg (cl .u64 8 (wds (gn h))).toArray] rfl Tryz.func152 (by kernel_rfl) (by kernel_rfl) ?_
    refine (WW.out _).mono ?_
    rintro e w3 ⟨rfl, hb3⟩
    have S3 := hidIt (S1.out.below hb3)
    have B3 := hidIt hb3
    clear hb3
    refine ⟨_, rfl, trivial, fun hHeld => ?_⟩
    simp only [Act.put, List.setIfInBounds_toArray, List.set_cons_zero, List.set_cons_succ]
    refine take_at (i := 12) (v := ?_) (some 22) rfl rfl (by kernel_rfl) (by kernel_rfl) (by kernel_rfl) (fun _ _ _ h => h) (Or.inl ⟨by rfl, ?_⟩) (by assumption) ?_
    rotate_left
    · (intro w hSw; go_simp; try with_reducible rfl)
    simp only [Act.put, List.setIfInBounds_toArray, List.set_cons_zero, List.set_cons_succ]
    refine take_at (i := 13) (v := ?_) (some 23) rfl rfl (by kernel_rfl) (by kernel_rfl) (by kernel_rfl) (fun _ _ _ h => h) (Or.inl ⟨by rfl, ?_⟩) (by assumption) ?_
    rotate_left
    · (intro w hSw; go_simp; try with_reducible rfl)
    simp only [Act.put, List.setIfInBounds_toArray, List.set_cons_zero, List.set_cons_succ]
    obtain ⟨W4, hr4, A4, I4⟩ := S3.out.fw.store (fun i => fr h i || gn h i)
    refine mute_at (i := 14) none rfl rfl (by rfl) (by kernel_rfl) W4 (put_mute 182 (.tmp 23) (.tmp 20) rfl _ _ rfl rfl hr4) trivial (fun hHeld => ?_)
    simp only [Act.put]
    refine take_at (i := 15) (v := ?_) (some 24) rfl rfl (by kernel_rfl) (by kernel_rfl) (by kernel_rfl) (fun _ _ _ h => h) (Or.inl ⟨by rfl, ?_⟩) (by assumption) ?_
    rotate_left
    · (intro w hSw; go_simp; try with_reducible rfl)
    simp only [Act.put, List.setIfInBounds_toArray, List.set_cons_zero, List.set_cons_succ]
    refine take_at (i := 16) (v := ?_) (some 25) rfl rfl (by kernel_rfl) (by kernel_rfl) (by kernel_rfl) (fun _ _ _ h => h) (Or.inl ⟨by rfl, ?_⟩) (by assumption) ?_
    rotate_left
    · (intro w hSw; go_simp; try with_reducible rfl)
    simp only [Act.put, List.setIfInBounds_toArray, List.set_cons_zero, List.set_cons_succ]
    obtain ⟨W5, hr5, A5, I5⟩ := (S3.out.gw.in I4 (by omega)).store (fun _ => false)
    refine mute_at (i := 17) none rfl rfl (by rfl) (by kernel_rfl) W5 (put_mute 182 (.tmp 25) (.tmp 21) rfl _ _ rfl rfl hr5) trivial (fun hHeld => ?_)
    simp only [Act.put]
    refine wpAnyH_done (by kernel_rfl) ?_ _
    refine NoPanic.normal ?_
    have FIN : Hid (SAt W5 b n (setl h) ∧ But b W W5) := by
      refine ⟨⟨?_, ?_, ?_, ?_⟩, ?_⟩
      · rw [I5.c 0 (by omega), I4.c 0 (by omega)]; exact S3.out.c0
      · rw [I5.c 1 (by omega), I4.c 1 (by omega)]; exact S3.out.c1
      · rw [← setl_fr]; exact A4.in I5 (by omega)
      · rw [← setl_gn]; exact A5
      · exact (But.of (B1.out.drew.trans (B3.out.mono B1.out.size))).trans (I4.but.trans I5.but)
    clear A4 I4 A5 I5 hr4 hr5
    go_wp2
    go_ret
    exact ⟨rfl, FIN.out⟩
  · simp only [Act.put, List.setIfInBounds_toArray, List.set_cons_zero, List.set_cons_succ]
    refine step_at (i := 5) (some 15) rfl rfl (by rfl) (by kernel_rfl) _ _ (rowload_run 182 (.tmp 14) rfl b 2 (cl .u64 8 (wds (fr h))) rfl _ S1.out.fw.range Tryz.underlying182 rfl (by rw [cl_len]; kernel_rfl)) trivial (fun hHeld => ?_)
    simp only [Act.put, List.setIfInBounds_toArray, List.set_cons_zero, List.set_cons_succ]
    refine call_at (i := 10) (some 20) 152 _ _ rfl rfl rfl (by rfl) (by kernel_rfl) #[.agg (cl .u64 8 (wds (fr h))).toArray, .agg (cl .u64 8 (wds (gn h))).toArray] rfl Tryz.func152 (by kernel_rfl) (by kernel_rfl) ?_
    refine (WW.out _).mono ?_
    rintro e w3 ⟨rfl, hb3⟩
    have S3 := hidIt (S1.out.below hb3)
    have B3 := hidIt hb3
    clear hb3
    refine ⟨_, rfl, trivial, fun hHeld => ?_⟩
    simp only [Act.put, List.setIfInBounds_toArray, List.set_cons_zero, List.set_cons_succ]
    refine take_at (i := 12) (v := ?_) (some 22) rfl rfl (by kernel_rfl) (by kernel_rfl) (by kernel_rfl) (fun _ _ _ h => h) (Or.inl ⟨by rfl, ?_⟩) (by assumption) ?_
    rotate_left
    · (intro w hSw; go_simp; try with_reducible rfl)
    simp only [Act.put, List.setIfInBounds_toArray, List.set_cons_zero, List.set_cons_succ]
    refine take_at (i := 13) (v := ?_) (some 23) rfl rfl (by kernel_rfl) (by kernel_rfl) (by kernel_rfl) (fun _ _ _ h => h) (Or.inl ⟨by rfl, ?_⟩) (by assumption) ?_
    rotate_left
    · (intro w hSw; go_simp; try with_reducible rfl)
    simp only [Act.put, List.setIfInBounds_toArray, List.set_cons_zero, List.set_cons_succ]
    obtain ⟨W4, hr4, A4, I4⟩ := S3.out.fw.store (fun i => fr h i || gn h i)
    refine mute_at (i := 14) none rfl rfl (by rfl) (by kernel_rfl) W4 (put_mute 182 (.tmp 23) (.tmp 20) rfl _ _ rfl rfl hr4) trivial (fun hHeld => ?_)
    simp only [Act.put]
    refine take_at (i := 15) (v := ?_) (some 24) rfl rfl (by kernel_rfl) (by kernel_rfl) (by kernel_rfl) (fun _ _ _ h => h) (Or.inl ⟨by rfl, ?_⟩) (by assumption) ?_
    rotate_left
    · (intro w hSw; go_simp; try with_reducible rfl)
    simp only [Act.put, List.setIfInBounds_toArray, List.set_cons_zero, List.set_cons_succ]
    refine take_at (i := 16) (v := ?_) (some 25) rfl rfl (by kernel_rfl) (by kernel_rfl) (by kernel_rfl) (fun _ _ _ h => h) (Or.inl ⟨by rfl, ?_⟩) (by assumption) ?_
    rotate_left
    · (intro w hSw; go_simp; try with_reducible rfl)
    simp only [Act.put, List.setIfInBounds_toArray, List.set_cons_zero, List.set_cons_succ]
    obtain ⟨W5, hr5, A5, I5⟩ := (S3.out.gw.in I4 (by omega)).store (fun _ => false)
    refine mute_at (i := 17) none rfl rfl (by rfl) (by kernel_rfl) W5 (put_mute 182 (.tmp 25) (.tmp 21) rfl _ _ rfl rfl hr5) trivial (fun hHeld => ?_)
    simp only [Act.put]
    refine wpAnyH_done (by kernel_rfl) ?_ _
    refine NoPanic.normal ?_
    have FIN : Hid (SAt W5 b n (setl h) ∧ But b W W5) := by
      refine ⟨⟨?_, ?_, ?_, ?_⟩, ?_⟩
      · rw [I5.c 0 (by omega), I4.c 0 (by omega)]; exact S3.out.c0
      · rw [I5.c 1 (by omega), I4.c 1 (by omega)]; exact S3.out.c1
      · rw [← setl_fr]; exact A4.in I5 (by omega)
      · rw [← setl_gn]; exact A5
      · exact (But.of (B1.out.drew.trans (B3.out.mono B1.out.size))).trans (I4.but.trans I5.but)
    clear A4 I4 A5 I5 hr4 hr5
    go_wp2
    go_ret
    exact ⟨rfl, FIN.out⟩
/-- A set's cells. -/
def csS (x : Option Addr) (n : Nat) (h : Nat → Nat) : List Value := .pointer x :: .int .i64 (n : Int) :: (cl .u64 8 (wds (fr h)) ++ cl .u64 8 (wds (gn h)))
theorem csS_len (x : Option Addr) (n : Nat) (h : Nat → Nat) : (csS x n h).length = 18 := by simp [csS, cl_len]
theorem csS_one (x : Option Addr) (n : Nat) (h : Nat → Nat) : ∀ v ∈ csS x n h, v.oneCell' = true := by
  intro v hv
  unfold csS at hv
  rw [List.mem_cons, List.mem_cons, List.mem_append] at hv
  rcases hv with rfl | rfl | hv | hv
  · rfl
  · rfl
  · exact cl_one _ _ _ v hv
  · exact cl_one _ _ _ v hv
theorem csS_0 (x : Option Addr) (n : Nat) (h : Nat → Nat) : (csS x n h)[0]? = some (.pointer x) := rfl
theorem csS_1 (x : Option Addr) (n : Nat) (h : Nat → Nat) : (csS x n h)[1]? = some (.int .i64 (n : Int)) := rfl
theorem csS_fw (x : Option Addr) (n : Nat) (h : Nat → Nat) (j : Nat) (hj : j < 8) : (csS x n h)[2 + j]? = some (.int .u64 (wds (fr h) j)) := by
  rw [Nat.add_comm]
  unfold csS
  rw [List.getElem?_cons_succ, List.getElem?_cons_succ]
  rw [List.getElem?_append_left (by rw [cl_len]; exact hj), cl_at _ _ _ _ hj]
theorem csS_gw (x : Option Addr) (n : Nat) (h : Nat → Nat) (j : Nat) (hj : j < 8) : (csS x n h)[10 + j]? = some (.int .u64 (wds (gn h) j)) := by
  rw [show 10 + j = j + 8 + 1 + 1 by omega]
  unfold csS
  rw [List.getElem?_cons_succ, List.getElem?_cons_succ]
  rw [List.getElem?_append_right (by rw [cl_len]; omega), cl_len, Nat.add_sub_cancel, cl_at _ _ _ _ hj]
theorem SAt.range {W : World} {b n : Nat} {h : Nat → Nat} (s : SAt W b n h) : W.rangeAt b 0 (csS (some ⟨b, 0, none⟩) n h) := fun j v hj => by
  rw [Nat.zero_add]
  have hl : j < 18 := by
    rcases Nat.lt_or_ge j 18 with q | q
    · exact q
    · rw [List.getElem?_eq_none (by rw [csS_len]; exact q)] at hj; cases hj
  have fin : ∀ u, (csS (some ⟨b, 0, none⟩) n h)[j]? = some u → W.cell? ⟨b, j, none⟩ = some u → W.cell? ⟨b, j, none⟩ = some v := fun u h1 h2 => by
    rw [h1] at hj
    rw [h2, hj]
  by_cases e0 : j = 0
  · subst e0
    exact fin _ (csS_0 _ _ _) s.c0
  by_cases e1 : j = 1
  · subst e1
    exact fin _ (csS_1 _ _ _) s.c1
  by_cases e : j < 10
  · obtain ⟨i, rfl⟩ : ∃ i, j = 2 + i := ⟨j - 2, by omega⟩
    exact fin _ (csS_fw _ n h i (by omega)) (s.fw.c i (by omega))
  · obtain ⟨i, rfl⟩ : ∃ i, j = 10 + i := ⟨j - 10, by omega⟩
    exact fin _ (csS_gw _ n h i (by omega)) (s.gw.c i (by omega))
/-- A set whose own address is stored. -/
theorem SAt.of {W : World} {b n : Nat} {h : Nat → Nat} {x : Option Addr} (r : Rec19 W b 0 (csS x n h)) : SAt (W.setCell ⟨b, 0, none⟩ (.pointer (some ⟨b, 0, none⟩))) b n h := by
  have fz : ∀ j, j < 18 → W.frozen? ⟨b, j, none⟩ = false := fun j hj => by have := (r.2.1 j (by rw [csS_len]; exact hj)).2; rwa [Nat.zero_add] at this
  have cc : ∀ j v, (csS x n h)[j]? = some v → j ≠ 0 → (W.setCell ⟨b, 0, none⟩ (.pointer (some ⟨b, 0, none⟩))).cell? ⟨b, j, none⟩ = some v := fun j v hj h0 => by
    rw [World.cell?_setCell_other _ (a := ⟨b, 0, none⟩) (b := ⟨b, j, none⟩) _ (fun q => h0 (by injection q with _ q; exact q.symm))]
    have := r.1 j v hj
    rwa [Nat.zero_add] at this
  have l : b < (W.setCell ⟨b, 0, none⟩ (.pointer (some ⟨b, 0, none⟩))).heap.size := by simp [World.setCell]; exact r.2.2
  have c0 := r.1 0 _ (csS_0 x n h)
  refine ⟨by rw [World.cell?_setCell_same' _ _ _ (by rw [show (⟨b, 0, none⟩ : Addr) = ⟨b, 0 + 0, none⟩ from rfl, c0]; rfl)], cc 1 _ (csS_1 x n h) (by omega), ⟨fun j hj => cc _ _ (csS_fw x n h j hj) (by omega), fun j hj => by simp [fz (2 + j) (by omega)], l⟩, ⟨fun j hj => cc _ _ (csS_gw x n h j hj) (by omega), fun j hj => by simp [fz (10 + j) (by omega)], l⟩⟩
theorem wpList_alloc_rc {ops : Array Oper} {rest : List Oper} {op : Oper} {a : Act} {w : World} {Q : Exit → Act → World → Prop} (hgd : op.guard = none) (ty : TypeId) (ho : op.op = .alloc ty) (cs : List Value) (H : Nat) (hH : w.heap.size = H)
    (hz : (Tryz.prog.info? ty).bind (·.zero) = some (.agg cs.toArray))
    (hK : ∀ W, Rec19 W H 0 cs → Below H w W → W.heap.size = H + 1 → wpList Tryz.prog ops Q rest (a.put op.dst (.pointer (some ⟨H, 0, none⟩))) W) : wpList Tryz.prog ops Q (op :: rest) a w := by
  subst hH
  refine wpList_plain hgd fun K hK' => ?_
  unfold Oper.wp execOp
  cases hi : Tryz.prog.info? ty with
  | none => simp [hi] at hz
  | some i =>
    have hz' : i.zero = some (.agg cs.toArray) := by simpa [hi] using hz
    simp only [ho]
    simp [Instr.alloc, zeroValue, typeInfo, hi, hz', newVar, newRow, Value.cells, Result.andThen]
    exact hK' _ _ (hK _ (Rec19.new w ty cs) ((Below.refl _ _).alloc (Nat.le_refl _) _) (by simp))
theorem zeroSet : (Tryz.prog.info? 184).bind (·.zero) = some (.agg (csS none 0 fun _ => 1).toArray) := by kernel_rfl
set_option maxRecDepth 100000 in
theorem clone_ok (W : World) (b n : Nat) (h : Nat → Nat) (s : SAt W b n h) : Calls Tryz.prog 120 #[.pointer (some ⟨b, 0, none⟩)] W fun e w' => e = .returned (.pointer (some ⟨W.heap.size, 0, none⟩)) ∧ SAt w' W.heap.size n h ∧ Below W.heap.size W w' := by
  have M := hidIt (smade_ok W b n h s)
  have R := hidIt s.range
  clear s
  go_enter Tryz.func120, Tryz.ntmps120
  go_wp2_with (first
    | (go_at_call 149; refine M.out.mono ?_; rintro e w' ⟨rfl, hw⟩; subst w')
    | (refine wpList_load_mid (P := Tryz.prog) rfl 184 (.tmp 8) rfl b 0 rfl (csS (some ⟨b, 0, none⟩) n h) _ R.out Tryz.underlying184 rfl (by rw [csS_len]; kernel_rfl) ?_)
    | (refine wpList_alloc_rc rfl 184 rfl (csS none 0 fun _ => 1) W.heap.size rfl zeroSet ?_; intro W1 R1 B1 z1)
    | (refine wpList_store_rec rfl 184 (.tmp 3) (.tmp 9) rfl W.heap.size 0 _ (csS (some ⟨b, 0, none⟩) n h) rfl rfl R1 (by rw [csS_len, csS_len]) (by rw [csS_len]; kernel_rfl) (csS_one _ _ _) ?_; intro W2 R2 B2
       have c0 : W2.cell? ⟨W.heap.size, 0, none⟩ = some (.pointer (some ⟨b, 0, none⟩)) := R2.1 0 _ (csS_0 _ _ _)
       have f0 : W2.frozen? ⟨W.heap.size, 0, none⟩ = false := (R2.2.1 0 (by rw [csS_len]; omega)).2
       have F := hidIt (And.intro (SAt.of R2) (B1.trans (B2.below (Nat.le_refl _) (by omega))))
       clear R1 R2 B1 B2 z1))
  go_ret
  exact ⟨rfl, F.out.1, F.out.2.trans ((But.set _ _ _).below (Nat.le_refl _) F.out.2.size)⟩
end Go.Proofs.YtblphlcnbnklmaaGreatDoor
namespace Go.Proofs.YtblphlcnbnklmaaGreatDoor
open Go.RowKit Go.Shelf
attribute [local go_sem] Oper.semAt_some
section
variable {F : Fence} {n : Nat} {ops : Array Oper} {rest : List Oper} {o : Oper} {a : Act} {w w' : World} {Q : Exit → Act → World → Prop}
/-- An operation in a fence, its run known. -/
theorem fen_run (hg : o.guard = none) (hd : ∀ c, o.op ≠ .defer c) (ha : o.about Tryz.prog w a.eval = none) (v : Value) (hx : (execOp a.eval o).run Tryz.prog w = .ok (.value v) w') (hK : wpListIn F n Tryz.prog ops Q rest (a.put o.dst v) w') : wpListIn F n Tryz.prog ops Q (o :: rest) a w := by
  refine wpListIn_plain hg fun K hK' => ?_
  unfold Oper.wpIn
  refine ⟨fun f hf => (by rw [ha] at hf; cases hf), ?_⟩
  rw [Oper.semAt_plain F _ _ hd, hx]
  exact hK' _ _ hK
theorem fen_mute (hg : o.guard = none) (hd : ∀ c, o.op ≠ .defer c) (ha : o.about Tryz.prog w a.eval = none) (hx : (execOp a.eval o).run Tryz.prog w = .ok .skip w') (hK : wpListIn F n Tryz.prog ops Q rest (a.put o.dst undef) w') : wpListIn F n Tryz.prog ops Q (o :: rest) a w := by
  refine wpListIn_plain hg fun K hK' => ?_
  unfold Oper.wpIn
  refine ⟨fun f hf => (by rw [ha] at hf; cases hf), ?_⟩
  rw [Oper.semAt_plain F _ _ hd, hx]
  exact hK' _ _ hK
/-- A struct is boxed. -/
theorem fen_box (hg : o.guard = none) (ty : TypeId) (x : Operand) (ho : o.op = .box ty x) (cs : List Value) (H : Nat) (hH : w.heap.size = H) (hx : a.eval x = .agg cs.toArray)
    (hK : ∀ W, Rec19 W H 0 cs → Below H w W → W.heap.size = H + 1 → wpListIn F n Tryz.prog ops Q rest (a.put o.dst (.pointer (some ⟨H, 0, none⟩))) W) : wpListIn F n Tryz.prog ops Q (o :: rest) a w := by
  subst hH
  refine fen_run hg (by rw [ho]; intro c hc; cases hc) (by simp [Oper.about, ho]) (.pointer (some ⟨w.heap.size, 0, none⟩)) (w' := w.alloc (.cells cs.toArray ty)) ?_ (hK _ (Rec19.new w ty cs) ((Below.refl _ _).alloc (Nat.le_refl _) _) (by simp))
  unfold execOp
  simp only [ho, hx]
  simp [Instr.box, newVar, newRow, Value.cells, Result.andThen]
/-- A whole array or struct is loaded. -/
theorem fen_load (hg : o.guard = none) (ty : TypeId) (x : Operand) (ho : o.op = .load ty x)
    (b off : Nat) (cs : List Value) (hx : a.eval x = .pointer (some ⟨b, off, none⟩)) (d : TypeDesc) (hr : w.rangeAt b off cs) (hu : Tryz.prog.underlying ty = some d) (hd : d.isRow = true) (hi : (Tryz.prog.info? ty).map (·.size) = some cs.length)
    (hK : wpListIn F n Tryz.prog ops Q rest (a.put o.dst (.agg cs.toArray)) w) : wpListIn F n Tryz.prog ops Q (o :: rest) a w :=
  fen_run hg (by rw [ho]; intro c hc; cases hc) (by simp [Oper.about, ho]) _ (rowload_run ty x ho b off cs hx d hr hu hd hi) hK
/-- A struct is built. -/
theorem fen_build (hg : o.guard = none) (t : TypeId) (parts : Array (Nat × Operand)) (ho : o.op = .build t parts) (cells : Array Value) (hf : Tryz.prog.built t (parts.map fun (i, x) => (i, a.eval x)).toList = some cells)
    (hK : wpListIn F n Tryz.prog ops Q rest (a.put o.dst (.agg cells)) w) : wpListIn F n Tryz.prog ops Q (o :: rest) a w :=
  fen_run hg (by rw [ho]; intro c hc; cases hc) (by simp [Oper.about, ho]) _ (bld_run t parts ho cells hf) hK
end
end Go.Proofs.YtblphlcnbnklmaaGreatDoor
namespace Go.Proofs.YtblphlcnbnklmaaGreatDoor
open Go.RowKit Go.Shelf
attribute [local go_sem] Oper.semAt_some
theorem new_er (W : World) (x : Int) (h : x < 1 ∨ 512 < x) : Calls Tryz.prog 60 #[.int .i64 x] W fun e w' => e = .returned (.tuple #[.pointer none, .int .i64 5]) ∧ w' = W := by
  by_cases h1 : x < 1
  · clear h
    go_enter Tryz.func60, Tryz.ntmps60
    go_wp2
    go_ret2
    exact ⟨rfl, rfl⟩
  · have h2 : 512 < x := by omega
    clear h
    go_enter Tryz.func60, Tryz.ntmps60
    go_wp2
    go_ret2
    exact ⟨rfl, rfl⟩
/-- The first k are free, the others are not there yet. -/
def iniH (k i : Nat) : Nat := if i < k then 0 else 1
theorem ini_sok (n : Nat) (h1 : 1 ≤ n) (h2 : n ≤ 512) : SOk n (iniH n) := ⟨h1, h2, fun i hi => by unfold iniH; rw [if_neg (by omega)], fun i => by unfold iniH; split <;> omega⟩
theorem ini_step (k : Nat) : setH (iniH k) k 0 = iniH (k + 1) := by
  funext j
  unfold setH iniH putS
  by_cases e : j = k
  · subst e; rw [if_pos rfl, if_pos rfl, if_pos (by omega)]
  · rw [if_neg e]
    by_cases e2 : j < k
    · rw [if_pos e2, if_pos (by omega)]
    · rw [if_neg e2, if_neg (by omega)]
theorem built_set (n : Nat) : Tryz.prog.built 184 [(1, .int .i64 (n : Int))] = some (csS none n fun _ => 1).toArray := by kernel_rfl
structure NewI (W : World) (n k : Nat) (X : World) : Prop where
  m : ThrMem (W.heap.size + 2) (W.heap.size + 3) n (howV W.heap.size) X
  s : SAt X W.heap.size n (iniH k)
  c : X.cell? ⟨W.heap.size + 1, 0, none⟩ = some (.pointer (some ⟨W.heap.size, 0, none⟩))
  b : Below W.heap.size W X
  z : W.heap.size + 4 ≤ X.heap.size
theorem NewI.below {W X X' : World} {n k : Nat} (i : NewI W n k X) (hb : Below (W.heap.size + 4) X X') : NewI W n k X' :=
  ⟨i.m.below hb (by omega) (by omega), i.s.belowB hb (by omega), (hb.cell (p := ⟨W.heap.size + 1, 0, none⟩) (by show W.heap.size + 1 < _; omega)).trans i.c, i.b.trans (hb.mono (by omega)), Nat.le_trans i.z hb.size⟩
set_option maxRecDepth 100000 in
set_option maxHeartbeats 1000000 in
theorem fnew_ok (W : World) (n : Nat) (h1 : 1 ≤ n) (h2 : n ≤ 512) : Calls Tryz.prog 60 #[.int .i64 (n : Int)] W fun e w' => e = .returned (.tuple #[.pointer (some ⟨W.heap.size, 0, none⟩), .int .i64 0]) ∧ SAt w' W.heap.size n (iniH n) ∧ Below W.heap.size W w' := by
  refine (callsIn_wide (n := 5)).1 ?_
  have i1 : ¬ (n : Int) < 1 := by omega
  have i2 : ¬ 512 < (n : Int) := by omega
  refine callsIn_of_wp_marks Tryz.func60 rfl trivial ?_ rfl
  simp only [Tryz.ntmps60, List.size_toArray, List.length_cons, List.length_nil, Nat.reduceAdd, Nat.reduceSub, Array.replicate_succ, Array.replicate_zero, List.push_toArray, List.append_toArray, List.nil_append, List.cons_append]
  gi_wp2_with (first
    | (refine fen_build rfl 184 #[(1, .tmp 12)] rfl (csS none n fun _ => 1).toArray (built_set n) ?_)
    | (refine fen_box rfl 184 (.tmp 13) rfl (csS none n fun _ => 1) W.heap.size rfl rfl ?_; intro W1 R1 B1 z1
       have c0 : W1.cell? ⟨W.heap.size, 0, none⟩ = some (.pointer none) := R1.1 0 _ (csS_0 _ _ _)
       have f0 : W1.frozen? ⟨W.heap.size, 0, none⟩ = false := (R1.2.1 0 (by rw [csS_len]; omega)).2
       have S1 := hidIt (And.intro (SAt.of R1) B1)
       clear R1 B1))
  refine ⟨trivial, ?_⟩
  have S2 := hidIt (S1.out.1.below ((Below.refl _ _).alloc (Nat.le_refl _) (.cells #[.pointer (some ⟨W.heap.size, 0, none⟩)] 65)))
  have B2 : Hid (Below W.heap.size W ((W1.setCell ⟨W.heap.size, 0, none⟩ (.pointer (some ⟨W.heap.size, 0, none⟩))).alloc (.cells #[.pointer (some ⟨W.heap.size, 0, none⟩)] 65))) := (S1.out.2.trans ((But.set _ _ _).below (Nat.le_refl _) (by omega))).alloc (by simp; omega) _
  have z2 : ((W1.setCell ⟨W.heap.size, 0, none⟩ (.pointer (some ⟨W.heap.size, 0, none⟩))).alloc (.cells #[.pointer (some ⟨W.heap.size, 0, none⟩)] 65)).heap.size = W.heap.size + 2 := by simp [z1]
  have c2 : ((W1.setCell ⟨W.heap.size, 0, none⟩ (.pointer (some ⟨W.heap.size, 0, none⟩))).alloc (.cells #[.pointer (some ⟨W.heap.size, 0, none⟩)] 65)).cell? ⟨W.heap.size + 1, 0, none⟩ = some (.pointer (some ⟨W.heap.size, 0, none⟩)) := by
    rw [World.cell?_alloc_at _ _ _ _ (by simp [z1])]
    rfl
  clear S1 c0 f0 z1
  generalize ((W1.setCell ⟨W.heap.size, 0, none⟩ (.pointer (some ⟨W.heap.size, 0, none⟩))).alloc (.cells #[.pointer (some ⟨W.heap.size, 0, none⟩)] 65)) = W2 at S2 B2 z2 c2 ⊢
  refine CallsIn.mono ((callsIn_wide (n := _)).2 (each_ok W2 W.heap.size n _ S2.out)) ?_
  rintro e w' ⟨rfl, rfl⟩
  have I0 : NewI W n 0 (eachW W2 W.heap.size n) := ⟨by have := eachW_mem W2 W.heap.size n; rw [z2] at this; exact this, S2.out.below (eachW_below _ _ _), ((eachW_below W2 W.heap.size n).cell (p := ⟨W.heap.size + 1, 0, none⟩) (by show W.heap.size + 1 < _; omega)).trans c2, B2.out.trans ((eachW_below _ _ _).mono (by omega)), by rw [eachW_size]; omega⟩
  have z3 : (eachW W2 W.heap.size n).heap.size = W.heap.size + 4 := by rw [eachW_size]; omega
  rw [z2]
  generalize eachW W2 W.heap.size n = W3 at I0 z3 ⊢
  clear c2 S2 B2 z2
  gi_wp2
  refine range_thr (m := 5) 21 22 (by omega) (W.heap.size + 2) (W.heap.size + 3) n h2 165 (fun _ _ => by simp [go_sem]) [.pointer (some ⟨W.heap.size, 0, none⟩)] [] (fun _ => 1) rfl (NewI W n) (fun k X X' i hB => i.below (by rw [← z3]; exact hB)) (fun k X i => by rw [z3]; exact i.z) I0 (fun k X i => i.m) (fun k X hk i => (how_ok X W.heap.size n (iniH k) k (by omega) (by simp [iniH]) i.s).mono fun e w' q => ⟨by rw [q.1]; simp [iniH], q.2.1⟩) ?_ ?_
  · intro l k X hk hI hl1 hl2
    have i0 : Hid (∀ X', But l X X' → NewI W n k X') := fun X' hB => hI.below (hB.below (by omega) hI.z)
    clear hI I0
    rw [z3] at hl1 ⊢
    simp only [List.setIfInBounds_toArray, List.set_cons_zero, List.set_cons_succ]
    gi_wp2
    refine ⟨KeepsFrom.refl _ _, fun X2 hB2 hz2 => ?_⟩
    have I2 := hidIt (i0.out X2 hB2)
    have c1 := I2.out.c
    clear i0 hB2 hz2
    gi_wp2
    refine ⟨trivial, ?_⟩
    refine (CallsIn.inRound l ((callsIn_wide (n := _)).2 (sput_ok X2 W.heap.size n (iniH k) k 0 (by omega) I2.out.s))).mono ?_
    rintro e X3 ⟨rfl, q1, q2, q3⟩
    rw [ini_step] at q1
    have F : Hid (NewI W n (k + 1) X3 ∧ KeepsFrom (W.heap.size + 4) X2 X3) := by
      have i := I2.out
      have nm : ∀ (p : Nat), p < X2.heap.size → p ≠ W.heap.size → ∀ o, X3.cell? ⟨p, o, none⟩ = X2.cell? ⟨p, o, none⟩ := fun p hp hn o => q2.cell (p := ⟨p, o, none⟩) hp hn
      have zz := i.z
      exact ⟨⟨⟨(nm _ (by omega) (by omega) _).trans i.m.cn, (nm _ (by omega) (by omega) _).trans i.m.ch⟩, q1, (nm _ (by omega) (by omega) _).trans i.c, i.b.trans (q2.below (Nat.le_refl _) (by omega)), by rw [q3]; exact zz⟩, keeps_but q2 (by omega)⟩
    clear q1 q2 q3 I2 c1
    gi_wp2
    exact ⟨F.out.2, F.out.1⟩
  · intro D X hD hI hd
    have c1 := hI.c
    have E := hidIt hI
    rw [z3] at hD
    clear hI I0
    gi_wp2
    refine And.intro (by simp) (Or.inl ⟨_, _, rfl, run_takeDeferred hd, ?_⟩)
    refine ⟨.tuple #[.pointer (some ⟨W.heap.size, 0, none⟩), .int .i64 0], by simp [results, Tryz.results60, go_sem], rfl, ?_⟩
    have U : But D X (X.putObj D (.deferred none)) := But.putO _ _ _
    exact ⟨E.out.s.but U (by omega), E.out.b.trans (U.below (by omega) E.out.b.size)⟩
end Go.Proofs.YtblphlcnbnklmaaGreatDoor
