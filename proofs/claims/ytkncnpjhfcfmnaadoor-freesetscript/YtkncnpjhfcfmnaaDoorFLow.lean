/-
  Walks, not a claim by itself: the lowest bit of words, and the bits of both. By the verifier.
-/
import Derived.Test.YtkncnpjhfcfmnaaDoorFWord
namespace Go.Proofs.YtkncnpjhfcfmnaaDoor
open Go.RowKit
/-- The library's table. -/
def DTab (W : World) : Prop := ∀ j, j < 64 → W.cell? ⟨0, j, none⟩ = some (.int .u8 ((Lib.deBruijn64tab.getD j 0 : Nat) : Int))
theorem tz_key (x a : Nat) (hx : x < 18446744073709551616) (hx0 : x ≠ 0) (hlow : x &&& (18446744073709551616 - x) = a) :
    IntKind.u64.wrap (bits BinOp.and IntKind.u64 (x : Int) (IntKind.u64.wrap (-(x : Int))) * 285870213051353865) / 288230376151711744 = ((a * 285870213051353865 % 18446744073709551616 / 288230376151711744 : Nat) : Int) := by
  have e1 : IntKind.u64.wrap (-(x : Int)) = ((18446744073709551616 - x : Nat) : Int) := by rw [IntKind.wrap_u64]; omega
  rw [e1, u64_and_nat x _ hx (by omega), hlow, IntKind.wrap_u64]
  omega
set_option maxHeartbeats 1000000 in
theorem tz_core (x k idx : Nat) (w : World) (hx0 : ((x : Int) == 0) = false)
    (key : IntKind.u64.wrap (bits BinOp.and IntKind.u64 (x : Int) (IntKind.u64.wrap (-(x : Int))) * 285870213051353865) / 288230376151711744 = (idx : Int))
    (hi : idx < 64) (hk : k < 64) (hcell : w.cell? ⟨0, idx, none⟩ = some (.int .u8 k)) :
    Calls Tryd.prog 54 #[.int .u64 x] w fun e w' => e = .returned (.int .i64 k) ∧ w' = w := by
  go_enter Tryd.func54, Tryd.ntmps54
  go_wp2_with (simp only [key])
  go_ret
  exact ⟨rfl, rfl⟩
theorem tz_ok (x : Nat) (hx : x < 18446744073709551616) (hx0 : x ≠ 0) (w : World) (hT : DTab w) :
    Calls Tryd.prog 54 #[.int .u64 x] w fun e w' => e = .returned (.int .i64 ((Lib.ctz 64 x : Nat) : Int)) ∧ w' = w := by
  obtain ⟨hlow, hk⟩ := Lib.lowest_bit 64 x hx0 hx
  obtain ⟨hi, htab⟩ := Lib.deBruijn64_at _ hk
  refine tz_core x _ _ w (by simpa using hx0) (tz_key x _ hx hx0 hlow) hi hk ?_
  rw [hT _ hi, htab]
/-- The lowest place from k on (n: none before that). -/
def lowFrom (p : Nat → Bool) : Nat → Nat → Option Nat
  | _, 0 => none
  | k, n + 1 => if p k then some k else lowFrom p (k + 1) n
theorem low_some (p : Nat → Bool) (i : Nat) (hp : p i = true) : ∀ n k, k ≤ i → i < k + n → (∀ j, k ≤ j → j < i → p j = false) → lowFrom p k n = some i
  | 0, k, h1, h2, _ => by omega
  | n + 1, k, h1, h2, h3 => by
    unfold lowFrom
    by_cases e : k = i
    · subst e
      rw [if_pos hp]
    · rw [if_neg (by rw [h3 k (Nat.le_refl _) (by omega)]; simp)]
      exact low_some p i hp n (k + 1) (by omega) (by omega) fun j hj hi => h3 j (by omega) hi
theorem low_none (p : Nat → Bool) : ∀ n k, (∀ j, k ≤ j → j < k + n → p j = false) → lowFrom p k n = none
  | 0, k, _ => rfl
  | n + 1, k, h => by
    unfold lowFrom
    rw [if_neg (by rw [h k (Nat.le_refl _) (by omega)]; simp)]
    exact low_none p n (k + 1) fun j hj hi => h j (by omega) (by omega)
/-- The lowest bit of all. -/
def low (p : Nat → Bool) : Option Nat := lowFrom p 0 512
def lowV (o : Option Nat) : Value := match o with
  | some i => .tuple #[.int .i64 ((i : Int) + 1), .bool true]
  | none => .tuple #[.int .i64 0, .bool false]
set_option maxRecDepth 100000 in
set_option maxHeartbeats 1000000 in
theorem wlowest_ok (b o : Nat) (p : Nat → Bool) (W : World) (h : WAt W b o p) (hT : DTab W) : Calls Tryd.prog 44 #[.pointer (some ⟨b, o, none⟩)] W fun e w' => e = .returned (lowV (low p)) ∧ Below W.heap.size W w' := by
  have H := hidIt h
  have T := hidIt hT
  clear h hT
  go_enter Tryd.func44, Tryd.ntmps44
  go_wp2
  go_loopw [7] (fun i wr => ∃ k : Nat, k ≤ 8 ∧ i = .int .i64 (k : Int) ∧ Below W.heap.size W wr ∧ ∀ j, j < 64 * k → p j = false) (fun i _ => 8 - (RowKit.intOf i).toNat)
  case atStart => exact ⟨0, Nat.zero_le _, rfl, Below.refl _ _, fun j hj => by omega⟩
  case round =>
    obtain ⟨k, hk, rfl, hB, hz⟩ := hrel
    have Z := hidIt hz
    have B := hidIt hB
    clear hz hB
    by_cases hlt : k < 8
    · have i0 : (k : Int) < 8 := by omega
      have i1 : (0 : Int) ≤ (k : Int) := by omega
      have c1 : wr.drew.cell? ⟨b, o + k, none⟩ = some (.int .u64 ((wd p k : Nat) : Int)) := (H.out.below B.out).c k hlt
      by_cases hw : wd p k = 0
      · rw [hw] at c1
        go_wp2
        go_region
        all_goals go_wp2
        have Z2 : ∀ j, j < 64 * (k + 1) → p j = false := fun j hj => by
          by_cases e : j < 64 * k
          · exact Z.out j e
          · rw [wd_zero] at hw
            have := hw (j - 64 * k) (by omega)
            rwa [show 64 * k + (j - 64 * k) = j by omega] at this
        exact ⟨⟨k + 1, by omega, by simp, B.out.drew, Z2⟩, by simp [RowKit.intOf]; omega⟩
      · obtain ⟨l1, l2, l3⟩ := wd_low p k hw
        have TZ := hidIt (tz_ok (wd p k) (wd_lt p k) hw wr.drew (fun j hj => (B.out.cell (p := ⟨0, j, none⟩) (Nat.lt_of_le_of_lt (Nat.zero_le _) H.out.l)).trans (T.out j hj)))
        have hL : low p = some (k * 64 + Lib.ctz 64 (wd p k)) := low_some p _ (by rw [Nat.mul_comm]; exact l2) 512 0 (Nat.zero_le _) (by omega) (fun j _ hj => by
          by_cases e : j < 64 * k
          · exact Z.out j e
          · have := l3 (j - 64 * k) (by omega)
            rwa [show 64 * k + (j - 64 * k) = j by omega] at this)
        generalize Lib.ctz 64 (wd p k) = c at TZ hL l1
        have hx : (((wd p k : Nat) : Int) != 0) = true := by simpa using hw
        generalize wd p k = x at c1 hx TZ
        have e1 : IntKind.i64.wrap ((k : Int) * 64) = (k : Int) * 64 := by rw [IntKind.wrap_i64]; omega
        have e2 : wrap64 ((k : Int) * 64) = (k : Int) * 64 := by unfold wrap64; omega
        have e3 : IntKind.i64.wrap ((k : Int) * 64 + (c : Int)) = (k : Int) * 64 + (c : Int) := by rw [IntKind.wrap_i64]; omega
        have e4 : wrap64 ((k : Int) * 64 + (c : Int)) = (k : Int) * 64 + (c : Int) := by unfold wrap64; omega
        have e5 : IntKind.i64.wrap ((k : Int) * 64 + (c : Int) + 1) = (k : Int) * 64 + (c : Int) + 1 := by rw [IntKind.wrap_i64]; omega
        have e6 : wrap64 ((k : Int) * 64 + (c : Int) + 1) = (k : Int) * 64 + (c : Int) + 1 := by unfold wrap64; omega
        have HL := hidIt hL
        clear l2 l3 hw hL
        go_wp2
        go_region
        all_goals go_wp2_with (go_at_call 54; refine TZ.out.mono ?_; rintro e w' ⟨rfl, hw⟩; subst hw)
        all_goals go_ret2
        all_goals exact ⟨by rw [HL.out]; simp [lowV], B.out.drew⟩
    · obtain rfl : k = 8 := by omega
      have i0 : ¬ (8 : Int) < 8 := by omega
      rw [show ((8 : Nat) : Int) = 8 from rfl]
      go_wp2
      go_ret2
      refine ⟨?_, B.out⟩
      have : low p = none := low_none p 512 0 (fun j _ hj => Z.out j (by omega))
      rw [this]
      rfl
end Go.Proofs.YtkncnpjhfcfmnaaDoor
