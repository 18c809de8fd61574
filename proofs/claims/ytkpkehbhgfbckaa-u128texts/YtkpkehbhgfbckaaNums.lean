/-
  Walks, not a claim by itself: math/bits.Add64 and Sub64 at this dump, and what u128.Of, Add and Sub hand back, for every two numbers. By the verifier.
-/
import Derived.Test.YtkpkehbhgfbckaaRows
import Derived.Test.YtkpkehbhgfbckaaPlain
import Derived.WalkKit
import Derived.WalkSpells
import Derived.Laws.Externs
import Derived.Shelf.Spec.BitsCarry
import Derived.RowKit3
namespace Go.Proofs.Ytkpkehbhgfbckaa
open Go.RowKit

/-- A word of 64 bits. -/
def Word (x : Int) : Prop := 0 ≤ x ∧ x < 18446744073709551616
/-- The number of two words. -/
def V (h l : Int) : Int := h * 18446744073709551616 + l
/-- A number of 128 bits as Go has it. -/
abbrev U (h l : Int) : Value := .agg #[.int .u64 h, .int .u64 l]
theorem word_mod (x : Int) : Word (x % 18446744073709551616) := ⟨by omega, by omega⟩
theorem word_zero : Word 0 := ⟨by omega, by omega⟩

theorem bcell {W w1 : World} (hb : Below W.heap.size W w1) : (∀ b o, b < W.heap.size → w1.cell? ⟨b, o, none⟩ = W.cell? ⟨b, o, none⟩) ∧ (∀ b o, b < W.heap.size → w1.frozen? ⟨b, o, none⟩ = W.frozen? ⟨b, o, none⟩) :=
  ⟨fun b o h => hb.cell (p := ⟨b, o, none⟩) h, fun b o h => hb.frozen (p := ⟨b, o, none⟩) h⟩

theorem add64 (x y c : Int) (hx : 0 ≤ x) (hy : 0 ≤ y) (hc0 : 0 ≤ c) (hc : c ≤ 1) (w : World) : (callFunc 39 #[.int .u64 x, .int .u64 y, .int .u64 c]).run Try.prog w =
    .ok (.value (.tuple #[.int .u64 ((x + y + c) % 18446744073709551616), .int .u64 ((x + y + c) / 18446744073709551616)])) w := by
  rw [run_callFunc_extern Try.func39 (by kernel_rfl) (by kernel_rfl) (by kernel_rfl) (e := add64Entry) (by kernel_rfl), run_add64 x y c hx hy hc0 hc]
  rfl
theorem sub64 (x y b : Int) (hx : 0 ≤ x) (hy : 0 ≤ y) (hy' : y < 18446744073709551616) (hb0 : 0 ≤ b) (hb : b ≤ 1) (w : World) : (callFunc 41 #[.int .u64 x, .int .u64 y, .int .u64 b]).run Try.prog w =
    .ok (.value (.tuple #[.int .u64 ((x - y - b) % 18446744073709551616), .int .u64 (if x < y + b then 1 else 0)])) w := by
  obtain ⟨x, rfl⟩ := Int.eq_ofNat_of_zero_le hx
  obtain ⟨y, rfl⟩ := Int.eq_ofNat_of_zero_le hy
  obtain ⟨b, rfl⟩ := Int.eq_ofNat_of_zero_le hb0
  have e1 : (((x + 18446744073709551616 - y - b) % 18446744073709551616 : Nat) : Int) = ((x : Int) - y - b) % 18446744073709551616 := by omega
  have e2 : ((if x < y + b then 1 else 0 : Nat) : Int) = if (x : Int) < y + b then 1 else 0 := by split <;> split <;> omega
  rw [← e1, ← e2, run_callFunc_extern Try.func41 (by kernel_rfl) (by kernel_rfl) (by kernel_rfl) (e := sub64Entry) (by kernel_rfl), run_sub64 x y b (by omega)]
  rfl
theorem add64_0 (x y : Int) (hx : 0 ≤ x) (hy : 0 ≤ y) (w : World) : (callFunc 39 #[.int .u64 x, .int .u64 y, .int .u64 0]).run Try.prog w =
    .ok (.value (.tuple #[.int .u64 ((x + y) % 18446744073709551616), .int .u64 ((x + y) / 18446744073709551616)])) w := by
  simpa using add64 x y 0 hx hy (Int.le_refl 0) (by decide) w
theorem sub64_0 (x y : Int) (hx : 0 ≤ x) (hy : 0 ≤ y) (hy' : y < 18446744073709551616) (w : World) : (callFunc 41 #[.int .u64 x, .int .u64 y, .int .u64 0]).run Try.prog w =
    .ok (.value (.tuple #[.int .u64 ((x - y) % 18446744073709551616), .int .u64 (if x < y then 1 else 0)])) w := by
  simpa using sub64 x y 0 hx hy hy' (Int.le_refl 0) (by decide) w

/-- w' is w with three blocks of two cells more. -/
def Three (w w' : World) : Prop := ∃ c1 c2 c3 : Array Value, w' = ((w.alloc (.cells c1 24)).alloc (.cells c2 24)).alloc (.cells c3 24)
theorem Three.below {w w' : World} (h : Three w w') : Below w.heap.size w w' := by
  obtain ⟨c1, c2, c3, rfl⟩ := h
  exact (((Below.refl _ _).alloc (Nat.le_refl _) _).alloc (by simp) _).alloc (by simp; omega) _

/-- u128.Of, its world written out. -/
theorem of_one (n : Int) (w : World) : Calls Try.prog 15 #[.int .u64 n] w fun e w' => e = .returned (U 0 n) ∧ w' = w.alloc (.cells #[.int .u64 0, .int .u64 n] 24) := by
  go_enter Try.func15, Try.ntmps15
  go_wp2
  exact bodyPost_ret (v := U 0 n) (by simp [results, Try.results15, go_sem]) rfl ⟨rfl, rfl⟩
/-- u128.Of. -/
theorem of_any (n : Int) (w : World) : Calls Try.prog 15 #[.int .u64 n] w fun e w' => e = .returned (U 0 n) ∧ Below w.heap.size w w' := by
  go_enter Try.func15, Try.ntmps15
  go_wp2
  exact bodyPost_ret (v := U 0 n) (by simp [results, Try.results15, go_sem]) rfl ⟨rfl, (Below.refl _ _).alloc (Nat.le_refl _) _⟩

/-- u128.Add, where it does not go over. -/
theorem add_ok3 (ah al bh bl : Int) (w : World) (h1 : Word ah) (h2 : Word al) (h3 : Word bh) (h4 : Word bl) (h : V ah al + V bh bl < 340282366920938463463374607431768211456) :
    Calls Try.prog 9 #[U ah al, U bh bl] w fun e w' => ∃ x y : Int,
      e = .returned (.tuple #[U x y, .bool false]) ∧ Word x ∧ Word y ∧ Hid (V x y = V ah al + V bh bl) ∧ Three w w' := by
  unfold V at h
  obtain ⟨a1, a2⟩ := h1; obtain ⟨b1, b2⟩ := h2; obtain ⟨c1, c2⟩ := h3; obtain ⟨d1, d2⟩ := h4
  have k0 : 0 ≤ (al + bl) / 18446744073709551616 := by omega
  have k1 : (al + bl) / 18446744073709551616 ≤ 1 := by omega
  have k2 : (ah + bh + (al + bl) / 18446744073709551616) / 18446744073709551616 = 0 := by omega
  have k3 : (ah + bh + (al + bl) / 18446744073709551616) % 18446744073709551616 = ah + bh + (al + bl) / 18446744073709551616 := by omega
  have fin : Word (ah + bh + (al + bl) / 18446744073709551616) ∧ Word ((al + bl) % 18446744073709551616) ∧ Hid (V (ah + bh + (al + bl) / 18446744073709551616) ((al + bl) % 18446744073709551616) = V ah al + V bh bl) :=
    ⟨⟨by omega, by omega⟩, word_mod _, by unfold Hid V; omega⟩
  have F : Hid (_ ∧ _ ∧ _) := fin
  clear fin
  go_enter Try.func9, Try.ntmps9
  go_wp2_with (first | simp only [add64_0 al bl b1 d1] | simp only [add64 ah bh _ a1 c1 k0 k1, k2, k3])
  exact bodyPost_ret (v := .tuple #[U (ah + bh + (al + bl) / 18446744073709551616) ((al + bl) % 18446744073709551616), .bool false]) (by simp [results, Try.results9, go_sem]) rfl
    ⟨_, _, rfl, F.out.1, F.out.2.1, F.out.2.2, _, _, _, rfl⟩

/-- u128.Add, where it goes over. -/
theorem add_over3 (ah al bh bl : Int) (w : World) (h1 : Word ah) (h2 : Word al) (h3 : Word bh) (h4 : Word bl) (h : 340282366920938463463374607431768211456 ≤ V ah al + V bh bl) :
    Calls Try.prog 9 #[U ah al, U bh bl] w fun e w' => e = .returned (.tuple #[U 0 0, .bool true]) ∧ Three w w' := by
  unfold V at h
  obtain ⟨a1, a2⟩ := h1; obtain ⟨b1, b2⟩ := h2; obtain ⟨c1, c2⟩ := h3; obtain ⟨d1, d2⟩ := h4
  have k0 : 0 ≤ (al + bl) / 18446744073709551616 := by omega
  have k1 : (al + bl) / 18446744073709551616 ≤ 1 := by omega
  have k2 : (ah + bh + (al + bl) / 18446744073709551616) / 18446744073709551616 = 1 := by omega
  go_enter Try.func9, Try.ntmps9
  go_wp2_with (first | simp only [add64_0 al bl b1 d1] | simp only [add64 ah bh _ a1 c1 k0 k1, k2])
  exact bodyPost_ret (v := .tuple #[U 0 0, .bool true]) (by simp [results, Try.results9, go_sem]) rfl
    ⟨rfl, _, _, _, rfl⟩

/-- u128.Sub, where it does not go below nought. -/
theorem sub_ok3 (ah al bh bl : Int) (w : World) (h1 : Word ah) (h2 : Word al) (h3 : Word bh) (h4 : Word bl) (h : V bh bl ≤ V ah al) :
    Calls Try.prog 11 #[U ah al, U bh bl] w fun e w' => ∃ x y : Int,
      e = .returned (.tuple #[U x y, .bool false]) ∧ Word x ∧ Word y ∧ Hid (V x y = V ah al - V bh bl) ∧ Three w w' := by
  unfold V at h
  obtain ⟨a1, a2⟩ := h1; obtain ⟨b1, b2⟩ := h2; obtain ⟨c1, c2⟩ := h3; obtain ⟨d1, d2⟩ := h4
  by_cases g : al < bl
  · have s1 : ∀ w : World, (callFunc 41 #[.int .u64 al, .int .u64 bl, .int .u64 0]).run Try.prog w = .ok (.value (.tuple #[.int .u64 ((al - bl) % 18446744073709551616), .int .u64 1])) w := by
      intro w; rw [sub64_0 al bl b1 d1 d2, if_pos g]
    have s2 : ∀ w : World, (callFunc 41 #[.int .u64 ah, .int .u64 bh, .int .u64 1]).run Try.prog w = .ok (.value (.tuple #[.int .u64 (ah - bh - 1), .int .u64 0])) w := by
      intro w; rw [sub64 ah bh 1 a1 c1 c2 (by omega) (by omega), if_neg (by omega), Int.emod_eq_of_lt (by omega) (by omega)]
    have F : Hid (Word (ah - bh - 1) ∧ Word ((al - bl) % 18446744073709551616) ∧ Hid (V (ah - bh - 1) ((al - bl) % 18446744073709551616) = V ah al - V bh bl)) :=
      ⟨⟨by omega, by omega⟩, word_mod _, by unfold Hid V; omega⟩
    clear h g
    go_enter Try.func11, Try.ntmps11
    go_wp2
    exact bodyPost_ret (v := .tuple #[U (ah - bh - 1) ((al - bl) % 18446744073709551616), .bool false]) (by simp [results, Try.results11, go_sem]) rfl
      ⟨_, _, rfl, F.out.1, F.out.2.1, F.out.2.2, _, _, _, rfl⟩
  · have s1 : ∀ w : World, (callFunc 41 #[.int .u64 al, .int .u64 bl, .int .u64 0]).run Try.prog w = .ok (.value (.tuple #[.int .u64 (al - bl), .int .u64 0])) w := by
      intro w; rw [sub64_0 al bl b1 d1 d2, if_neg g, Int.emod_eq_of_lt (by omega) (by omega)]
    have s2 : ∀ w : World, (callFunc 41 #[.int .u64 ah, .int .u64 bh, .int .u64 0]).run Try.prog w = .ok (.value (.tuple #[.int .u64 (ah - bh), .int .u64 0])) w := by
      intro w; rw [sub64_0 ah bh a1 c1 c2, if_neg (by omega), Int.emod_eq_of_lt (by omega) (by omega)]
    have F : Hid (Word (ah - bh) ∧ Word (al - bl) ∧ Hid (V (ah - bh) (al - bl) = V ah al - V bh bl)) :=
      ⟨⟨by omega, by omega⟩, ⟨by omega, by omega⟩, by unfold Hid V; omega⟩
    clear h g
    go_enter Try.func11, Try.ntmps11
    go_wp2
    exact bodyPost_ret (v := .tuple #[U (ah - bh) (al - bl), .bool false]) (by simp [results, Try.results11, go_sem]) rfl
      ⟨_, _, rfl, F.out.1, F.out.2.1, F.out.2.2, _, _, _, rfl⟩

/-- u128.Sub, where it goes below nought. -/
theorem sub_below3 (ah al bh bl : Int) (w : World) (h1 : Word ah) (h2 : Word al) (h3 : Word bh) (h4 : Word bl) (h : V ah al < V bh bl) :
    Calls Try.prog 11 #[U ah al, U bh bl] w fun e w' => e = .returned (.tuple #[U 0 0, .bool true]) ∧ Three w w' := by
  unfold V at h
  obtain ⟨a1, a2⟩ := h1; obtain ⟨b1, b2⟩ := h2; obtain ⟨c1, c2⟩ := h3; obtain ⟨d1, d2⟩ := h4
  by_cases g : al < bl
  · have s1 : ∀ w : World, (callFunc 41 #[.int .u64 al, .int .u64 bl, .int .u64 0]).run Try.prog w = .ok (.value (.tuple #[.int .u64 ((al - bl) % 18446744073709551616), .int .u64 1])) w := by
      intro w; rw [sub64_0 al bl b1 d1 d2, if_pos g]
    have s2 : ∀ w : World, (callFunc 41 #[.int .u64 ah, .int .u64 bh, .int .u64 1]).run Try.prog w = .ok (.value (.tuple #[.int .u64 ((ah - bh - 1) % 18446744073709551616), .int .u64 1])) w := by
      intro w; rw [sub64 ah bh 1 a1 c1 c2 (by omega) (by omega), if_pos (by omega)]
    clear h g
    go_enter Try.func11, Try.ntmps11
    go_wp2
    exact bodyPost_ret (v := .tuple #[U 0 0, .bool true]) (by simp [results, Try.results11, go_sem]) rfl
      ⟨rfl, _, _, _, rfl⟩
  · have s1 : ∀ w : World, (callFunc 41 #[.int .u64 al, .int .u64 bl, .int .u64 0]).run Try.prog w = .ok (.value (.tuple #[.int .u64 (al - bl), .int .u64 0])) w := by
      intro w; rw [sub64_0 al bl b1 d1 d2, if_neg g, Int.emod_eq_of_lt (by omega) (by omega)]
    have s2 : ∀ w : World, (callFunc 41 #[.int .u64 ah, .int .u64 bh, .int .u64 0]).run Try.prog w = .ok (.value (.tuple #[.int .u64 ((ah - bh) % 18446744073709551616), .int .u64 1])) w := by
      intro w; rw [sub64_0 ah bh a1 c1 c2, if_pos (by omega)]
    clear h g
    go_enter Try.func11, Try.ntmps11
    go_wp2
    exact bodyPost_ret (v := .tuple #[U 0 0, .bool true]) (by simp [results, Try.results11, go_sem]) rfl
      ⟨rfl, _, _, _, rfl⟩


theorem add_ok (ah al bh bl : Int) (w : World) (h1 : Word ah) (h2 : Word al) (h3 : Word bh) (h4 : Word bl) (h : V ah al + V bh bl < 340282366920938463463374607431768211456) :
    Calls Try.prog 9 #[U ah al, U bh bl] w fun e w' => ∃ x y : Int,
      e = .returned (.tuple #[U x y, .bool false]) ∧ Word x ∧ Word y ∧ Hid (V x y = V ah al + V bh bl) ∧ Below w.heap.size w w' := by
  refine (add_ok3 ah al bh bl w h1 h2 h3 h4 h).mono ?_
  rintro e w' ⟨x, y, rfl, hx, hy, hv, hb⟩
  exact ⟨x, y, rfl, hx, hy, hv, hb.below⟩
theorem add_over (ah al bh bl : Int) (w : World) (h1 : Word ah) (h2 : Word al) (h3 : Word bh) (h4 : Word bl) (h : 340282366920938463463374607431768211456 ≤ V ah al + V bh bl) :
    Calls Try.prog 9 #[U ah al, U bh bl] w fun e w' => e = .returned (.tuple #[U 0 0, .bool true]) ∧ Below w.heap.size w w' := by
  refine (add_over3 ah al bh bl w h1 h2 h3 h4 h).mono ?_
  rintro e w' ⟨rfl, hb⟩
  exact ⟨rfl, hb.below⟩
theorem sub_ok (ah al bh bl : Int) (w : World) (h1 : Word ah) (h2 : Word al) (h3 : Word bh) (h4 : Word bl) (h : V bh bl ≤ V ah al) :
    Calls Try.prog 11 #[U ah al, U bh bl] w fun e w' => ∃ x y : Int,
      e = .returned (.tuple #[U x y, .bool false]) ∧ Word x ∧ Word y ∧ Hid (V x y = V ah al - V bh bl) ∧ Below w.heap.size w w' := by
  refine (sub_ok3 ah al bh bl w h1 h2 h3 h4 h).mono ?_
  rintro e w' ⟨x, y, rfl, hx, hy, hv, hb⟩
  exact ⟨x, y, rfl, hx, hy, hv, hb.below⟩
theorem sub_below (ah al bh bl : Int) (w : World) (h1 : Word ah) (h2 : Word al) (h3 : Word bh) (h4 : Word bl) (h : V ah al < V bh bl) :
    Calls Try.prog 11 #[U ah al, U bh bl] w fun e w' => e = .returned (.tuple #[U 0 0, .bool true]) ∧ Below w.heap.size w w' := by
  refine (sub_below3 ah al bh bl w h1 h2 h3 h4 h).mono ?_
  rintro e w' ⟨rfl, hb⟩
  exact ⟨rfl, hb.below⟩
end Go.Proofs.Ytkpkehbhgfbckaa
