/-
  Walks, not a claim by itself: u128.putDigit. By the verifier.
-/
import Derived.Test.YtkpkehbhgfbckaaNums
import Derived.Test.YtkpkehbhgfbckaaShelf
import Derived.Deep.RegionHeld3
import Derived.Deep.Light
import Derived.Deep.DeepFit
namespace Go.Proofs.Ytkpkehbhgfbckaa
open Go.RowKit

theorem mul10 (x : Int) (w : World) (h : Word x) :
    Calls Try.prog 56 #[.int .u64 x, .int .u64 10] w fun e w' => e = .returned (.tuple #[.int .u64 (x * 10 / 18446744073709551616), .int .u64 (x * 10 % 18446744073709551616)]) ∧ w' = w := by
  obtain ⟨a1, a2⟩ := h
  obtain ⟨x, rfl⟩ := Int.eq_ofNat_of_zero_le a1
  refine (Try.bits_Mul64 x 10 (by omega) (by omega) w).mono ?_
  rintro e w' ⟨rfl, rfl⟩
  exact ⟨rfl, rfl⟩

/-- u128.Add, of any two. -/
theorem add_any (ah al bh bl : Int) (w : World) (h1 : Word ah) (h2 : Word al) (h3 : Word bh) (h4 : Word bl) :
    Calls Try.prog 9 #[U ah al, U bh bl] w fun e w' => ∃ (x y : Int) (b : Bool), e = .returned (.tuple #[U x y, .bool b]) ∧ Below w.heap.size w w' := by
  by_cases g : V ah al + V bh bl < 340282366920938463463374607431768211456
  · refine (add_ok ah al bh bl w h1 h2 h3 h4 g).mono ?_
    rintro e w' ⟨x, y, rfl, _, _, _, hb⟩
    exact ⟨x, y, false, rfl, hb⟩
  · refine (add_over ah al bh bl w h1 h2 h3 h4 (by omega)).mono ?_
    rintro e w' ⟨rfl, hb⟩
    exact ⟨0, 0, true, rfl, hb⟩

/-- u128.putDigit, where ten times the number goes over in the high word. -/
theorem put_over1 (h l d : Int) (w : World) (h1 : Word h) (h2 : Word l) (ho : 18446744073709551616 ≤ h * 10) :
    Calls Try.prog 46 #[U h l, .int .u8 d] w fun e w' => e = .returned (.tuple #[U 0 0, .bool true]) ∧ Below w.heap.size w w' := by
  have h1' := h1; have h2' := h2
  obtain ⟨a1, a2⟩ := h1; obtain ⟨b1, b2⟩ := h2
  have e1 : (h * 10 / 18446744073709551616 != 0) = true := by simp; omega
  have wc : Word (l * 10 / 18446744073709551616) := ⟨by omega, by omega⟩
  go_enter Try.func46, Try.ntmps46
  go_wp2_with fail
  refine (mul10 l _ h2').mono ?_
  rintro e w1 ⟨rfl, hw⟩
  rw [hw]
  clear hw
  go_wp2_with fail
  refine (mul10 h _ h1').mono ?_
  rintro e w2 ⟨rfl, hw⟩
  rw [hw]
  clear hw
  go_wp2_with fail
  refine (add_any (h * 10 % 18446744073709551616) (l * 10 % 18446744073709551616) (l * 10 / 18446744073709551616) 0 _ (word_mod _) (word_mod _) wc word_zero).mono ?_
  rintro e w3 ⟨x, y, b, rfl, hb⟩
  have f0 := (hb.frozen (p := ⟨w.heap.size + 1, 0, none⟩) (by simp)).trans (by simp [go_sem] : _ = false)
  have f1 := (hb.frozen (p := ⟨w.heap.size + 1, 1, none⟩) (by simp)).trans (by simp [go_sem] : _ = false)
  have c0 := (hb.cell (p := ⟨w.heap.size + 1, 0, none⟩) (by simp)).trans (by simp [go_sem] : _ = some (.int .u64 0))
  have c1 := (hb.cell (p := ⟨w.heap.size + 1, 1, none⟩) (by simp)).trans (by simp [go_sem] : _ = some (.int .u64 0))
  have hz : w.heap.size + 1 < w3.heap.size := by have := hb.size; simp at this; omega
  go_wp2_with fail
  refine bodyPost_ret (v := .tuple #[U 0 0, .bool true]) (by simp [results, Try.results46, go_sem, c0, c1, hz]) rfl ⟨rfl, ?_⟩
  exact (((((((Below.refl _ _).alloc (Nat.le_refl _) _).alloc (by simp) _).trans (hb.mono (by simp; omega))).setCell (Nat.le_succ _) _).setCell (Nat.le_succ _) _).alloc (by simp [World.setCell]; omega) _)

/-- u128.putDigit, where ten times the number goes over by the carry. -/
theorem put_over2 (h l d : Int) (w : World) (h1 : Word h) (h2 : Word l) (ho : h * 10 < 18446744073709551616) (hv : 340282366920938463463374607431768211456 ≤ V h l * 10) :
    Calls Try.prog 46 #[U h l, .int .u8 d] w fun e w' => e = .returned (.tuple #[U 0 0, .bool true]) ∧ Below w.heap.size w w' := by
  have h1' := h1; have h2' := h2
  obtain ⟨a1, a2⟩ := h1; obtain ⟨b1, b2⟩ := h2
  have e1 : (h * 10 / 18446744073709551616 != 0) = false := by simp; omega
  have wc : Word (l * 10 / 18446744073709551616) := ⟨by omega, by omega⟩
  have ov : Hid (340282366920938463463374607431768211456 ≤ V (h * 10 % 18446744073709551616) (l * 10 % 18446744073709551616) + V (l * 10 / 18446744073709551616) 0) := by unfold Hid V; unfold V at hv; omega
  clear hv
  go_enter Try.func46, Try.ntmps46
  go_wp2_with fail
  refine (mul10 l _ h2').mono ?_
  rintro e w1 ⟨rfl, hw⟩
  rw [hw]
  clear hw
  go_wp2_with fail
  refine (mul10 h _ h1').mono ?_
  rintro e w2 ⟨rfl, hw⟩
  rw [hw]
  clear hw
  go_wp2_with fail
  refine (add_over (h * 10 % 18446744073709551616) (l * 10 % 18446744073709551616) (l * 10 / 18446744073709551616) 0 _ (word_mod _) (word_mod _) wc word_zero ov.out).mono ?_
  rintro e w3 ⟨rfl, hb⟩
  have f0 := (hb.frozen (p := ⟨w.heap.size + 1, 0, none⟩) (by simp)).trans (by simp [go_sem] : _ = false)
  have f1 := (hb.frozen (p := ⟨w.heap.size + 1, 1, none⟩) (by simp)).trans (by simp [go_sem] : _ = false)
  have c0 := (hb.cell (p := ⟨w.heap.size + 1, 0, none⟩) (by simp)).trans (by simp [go_sem] : _ = some (.int .u64 0))
  have c1 := (hb.cell (p := ⟨w.heap.size + 1, 1, none⟩) (by simp)).trans (by simp [go_sem] : _ = some (.int .u64 0))
  have hz : w.heap.size + 1 < w3.heap.size := by have := hb.size; simp at this; omega
  go_wp2_with fail
  refine bodyPost_ret (v := .tuple #[U 0 0, .bool true]) (by simp [results, Try.results46, go_sem, c0, c1, hz]) rfl ⟨rfl, ?_⟩
  exact (((((((Below.refl _ _).alloc (Nat.le_refl _) _).alloc (by simp) _).trans (hb.mono (by simp; omega))).setCell (Nat.le_succ _) _).setCell (Nat.le_succ _) _).alloc (by simp [World.setCell]; omega) _)

set_option maxHeartbeats 1000000 in
/-- u128.putDigit, where the number does not go over. -/
theorem put_ok (h l d : Int) (w : World) (h1 : Word h) (h2 : Word l) (hd0 : 48 ≤ d) (hd1 : d ≤ 57) (hv : V h l * 10 + (d - 48) < 340282366920938463463374607431768211456) :
    Calls Try.prog 46 #[U h l, .int .u8 d] w fun e w' => ∃ p q : Int, e = .returned (.tuple #[U p q, .bool false]) ∧ Word p ∧ Word q ∧ Hid (V p q = V h l * 10 + (d - 48)) ∧ Below w.heap.size w w' := by
  have h1' := h1; have h2' := h2
  obtain ⟨a1, a2⟩ := h1; obtain ⟨b1, b2⟩ := h2
  have e1 : (h * 10 / 18446744073709551616 != 0) = false := by unfold V at hv; simp; omega
  have wc : Word (l * 10 / 18446744073709551616) := ⟨by omega, by omega⟩
  have wd : Word (d - 48) := ⟨by omega, by omega⟩
  have ew : IntKind.u8.wrap (d - 48) = d - 48 := by rw [IntKind.wrap_u8]; omega
  have ew2 : IntKind.u64.wrap (d - 48) = d - 48 := by rw [IntKind.wrap_u64]; omega
  have ov : Hid (V (h * 10 % 18446744073709551616) (l * 10 % 18446744073709551616) + V (l * 10 / 18446744073709551616) 0 = V h l * 10) := by unfold Hid V; unfold V at hv; omega
  have HV : Hid (V h l * 10 + (d - 48) < 340282366920938463463374607431768211456) := hv
  clear hv
  go_enter Try.func46, Try.ntmps46
  go_wp2_with fail
  refine (mul10 l _ h2').mono ?_
  rintro e w1 ⟨rfl, hw⟩
  rw [hw]
  clear hw
  go_wp2_with fail
  refine (mul10 h _ h1').mono ?_
  rintro e w2 ⟨rfl, hw⟩
  rw [hw]
  clear hw
  go_wp2_with fail
  refine (add_ok (h * 10 % 18446744073709551616) (l * 10 % 18446744073709551616) (l * 10 / 18446744073709551616) 0 _ (word_mod _) (word_mod _) wc word_zero (by rw [ov.out]; have := HV.out; omega)).mono ?_
  rintro e w3 ⟨x, y, rfl, hx, hy, hxy, hb⟩
  have f0 := (hb.frozen (p := ⟨w.heap.size + 1, 0, none⟩) (by simp)).trans (by simp [go_sem] : _ = false)
  have f1 := (hb.frozen (p := ⟨w.heap.size + 1, 1, none⟩) (by simp)).trans (by simp [go_sem] : _ = false)
  have c0 := (hb.cell (p := ⟨w.heap.size + 1, 0, none⟩) (by simp)).trans (by simp [go_sem] : _ = some (.int .u64 0))
  have c1 := (hb.cell (p := ⟨w.heap.size + 1, 1, none⟩) (by simp)).trans (by simp [go_sem] : _ = some (.int .u64 0))
  have hz : w.heap.size + 1 < w3.heap.size := by have := hb.size; simp at this; omega
  have hxy' : Hid (V x y = V h l * 10) := hxy.out.trans ov.out
  have hs : Hid (V x y + V 0 (d - 48) < 340282366920938463463374607431768211456) := by unfold Hid; rw [hxy'.out]; have := HV.out; unfold V at *; omega
  have HB : Hid (Below w.heap.size w w3) := (((Below.refl _ _).alloc (Nat.le_refl _) _).alloc (by simp) _).trans (hb.mono (by simp; omega))
  clear hb ov hxy
  have z1 : w.heap.size < w3.heap.size := by omega
  have z2 : w.heap.size < w3.heap.size + 1 := by omega
  have z3 : w.heap.size < w3.heap.size + 1 + 1 := by omega
  have z4 : w.heap.size < w3.heap.size + 1 + 1 + 1 := by omega
  have z5 : w.heap.size < w3.heap.size + 1 + 1 + 1 + 1 := by omega
  have z6 : w.heap.size + 1 < w3.heap.size + 1 + 1 + 1 + 1 + 1 := by omega
  go_wp2_with fail
  go_region_held3 (fun w' => w'.cell? ⟨w3.heap.size, 0, none⟩ = some (.int .u64 x) ∧ w'.cell? ⟨w3.heap.size, 1, none⟩ = some (.int .u64 y)) (simp [go_sem, World.cell?_alloc_past])
    (first
      | (go_at_call 15; refine (of_one _ _).mono ?_; rintro e w' ⟨rfl, rfl⟩)
      | (go_at_call 9; go_must (go_fit (add_ok3 x y 0 (d - 48) _ hx hy word_zero wd hs.out)); rintro e w' ⟨p, q, rfl, hp, hq, hpq, o1, o2, o3, rfl⟩))
  go_wp2
  refine bodyPost_ret (v := .tuple #[U p q, .bool false]) (by simp [results, Try.results46, go_sem, c0, c1, hz, z1, z2, z3, z4]) rfl ⟨p, q, rfl, hp, hq, ?_, ?_⟩
  · have := hpq.out
    unfold Hid
    rw [this, hxy'.out]; unfold V; omega
  · repeat (first | exact HB.out | refine Below.drew ?_ | refine Below.alloc ?_ (by simp [World.setCell]; omega) _ | refine Below.setCell ?_ (Nat.le_succ _) _)
set_option maxHeartbeats 1000000 in
/-- u128.putDigit, where the last sum goes over. -/
theorem put_over3 (h l d : Int) (w : World) (h1 : Word h) (h2 : Word l) (hd0 : 48 ≤ d) (hd1 : d ≤ 57) (hv : V h l * 10 < 340282366920938463463374607431768211456) (hv' : 340282366920938463463374607431768211456 ≤ V h l * 10 + (d - 48)) :
    Calls Try.prog 46 #[U h l, .int .u8 d] w fun e w' => e = .returned (.tuple #[U 0 0, .bool true]) ∧ Below w.heap.size w w' := by
  have h1' := h1; have h2' := h2
  obtain ⟨a1, a2⟩ := h1; obtain ⟨b1, b2⟩ := h2
  have e1 : (h * 10 / 18446744073709551616 != 0) = false := by unfold V at hv; simp; omega
  have wc : Word (l * 10 / 18446744073709551616) := ⟨by omega, by omega⟩
  have wd : Word (d - 48) := ⟨by omega, by omega⟩
  have ew : IntKind.u8.wrap (d - 48) = d - 48 := by rw [IntKind.wrap_u8]; omega
  have ew2 : IntKind.u64.wrap (d - 48) = d - 48 := by rw [IntKind.wrap_u64]; omega
  have ov : Hid (V (h * 10 % 18446744073709551616) (l * 10 % 18446744073709551616) + V (l * 10 / 18446744073709551616) 0 = V h l * 10) := by unfold Hid V; unfold V at hv; omega
  have HV : Hid (V h l * 10 < 340282366920938463463374607431768211456) := hv
  have HV' : Hid (340282366920938463463374607431768211456 ≤ V h l * 10 + (d - 48)) := hv'
  clear hv hv'
  go_enter Try.func46, Try.ntmps46
  go_wp2_with fail
  refine (mul10 l _ h2').mono ?_
  rintro e w1 ⟨rfl, hw⟩
  rw [hw]
  clear hw
  go_wp2_with fail
  refine (mul10 h _ h1').mono ?_
  rintro e w2 ⟨rfl, hw⟩
  rw [hw]
  clear hw
  go_wp2_with fail
  refine (add_ok (h * 10 % 18446744073709551616) (l * 10 % 18446744073709551616) (l * 10 / 18446744073709551616) 0 _ (word_mod _) (word_mod _) wc word_zero (by rw [ov.out]; exact HV.out)).mono ?_
  rintro e w3 ⟨x, y, rfl, hx, hy, hxy, hb⟩
  have f0 := (hb.frozen (p := ⟨w.heap.size + 1, 0, none⟩) (by simp)).trans (by simp [go_sem] : _ = false)
  have f1 := (hb.frozen (p := ⟨w.heap.size + 1, 1, none⟩) (by simp)).trans (by simp [go_sem] : _ = false)
  have c0 := (hb.cell (p := ⟨w.heap.size + 1, 0, none⟩) (by simp)).trans (by simp [go_sem] : _ = some (.int .u64 0))
  have c1 := (hb.cell (p := ⟨w.heap.size + 1, 1, none⟩) (by simp)).trans (by simp [go_sem] : _ = some (.int .u64 0))
  have hz : w.heap.size + 1 < w3.heap.size := by have := hb.size; simp at this; omega
  have hxy' : Hid (V x y = V h l * 10) := hxy.out.trans ov.out
  have hs : Hid (340282366920938463463374607431768211456 ≤ V x y + V 0 (d - 48)) := by unfold Hid; rw [hxy'.out]; have := HV'.out; unfold V at *; omega
  have HB : Hid (Below w.heap.size w w3) := (((Below.refl _ _).alloc (Nat.le_refl _) _).alloc (by simp) _).trans (hb.mono (by simp; omega))
  clear hb ov hxy
  have z1 : w.heap.size < w3.heap.size := by omega
  have z2 : w.heap.size < w3.heap.size + 1 := by omega
  have z3 : w.heap.size < w3.heap.size + 1 + 1 := by omega
  have z4 : w.heap.size < w3.heap.size + 1 + 1 + 1 := by omega
  have z5 : w.heap.size < w3.heap.size + 1 + 1 + 1 + 1 := by omega
  have z6 : w.heap.size + 1 < w3.heap.size + 1 + 1 + 1 + 1 + 1 := by omega
  go_wp2_with fail
  go_region_held3 (fun w' => w'.cell? ⟨w3.heap.size, 0, none⟩ = some (.int .u64 x) ∧ w'.cell? ⟨w3.heap.size, 1, none⟩ = some (.int .u64 y)) (simp [go_sem, World.cell?_alloc_past])
    (first
      | (go_at_call 15; refine (of_one _ _).mono ?_; rintro e w' ⟨rfl, rfl⟩)
      | (go_at_call 9; go_must (go_fit (add_over3 x y 0 (d - 48) _ hx hy word_zero wd hs.out)); rintro e w' ⟨rfl, o1, o2, o3, rfl⟩))
  go_wp2
  refine bodyPost_ret (v := .tuple #[U 0 0, .bool true]) (by simp [results, Try.results46, go_sem, c0, c1, hz, z1, z2, z3, z4]) rfl ⟨rfl, ?_⟩
  · repeat (first | exact HB.out | refine Below.drew ?_ | refine Below.alloc ?_ (by simp [World.setCell]; omega) _ | refine Below.setCell ?_ (Nat.le_succ _) _)

/-- u128.putDigit, where the number goes over. -/
theorem put_over (h l d : Int) (w : World) (h1 : Word h) (h2 : Word l) (hd0 : 48 ≤ d) (hd1 : d ≤ 57) (hv : 340282366920938463463374607431768211456 ≤ V h l * 10 + (d - 48)) :
    Calls Try.prog 46 #[U h l, .int .u8 d] w fun e w' => e = .returned (.tuple #[U 0 0, .bool true]) ∧ Below w.heap.size w w' := by
  by_cases g1 : V h l * 10 < 340282366920938463463374607431768211456
  · exact put_over3 h l d w h1 h2 hd0 hd1 g1 hv
  · by_cases g2 : h * 10 < 18446744073709551616
    · exact put_over2 h l d w h1 h2 g2 (by omega)
    · exact put_over1 h l d w h1 h2 (by omega)
end Go.Proofs.Ytkpkehbhgfbckaa
