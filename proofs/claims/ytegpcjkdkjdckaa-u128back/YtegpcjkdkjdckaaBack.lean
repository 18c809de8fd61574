/-
  Walks, not a claim by itself: U128Back comes out true. By the verifier.
-/
import Derived.Test.YtegpcjkdkjdckaaKnown
import Derived.Test.YtegpcjkdkjdckaaCmp
import Derived.Deep.DeepCutAuto
namespace Go.Proofs.Ytegpcjkdkjdckaa
open Go.RowKit

theorem top_one (w : World) : Calls Try.prog 37 #[] w fun e w' => e = .returned (U 18446744073709551615 18446744073709551615) ∧ w' = w.alloc (.cells #[.int .u64 18446744073709551615, .int .u64 18446744073709551615] 24) := by
  go_enter Try.func37, Try.ntmps37
  go_wp2
  exact bodyPost_ret (v := U 18446744073709551615 18446744073709551615) (by simp [results, Try.results37, go_sem]) rfl ⟨rfl, rfl⟩

/-- A number lies in a block. -/
def At (u : World) (b : Nat) (h l : Int) : Prop := u.cell? ⟨b, 0, none⟩ = some (.int .u64 h) ∧ u.cell? ⟨b, 1, none⟩ = some (.int .u64 l) ∧ b < u.heap.size
theorem At.below {u v : World} {b : Nat} {h l : Int} (k : At u b h l) (hb : Below u.heap.size u v) : At v b h l :=
  ⟨(hb.cell k.2.2).trans k.1, (hb.cell k.2.2).trans k.2.1, Nat.lt_of_lt_of_le k.2.2 hb.size⟩
theorem At.alloc {u : World} {b : Nat} {h l : Int} (k : At u b h l) (o : Obj) : At (u.alloc o) b h l := k.below ((Below.refl _ _).alloc (Nat.le_refl _) _)
theorem At.drew {u : World} {b : Nat} {h l : Int} (k : At u b h l) : At u.drew b h l := k
theorem At.new (u : World) (h l : Int) (t : TypeId) : At (u.alloc (.cells #[.int .u64 h, .int .u64 l] t)) u.heap.size h l := ⟨by simp [go_sem], by simp [go_sem], by simp⟩

set_option maxRecDepth 100000 in
set_option maxHeartbeats 4000000 in
theorem back_over (ah al bh bl : Int) (w : World) (h1 : Word ah) (h2 : Word al) (h3 : Word bh) (h4 : Word bl) (h : 340282366920938463463374607431768211456 ≤ V ah al + V bh bl) :
    Calls Try.prog 8 #[U ah al, U bh bl] w fun e w' => e = .returned (.bool true) ∧ Below w.heap.size w w' := by
  have HO : Hid (340282366920938463463374607431768211456 ≤ V ah al + V bh bl) := h
  have wm : Word 18446744073709551615 := ⟨by decide, by decide⟩
  have HS : Hid (V bh bl ≤ V 18446744073709551615 18446744073709551615) := by unfold Hid; obtain ⟨_, _⟩ := h3; obtain ⟨_, _⟩ := h4; unfold V; omega
  clear h
  go_enter Try.func8, Try.ntmps8
  go_wp2_with fail
  refine (known_any _).mono ?_
  rintro e w1 ⟨rfl, hb1⟩
  have A1 := ((At.new w ah al 24).alloc (.cells #[.int .u64 bh, .int .u64 bl] 24)).below hb1
  have B1 := (At.new (w.alloc (.cells #[.int .u64 ah, .int .u64 al] 24)) bh bl 24).below hb1
  rw [World.size_alloc] at B1
  have E1 : Hid (Below w.heap.size w w1) := (((Below.refl _ _).alloc (Nat.le_refl _) _).alloc (by simp) _).trans (hb1.mono (by simp; omega))
  clear hb1
  obtain ⟨a0, a1, az⟩ := id A1
  obtain ⟨b0, b1, bz⟩ := id B1
  go_wp2_with fail
  refine (add_over ah al bh bl _ h1 h2 h3 h4 HO.out).mono ?_
  rintro e w2 ⟨rfl, hb2⟩
  have A2 := (A1.below hb2).alloc (.cells #[.int .u64 0, .int .u64 0] 24)
  have B2 := (B1.below hb2).alloc (.cells #[.int .u64 0, .int .u64 0] 24)
  have X2 := At.new w2 0 0 24
  have E2 : Hid (Below w.heap.size w (w2.alloc (.cells #[.int .u64 0, .int .u64 0] 24))) := (E1.out.trans (hb2.mono E1.out.size)).alloc (by have := E1.out.size; have := hb2.size; omega) _
  clear a0 a1 az b0 b1 bz A1 B1 hb2 E1
  obtain ⟨a0, a1, az⟩ := id A2
  obtain ⟨b0, b1, bz⟩ := id B2
  go_wp2_with fail
  refine (add_over bh bl ah al _ h3 h4 h1 h2 (by have := HO.out; omega)).mono ?_
  rintro e w3 ⟨rfl, hb3⟩
  have A3 := A2.below hb3
  have B3 := B2.below hb3
  have X3 := X2.below hb3
  have E3 : Hid (Below w.heap.size w w3) := E2.out.trans (hb3.mono E2.out.size)
  clear a0 a1 az b0 b1 bz A2 B2 X2 hb3 E2
  obtain ⟨b0, b1, bz⟩ := id B3
  have z0 : w.heap.size < w3.heap.size := by omega
  have z1 : w.heap.size < w3.heap.size + 1 := by omega
  have z2 : w.heap.size < w3.heap.size + 1 + 1 := by omega
  have z3 : w.heap.size < w3.heap.size + 1 + 1 + 1 := by omega
  have z4 : w.heap.size < w3.heap.size + 1 + 1 + 1 + 1 := by omega
  have z5 : w.heap.size < w3.heap.size + 1 + 1 + 1 + 1 + 1 := by omega
  go_wp2_with fail
  go_cut [10, 11] (fun t10 t11 wx => ∃ (R : Nat) (r1 r2 : Int), t10 = .pointer (some ⟨R, 0, none⟩) ∧ t11 = .bool false ∧ At wx R r1 r2 ∧ Word r1 ∧ Word r2 ∧ V r1 r2 = V 18446744073709551615 18446744073709551615 - V bh bl ∧ At wx w.heap.size ah al ∧ At wx (w.heap.size + 1) bh bl ∧ At wx w2.heap.size 0 0 ∧ At wx w3.heap.size 0 0 ∧ Below w.heap.size w wx)
  case first =>
    go_region_held3 (fun w' => w'.cell? ⟨w.heap.size + 1, 0, none⟩ = some (.int .u64 bh) ∧ w'.cell? ⟨w.heap.size + 1, 1, none⟩ = some (.int .u64 bl)) (simp [go_sem, World.cell?_alloc_past, b0, b1, bz, z0, z1, z2, z3, z4])
      (first
        | (go_at_call 37; refine (top_one _).mono ?_; rintro e w' ⟨rfl, rfl⟩)
        | (go_at_call 11; go_must (go_fit (sub_ok3 18446744073709551615 18446744073709551615 bh bl _ wm wm h3 h4 HS.out)); rintro e w' ⟨r1, r2, rfl, hr1, hr2, hr, o1, o2, o3, rfl⟩))
    all_goals
      go_wp2_with fail
      go_meet
      case rel =>
        refine ⟨_, r1, r2, rfl, rfl, ⟨by simp [go_sem], by simp [go_sem], by simp⟩, hr1, hr2, hr.out, ?_, ?_, ?_, ?_, ?_⟩
        · repeat (first | exact A3 | refine At.drew ?_ | refine At.alloc ?_ _)
        · repeat (first | exact B3 | refine At.drew ?_ | refine At.alloc ?_ _)
        · repeat (first | exact X3 | refine At.drew ?_ | refine At.alloc ?_ _)
        · repeat (first | exact At.new w3 0 0 24 | refine At.drew ?_ | refine At.alloc ?_ _)
        · repeat (first | exact E3.out.alloc (Nat.le_of_lt z0) _ | refine Below.drew ?_ | refine Below.alloc ?_ (by simp <;> omega) _)
  case rest =>
    obtain ⟨R, r1, r2, rfl, rfl, hR, hr1, hr2, hr, hA, hB, hX, hY, hE⟩ := hcut
    clear A3 B3 X3 E3 b0 b1 bz z0 z1 z2 z3 z4 z5
    have HC : Hid (cmpI (V ah al) (V r1 r2) = 1) := by
      unfold Hid cmpI
      have := HO.out
      rw [hr, if_neg, if_pos]
      all_goals (unfold V at *; omega)
    have E : Hid (Below w.heap.size w wc) := hE
    clear hr hE
    obtain ⟨a0, a1, az⟩ := hA
    obtain ⟨x0, x1, xz⟩ := id hX
    obtain ⟨y0, y1, yz⟩ := hY
    obtain ⟨R0, R1, Rz⟩ := hR
    go_wp2_with fail
    refine (cmp_any ah al r1 r2 _ h1 h2 hr1 hr2).mono ?_
    rintro e w5 ⟨rfl, hb5⟩
    rw [HC.out]
    have X5 := hX.below hb5
    have E5 : Hid (Below w.heap.size w w5) := E.out.trans (hb5.mono E.out.size)
    clear a0 a1 az x0 x1 xz y0 y1 yz R0 R1 Rz hb5 hX E
    obtain ⟨x0, x1, xz⟩ := X5
    go_wp2_with fail
    go_ret
    exact ⟨rfl, E5.out⟩
set_option maxRecDepth 100000 in
set_option maxHeartbeats 4000000 in
theorem back_in (ah al bh bl : Int) (w : World) (h1 : Word ah) (h2 : Word al) (h3 : Word bh) (h4 : Word bl) (h : V ah al + V bh bl < 340282366920938463463374607431768211456) :
    Calls Try.prog 8 #[U ah al, U bh bl] w fun e w' => e = .returned (.bool true) ∧ Below w.heap.size w w' := by
  have HO : Hid (V ah al + V bh bl < 340282366920938463463374607431768211456) := h
  have wm : Word 18446744073709551615 := ⟨by decide, by decide⟩
  have HS : Hid (V bh bl ≤ V 18446744073709551615 18446744073709551615) := by unfold Hid; obtain ⟨_, _⟩ := h3; obtain ⟨_, _⟩ := h4; unfold V; omega
  clear h
  go_enter Try.func8, Try.ntmps8
  go_wp2_with fail
  refine (known_any _).mono ?_
  rintro e w1 ⟨rfl, hb1⟩
  have A1 := ((At.new w ah al 24).alloc (.cells #[.int .u64 bh, .int .u64 bl] 24)).below hb1
  have B1 := (At.new (w.alloc (.cells #[.int .u64 ah, .int .u64 al] 24)) bh bl 24).below hb1
  rw [World.size_alloc] at B1
  have E1 : Hid (Below w.heap.size w w1) := (((Below.refl _ _).alloc (Nat.le_refl _) _).alloc (by simp) _).trans (hb1.mono (by simp; omega))
  clear hb1
  obtain ⟨a0, a1, az⟩ := id A1
  obtain ⟨b0, b1, bz⟩ := id B1
  go_wp2_with fail
  refine (add_ok ah al bh bl _ h1 h2 h3 h4 HO.out).mono ?_
  rintro e w2 ⟨p, q, rfl, hp, hq, hpq, hb2⟩
  have A2 := (A1.below hb2).alloc (.cells #[.int .u64 p, .int .u64 q] 24)
  have B2 := (B1.below hb2).alloc (.cells #[.int .u64 p, .int .u64 q] 24)
  have X2 := At.new w2 p q 24
  have E2 : Hid (Below w.heap.size w (w2.alloc (.cells #[.int .u64 p, .int .u64 q] 24))) := (E1.out.trans (hb2.mono E1.out.size)).alloc (by have := E1.out.size; have := hb2.size; omega) _
  clear a0 a1 az b0 b1 bz A1 B1 hb2 E1
  obtain ⟨a0, a1, az⟩ := id A2
  obtain ⟨b0, b1, bz⟩ := id B2
  go_wp2_with fail
  refine (add_ok bh bl ah al _ h3 h4 h1 h2 (by have := HO.out; omega)).mono ?_
  rintro e w3 ⟨p', q', rfl, hp', hq', hpq', hb3⟩
  obtain ⟨rfl, rfl⟩ : p' = p ∧ q' = q := by
    have g1 := hpq.out; have g2 := hpq'.out
    obtain ⟨_, _⟩ := hp; obtain ⟨_, _⟩ := hq; obtain ⟨_, _⟩ := hp'; obtain ⟨_, _⟩ := hq'
    unfold V at g1 g2
    omega
  clear hp' hq' hpq'
  have A3 := A2.below hb3
  have B3 := B2.below hb3
  have X3 := X2.below hb3
  have E3 : Hid (Below w.heap.size w w3) := E2.out.trans (hb3.mono E2.out.size)
  clear a0 a1 az b0 b1 bz A2 B2 X2 hb3 E2
  obtain ⟨b0, b1, bz⟩ := id B3
  have z0 : w.heap.size < w3.heap.size := by omega
  have z1 : w.heap.size < w3.heap.size + 1 := by omega
  have z2 : w.heap.size < w3.heap.size + 1 + 1 := by omega
  have z3 : w.heap.size < w3.heap.size + 1 + 1 + 1 := by omega
  have z4 : w.heap.size < w3.heap.size + 1 + 1 + 1 + 1 := by omega
  have z5 : w.heap.size < w3.heap.size + 1 + 1 + 1 + 1 + 1 := by omega
  go_wp2_with fail
  go_cut [10, 11] (fun t10 t11 wx => ∃ (R : Nat) (r1 r2 : Int), t10 = .pointer (some ⟨R, 0, none⟩) ∧ t11 = .bool false ∧ At wx R r1 r2 ∧ Word r1 ∧ Word r2 ∧ V r1 r2 = V 18446744073709551615 18446744073709551615 - V bh bl ∧ At wx w.heap.size ah al ∧ At wx (w.heap.size + 1) bh bl ∧ At wx w2.heap.size p' q' ∧ At wx w3.heap.size p' q' ∧ Below w.heap.size w wx)
  case first =>
    go_region_held3 (fun w' => w'.cell? ⟨w.heap.size + 1, 0, none⟩ = some (.int .u64 bh) ∧ w'.cell? ⟨w.heap.size + 1, 1, none⟩ = some (.int .u64 bl)) (simp [go_sem, World.cell?_alloc_past, b0, b1, bz, z0, z1, z2, z3, z4])
      (first
        | (go_at_call 37; refine (top_one _).mono ?_; rintro e w' ⟨rfl, rfl⟩)
        | (go_at_call 11; go_must (go_fit (sub_ok3 18446744073709551615 18446744073709551615 bh bl _ wm wm h3 h4 HS.out)); rintro e w' ⟨r1, r2, rfl, hr1, hr2, hr, o1, o2, o3, rfl⟩))
    all_goals
      go_wp2_with fail
      go_meet
      case rel =>
        refine ⟨_, r1, r2, rfl, rfl, ⟨by simp [go_sem], by simp [go_sem], by simp⟩, hr1, hr2, hr.out, ?_, ?_, ?_, ?_, ?_⟩
        · repeat (first | exact A3 | refine At.drew ?_ | refine At.alloc ?_ _)
        · repeat (first | exact B3 | refine At.drew ?_ | refine At.alloc ?_ _)
        · repeat (first | exact X3 | refine At.drew ?_ | refine At.alloc ?_ _)
        · repeat (first | exact At.new w3 p' q' 24 | refine At.drew ?_ | refine At.alloc ?_ _)
        · repeat (first | exact E3.out.alloc (Nat.le_of_lt z0) _ | refine Below.drew ?_ | refine Below.alloc ?_ (by simp <;> omega) _)
  case rest =>
    obtain ⟨R, r1, r2, rfl, rfl, hR, hr1, hr2, hr, hA, hB, hX, hY, hE⟩ := hcut
    clear A3 B3 X3 E3 b0 b1 bz z0 z1 z2 z3 z4 z5
    have HC : Hid (cmpI (V ah al) (V r1 r2) ≤ 0) := by
      unfold Hid cmpI
      have := HO.out
      rw [hr]
      split
      · omega
      · rw [if_neg (by unfold V at *; omega)]; omega
    have E : Hid (Below w.heap.size w wc) := hE
    clear hr hE
    obtain ⟨a0, a1, az⟩ := id hA
    obtain ⟨x0, x1, xz⟩ := id hX
    obtain ⟨y0, y1, yz⟩ := hY
    obtain ⟨R0, R1, Rz⟩ := hR
    go_wp2_with fail
    refine (cmp_any ah al r1 r2 _ h1 h2 hr1 hr2).mono ?_
    rintro e w5 ⟨rfl, hb5⟩
    have hc0 := HC.out
    generalize cmpI (V ah al) (V r1 r2) = c at hc0 ⊢
    have A5 := hA.below hb5
    have B5 := hB.below hb5
    have X5 := hX.below hb5
    have E5 : Hid (Below w.heap.size w w5) := E.out.trans (hb5.mono E.out.size)
    clear a0 a1 az x0 x1 xz y0 y1 yz R0 R1 Rz hb5 hX hA hB E HC
    obtain ⟨x0, x1, xz⟩ := id X5
    obtain ⟨b0, b1, bz⟩ := id B5
    go_wp2_with fail
    refine (sub_ok p' q' bh bl _ hp hq h3 h4 (by rw [hpq.out]; obtain ⟨_, _⟩ := h1; obtain ⟨_, _⟩ := h2; unfold V; omega)).mono ?_
    rintro e w6 ⟨u, v, rfl, hu, hv, huv, hb6⟩
    obtain ⟨rfl, rfl⟩ : u = ah ∧ v = al := by
      have g1 := hpq.out; have g2 := huv.out
      obtain ⟨_, _⟩ := hu; obtain ⟨_, _⟩ := hv; obtain ⟨_, _⟩ := h1; obtain ⟨_, _⟩ := h2
      rw [g1] at g2
      unfold V at g2
      omega
    have A6 := A5.below hb6
    have X6 := X5.below hb6
    have E6 : Hid (Below w.heap.size w w6) := E5.out.trans (hb6.mono E5.out.size)
    have s6 := E6.out.size
    have HG : Hid (0 ≤ cmpI (V p' q') (V u v)) := by
      unfold Hid cmpI
      rw [hpq.out, if_neg (by obtain ⟨_, _⟩ := h3; obtain ⟨_, _⟩ := h4; unfold V; omega)]
      split <;> omega
    clear x0 x1 xz b0 b1 bz hb6 X5 A5 B5 E5 huv
    obtain ⟨x0, x1, xz⟩ := X6
    obtain ⟨a0, a1, az⟩ := A6
    go_wp2_with fail
    refine (cmp_any p' q' u v _ hp hq h1 h2).mono ?_
    rintro e w7 ⟨rfl, hb7⟩
    have hg := HG.out
    generalize cmpI (V p' q') (V u v) = g at hg ⊢
    clear x0 x1 xz a0 a1 az HG
    go_wp2_with fail
    go_ret
    refine ⟨?_, (E6.out.alloc (by omega) _).trans (hb7.mono (by simp; omega))⟩
    simp

theorem back_any (ah al bh bl : Int) (w : World) (h1 : Word ah) (h2 : Word al) (h3 : Word bh) (h4 : Word bl) :
    Calls Try.prog 8 #[U ah al, U bh bl] w fun e w' => e = .returned (.bool true) ∧ Below w.heap.size w w' := by
  by_cases h : V ah al + V bh bl < 340282366920938463463374607431768211456
  · exact back_in ah al bh bl w h1 h2 h3 h4 h
  · exact back_over ah al bh bl w h1 h2 h3 h4 (by omega)
end Go.Proofs.Ytegpcjkdkjdckaa
