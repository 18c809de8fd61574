/-
  Walks, not a claim by itself: U128Sums comes out true. By the verifier.
-/
import Derived.Test.YtkpkehbhgfbckaaAwake
import Derived.Test.YtkpkehbhgfbckaaCmp
import Derived.Test.YtkpkehbhgfbckaaRSub
namespace Go.Proofs.Ytkpkehbhgfbckaa
open Go.RowKit

theorem rofw_any (n : Int) (w : World) : Calls Try.prog 16 #[.int .u64 n] w fun e w' => e = .returned (U 0 n) ∧ Below w.heap.size w w' := by
  go_enter Try.func16, Try.ntmps16
  go_wp2
  exact bodyPost_ret (v := U 0 n) (by simp [results, Try.results16, go_sem]) rfl ⟨rfl, (Below.refl _ _).alloc (Nat.le_refl _) _⟩
theorem words_eq {x y p q : Int} (hx : Word x) (hy : Word y) (hp : Word p) (hq : Word q) (h : V x y = V p q) : x = p ∧ y = q := by
  obtain ⟨_, _⟩ := hx; obtain ⟨_, _⟩ := hy; obtain ⟨_, _⟩ := hp; obtain ⟨_, _⟩ := hq
  unfold V at h
  omega
theorem words_of (n : Int) (h0 : 0 ≤ n) (h1 : n < 340282366920938463463374607431768211456) : ∃ p q : Int, Word p ∧ Word q ∧ V p q = n :=
  ⟨n / 18446744073709551616, n % 18446744073709551616, ⟨by omega, by omega⟩, ⟨by omega, by omega⟩, by unfold V; omega⟩
/-- The program's Add and the reference's hand back one and the same. -/
theorem add_fix (ah al bh bl : Int) (h1 : Word ah) (h2 : Word al) (h3 : Word bh) (h4 : Word bl) : ∃ (p q : Int) (o : Bool),
    (∀ w, Calls Try.prog 9 #[U ah al, U bh bl] w fun e w' => e = .returned (.tuple #[U p q, .bool o]) ∧ Below w.heap.size w w') ∧ (∀ w, Calls Try.prog 10 #[U ah al, U bh bl] w fun e w' => e = .returned (.tuple #[U p q, .bool o]) ∧ Below w.heap.size w w') := by
  by_cases g : V ah al + V bh bl < 340282366920938463463374607431768211456
  · obtain ⟨p, q, hp, hq, hpq⟩ := words_of (V ah al + V bh bl) (by obtain ⟨_, _⟩ := h1; obtain ⟨_, _⟩ := h2; obtain ⟨_, _⟩ := h3; obtain ⟨_, _⟩ := h4; unfold V; omega) g
    refine ⟨p, q, false, fun w => ?_, fun w => ?_⟩
    · refine (add_ok ah al bh bl w h1 h2 h3 h4 g).mono ?_
      rintro e w' ⟨x, y, rfl, hx, hy, hv, hb⟩
      obtain ⟨rfl, rfl⟩ := words_eq hx hy hp hq (hv.out.trans hpq.symm)
      exact ⟨rfl, hb⟩
    · refine (radd_any ah al bh bl w h1 h2 h3 h4).mono ?_
      rintro e w' ⟨⟨_, x, y, rfl, hx, hy, hv⟩ | ⟨ho, _⟩, hb⟩
      · obtain ⟨rfl, rfl⟩ := words_eq hx hy hp hq (hv.trans hpq.symm)
        exact ⟨rfl, hb⟩
      · omega
  · refine ⟨0, 0, true, fun w => add_over ah al bh bl w h1 h2 h3 h4 (by omega), fun w => ?_⟩
    refine (radd_any ah al bh bl w h1 h2 h3 h4).mono ?_
    rintro e w' ⟨⟨ho, _⟩ | ⟨_, rfl⟩, hb⟩
    · omega
    · exact ⟨rfl, hb⟩
/-- .. and Sub. -/
theorem sub_fix (ah al bh bl : Int) (h1 : Word ah) (h2 : Word al) (h3 : Word bh) (h4 : Word bl) : ∃ (p q : Int) (o : Bool),
    (∀ w, Calls Try.prog 11 #[U ah al, U bh bl] w fun e w' => e = .returned (.tuple #[U p q, .bool o]) ∧ Below w.heap.size w w') ∧ (∀ w, Calls Try.prog 12 #[U ah al, U bh bl] w fun e w' => e = .returned (.tuple #[U p q, .bool o]) ∧ Below w.heap.size w w') := by
  by_cases g : V bh bl ≤ V ah al
  · obtain ⟨p, q, hp, hq, hpq⟩ := words_of (V ah al - V bh bl) (by omega) (by obtain ⟨_, _⟩ := h1; obtain ⟨_, _⟩ := h2; obtain ⟨_, _⟩ := h3; obtain ⟨_, _⟩ := h4; unfold V; omega)
    refine ⟨p, q, false, fun w => ?_, fun w => ?_⟩
    · refine (sub_ok ah al bh bl w h1 h2 h3 h4 g).mono ?_
      rintro e w' ⟨x, y, rfl, hx, hy, hv, hb⟩
      obtain ⟨rfl, rfl⟩ := words_eq hx hy hp hq (hv.out.trans hpq.symm)
      exact ⟨rfl, hb⟩
    · refine (rsub_any ah al bh bl w h1 h2 h3 h4).mono ?_
      rintro e w' ⟨⟨_, x, y, rfl, hx, hy, hv⟩ | ⟨ho, _⟩, hb⟩
      · obtain ⟨rfl, rfl⟩ := words_eq hx hy hp hq (hv.trans hpq.symm)
        exact ⟨rfl, hb⟩
      · omega
  · refine ⟨0, 0, true, fun w => sub_below ah al bh bl w h1 h2 h3 h4 (by omega), fun w => ?_⟩
    refine (rsub_any ah al bh bl w h1 h2 h3 h4).mono ?_
    rintro e w' ⟨⟨ho, _⟩ | ⟨_, rfl⟩, hb⟩
    · omega
    · exact ⟨rfl, hb⟩

theorem keepS {u v : World} {A B X Y P Q : Nat} {ah al bh bl p q r s : Int} (hb : Below u.heap.size u v) (h : u.cell? ⟨A, 0, none⟩ = some (.int .u64 ah) ∧ u.cell? ⟨A, 1, none⟩ = some (.int .u64 al) ∧ u.cell? ⟨B, 0, none⟩ = some (.int .u64 bh) ∧ u.cell? ⟨B, 1, none⟩ = some (.int .u64 bl) ∧ u.cell? ⟨X, 0, none⟩ = some (.int .u64 p) ∧ u.cell? ⟨X, 1, none⟩ = some (.int .u64 q) ∧ u.cell? ⟨Y, 0, none⟩ = some (.int .u64 p) ∧ u.cell? ⟨Y, 1, none⟩ = some (.int .u64 q) ∧ u.cell? ⟨P, 0, none⟩ = some (.int .u64 r) ∧ u.cell? ⟨P, 1, none⟩ = some (.int .u64 s) ∧ u.cell? ⟨Q, 0, none⟩ = some (.int .u64 r) ∧ u.cell? ⟨Q, 1, none⟩ = some (.int .u64 s) ∧ A < u.heap.size ∧ B < u.heap.size ∧ X < u.heap.size ∧ Y < u.heap.size ∧ P < u.heap.size ∧ Q < u.heap.size) : v.cell? ⟨A, 0, none⟩ = some (.int .u64 ah) ∧ v.cell? ⟨A, 1, none⟩ = some (.int .u64 al) ∧ v.cell? ⟨B, 0, none⟩ = some (.int .u64 bh) ∧ v.cell? ⟨B, 1, none⟩ = some (.int .u64 bl) ∧ v.cell? ⟨X, 0, none⟩ = some (.int .u64 p) ∧ v.cell? ⟨X, 1, none⟩ = some (.int .u64 q) ∧ v.cell? ⟨Y, 0, none⟩ = some (.int .u64 p) ∧ v.cell? ⟨Y, 1, none⟩ = some (.int .u64 q) ∧ v.cell? ⟨P, 0, none⟩ = some (.int .u64 r) ∧ v.cell? ⟨P, 1, none⟩ = some (.int .u64 s) ∧ v.cell? ⟨Q, 0, none⟩ = some (.int .u64 r) ∧ v.cell? ⟨Q, 1, none⟩ = some (.int .u64 s) ∧ A < v.heap.size ∧ B < v.heap.size ∧ X < v.heap.size ∧ Y < v.heap.size ∧ P < v.heap.size ∧ Q < v.heap.size := by
  obtain ⟨cA0, cA1, cB0, cB1, cX0, cX1, cY0, cY1, cP0, cP1, cQ0, cQ1, zA, zB, zX, zY, zP, zQ⟩ := h
  exact ⟨(hb.cell zA).trans cA0, (hb.cell zA).trans cA1, (hb.cell zB).trans cB0, (hb.cell zB).trans cB1, (hb.cell zX).trans cX0, (hb.cell zX).trans cX1, (hb.cell zY).trans cY0, (hb.cell zY).trans cY1, (hb.cell zP).trans cP0, (hb.cell zP).trans cP1, (hb.cell zQ).trans cQ0, (hb.cell zQ).trans cQ1, Nat.lt_of_lt_of_le zA hb.size, Nat.lt_of_lt_of_le zB hb.size, Nat.lt_of_lt_of_le zX hb.size, Nat.lt_of_lt_of_le zY hb.size, Nat.lt_of_lt_of_le zP hb.size, Nat.lt_of_lt_of_le zQ hb.size⟩

set_option maxRecDepth 100000 in
set_option maxHeartbeats 8000000 in
theorem sums_any (ah al bh bl : Int) (w : World) (h1 : Word ah) (h2 : Word al) (h3 : Word bh) (h4 : Word bl) :
    Calls Try.prog 3 #[U ah al, U bh bl] w fun e w' => e = .returned (.bool true) ∧ Below w.heap.size w w' := by
  obtain ⟨p, q, o, ad0, ra0⟩ := add_fix ah al bh bl h1 h2 h3 h4
  obtain ⟨r, s, o', su0, rs0⟩ := sub_fix ah al bh bl h1 h2 h3 h4
  have ad : Hid (∀ w, Calls Try.prog 9 #[U ah al, U bh bl] w fun e w' => e = .returned (.tuple #[U p q, .bool o]) ∧ Below w.heap.size w w') := ad0
  have ra : Hid (∀ w, Calls Try.prog 10 #[U ah al, U bh bl] w fun e w' => e = .returned (.tuple #[U p q, .bool o]) ∧ Below w.heap.size w w') := ra0
  have su : Hid (∀ w, Calls Try.prog 11 #[U ah al, U bh bl] w fun e w' => e = .returned (.tuple #[U r s, .bool o']) ∧ Below w.heap.size w w') := su0
  have rs : Hid (∀ w, Calls Try.prog 12 #[U ah al, U bh bl] w fun e w' => e = .returned (.tuple #[U r s, .bool o']) ∧ Below w.heap.size w w') := rs0
  clear ad0 ra0 su0 rs0
  go_enter Try.func3, Try.ntmps3
  go_wp2_with fail
  refine (ad.out _).mono ?_
  rintro e w1 ⟨rfl, hb1⟩
  have A1 := (((AtW.new w ah al 24).alloc (.cells #[.int .u64 bh, .int .u64 bl] 24)).below hb1).alloc (.cells #[.int .u64 p, .int .u64 q] 24)
  have B1 := ((AtW.new (w.alloc (.cells #[.int .u64 ah, .int .u64 al] 24)) bh bl 24).below hb1).alloc (.cells #[.int .u64 p, .int .u64 q] 24)
  rw [World.size_alloc] at B1
  have X1 := AtW.new w1 p q 24
  have E1 : Hid (Below w.heap.size w w1) := (((Below.refl _ _).alloc (Nat.le_refl _) _).alloc (by simp) _).trans (hb1.mono (by simp; omega))
  have E1' : Hid (Below w.heap.size w (w1.alloc (.cells #[.int .u64 p, .int .u64 q] 24))) := E1.out.alloc E1.out.size _
  clear hb1 E1
  obtain ⟨a0, a1, _, _, az⟩ := id A1
  obtain ⟨b0, b1, _, _, bz⟩ := id B1
  go_wp2_with fail
  refine (ra.out _).mono ?_
  rintro e w2 ⟨rfl, hb2⟩
  have A2 := (A1.below hb2).alloc (.cells #[.int .u64 p, .int .u64 q] 24)
  have B2 := (B1.below hb2).alloc (.cells #[.int .u64 p, .int .u64 q] 24)
  have X2 := (X1.below hb2).alloc (.cells #[.int .u64 p, .int .u64 q] 24)
  have Y2 := AtW.new w2 p q 24
  have E2 : Hid (Below w.heap.size w w2) := E1'.out.trans (hb2.mono E1'.out.size)
  have E2' : Hid (Below w.heap.size w (w2.alloc (.cells #[.int .u64 p, .int .u64 q] 24))) := E2.out.alloc E2.out.size _
  clear a0 a1 az b0 b1 bz A1 B1 X1 E1' E2 hb2
  obtain ⟨a0, a1, _, _, az⟩ := id A2
  obtain ⟨b0, b1, _, _, bz⟩ := id B2
  go_wp2_with fail
  refine (su.out _).mono ?_
  rintro e w3 ⟨rfl, hb3⟩
  have A3 := (A2.below hb3).alloc (.cells #[.int .u64 r, .int .u64 s] 24)
  have B3 := (B2.below hb3).alloc (.cells #[.int .u64 r, .int .u64 s] 24)
  have X3 := (X2.below hb3).alloc (.cells #[.int .u64 r, .int .u64 s] 24)
  have Y3 := (Y2.below hb3).alloc (.cells #[.int .u64 r, .int .u64 s] 24)
  have P3 := AtW.new w3 r s 24
  have E3 : Hid (Below w.heap.size w w3) := E2'.out.trans (hb3.mono E2'.out.size)
  have E3' : Hid (Below w.heap.size w (w3.alloc (.cells #[.int .u64 r, .int .u64 s] 24))) := E3.out.alloc E3.out.size _
  clear a0 a1 az b0 b1 bz A2 B2 X2 Y2 E2' E3 hb3
  obtain ⟨a0, a1, _, _, az⟩ := id A3
  obtain ⟨b0, b1, _, _, bz⟩ := id B3
  go_wp2_with fail
  refine (rs.out _).mono ?_
  rintro e w4 ⟨rfl, hb4⟩
  have A4 := A3.below hb4
  have B4 := B3.below hb4
  have X4 := X3.below hb4
  have Y4 := Y3.below hb4
  have P4 := P3.below hb4
  have E4 : Hid (Below w.heap.size w w4) := E3'.out.trans (hb4.mono E3'.out.size)
  clear a0 a1 az b0 b1 bz A3 B3 X3 Y3 P3 E3' hb4 ad ra su rs
  have A5 := A4.alloc (.cells #[.int .u64 r, .int .u64 s] 24)
  have B5 := B4.alloc (.cells #[.int .u64 r, .int .u64 s] 24)
  have X5 := X4.alloc (.cells #[.int .u64 r, .int .u64 s] 24)
  have Y5 := Y4.alloc (.cells #[.int .u64 r, .int .u64 s] 24)
  have P5 := P4.alloc (.cells #[.int .u64 r, .int .u64 s] 24)
  have Q5 := AtW.new w4 r s 24
  have E5 : Hid (Below w.heap.size w (w4.alloc (.cells #[.int .u64 r, .int .u64 s] 24))) := E4.out.alloc E4.out.size _
  have S5 : (w4.alloc (.cells #[.int .u64 r, .int .u64 s] 24)).cell? ⟨w.heap.size, 0, none⟩ = some (.int .u64 ah) ∧ (w4.alloc (.cells #[.int .u64 r, .int .u64 s] 24)).cell? ⟨w.heap.size, 1, none⟩ = some (.int .u64 al) ∧ (w4.alloc (.cells #[.int .u64 r, .int .u64 s] 24)).cell? ⟨w.heap.size + 1, 0, none⟩ = some (.int .u64 bh) ∧ (w4.alloc (.cells #[.int .u64 r, .int .u64 s] 24)).cell? ⟨w.heap.size + 1, 1, none⟩ = some (.int .u64 bl) ∧ (w4.alloc (.cells #[.int .u64 r, .int .u64 s] 24)).cell? ⟨w1.heap.size, 0, none⟩ = some (.int .u64 p) ∧ (w4.alloc (.cells #[.int .u64 r, .int .u64 s] 24)).cell? ⟨w1.heap.size, 1, none⟩ = some (.int .u64 q) ∧ (w4.alloc (.cells #[.int .u64 r, .int .u64 s] 24)).cell? ⟨w2.heap.size, 0, none⟩ = some (.int .u64 p) ∧ (w4.alloc (.cells #[.int .u64 r, .int .u64 s] 24)).cell? ⟨w2.heap.size, 1, none⟩ = some (.int .u64 q) ∧ (w4.alloc (.cells #[.int .u64 r, .int .u64 s] 24)).cell? ⟨w3.heap.size, 0, none⟩ = some (.int .u64 r) ∧ (w4.alloc (.cells #[.int .u64 r, .int .u64 s] 24)).cell? ⟨w3.heap.size, 1, none⟩ = some (.int .u64 s) ∧ (w4.alloc (.cells #[.int .u64 r, .int .u64 s] 24)).cell? ⟨w4.heap.size, 0, none⟩ = some (.int .u64 r) ∧ (w4.alloc (.cells #[.int .u64 r, .int .u64 s] 24)).cell? ⟨w4.heap.size, 1, none⟩ = some (.int .u64 s) ∧ w.heap.size < (w4.alloc (.cells #[.int .u64 r, .int .u64 s] 24)).heap.size ∧ w.heap.size + 1 < (w4.alloc (.cells #[.int .u64 r, .int .u64 s] 24)).heap.size ∧ w1.heap.size < (w4.alloc (.cells #[.int .u64 r, .int .u64 s] 24)).heap.size ∧ w2.heap.size < (w4.alloc (.cells #[.int .u64 r, .int .u64 s] 24)).heap.size ∧ w3.heap.size < (w4.alloc (.cells #[.int .u64 r, .int .u64 s] 24)).heap.size ∧ w4.heap.size < (w4.alloc (.cells #[.int .u64 r, .int .u64 s] 24)).heap.size := ⟨A5.1, A5.2.1, B5.1, B5.2.1, X5.1, X5.2.1, Y5.1, Y5.2.1, P5.1, P5.2.1, Q5.1, Q5.2.1, A5.2.2.2.2, B5.2.2.2.2, X5.2.2.2.2, Y5.2.2.2.2, P5.2.2.2.2, Q5.2.2.2.2⟩
  clear A4 B4 X4 Y4 P4 A5 B5 X5 Y5 P5 Q5 E4
  have SH : Hid ((w4.alloc (.cells #[.int .u64 r, .int .u64 s] 24)).cell? ⟨w.heap.size, 0, none⟩ = some (.int .u64 ah) ∧ (w4.alloc (.cells #[.int .u64 r, .int .u64 s] 24)).cell? ⟨w.heap.size, 1, none⟩ = some (.int .u64 al) ∧ (w4.alloc (.cells #[.int .u64 r, .int .u64 s] 24)).cell? ⟨w.heap.size + 1, 0, none⟩ = some (.int .u64 bh) ∧ (w4.alloc (.cells #[.int .u64 r, .int .u64 s] 24)).cell? ⟨w.heap.size + 1, 1, none⟩ = some (.int .u64 bl) ∧ (w4.alloc (.cells #[.int .u64 r, .int .u64 s] 24)).cell? ⟨w1.heap.size, 0, none⟩ = some (.int .u64 p) ∧ (w4.alloc (.cells #[.int .u64 r, .int .u64 s] 24)).cell? ⟨w1.heap.size, 1, none⟩ = some (.int .u64 q) ∧ (w4.alloc (.cells #[.int .u64 r, .int .u64 s] 24)).cell? ⟨w2.heap.size, 0, none⟩ = some (.int .u64 p) ∧ (w4.alloc (.cells #[.int .u64 r, .int .u64 s] 24)).cell? ⟨w2.heap.size, 1, none⟩ = some (.int .u64 q) ∧ (w4.alloc (.cells #[.int .u64 r, .int .u64 s] 24)).cell? ⟨w3.heap.size, 0, none⟩ = some (.int .u64 r) ∧ (w4.alloc (.cells #[.int .u64 r, .int .u64 s] 24)).cell? ⟨w3.heap.size, 1, none⟩ = some (.int .u64 s) ∧ (w4.alloc (.cells #[.int .u64 r, .int .u64 s] 24)).cell? ⟨w4.heap.size, 0, none⟩ = some (.int .u64 r) ∧ (w4.alloc (.cells #[.int .u64 r, .int .u64 s] 24)).cell? ⟨w4.heap.size, 1, none⟩ = some (.int .u64 s) ∧ w.heap.size < (w4.alloc (.cells #[.int .u64 r, .int .u64 s] 24)).heap.size ∧ w.heap.size + 1 < (w4.alloc (.cells #[.int .u64 r, .int .u64 s] 24)).heap.size ∧ w1.heap.size < (w4.alloc (.cells #[.int .u64 r, .int .u64 s] 24)).heap.size ∧ w2.heap.size < (w4.alloc (.cells #[.int .u64 r, .int .u64 s] 24)).heap.size ∧ w3.heap.size < (w4.alloc (.cells #[.int .u64 r, .int .u64 s] 24)).heap.size ∧ w4.heap.size < (w4.alloc (.cells #[.int .u64 r, .int .u64 s] 24)).heap.size) := S5
  clear S5
  go_wp2_with fail
  go_region_held3 (fun w' => w'.cell? ⟨w.heap.size, 0, none⟩ = some (.int .u64 ah) ∧ w'.cell? ⟨w.heap.size, 1, none⟩ = some (.int .u64 al) ∧ w'.cell? ⟨w.heap.size + 1, 0, none⟩ = some (.int .u64 bh) ∧ w'.cell? ⟨w.heap.size + 1, 1, none⟩ = some (.int .u64 bl) ∧ w'.cell? ⟨w1.heap.size, 0, none⟩ = some (.int .u64 p) ∧ w'.cell? ⟨w1.heap.size, 1, none⟩ = some (.int .u64 q) ∧ w'.cell? ⟨w2.heap.size, 0, none⟩ = some (.int .u64 p) ∧ w'.cell? ⟨w2.heap.size, 1, none⟩ = some (.int .u64 q) ∧ w'.cell? ⟨w3.heap.size, 0, none⟩ = some (.int .u64 r) ∧ w'.cell? ⟨w3.heap.size, 1, none⟩ = some (.int .u64 s) ∧ w'.cell? ⟨w4.heap.size, 0, none⟩ = some (.int .u64 r) ∧ w'.cell? ⟨w4.heap.size, 1, none⟩ = some (.int .u64 s) ∧ w.heap.size < w'.heap.size ∧ w.heap.size + 1 < w'.heap.size ∧ w1.heap.size < w'.heap.size ∧ w2.heap.size < w'.heap.size ∧ w3.heap.size < w'.heap.size ∧ w4.heap.size < w'.heap.size) (first | exact S10.out | exact S9.out | exact S8.out | exact S7.out | exact S6.out | exact SH.out)
    (first
      | (go_at_call 13; go_must (go_fit (cmp_any ah al bh bl _ h1 h2 h3 h4)); rintro e w6 ⟨rfl, hb6⟩; have S6 : Hid _ := keepS hb6 SH.out; have E6' : Hid (Below w.heap.size w w6) := E5.out.drew.trans (hb6.mono E5.out.size))
      | (go_at_call 14; go_must (go_fit (rcmp_any ah al bh bl _ h1 h2 h3 h4)); rintro e w7 ⟨rfl, hb7⟩; have S7 : Hid _ := keepS hb7 S6.out; have E7' : Hid (Below w.heap.size w w7) := E6'.out.trans (hb7.mono E6'.out.size))
      | (go_at_call 15; go_must (go_fit (of_any al _)); rintro e w8 ⟨rfl, hb8⟩; have S8 : Hid _ := keepS hb8 S7.out; have E8' : Hid (Below w.heap.size w w8) := E7'.out.trans (hb8.mono E7'.out.size))
      | (go_at_call 16; go_must (go_fit (rofw_any al _)); rintro e w9 ⟨rfl, hb9⟩; have S9 : Hid _ := keepS hb9 S8.out; have E9' : Hid (Below w.heap.size w w9) := E8'.out.trans (hb9.mono E8'.out.size))
      | (go_at_call 17; go_must (go_fit (awake_any _)); rintro e w10 ⟨rfl, hb10⟩; have S10 : Hid _ := keepS hb10 S9.out; have E10' : Hid (Below w.heap.size w w10) := E9'.out.trans (hb10.mono E9'.out.size)))
  go_wp2
  go_ret
  exact ⟨rfl, E10'.out⟩
end Go.Proofs.Ytkpkehbhgfbckaa
