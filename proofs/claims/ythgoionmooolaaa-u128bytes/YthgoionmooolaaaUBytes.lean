/-
  Walks, not a claim by itself: U128Bytes, over whatever number and bytes. By the verifier.
-/
import Derived.Test.YthgoionmooolaaaZLent
import Derived.Test.YthgoionmooolaaaQEq
import Derived.Test.YthgoionmooolaaaRKey
import Derived.Test.YthgoionmooolaaaReadKey
namespace Go.Proofs.Ythgoionmooolaaa
open Go.RowKit
/-- What is read of n bytes: the words of the number, of the key; the error's number. -/
def rdH (n : Nat) (f : Nat → Int) : Int := if n = 16 then le8 fun j => f (8 + j) else 0
def rdL (n : Nat) (f : Nat → Int) : Int := if n = 16 then le8 f else 0
def kyH (n : Nat) (f : Nat → Int) : Int := if n = 16 then le8 fun j => f (7 - j) else 0
def kyL (n : Nat) (f : Nat → Int) : Int := if n = 16 then le8 fun j => f (15 - j) else 0
def rdC (n : Nat) : Int := if n = 16 then 0 else 4
theorem read_all (s : Option Addr) (n C : Nat) (f : Nat → Int) (w : World) (h : Arg w s n f) (hC : n ≤ C) :
    Calls Try.prog 7 #[.slice s n C] w fun e w' => e = .returned (.tuple #[U (rdH n f) (rdL n f), .int .i64 (rdC n)]) ∧ Below w.heap.size w w' := by
  by_cases g : n = 16
  · subst g
    rcases h with ⟨h0, _⟩ | ⟨_, b, off, rfl, hl⟩
    · cases h0
    · exact read_ok b off C f w hC hl
  · unfold rdH rdL rdC
    rw [if_neg g, if_neg g, if_neg g]
    exact read_no s n C w g
theorem rread_all (s : Option Addr) (n C : Nat) (f : Nat → Int) (w : World) (h : Arg w s n f) :
    Calls Try.prog 8 #[.slice s n C] w fun e w' => e = .returned (.tuple #[U (rdH n f) (rdL n f), .int .i64 (rdC n)]) ∧ Below w.heap.size w w' := by
  by_cases g : n = 16
  · subst g
    rcases h with ⟨h0, _⟩ | ⟨_, b, off, rfl, hl⟩
    · cases h0
    · exact rread_ok b off C f w hl
  · unfold rdH rdL rdC
    rw [if_neg g, if_neg g, if_neg g]
    exact rread_no s n C w g
theorem readkey_all (s : Option Addr) (n C : Nat) (f : Nat → Int) (w : World) (h : Arg w s n f) :
    Calls Try.prog 9 #[.slice s n C] w fun e w' => e = .returned (.tuple #[U (kyH n f) (kyL n f), .int .i64 (rdC n)]) ∧ Below w.heap.size w w' := by
  by_cases g : n = 16
  · subst g
    rcases h with ⟨h0, _⟩ | ⟨_, b, off, rfl, hl⟩
    · cases h0
    · exact readkey_ok b off C f w hl
  · unfold kyH kyL rdC
    rw [if_neg g, if_neg g, if_neg g]
    exact readkey_no s n C w g
theorem rreadkey_all (s : Option Addr) (n C : Nat) (f : Nat → Int) (w : World) (h : Arg w s n f) :
    Calls Try.prog 10 #[.slice s n C] w fun e w' => e = .returned (.tuple #[U (kyH n f) (kyL n f), .int .i64 (rdC n)]) ∧ Below w.heap.size w w' := by
  by_cases g : n = 16
  · subst g
    rcases h with ⟨h0, _⟩ | ⟨_, b, off, rfl, hl⟩
    · cases h0
    · exact rreadkey_ok b off C f w hl
  · unfold kyH kyL rdC
    rw [if_neg g, if_neg g, if_neg g]
    exact rreadkey_no s n C w g
theorem lentF_low (n : Nat) (f : Nat → Int) (m j : Nat) (h : j < n) : lentF n f m j = f j := by
  unfold lentF layZ
  rw [if_pos h]
  exact if_pos h
theorem lent_arg {w w1 : World} {a : Option Addr} {g n : Nat} {f : Nat → Int} (h : Arg w a n f) (hR : RowZ w1 g (n + 3) (lentF n f 3)) : Arg w1 (some ⟨g, 0, none⟩) n f := by
  rcases h with ⟨rfl, _⟩ | ⟨h0, b, off, rfl, hl⟩
  · exact .inl ⟨rfl, .inr ⟨_, rfl⟩⟩
  · refine .inr ⟨h0, g, 0, rfl, fun j hj => ?_, hl.2.1, hR.2.2⟩
    rw [Nat.zero_add, hR.1 j (by omega), lentF_low n f 3 j hj]
/-- A number's key, as a function. -/
def kf (h l : Int) (j : Nat) : Int := (bytesL h l).getD (15 - j) 0
/-- Sixteen bytes of a key lie there. -/
def KeyAt (W : World) (b : Nat) (h l : Int) : Prop := (∀ j, j < 16 → W.cell? ⟨b, 0 + j, none⟩ = some (.int .u8 (kf h l j))) ∧ b < W.heap.size
theorem KeyAt.below {W W' : World} {b : Nat} {h l : Int} (k : KeyAt W b h l) (hB : Below W.heap.size W W') : KeyAt W' b h l :=
  ⟨fun j hj => (hB.cell (p := ⟨b, 0 + j, none⟩) k.2).trans (k.1 j hj), Nat.lt_of_lt_of_le k.2 hB.size⟩
theorem key_at (h l : Int) (w : World) (h1 : Word h) (h2 : Word l) :
    Calls Try.prog 11 #[U h l] w fun e w' => ∃ b, e = .returned (.slice (some ⟨b, 0, none⟩) 16 16) ∧ Hid (KeyAt w' b h l) ∧ (∀ j, w'.frozen? ⟨b, j, none⟩ = false) ∧ w.heap.size ≤ b ∧ Below w.heap.size w w' := by
  refine (key_any h l w h1 h2).mono ?_
  rintro e w' ⟨rfl, hc, hf, hz, hB⟩
  exact ⟨_, rfl, ⟨fun j hj => by rw [Nat.zero_add]; exact hc j hj, hz⟩, hf, Nat.le_succ _, hB⟩
theorem rkey_at (h l : Int) (w : World) (h1 : Word h) (h2 : Word l) :
    Calls Try.prog 13 #[U h l] w fun e w' => ∃ b c, e = .returned (.slice (some ⟨b, 0, none⟩) 16 c) ∧ Hid (KeyAt w' b h l) ∧ Below w.heap.size w w' := by
  refine (rkey_any h l w h1 h2).mono ?_
  rintro e w' ⟨⟨v, rfl, hown⟩, hB⟩
  obtain ⟨hlen, h0 | ⟨g, cap, cur, rfl, hb, hg, h3, h4, h5, h6⟩⟩ := hown
  · cases h0.2
  · refine ⟨g, cap, rfl, ⟨fun j hj => ?_, (Array.getElem?_eq_some_iff.1 hg).1⟩, hB⟩
    have e1 : w'.cell? ⟨g, 0 + j, none⟩ = cur[j]? := by simp [World.cell?, hg]
    have e2 : cur[j]? = ((bytesL h l).reverse.map (Value.int .u8))[j]? := by
      rw [← h6, List.getElem?_take, if_pos (by omega)]
      simp
    rw [e1, e2]
    unfold kf
    match j, hj with
    | 0, _ | 1, _ | 2, _ | 3, _ | 4, _ | 5, _ | 6, _ | 7, _ | 8, _ | 9, _ | 10, _ | 11, _ | 12, _ | 13, _ | 14, _ | 15, _ => rfl
    | j + 16, hj => omega
theorem same_key (b b' c c' : Nat) (h l : Int) (w : World) (k1 : KeyAt w b h l) (k2 : KeyAt w b' h l) :
    Calls Try.prog 12 #[.slice (some ⟨b, 0, none⟩) 16 c, .slice (some ⟨b', 0, none⟩) 16 c'] w fun e w' => e = .returned (.bool true) ∧ w' = w :=
  same_trueN b b' 0 0 16 c c' (kf h l) w k1.1 k2.1
theorem ubytes_long (h l : Int) (a : Option Addr) (n C : Nat) (w : World) (hn : 1000 < n) :
    Calls Try.prog 3 #[U h l, .slice a n C] w fun e w' => e = .returned (.bool true) ∧ Below w.heap.size w w' := by
  have h1 : (1000 : Int) < n := by omega
  go_enter Try.func3, Try.ntmps3
  go_wp2_with fail
  go_ret
  exact ⟨rfl, (Below.refl _ _).alloc (Nat.le_refl _) _⟩
/-- What goes with the cells. -/
def UBrest (w : World) (a : Option Addr) (g n na nx ny np nq : Nat) (f : Nat → Int) (W : World) : Prop := Arg W a n f ∧ RowZ W g (n + 3) (lentF n f 3) ∧ Below w.heap.size w W ∧ na < W.heap.size ∧ nx < W.heap.size ∧ ny < W.heap.size ∧ np < W.heap.size ∧ nq < W.heap.size
theorem ub_keep {w W W' : World} {a : Option Addr} {g n na nx ny np nq : Nat} {f : Nat → Int} {h l : Int} (k : W.cell? ⟨na, 0, none⟩ = some (.int .u64 h) ∧ W.cell? ⟨na, 1, none⟩ = some (.int .u64 l) ∧ W.cell? ⟨nx, 0, none⟩ = some (.int .u64 (rdH n f)) ∧ W.cell? ⟨nx, 1, none⟩ = some (.int .u64 (rdL n f)) ∧ W.cell? ⟨ny, 0, none⟩ = some (.int .u64 (rdH n f)) ∧ W.cell? ⟨ny, 1, none⟩ = some (.int .u64 (rdL n f)) ∧ W.cell? ⟨np, 0, none⟩ = some (.int .u64 (kyH n f)) ∧ W.cell? ⟨np, 1, none⟩ = some (.int .u64 (kyL n f)) ∧ W.cell? ⟨nq, 0, none⟩ = some (.int .u64 (kyH n f)) ∧ W.cell? ⟨nq, 1, none⟩ = some (.int .u64 (kyL n f)) ∧ Hid (UBrest w a g n na nx ny np nq f W)) (hB : Below W.heap.size W W') : W'.cell? ⟨na, 0, none⟩ = some (.int .u64 h) ∧ W'.cell? ⟨na, 1, none⟩ = some (.int .u64 l) ∧ W'.cell? ⟨nx, 0, none⟩ = some (.int .u64 (rdH n f)) ∧ W'.cell? ⟨nx, 1, none⟩ = some (.int .u64 (rdL n f)) ∧ W'.cell? ⟨ny, 0, none⟩ = some (.int .u64 (rdH n f)) ∧ W'.cell? ⟨ny, 1, none⟩ = some (.int .u64 (rdL n f)) ∧ W'.cell? ⟨np, 0, none⟩ = some (.int .u64 (kyH n f)) ∧ W'.cell? ⟨np, 1, none⟩ = some (.int .u64 (kyL n f)) ∧ W'.cell? ⟨nq, 0, none⟩ = some (.int .u64 (kyH n f)) ∧ W'.cell? ⟨nq, 1, none⟩ = some (.int .u64 (kyL n f)) ∧ Hid (UBrest w a g n na nx ny np nq f W') := by
  obtain ⟨c0, c1, c2, c3, c4, c5, c6, c7, c8, c9, kA, kR, kB, z0, z1, z2, z3, z4⟩ := k
  have hs := hB.size
  exact ⟨(hB.cell (p := ⟨na, 0, none⟩) z0).trans c0, (hB.cell (p := ⟨na, 1, none⟩) z0).trans c1, (hB.cell (p := ⟨nx, 0, none⟩) z1).trans c2, (hB.cell (p := ⟨nx, 1, none⟩) z1).trans c3, (hB.cell (p := ⟨ny, 0, none⟩) z2).trans c4, (hB.cell (p := ⟨ny, 1, none⟩) z2).trans c5, (hB.cell (p := ⟨np, 0, none⟩) z3).trans c6, (hB.cell (p := ⟨np, 1, none⟩) z3).trans c7, (hB.cell (p := ⟨nq, 0, none⟩) z4).trans c8, (hB.cell (p := ⟨nq, 1, none⟩) z4).trans c9,
    kA.below hB, kR.below hB, kB.trans (hB.mono kB.size), by omega, by omega, by omega, by omega, by omega⟩
theorem ub_rest {w W : World} {a : Option Addr} {g n na nx ny np nq : Nat} {f : Nat → Int} {h l : Int} (k : W.cell? ⟨na, 0, none⟩ = some (.int .u64 h) ∧ W.cell? ⟨na, 1, none⟩ = some (.int .u64 l) ∧ W.cell? ⟨nx, 0, none⟩ = some (.int .u64 (rdH n f)) ∧ W.cell? ⟨nx, 1, none⟩ = some (.int .u64 (rdL n f)) ∧ W.cell? ⟨ny, 0, none⟩ = some (.int .u64 (rdH n f)) ∧ W.cell? ⟨ny, 1, none⟩ = some (.int .u64 (rdL n f)) ∧ W.cell? ⟨np, 0, none⟩ = some (.int .u64 (kyH n f)) ∧ W.cell? ⟨np, 1, none⟩ = some (.int .u64 (kyL n f)) ∧ W.cell? ⟨nq, 0, none⟩ = some (.int .u64 (kyH n f)) ∧ W.cell? ⟨nq, 1, none⟩ = some (.int .u64 (kyL n f)) ∧ Hid (UBrest w a g n na nx ny np nq f W)) : UBrest w a g n na nx ny np nq f W := by
  obtain ⟨c0, c1, c2, c3, c4, c5, c6, c7, c8, c9, k⟩ := k
  exact k
set_option maxRecDepth 100000 in
set_option maxHeartbeats 8000000 in
theorem ubytes_any (h l : Int) (a : Option Addr) (n C : Nat) (f : Nat → Int) (w : World) (w1 : Word h) (w2 : Word l) (hA : Arg w a n f) (hn : n ≤ 1000) :
    Calls Try.prog 3 #[U h l, .slice a n C] w fun e w' => e = .returned (.bool true) ∧ Below w.heap.size w w' := by
  have HA : Hid (Arg w a n f) := hA
  clear hA
  have h1 : ¬ (1000 : Int) < n := by omega
  obtain ⟨X, hX⟩ : ∃ X : Array Value, Value.agg X = BytesOf h l := ⟨_, rfl⟩
  have cB : ∀ w, Calls Try.prog 15 #[U h l] w fun e w' => e = .returned (.agg X) ∧ Below w.heap.size w w' := fun w => by rw [hX]; exact bytes_any h l w w1 w2
  have cR : ∀ w, Calls Try.prog 16 #[U h l] w fun e w' => e = .returned (.agg X) ∧ Below w.heap.size w w' := fun w => by rw [hX]; exact rbytes_any h l w w1 w2
  have cE : ∀ w, (binOp .eql 33 (.agg X) (.agg X)).run Try.prog w = .ok (.bool true) w := fun w => by rw [hX]; exact eq16 h l w
  have HcB : Hid (∀ w, Calls Try.prog 15 #[U h l] w fun e w' => e = .returned (.agg X) ∧ Below w.heap.size w w') := cB
  have HcR : Hid (∀ w, Calls Try.prog 16 #[U h l] w fun e w' => e = .returned (.agg X) ∧ Below w.heap.size w w') := cR
  have HcE : Hid (∀ w, (binOp .eql 33 (.agg X) (.agg X)).run Try.prog w = .ok (.bool true) w) := cE
  clear cB cR cE hX
  go_enter Try.func3, Try.ntmps3
  go_wp2_with fail
  have B0 : Below w.heap.size w (w.alloc (.cells #[.int .u64 h, .int .u64 l] 24)) := (Below.refl _ _).alloc (Nat.le_refl _) _
  refine (lent_any a n C f _ (HA.out.below B0) (by omega)).mono ?_
  rintro e u1 ⟨g, rfl, hg, R1, K1⟩
  have A1 := (HA.out.below B0).below K1
  have I1 := lent_arg HA.out R1
  have N1 := (AtW.new w h l 24).below K1
  have B1 := B0.trans (K1.mono B0.size)
  clear HA K1 B0 hg
  go_wp2_with fail
  refine (read_all _ n (n + 3) f _ I1 (by omega)).mono ?_
  rintro e u2 ⟨rfl, K2⟩
  have D2 : Below u2.heap.size u2 (u2.alloc (.cells #[.int .u64 (rdH n f), .int .u64 (rdL n f)] 24)) := (Below.refl _ _).alloc (Nat.le_refl _) _
  have A3 := (A1.below K2).below D2
  have I3 := (I1.below K2).below D2
  have R3 := (R1.below K2).below D2
  have N3 := (N1.below K2).below D2
  have B3 := (B1.trans (K2.mono B1.size)).trans (D2.mono (B1.trans (K2.mono B1.size)).size)
  have X3 := AtW.new u2 (rdH n f) (rdL n f) 24
  clear A1 I1 R1 N1 B1 K2 D2
  go_wp2_with fail
  refine (rread_all a n C f _ A3).mono ?_
  rintro e u4 ⟨rfl, K4⟩
  have D4 : Below u4.heap.size u4 (u4.alloc (.cells #[.int .u64 (rdH n f), .int .u64 (rdL n f)] 24)) := (Below.refl _ _).alloc (Nat.le_refl _) _
  have A5 := (A3.below K4).below D4
  have I5 := (I3.below K4).below D4
  have R5 := (R3.below K4).below D4
  have N5 := (N3.below K4).below D4
  have B5 := (B3.trans (K4.mono B3.size)).trans (D4.mono (B3.trans (K4.mono B3.size)).size)
  have Y5 := AtW.new u4 (rdH n f) (rdL n f) 24
  have X5 := (X3.below K4).below D4
  clear A3 I3 R3 N3 B3 K4 D4 X3
  go_wp2_with fail
  refine (readkey_all _ n (n + 3) f _ I5).mono ?_
  rintro e u6 ⟨rfl, K6⟩
  have D6 : Below u6.heap.size u6 (u6.alloc (.cells #[.int .u64 (kyH n f), .int .u64 (kyL n f)] 24)) := (Below.refl _ _).alloc (Nat.le_refl _) _
  have A7 := (A5.below K6).below D6
  have I7 := (I5.below K6).below D6
  have R7 := (R5.below K6).below D6
  have N7 := (N5.below K6).below D6
  have B7 := (B5.trans (K6.mono B5.size)).trans (D6.mono (B5.trans (K6.mono B5.size)).size)
  have P7 := AtW.new u6 (kyH n f) (kyL n f) 24
  have X7 := (X5.below K6).below D6
  have Y7 := (Y5.below K6).below D6
  clear A5 I5 R5 N5 B5 K6 D6 X5 Y5
  go_wp2_with fail
  refine (rreadkey_all a n C f _ A7).mono ?_
  rintro e u8 ⟨rfl, K8⟩
  have D8 : Below u8.heap.size u8 (u8.alloc (.cells #[.int .u64 (kyH n f), .int .u64 (kyL n f)] 24)) := (Below.refl _ _).alloc (Nat.le_refl _) _
  have A9 := (A7.below K8).below D8
  have I9 := (I7.below K8).below D8
  have R9 := (R7.below K8).below D8
  have N9 := (N7.below K8).below D8
  have B9 := (B7.trans (K8.mono B7.size)).trans (D8.mono (B7.trans (K8.mono B7.size)).size)
  have Q9 := AtW.new u8 (kyH n f) (kyL n f) 24
  have X9 := (X7.below K8).below D8
  have Y9 := (Y7.below K8).below D8
  have P9 := (P7.below K8).below D8
  clear A7 I7 R7 N7 B7 K8 D8 X7 Y7 P7
  obtain ⟨a0, a1, _, _, az⟩ := id N9
  go_wp2_with fail
  refine (key_at h l _ w1 w2).mono ?_
  rintro e u10 ⟨kb, rfl, KA, kf0, kz, K10⟩
  have KZ : Hid ((u8.alloc (.cells #[.int .u64 (kyH n f), .int .u64 (kyL n f)] 24)).heap.size ≤ kb) := kz
  have N10 := N9.below K10
  clear a0 a1 az kz
  obtain ⟨a0, a1, _, _, az⟩ := id N10
  go_wp2_with fail
  refine (rkey_at h l _ w1 w2).mono ?_
  rintro e u11 ⟨kb2, kc2, rfl, KB, K11⟩
  have KA2 : Hid (KeyAt u11 kb h l) := KA.out.below K11
  have kf1 : Hid (∀ j, u11.frozen? ⟨kb, j, none⟩ = false) := fun j => (K11.frozen (p := ⟨kb, j, none⟩) KA.out.2).trans (kf0 j)
  clear a0 a1 az KA kf0 N10
  go_wp2_with fail
  refine (same_key kb kb2 16 kc2 h l _ KA2.out KB.out).mono ?_
  rintro e u12 ⟨rfl, hw⟩
  rw [hw]
  clear hw KB
  go_wp2_with fail
  refine (over_any kb (kf h l) _ ⟨fun j hj => by have := KA2.out.1 j hj; rwa [Nat.zero_add] at this, KA2.out.2⟩ kf1.out).mono ?_
  rintro e u13 ⟨rfl, K13⟩
  have D := (K10.trans (K11.mono K10.size)).trans (K13.mono KZ.out)
  obtain ⟨c0, c1, _, _, z0⟩ := N9.below D
  obtain ⟨c2, c3, _, _, z1⟩ := X9.below D
  obtain ⟨c4, c5, _, _, z2⟩ := Y9.below D
  obtain ⟨c6, c7, _, _, z3⟩ := P9.below D
  obtain ⟨c8, c9, _, _, z4⟩ := Q9.below D
  have hh' : u13.drew.cell? ⟨w.heap.size, 0, none⟩ = some (.int .u64 h) ∧ u13.drew.cell? ⟨w.heap.size, 1, none⟩ = some (.int .u64 l) ∧ u13.drew.cell? ⟨u2.heap.size, 0, none⟩ = some (.int .u64 (rdH n f)) ∧ u13.drew.cell? ⟨u2.heap.size, 1, none⟩ = some (.int .u64 (rdL n f)) ∧ u13.drew.cell? ⟨u4.heap.size, 0, none⟩ = some (.int .u64 (rdH n f)) ∧ u13.drew.cell? ⟨u4.heap.size, 1, none⟩ = some (.int .u64 (rdL n f)) ∧ u13.drew.cell? ⟨u6.heap.size, 0, none⟩ = some (.int .u64 (kyH n f)) ∧ u13.drew.cell? ⟨u6.heap.size, 1, none⟩ = some (.int .u64 (kyL n f)) ∧ u13.drew.cell? ⟨u8.heap.size, 0, none⟩ = some (.int .u64 (kyH n f)) ∧ u13.drew.cell? ⟨u8.heap.size, 1, none⟩ = some (.int .u64 (kyL n f)) ∧ Hid (UBrest w a g n w.heap.size u2.heap.size u4.heap.size u6.heap.size u8.heap.size f u13.drew) := ⟨c0, c1, c2, c3, c4, c5, c6, c7, c8, c9, A9.below D.drew, R9.below D.drew, (B9.trans (D.mono B9.size)).drew, z0, z1, z2, z3, z4⟩
  clear c0 c1 c2 c3 c4 c5 c6 c7 c8 c9 z0 z1 z2 z3 z4 D K10 K11 K13 KZ KA2 kf1 A9 R9 B9 N9 X9 Y9 P9 Q9 I9
  have cE := HcE.out
  have cE2 : ∀ w, (Op.equalIn 10000 33 (.agg X) (.agg X)).run Try.prog w = .ok true w := fun w => by
    have := HcE.out w
    rw [run_eql_struct] at this
    generalize (Op.equalIn 10000 33 (.agg X) (.agg X)).run Try.prog w = r at this
    cases r with
    | ok b w' => simp [Result.andThen] at this; rw [this.1, this.2]
    | halt x w' => simp [Result.andThen] at this
  have g16 := guard16
  go_wp2_with fail
  go_region_held3 (fun W' => W'.cell? ⟨w.heap.size, 0, none⟩ = some (.int .u64 h) ∧ W'.cell? ⟨w.heap.size, 1, none⟩ = some (.int .u64 l) ∧ W'.cell? ⟨u2.heap.size, 0, none⟩ = some (.int .u64 (rdH n f)) ∧ W'.cell? ⟨u2.heap.size, 1, none⟩ = some (.int .u64 (rdL n f)) ∧ W'.cell? ⟨u4.heap.size, 0, none⟩ = some (.int .u64 (rdH n f)) ∧ W'.cell? ⟨u4.heap.size, 1, none⟩ = some (.int .u64 (rdL n f)) ∧ W'.cell? ⟨u6.heap.size, 0, none⟩ = some (.int .u64 (kyH n f)) ∧ W'.cell? ⟨u6.heap.size, 1, none⟩ = some (.int .u64 (kyL n f)) ∧ W'.cell? ⟨u8.heap.size, 0, none⟩ = some (.int .u64 (kyH n f)) ∧ W'.cell? ⟨u8.heap.size, 1, none⟩ = some (.int .u64 (kyL n f)) ∧ Hid (UBrest w a g n w.heap.size u2.heap.size u4.heap.size u6.heap.size u8.heap.size f W'))
    (first | exact hh' | exact ub_keep (by assumption) (by assumption) | assumption)
    (first
      | (go_at_call 15; refine (HcB.out _).mono ?_; rintro e w' ⟨rfl, hB⟩)
      | (go_at_call 16; refine (HcR.out _).mono ?_; rintro e w' ⟨rfl, hB⟩)
      | (go_at_call 17; refine (kept_any g a n C f _ (ub_rest (by assumption)).1 (by omega) (ub_rest (by assumption)).2.1).mono ?_; rintro e w' ⟨rfl, hB⟩)
      | (go_at_call 11; refine (key_at h l _ w1 w2).mono ?_; rintro e w' ⟨kb, rfl, KA, kf0, kz, hB⟩)
      | (go_at_call 13; refine (rkey_at h l _ w1 w2).mono ?_; rintro e w' ⟨kb2, kc2, rfl, KB, hB⟩)
      | (go_at_call 12; refine (same_key _ _ _ _ h l _ ((by assumption : Hid (KeyAt _ _ h l)).out.below (by assumption)) ((by assumption : Hid (KeyAt _ _ h l)).out)).mono ?_; rintro e w' ⟨rfl, hw⟩; rw [hw]; clear hw)
      | (go_at_call 18; refine (awake_any _).mono ?_; rintro e w' ⟨rfl, hB⟩))
  go_wp2_with fail
  go_ret
  exact ⟨rfl, (ub_rest (h := h) (l := l) (by assumption)).2.2.1⟩
end Go.Proofs.Ythgoionmooolaaa
