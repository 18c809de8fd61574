/-
  Walks, not a claim by itself: the reference's Add. By the verifier.
-/
import Derived.Test.YtkpkehbhgfbckaaGateF
import Derived.Deep.DeepCutAuto
import Derived.Deep.QuietTactic
import Derived.BigQuiet
import Derived.Test.YtkpkehbhgfbckaaROf
namespace Go.Proofs.Ytkpkehbhgfbckaa
open Go.RowKit

theorem RowF.other {u : World} {b : Nat} {f : Nat → Int} (k : RowF u b f) (b' o : Nat) (v : Value) (hne : b' ≠ b) : RowF (u.setCell ⟨b', o, none⟩ v) b f :=
  ⟨fun j hj => by rw [World.cell?_setCell_other _ _ _ _ (by intro e; injection e; omega), k.1 j hj], by have := k.2; simp [World.setCell]; omega⟩
theorem RowF.set {u : World} {b : Nat} {f : Nat → Int} (k : RowF u b f) (i : Nat) (hi : i < 16) (m : Int) : RowF (u.setCell ⟨b, i, none⟩ (.int .u8 m)) b (fun j => if j = i then m else f j) := by
  refine ⟨fun j hj => ?_, by have := k.2; simp [World.setCell]; omega⟩
  show (u.setCell ⟨b, i, none⟩ (.int .u8 m)).cell? ⟨b, j, none⟩ = some (.int .u8 (if j = i then m else f j))
  by_cases e : j = i
  · subst e; rw [if_pos rfl, World.cell?_setCell_same _ _ _ (k.1 j hj)]
  · rw [if_neg e, World.cell?_setCell_other _ _ _ _ (by intro h; injection h; omega), k.1 j hj]
theorem RowF.zeros (u : World) : RowF (u.alloc (.cells #[.int .u8 0, .int .u8 0, .int .u8 0, .int .u8 0, .int .u8 0, .int .u8 0, .int .u8 0, .int .u8 0, .int .u8 0, .int .u8 0, .int .u8 0, .int .u8 0, .int .u8 0, .int .u8 0, .int .u8 0, .int .u8 0] 42)) u.heap.size (fun _ => 0) := by
  refine ⟨fun j hj => ?_, by simp⟩
  rw [World.cell?_alloc_at _ _ _ _ rfl]
  match j, hj with
  | 0, _ => rfl
  | 1, _ => rfl
  | 2, _ => rfl
  | 3, _ => rfl
  | 4, _ => rfl
  | 5, _ => rfl
  | 6, _ => rfl
  | 7, _ => rfl
  | 8, _ => rfl
  | 9, _ => rfl
  | 10, _ => rfl
  | 11, _ => rfl
  | 12, _ => rfl
  | 13, _ => rfl
  | 14, _ => rfl
  | 15, _ => rfl
  | j + 16, hj => omega
/-- The cells of a row, written out. -/
def cells16 (z : Nat → Int) : List Value := [.int .u8 (z 0), .int .u8 (z 1), .int .u8 (z 2), .int .u8 (z 3), .int .u8 (z 4), .int .u8 (z 5), .int .u8 (z 6), .int .u8 (z 7), .int .u8 (z 8), .int .u8 (z 9), .int .u8 (z 10), .int .u8 (z 11), .int .u8 (z 12), .int .u8 (z 13), .int .u8 (z 14), .int .u8 (z 15)]
theorem RowF.range {u : World} {b : Nat} {z : Nat → Int} (k : RowF u b z) : u.rangeAt b 0 (cells16 z) := by
  intro j v hv
  have hj : j < 16 := by
    have hl : (cells16 z).length = 16 := rfl
    rcases Nat.lt_or_ge j 16 with h | h
    · exact h
    · rw [List.getElem?_eq_none (by omega)] at hv; cases hv
  rw [Nat.zero_add, k.1 j hj]
  match j, hj, hv with
  | 0, _, hv => exact hv
  | 1, _, hv => exact hv
  | 2, _, hv => exact hv
  | 3, _, hv => exact hv
  | 4, _, hv => exact hv
  | 5, _, hv => exact hv
  | 6, _, hv => exact hv
  | 7, _, hv => exact hv
  | 8, _, hv => exact hv
  | 9, _, hv => exact hv
  | 10, _, hv => exact hv
  | 11, _, hv => exact hv
  | 12, _, hv => exact hv
  | 13, _, hv => exact hv
  | 14, _, hv => exact hv
  | 15, _, hv => exact hv
  | j + 16, hj, _ => omega

theorem rof_row (z : Nat → Int) (w : World) (hz : ∀ j, j < 16 → 0 ≤ z j ∧ z j < 256) :
    Calls Try.prog 40 #[.agg (cells16 z).toArray] w fun e w' => e = .returned (U (le8 fun j => z (8 + j)) (le8 z)) ∧ Below w.heap.size w w' :=
  rof_any (z 0) (z 1) (z 2) (z 3) (z 4) (z 5) (z 6) (z 7) (z 8) (z 9) (z 10) (z 11) (z 12) (z 13) (z 14) (z 15) z w hz (fun j hj => by
    match j, hj with
    | 0, _ => rfl
    | 1, _ => rfl
    | 2, _ => rfl
    | 3, _ => rfl
    | 4, _ => rfl
    | 5, _ => rfl
    | 6, _ => rfl
    | 7, _ => rfl
    | 8, _ => rfl
    | 9, _ => rfl
    | 10, _ => rfl
    | 11, _ => rfl
    | 12, _ => rfl
    | 13, _ => rfl
    | 14, _ => rfl
    | 15, _ => rfl
    | j + 16, hj => omega)
/-- What holds at the head of Add's loop. -/
def AddRel (w : World) (X Y Z R : Nat) (a b : Nat → Int) (cv i : Value) (wr : World) : Prop := ∃ (k : Nat) (c : Int) (z : Nat → Int), k ≤ 16 ∧ i = .int .i64 k ∧ cv = .int .i64 c ∧ 0 ≤ c ∧ c ≤ 1 ∧ ps z k + c * 256 ^ k = ps a k + ps b k ∧ (∀ j, j < k → 0 ≤ z j ∧ z j < 256) ∧
  RowF wr X a ∧ RowF wr Y b ∧ RowF wr Z z ∧ (∀ j, wr.frozen? ⟨Z, j, none⟩ = false) ∧ AtW wr R 0 0 ∧ Below w.heap.size w wr
theorem add_rel1 (w wr : World) (X Y Z R : Nat) (a b z : Nat → Int) (k : Nat) (c u v : Int) (hk : k < 16) (hu : u = a k) (hv : v = b k) (u0 : 0 ≤ u) (u1 : u < 256) (v0 : 0 ≤ v) (v1 : v < 256) (c0 : 0 ≤ c) (c1 : c ≤ 1) (hs : ps z k + c * 256 ^ k = ps a k + ps b k) (hz : ∀ j, j < k → 0 ≤ z j ∧ z j < 256)
    (hX : RowF wr X a) (hY : RowF wr Y b) (hZ : RowF wr Z z) (hf : ∀ j, wr.frozen? ⟨Z, j, none⟩ = false) (hR : AtW wr R 0 0) (bel : Below w.heap.size w wr) (zx : Z ≠ X) (zy : Z ≠ Y) (zr : Z ≠ R) (zw : w.heap.size ≤ Z) :
    AddRel w X Y Z R a b (.int .i64 ((u + v + c) / 256)) (.int .i64 ((k : Int) + 1)) ((wr.setCell ⟨Z, k, none⟩ (.int .u8 ((u + v + c) % 256))).drew) := by
  subst hu hv
  refine ⟨k + 1, _, _, by omega, by go_num, rfl, by omega, by omega, add_step a b z c k hs, ?_, (hX.other Z k _ zx).drew, (hY.other Z k _ zy).drew, (hZ.set k hk _).drew, by intro j; simp [hf], hR.other Z k _ zr, (bel.setCell (p := ⟨Z, k, none⟩) zw _).drew⟩
  intro j hj
  show 0 ≤ (if j = k then (a k + b k + c) % 256 else z j) ∧ (if j = k then (a k + b k + c) % 256 else z j) < 256
  by_cases e : j = k
  · rw [if_pos e]; omega
  · rw [if_neg e]; exact hz j (by omega)

theorem AtW.drew {u : World} {b : Nat} {h l : Int} (k : AtW u b h l) : AtW u.drew b h l := k
theorem AtW.three (w : World) (ah al bh bl : Int) : AtW (((w.alloc (.cells #[.int .u64 ah, .int .u64 al] 24)).alloc (.cells #[.int .u64 bh, .int .u64 bl] 24)).alloc (.cells #[.int .u64 0, .int .u64 0] 24)) (w.heap.size + 1 + 1) 0 0 := by
  have := AtW.new ((w.alloc (.cells #[.int .u64 ah, .int .u64 al] 24)).alloc (.cells #[.int .u64 bh, .int .u64 bl] 24)) 0 0 24
  rw [World.size_alloc, World.size_alloc] at this
  exact this
/-- What Add ends in. -/
def AddEnds (x y : Int) (w : World) (e : Ending) (w' : World) : Prop :=
  ((x + y < 340282366920938463463374607431768211456 ∧ ∃ p q : Int, e = .returned (.tuple #[U p q, .bool false]) ∧ Word p ∧ Word q ∧ V p q = x + y) ∨ (340282366920938463463374607431768211456 ≤ x + y ∧ e = .returned (.tuple #[U 0 0, .bool true]))) ∧ Below w.heap.size w w'

set_option maxRecDepth 100000 in
set_option maxHeartbeats 20000000 in
theorem radd_any (ah al bh bl : Int) (w : World) (h1 : Word ah) (h2 : Word al) (h3 : Word bh) (h4 : Word bl) :
    Calls Try.prog 10 #[U ah al, U bh bl] w fun e w' => AddEnds (V ah al) (V bh bl) w e w' := by
  go_enter Try.func10, Try.ntmps10
  go_wp2_with fail
  go_cut [6, 7] (fun t6 t7 wx => ∃ X Y : Nat, t6 = .pointer (some ⟨X, 0, none⟩) ∧ t7 = .pointer (some ⟨Y, 0, none⟩) ∧ RowF wx X (bf ah al) ∧ RowF wx Y (bf bh bl) ∧ AtW wx (w.heap.size + 1 + 1) 0 0 ∧ Below w.heap.size w wx)
  case first =>
    obtain ⟨w0, hw0⟩ : ∃ w0, w0 = ((w.alloc (.cells #[.int .u64 ah, .int .u64 al] 24)).alloc (.cells #[.int .u64 bh, .int .u64 bl] 24)).alloc (.cells #[.int .u64 0, .int .u64 0] 24) := ⟨_, rfl⟩
    have c1 : w0.cell? ⟨w.heap.size, 0, none⟩ = some (.int .u64 ah) := by rw [hw0]; simp [go_sem, World.cell?_alloc_past]
    have c2 : w0.cell? ⟨w.heap.size, 1, none⟩ = some (.int .u64 al) := by rw [hw0]; simp [go_sem, World.cell?_alloc_past]
    have c3 : w0.cell? ⟨w.heap.size + 1, 0, none⟩ = some (.int .u64 bh) := by rw [hw0]; simp [go_sem, World.cell?_alloc_past]
    have c4 : w0.cell? ⟨w.heap.size + 1, 1, none⟩ = some (.int .u64 bl) := by rw [hw0]; simp [go_sem, World.cell?_alloc_past]
    have hq : w.heap.size + 1 < w0.heap.size := by rw [hw0]; simp
    have hp : w.heap.size < w0.heap.size := by omega
    have hb : Hid (Below w.heap.size w w0) := by rw [hw0]; exact (((Below.refl _ _).alloc (Nat.le_refl _) _).alloc (by simp) _).alloc (by simp; omega) _
    have R : Hid (AtW w0 (w.heap.size + 1 + 1) 0 0) := by rw [hw0]; exact AtW.three w ah al bh bl
    rw [← hw0]
    clear hw0
    obtain ⟨q, hq'⟩ : ∃ q, q = w.heap.size + 1 := ⟨_, rfl⟩
    rw [← hq'] at c3 c4 hq ⊢
    obtain ⟨p, hp'⟩ : ∃ p, p = w.heap.size := ⟨_, rfl⟩
    rw [← hp'] at c1 c2 hp ⊢
    have PQ : Hid (p = w.heap.size ∧ q = w.heap.size + 1) := ⟨hp', hq'⟩
    clear hp' hq'
    refine wp_region_held_drew (S := fun W' => W'.cell? ⟨p, 0, none⟩ = some (.int .u64 ah) ∧ W'.cell? ⟨p, 1, none⟩ = some (.int .u64 al) ∧ W'.cell? ⟨q, 0, none⟩ = some (.int .u64 bh) ∧ W'.cell? ⟨q, 1, none⟩ = some (.int .u64 bl) ∧ Hid (Below w0.heap.size w0 W')) (by kernel_rfl) ?_ (fun hHeld => ?_)
    · exact ⟨c1, c2, c3, c4, (Below.refl _ _).drew⟩
    refine take_at (i := 0) (v := ?_) (some 12) rfl rfl (by kernel_rfl) (by kernel_rfl) (by kernel_rfl) (fun _ _ _ h => h) (Or.inl ⟨by rfl, ?_⟩) (by assumption) ?_
    rotate_left
    · (intro w hSw; (try dsimp only at hSw); go_simp; try with_reducible rfl)
    simp only [Act.put, List.setIfInBounds_toArray, List.set_cons_zero, List.set_cons_succ]
    refine take_at (i := 2) (v := ?_) (some 14) rfl rfl (by kernel_rfl) (by kernel_rfl) (by kernel_rfl) (fun _ _ _ h => h) (Or.inl ⟨by rfl, ?_⟩) (by assumption) ?_
    rotate_left
    · (intro w hSw; (try dsimp only at hSw); go_simp; try with_reducible rfl)
    simp only [Act.put, List.setIfInBounds_toArray, List.set_cons_zero, List.set_cons_succ]
    obtain ⟨wd, hwd⟩ : ∃ wd, wd = w0.drew := ⟨_, rfl⟩
    rw [← hwd] at hHeld ⊢
    clear hwd
    refine wpAnyH_ready (rs := [1, 4, 5]) (by kernel_rfl) (by simp) ?_
    refine all_call (i := 1) (some 13) 30 _ _ rfl rfl rfl (by rfl) #[U ah al] rfl Try.func30 (by kernel_rfl) (by kernel_rfl) ?_ ?_
    · refine (rbytes_cl ah al _ h1 h2).mono ?_
      rintro e W1 ⟨rfl, hB⟩
      refine ⟨_, rfl, keepG hp hq hHeld (hB.mono (sizeG hHeld)), fun s1 => ?_⟩
      clear hB
      simp only [Act.put, List.setIfInBounds_toArray, List.set_cons_zero, List.set_cons_succ]
      refine wpAnyH_ready (rs := [3, 4, 5]) (by kernel_rfl) (by simp) ?_
      refine all_call (i := 3) (some 15) 30 _ _ rfl rfl rfl (by rfl) #[U bh bl] rfl Try.func30 (by kernel_rfl) (by kernel_rfl) ?_ ?_
      · refine (rbytes_cl bh bl _ h3 h4).mono ?_
        rintro e W2 ⟨rfl, hB⟩
        refine ⟨_, rfl, keepG hp hq s1 (hB.mono (sizeG s1)), fun s2 => ?_⟩
        clear hB
        simp only [Act.put, List.setIfInBounds_toArray, List.set_cons_zero, List.set_cons_succ]
        refine wpAnyH_ready (rs := [4, 5]) (by kernel_rfl) (by simp) ?_
        refine all_alloc (i := 4) (some 6) 42 rfl rfl rfl (by rfl) .u8 16 (by kernel_rfl) ?_ ?_
        · intro X W3 hn x3 hB
          have bX := Nat.le_trans (sizeG s2) hn
          refine ⟨keepG hp hq s2 (hB.mono (sizeG s2)), fun s3 => ?_⟩
          clear hB hn
          simp only [Act.put, List.setIfInBounds_toArray, List.set_cons_zero, List.set_cons_succ]
          refine wpAnyH_ready (rs := [5]) (by kernel_rfl) (by simp) ?_
          refine all_alloc (i := 5) (some 7) 42 rfl rfl rfl (by rfl) .u8 16 (by kernel_rfl) ?_ ?_
          · intro Y W4 hn y4 hB
            have ne : X ≠ Y := by have := x3.2.2; omega
            have x4 := x3.below hB
            have bY := Nat.le_trans (sizeG s3) hn
            refine ⟨keepG hp hq s3 (hB.mono (sizeG s3)), fun s4 => ?_⟩
            clear hB hn
            simp only [Act.put, List.setIfInBounds_toArray, List.set_cons_zero, List.set_cons_succ]
            refine wpAnyH_ready (rs := [6]) (by kernel_rfl) (by simp) ?_
            refine all_store (i := 6) none 42 _ _ rfl rfl rfl (by rfl) X .u8 16 (bf ah al) _ rfl rfl x4 (by kernel_rfl) ?_ AllReadyH.nil
            intro W5 x5 hB
            have y5 := y4.but hB ne.symm
            refine ⟨keepG hp hq s4 (hB.below bX (sizeG s4)), fun s5 => ?_⟩
            clear hB
            simp only [Act.put]
            refine wpAnyH_ready (rs := [7]) (by kernel_rfl) (by simp) ?_
            refine all_store (i := 7) none 42 _ _ rfl rfl rfl (by rfl) Y .u8 16 (bf bh bl) _ rfl rfl y5 (by kernel_rfl) ?_ AllReadyH.nil
            intro W6 y6 hB
            have x6 := x5.but hB ne
            refine ⟨keepG hp hq s5 (hB.below bY (sizeG s5)), fun s6 => ?_⟩
            clear hB
            simp only [Act.put]
            refine wpAnyH_done (by kernel_rfl) ?_ _
            obtain ⟨hp', hq'⟩ := PQ.out
            subst hp' hq'
            clear PQ
            go_wp2_with fail
            go_meet
            case rel => exact ⟨X, Y, rfl, rfl, RowF.of x6, RowF.of y6, AtW.below R.out s6.2.2.2.2.out, hb.out.trans (s6.2.2.2.2.out.mono hb.out.size)⟩
          exact AllReadyH.nil
        refine all_alloc (i := 5) (some 7) 42 rfl rfl rfl (by rfl) .u8 16 (by kernel_rfl) ?_ ?_
        · intro Y W7 hn y7 hB
          have bY := Nat.le_trans (sizeG s2) hn
          refine ⟨keepG hp hq s2 (hB.mono (sizeG s2)), fun s7 => ?_⟩
          clear hB hn
          simp only [Act.put, List.setIfInBounds_toArray, List.set_cons_zero, List.set_cons_succ]
          refine wpAnyH_ready (rs := [4]) (by kernel_rfl) (by simp) ?_
          refine all_alloc (i := 4) (some 6) 42 rfl rfl rfl (by rfl) .u8 16 (by kernel_rfl) ?_ ?_
          · intro X W8 hn x8 hB
            have ne : X ≠ Y := by have := y7.2.2; omega
            have y8 := y7.below hB
            have bX := Nat.le_trans (sizeG s7) hn
            refine ⟨keepG hp hq s7 (hB.mono (sizeG s7)), fun s8 => ?_⟩
            clear hB hn
            simp only [Act.put, List.setIfInBounds_toArray, List.set_cons_zero, List.set_cons_succ]
            refine wpAnyH_ready (rs := [6]) (by kernel_rfl) (by simp) ?_
            refine all_store (i := 6) none 42 _ _ rfl rfl rfl (by rfl) X .u8 16 (bf ah al) _ rfl rfl x8 (by kernel_rfl) ?_ AllReadyH.nil
            intro W9 x9 hB
            have y9 := y8.but hB ne.symm
            refine ⟨keepG hp hq s8 (hB.below bX (sizeG s8)), fun s9 => ?_⟩
            clear hB
            simp only [Act.put]
            refine wpAnyH_ready (rs := [7]) (by kernel_rfl) (by simp) ?_
            refine all_store (i := 7) none 42 _ _ rfl rfl rfl (by rfl) Y .u8 16 (bf bh bl) _ rfl rfl y9 (by kernel_rfl) ?_ AllReadyH.nil
            intro W10 y10 hB
            have x10 := x9.but hB ne
            refine ⟨keepG hp hq s9 (hB.below bY (sizeG s9)), fun s10 => ?_⟩
            clear hB
            simp only [Act.put]
            refine wpAnyH_done (by kernel_rfl) ?_ _
            obtain ⟨hp', hq'⟩ := PQ.out
            subst hp' hq'
            clear PQ
            go_wp2_with fail
            go_meet
            case rel => exact ⟨X, Y, rfl, rfl, RowF.of x10, RowF.of y10, AtW.below R.out s10.2.2.2.2.out, hb.out.trans (s10.2.2.2.2.out.mono hb.out.size)⟩
          exact AllReadyH.nil
        exact AllReadyH.nil
      refine all_alloc (i := 4) (some 6) 42 rfl rfl rfl (by rfl) .u8 16 (by kernel_rfl) ?_ ?_
      · intro X W11 hn x11 hB
        have bX := Nat.le_trans (sizeG s1) hn
        refine ⟨keepG hp hq s1 (hB.mono (sizeG s1)), fun s11 => ?_⟩
        clear hB hn
        simp only [Act.put, List.setIfInBounds_toArray, List.set_cons_zero, List.set_cons_succ]
        refine wpAnyH_ready (rs := [3, 5]) (by kernel_rfl) (by simp) ?_
        refine all_call (i := 3) (some 15) 30 _ _ rfl rfl rfl (by rfl) #[U bh bl] rfl Try.func30 (by kernel_rfl) (by kernel_rfl) ?_ ?_
        · refine (rbytes_cl bh bl _ h3 h4).mono ?_
          rintro e W12 ⟨rfl, hB⟩
          refine ⟨_, rfl, keepG hp hq s11 (hB.mono (sizeG s11)), fun s12 => ?_⟩
          have x12 := x11.below hB
          clear hB
          simp only [Act.put, List.setIfInBounds_toArray, List.set_cons_zero, List.set_cons_succ]
          refine wpAnyH_ready (rs := [5]) (by kernel_rfl) (by simp) ?_
          refine all_alloc (i := 5) (some 7) 42 rfl rfl rfl (by rfl) .u8 16 (by kernel_rfl) ?_ ?_
          · intro Y W13 hn y13 hB
            have ne : X ≠ Y := by have := x12.2.2; omega
            have x13 := x12.below hB
            have bY := Nat.le_trans (sizeG s12) hn
            refine ⟨keepG hp hq s12 (hB.mono (sizeG s12)), fun s13 => ?_⟩
            clear hB hn
            simp only [Act.put, List.setIfInBounds_toArray, List.set_cons_zero, List.set_cons_succ]
            refine wpAnyH_ready (rs := [6]) (by kernel_rfl) (by simp) ?_
            refine all_store (i := 6) none 42 _ _ rfl rfl rfl (by rfl) X .u8 16 (bf ah al) _ rfl rfl x13 (by kernel_rfl) ?_ AllReadyH.nil
            intro W14 x14 hB
            have y14 := y13.but hB ne.symm
            refine ⟨keepG hp hq s13 (hB.below bX (sizeG s13)), fun s14 => ?_⟩
            clear hB
            simp only [Act.put]
            refine wpAnyH_ready (rs := [7]) (by kernel_rfl) (by simp) ?_
            refine all_store (i := 7) none 42 _ _ rfl rfl rfl (by rfl) Y .u8 16 (bf bh bl) _ rfl rfl y14 (by kernel_rfl) ?_ AllReadyH.nil
            intro W15 y15 hB
            have x15 := x14.but hB ne
            refine ⟨keepG hp hq s14 (hB.below bY (sizeG s14)), fun s15 => ?_⟩
            clear hB
            simp only [Act.put]
            refine wpAnyH_done (by kernel_rfl) ?_ _
            obtain ⟨hp', hq'⟩ := PQ.out
            subst hp' hq'
            clear PQ
            go_wp2_with fail
            go_meet
            case rel => exact ⟨X, Y, rfl, rfl, RowF.of x15, RowF.of y15, AtW.below R.out s15.2.2.2.2.out, hb.out.trans (s15.2.2.2.2.out.mono hb.out.size)⟩
          exact AllReadyH.nil
        refine all_alloc (i := 5) (some 7) 42 rfl rfl rfl (by rfl) .u8 16 (by kernel_rfl) ?_ ?_
        · intro Y W16 hn y16 hB
          have ne : X ≠ Y := by have := x11.2.2; omega
          have x16 := x11.below hB
          have bY := Nat.le_trans (sizeG s11) hn
          refine ⟨keepG hp hq s11 (hB.mono (sizeG s11)), fun s16 => ?_⟩
          clear hB hn
          simp only [Act.put, List.setIfInBounds_toArray, List.set_cons_zero, List.set_cons_succ]
          refine wpAnyH_ready (rs := [3]) (by kernel_rfl) (by simp) ?_
          refine all_call (i := 3) (some 15) 30 _ _ rfl rfl rfl (by rfl) #[U bh bl] rfl Try.func30 (by kernel_rfl) (by kernel_rfl) ?_ ?_
          · refine (rbytes_cl bh bl _ h3 h4).mono ?_
            rintro e W17 ⟨rfl, hB⟩
            refine ⟨_, rfl, keepG hp hq s16 (hB.mono (sizeG s16)), fun s17 => ?_⟩
            have x17 := x16.below hB
            have y17 := y16.below hB
            clear hB
            simp only [Act.put, List.setIfInBounds_toArray, List.set_cons_zero, List.set_cons_succ]
            refine wpAnyH_ready (rs := [6]) (by kernel_rfl) (by simp) ?_
            refine all_store (i := 6) none 42 _ _ rfl rfl rfl (by rfl) X .u8 16 (bf ah al) _ rfl rfl x17 (by kernel_rfl) ?_ AllReadyH.nil
            intro W18 x18 hB
            have y18 := y17.but hB ne.symm
            refine ⟨keepG hp hq s17 (hB.below bX (sizeG s17)), fun s18 => ?_⟩
            clear hB
            simp only [Act.put]
            refine wpAnyH_ready (rs := [7]) (by kernel_rfl) (by simp) ?_
            refine all_store (i := 7) none 42 _ _ rfl rfl rfl (by rfl) Y .u8 16 (bf bh bl) _ rfl rfl y18 (by kernel_rfl) ?_ AllReadyH.nil
            intro W19 y19 hB
            have x19 := x18.but hB ne
            refine ⟨keepG hp hq s18 (hB.below bY (sizeG s18)), fun s19 => ?_⟩
            clear hB
            simp only [Act.put]
            refine wpAnyH_done (by kernel_rfl) ?_ _
            obtain ⟨hp', hq'⟩ := PQ.out
            subst hp' hq'
            clear PQ
            go_wp2_with fail
            go_meet
            case rel => exact ⟨X, Y, rfl, rfl, RowF.of x19, RowF.of y19, AtW.below R.out s19.2.2.2.2.out, hb.out.trans (s19.2.2.2.2.out.mono hb.out.size)⟩
          exact AllReadyH.nil
        exact AllReadyH.nil
      refine all_alloc (i := 5) (some 7) 42 rfl rfl rfl (by rfl) .u8 16 (by kernel_rfl) ?_ ?_
      · intro Y W20 hn y20 hB
        have bY := Nat.le_trans (sizeG s1) hn
        refine ⟨keepG hp hq s1 (hB.mono (sizeG s1)), fun s20 => ?_⟩
        clear hB hn
        simp only [Act.put, List.setIfInBounds_toArray, List.set_cons_zero, List.set_cons_succ]
        refine wpAnyH_ready (rs := [3, 4]) (by kernel_rfl) (by simp) ?_
        refine all_call (i := 3) (some 15) 30 _ _ rfl rfl rfl (by rfl) #[U bh bl] rfl Try.func30 (by kernel_rfl) (by kernel_rfl) ?_ ?_
        · refine (rbytes_cl bh bl _ h3 h4).mono ?_
          rintro e W21 ⟨rfl, hB⟩
          refine ⟨_, rfl, keepG hp hq s20 (hB.mono (sizeG s20)), fun s21 => ?_⟩
          have y21 := y20.below hB
          clear hB
          simp only [Act.put, List.setIfInBounds_toArray, List.set_cons_zero, List.set_cons_succ]
          refine wpAnyH_ready (rs := [4]) (by kernel_rfl) (by simp) ?_
          refine all_alloc (i := 4) (some 6) 42 rfl rfl rfl (by rfl) .u8 16 (by kernel_rfl) ?_ ?_
          · intro X W22 hn x22 hB
            have ne : X ≠ Y := by have := y21.2.2; omega
            have y22 := y21.below hB
            have bX := Nat.le_trans (sizeG s21) hn
            refine ⟨keepG hp hq s21 (hB.mono (sizeG s21)), fun s22 => ?_⟩
            clear hB hn
            simp only [Act.put, List.setIfInBounds_toArray, List.set_cons_zero, List.set_cons_succ]
            refine wpAnyH_ready (rs := [6]) (by kernel_rfl) (by simp) ?_
            refine all_store (i := 6) none 42 _ _ rfl rfl rfl (by rfl) X .u8 16 (bf ah al) _ rfl rfl x22 (by kernel_rfl) ?_ AllReadyH.nil
            intro W23 x23 hB
            have y23 := y22.but hB ne.symm
            refine ⟨keepG hp hq s22 (hB.below bX (sizeG s22)), fun s23 => ?_⟩
            clear hB
            simp only [Act.put]
            refine wpAnyH_ready (rs := [7]) (by kernel_rfl) (by simp) ?_
            refine all_store (i := 7) none 42 _ _ rfl rfl rfl (by rfl) Y .u8 16 (bf bh bl) _ rfl rfl y23 (by kernel_rfl) ?_ AllReadyH.nil
            intro W24 y24 hB
            have x24 := x23.but hB ne
            refine ⟨keepG hp hq s23 (hB.below bY (sizeG s23)), fun s24 => ?_⟩
            clear hB
            simp only [Act.put]
            refine wpAnyH_done (by kernel_rfl) ?_ _
            obtain ⟨hp', hq'⟩ := PQ.out
            subst hp' hq'
            clear PQ
            go_wp2_with fail
            go_meet
            case rel => exact ⟨X, Y, rfl, rfl, RowF.of x24, RowF.of y24, AtW.below R.out s24.2.2.2.2.out, hb.out.trans (s24.2.2.2.2.out.mono hb.out.size)⟩
          exact AllReadyH.nil
        refine all_alloc (i := 4) (some 6) 42 rfl rfl rfl (by rfl) .u8 16 (by kernel_rfl) ?_ ?_
        · intro X W25 hn x25 hB
          have ne : X ≠ Y := by have := y20.2.2; omega
          have y25 := y20.below hB
          have bX := Nat.le_trans (sizeG s20) hn
          refine ⟨keepG hp hq s20 (hB.mono (sizeG s20)), fun s25 => ?_⟩
          clear hB hn
          simp only [Act.put, List.setIfInBounds_toArray, List.set_cons_zero, List.set_cons_succ]
          refine wpAnyH_ready (rs := [3]) (by kernel_rfl) (by simp) ?_
          refine all_call (i := 3) (some 15) 30 _ _ rfl rfl rfl (by rfl) #[U bh bl] rfl Try.func30 (by kernel_rfl) (by kernel_rfl) ?_ ?_
          · refine (rbytes_cl bh bl _ h3 h4).mono ?_
            rintro e W26 ⟨rfl, hB⟩
            refine ⟨_, rfl, keepG hp hq s25 (hB.mono (sizeG s25)), fun s26 => ?_⟩
            have x26 := x25.below hB
            have y26 := y25.below hB
            clear hB
            simp only [Act.put, List.setIfInBounds_toArray, List.set_cons_zero, List.set_cons_succ]
            refine wpAnyH_ready (rs := [6]) (by kernel_rfl) (by simp) ?_
            refine all_store (i := 6) none 42 _ _ rfl rfl rfl (by rfl) X .u8 16 (bf ah al) _ rfl rfl x26 (by kernel_rfl) ?_ AllReadyH.nil
            intro W27 x27 hB
            have y27 := y26.but hB ne.symm
            refine ⟨keepG hp hq s26 (hB.below bX (sizeG s26)), fun s27 => ?_⟩
            clear hB
            simp only [Act.put]
            refine wpAnyH_ready (rs := [7]) (by kernel_rfl) (by simp) ?_
            refine all_store (i := 7) none 42 _ _ rfl rfl rfl (by rfl) Y .u8 16 (bf bh bl) _ rfl rfl y27 (by kernel_rfl) ?_ AllReadyH.nil
            intro W28 y28 hB
            have x28 := x27.but hB ne
            refine ⟨keepG hp hq s27 (hB.below bY (sizeG s27)), fun s28 => ?_⟩
            clear hB
            simp only [Act.put]
            refine wpAnyH_done (by kernel_rfl) ?_ _
            obtain ⟨hp', hq'⟩ := PQ.out
            subst hp' hq'
            clear PQ
            go_wp2_with fail
            go_meet
            case rel => exact ⟨X, Y, rfl, rfl, RowF.of x28, RowF.of y28, AtW.below R.out s28.2.2.2.2.out, hb.out.trans (s28.2.2.2.2.out.mono hb.out.size)⟩
          exact AllReadyH.nil
        exact AllReadyH.nil
      exact AllReadyH.nil
    refine all_alloc (i := 4) (some 6) 42 rfl rfl rfl (by rfl) .u8 16 (by kernel_rfl) ?_ ?_
    · intro X W29 hn x29 hB
      have bX := Nat.le_trans (sizeG hHeld) hn
      refine ⟨keepG hp hq hHeld (hB.mono (sizeG hHeld)), fun s29 => ?_⟩
      clear hB hn
      simp only [Act.put, List.setIfInBounds_toArray, List.set_cons_zero, List.set_cons_succ]
      refine wpAnyH_ready (rs := [1, 5]) (by kernel_rfl) (by simp) ?_
      refine all_call (i := 1) (some 13) 30 _ _ rfl rfl rfl (by rfl) #[U ah al] rfl Try.func30 (by kernel_rfl) (by kernel_rfl) ?_ ?_
      · refine (rbytes_cl ah al _ h1 h2).mono ?_
        rintro e W30 ⟨rfl, hB⟩
        refine ⟨_, rfl, keepG hp hq s29 (hB.mono (sizeG s29)), fun s30 => ?_⟩
        have x30 := x29.below hB
        clear hB
        simp only [Act.put, List.setIfInBounds_toArray, List.set_cons_zero, List.set_cons_succ]
        refine wpAnyH_ready (rs := [3, 5]) (by kernel_rfl) (by simp) ?_
        refine all_call (i := 3) (some 15) 30 _ _ rfl rfl rfl (by rfl) #[U bh bl] rfl Try.func30 (by kernel_rfl) (by kernel_rfl) ?_ ?_
        · refine (rbytes_cl bh bl _ h3 h4).mono ?_
          rintro e W31 ⟨rfl, hB⟩
          refine ⟨_, rfl, keepG hp hq s30 (hB.mono (sizeG s30)), fun s31 => ?_⟩
          have x31 := x30.below hB
          clear hB
          simp only [Act.put, List.setIfInBounds_toArray, List.set_cons_zero, List.set_cons_succ]
          refine wpAnyH_ready (rs := [5]) (by kernel_rfl) (by simp) ?_
          refine all_alloc (i := 5) (some 7) 42 rfl rfl rfl (by rfl) .u8 16 (by kernel_rfl) ?_ ?_
          · intro Y W32 hn y32 hB
            have ne : X ≠ Y := by have := x31.2.2; omega
            have x32 := x31.below hB
            have bY := Nat.le_trans (sizeG s31) hn
            refine ⟨keepG hp hq s31 (hB.mono (sizeG s31)), fun s32 => ?_⟩
            clear hB hn
            simp only [Act.put, List.setIfInBounds_toArray, List.set_cons_zero, List.set_cons_succ]
            refine wpAnyH_ready (rs := [6]) (by kernel_rfl) (by simp) ?_
            refine all_store (i := 6) none 42 _ _ rfl rfl rfl (by rfl) X .u8 16 (bf ah al) _ rfl rfl x32 (by kernel_rfl) ?_ AllReadyH.nil
            intro W33 x33 hB
            have y33 := y32.but hB ne.symm
            refine ⟨keepG hp hq s32 (hB.below bX (sizeG s32)), fun s33 => ?_⟩
            clear hB
            simp only [Act.put]
            refine wpAnyH_ready (rs := [7]) (by kernel_rfl) (by simp) ?_
            refine all_store (i := 7) none 42 _ _ rfl rfl rfl (by rfl) Y .u8 16 (bf bh bl) _ rfl rfl y33 (by kernel_rfl) ?_ AllReadyH.nil
            intro W34 y34 hB
            have x34 := x33.but hB ne
            refine ⟨keepG hp hq s33 (hB.below bY (sizeG s33)), fun s34 => ?_⟩
            clear hB
            simp only [Act.put]
            refine wpAnyH_done (by kernel_rfl) ?_ _
            obtain ⟨hp', hq'⟩ := PQ.out
            subst hp' hq'
            clear PQ
            go_wp2_with fail
            go_meet
            case rel => exact ⟨X, Y, rfl, rfl, RowF.of x34, RowF.of y34, AtW.below R.out s34.2.2.2.2.out, hb.out.trans (s34.2.2.2.2.out.mono hb.out.size)⟩
          exact AllReadyH.nil
        refine all_alloc (i := 5) (some 7) 42 rfl rfl rfl (by rfl) .u8 16 (by kernel_rfl) ?_ ?_
        · intro Y W35 hn y35 hB
          have ne : X ≠ Y := by have := x30.2.2; omega
          have x35 := x30.below hB
          have bY := Nat.le_trans (sizeG s30) hn
          refine ⟨keepG hp hq s30 (hB.mono (sizeG s30)), fun s35 => ?_⟩
          clear hB hn
          simp only [Act.put, List.setIfInBounds_toArray, List.set_cons_zero, List.set_cons_succ]
          refine wpAnyH_ready (rs := [3]) (by kernel_rfl) (by simp) ?_
          refine all_call (i := 3) (some 15) 30 _ _ rfl rfl rfl (by rfl) #[U bh bl] rfl Try.func30 (by kernel_rfl) (by kernel_rfl) ?_ ?_
          · refine (rbytes_cl bh bl _ h3 h4).mono ?_
            rintro e W36 ⟨rfl, hB⟩
            refine ⟨_, rfl, keepG hp hq s35 (hB.mono (sizeG s35)), fun s36 => ?_⟩
            have x36 := x35.below hB
            have y36 := y35.below hB
            clear hB
            simp only [Act.put, List.setIfInBounds_toArray, List.set_cons_zero, List.set_cons_succ]
            refine wpAnyH_ready (rs := [6]) (by kernel_rfl) (by simp) ?_
            refine all_store (i := 6) none 42 _ _ rfl rfl rfl (by rfl) X .u8 16 (bf ah al) _ rfl rfl x36 (by kernel_rfl) ?_ AllReadyH.nil
            intro W37 x37 hB
            have y37 := y36.but hB ne.symm
            refine ⟨keepG hp hq s36 (hB.below bX (sizeG s36)), fun s37 => ?_⟩
            clear hB
            simp only [Act.put]
            refine wpAnyH_ready (rs := [7]) (by kernel_rfl) (by simp) ?_
            refine all_store (i := 7) none 42 _ _ rfl rfl rfl (by rfl) Y .u8 16 (bf bh bl) _ rfl rfl y37 (by kernel_rfl) ?_ AllReadyH.nil
            intro W38 y38 hB
            have x38 := x37.but hB ne
            refine ⟨keepG hp hq s37 (hB.below bY (sizeG s37)), fun s38 => ?_⟩
            clear hB
            simp only [Act.put]
            refine wpAnyH_done (by kernel_rfl) ?_ _
            obtain ⟨hp', hq'⟩ := PQ.out
            subst hp' hq'
            clear PQ
            go_wp2_with fail
            go_meet
            case rel => exact ⟨X, Y, rfl, rfl, RowF.of x38, RowF.of y38, AtW.below R.out s38.2.2.2.2.out, hb.out.trans (s38.2.2.2.2.out.mono hb.out.size)⟩
          exact AllReadyH.nil
        exact AllReadyH.nil
      refine all_alloc (i := 5) (some 7) 42 rfl rfl rfl (by rfl) .u8 16 (by kernel_rfl) ?_ ?_
      · intro Y W39 hn y39 hB
        have ne : X ≠ Y := by have := x29.2.2; omega
        have x39 := x29.below hB
        have bY := Nat.le_trans (sizeG s29) hn
        refine ⟨keepG hp hq s29 (hB.mono (sizeG s29)), fun s39 => ?_⟩
        clear hB hn
        simp only [Act.put, List.setIfInBounds_toArray, List.set_cons_zero, List.set_cons_succ]
        refine wpAnyH_ready (rs := [1]) (by kernel_rfl) (by simp) ?_
        refine all_call (i := 1) (some 13) 30 _ _ rfl rfl rfl (by rfl) #[U ah al] rfl Try.func30 (by kernel_rfl) (by kernel_rfl) ?_ ?_
        · refine (rbytes_cl ah al _ h1 h2).mono ?_
          rintro e W40 ⟨rfl, hB⟩
          refine ⟨_, rfl, keepG hp hq s39 (hB.mono (sizeG s39)), fun s40 => ?_⟩
          have x40 := x39.below hB
          have y40 := y39.below hB
          clear hB
          simp only [Act.put, List.setIfInBounds_toArray, List.set_cons_zero, List.set_cons_succ]
          refine wpAnyH_ready (rs := [3]) (by kernel_rfl) (by simp) ?_
          refine all_call (i := 3) (some 15) 30 _ _ rfl rfl rfl (by rfl) #[U bh bl] rfl Try.func30 (by kernel_rfl) (by kernel_rfl) ?_ ?_
          · refine (rbytes_cl bh bl _ h3 h4).mono ?_
            rintro e W41 ⟨rfl, hB⟩
            refine ⟨_, rfl, keepG hp hq s40 (hB.mono (sizeG s40)), fun s41 => ?_⟩
            have x41 := x40.below hB
            have y41 := y40.below hB
            clear hB
            simp only [Act.put, List.setIfInBounds_toArray, List.set_cons_zero, List.set_cons_succ]
            refine wpAnyH_ready (rs := [6]) (by kernel_rfl) (by simp) ?_
            refine all_store (i := 6) none 42 _ _ rfl rfl rfl (by rfl) X .u8 16 (bf ah al) _ rfl rfl x41 (by kernel_rfl) ?_ AllReadyH.nil
            intro W42 x42 hB
            have y42 := y41.but hB ne.symm
            refine ⟨keepG hp hq s41 (hB.below bX (sizeG s41)), fun s42 => ?_⟩
            clear hB
            simp only [Act.put]
            refine wpAnyH_ready (rs := [7]) (by kernel_rfl) (by simp) ?_
            refine all_store (i := 7) none 42 _ _ rfl rfl rfl (by rfl) Y .u8 16 (bf bh bl) _ rfl rfl y42 (by kernel_rfl) ?_ AllReadyH.nil
            intro W43 y43 hB
            have x43 := x42.but hB ne
            refine ⟨keepG hp hq s42 (hB.below bY (sizeG s42)), fun s43 => ?_⟩
            clear hB
            simp only [Act.put]
            refine wpAnyH_done (by kernel_rfl) ?_ _
            obtain ⟨hp', hq'⟩ := PQ.out
            subst hp' hq'
            clear PQ
            go_wp2_with fail
            go_meet
            case rel => exact ⟨X, Y, rfl, rfl, RowF.of x43, RowF.of y43, AtW.below R.out s43.2.2.2.2.out, hb.out.trans (s43.2.2.2.2.out.mono hb.out.size)⟩
          exact AllReadyH.nil
        exact AllReadyH.nil
      exact AllReadyH.nil
    refine all_alloc (i := 5) (some 7) 42 rfl rfl rfl (by rfl) .u8 16 (by kernel_rfl) ?_ ?_
    · intro Y W44 hn y44 hB
      have bY := Nat.le_trans (sizeG hHeld) hn
      refine ⟨keepG hp hq hHeld (hB.mono (sizeG hHeld)), fun s44 => ?_⟩
      clear hB hn
      simp only [Act.put, List.setIfInBounds_toArray, List.set_cons_zero, List.set_cons_succ]
      refine wpAnyH_ready (rs := [1, 4]) (by kernel_rfl) (by simp) ?_
      refine all_call (i := 1) (some 13) 30 _ _ rfl rfl rfl (by rfl) #[U ah al] rfl Try.func30 (by kernel_rfl) (by kernel_rfl) ?_ ?_
      · refine (rbytes_cl ah al _ h1 h2).mono ?_
        rintro e W45 ⟨rfl, hB⟩
        refine ⟨_, rfl, keepG hp hq s44 (hB.mono (sizeG s44)), fun s45 => ?_⟩
        have y45 := y44.below hB
        clear hB
        simp only [Act.put, List.setIfInBounds_toArray, List.set_cons_zero, List.set_cons_succ]
        refine wpAnyH_ready (rs := [3, 4]) (by kernel_rfl) (by simp) ?_
        refine all_call (i := 3) (some 15) 30 _ _ rfl rfl rfl (by rfl) #[U bh bl] rfl Try.func30 (by kernel_rfl) (by kernel_rfl) ?_ ?_
        · refine (rbytes_cl bh bl _ h3 h4).mono ?_
          rintro e W46 ⟨rfl, hB⟩
          refine ⟨_, rfl, keepG hp hq s45 (hB.mono (sizeG s45)), fun s46 => ?_⟩
          have y46 := y45.below hB
          clear hB
          simp only [Act.put, List.setIfInBounds_toArray, List.set_cons_zero, List.set_cons_succ]
          refine wpAnyH_ready (rs := [4]) (by kernel_rfl) (by simp) ?_
          refine all_alloc (i := 4) (some 6) 42 rfl rfl rfl (by rfl) .u8 16 (by kernel_rfl) ?_ ?_
          · intro X W47 hn x47 hB
            have ne : X ≠ Y := by have := y46.2.2; omega
            have y47 := y46.below hB
            have bX := Nat.le_trans (sizeG s46) hn
            refine ⟨keepG hp hq s46 (hB.mono (sizeG s46)), fun s47 => ?_⟩
            clear hB hn
            simp only [Act.put, List.setIfInBounds_toArray, List.set_cons_zero, List.set_cons_succ]
            refine wpAnyH_ready (rs := [6]) (by kernel_rfl) (by simp) ?_
            refine all_store (i := 6) none 42 _ _ rfl rfl rfl (by rfl) X .u8 16 (bf ah al) _ rfl rfl x47 (by kernel_rfl) ?_ AllReadyH.nil
            intro W48 x48 hB
            have y48 := y47.but hB ne.symm
            refine ⟨keepG hp hq s47 (hB.below bX (sizeG s47)), fun s48 => ?_⟩
            clear hB
            simp only [Act.put]
            refine wpAnyH_ready (rs := [7]) (by kernel_rfl) (by simp) ?_
            refine all_store (i := 7) none 42 _ _ rfl rfl rfl (by rfl) Y .u8 16 (bf bh bl) _ rfl rfl y48 (by kernel_rfl) ?_ AllReadyH.nil
            intro W49 y49 hB
            have x49 := x48.but hB ne
            refine ⟨keepG hp hq s48 (hB.below bY (sizeG s48)), fun s49 => ?_⟩
            clear hB
            simp only [Act.put]
            refine wpAnyH_done (by kernel_rfl) ?_ _
            obtain ⟨hp', hq'⟩ := PQ.out
            subst hp' hq'
            clear PQ
            go_wp2_with fail
            go_meet
            case rel => exact ⟨X, Y, rfl, rfl, RowF.of x49, RowF.of y49, AtW.below R.out s49.2.2.2.2.out, hb.out.trans (s49.2.2.2.2.out.mono hb.out.size)⟩
          exact AllReadyH.nil
        refine all_alloc (i := 4) (some 6) 42 rfl rfl rfl (by rfl) .u8 16 (by kernel_rfl) ?_ ?_
        · intro X W50 hn x50 hB
          have ne : X ≠ Y := by have := y45.2.2; omega
          have y50 := y45.below hB
          have bX := Nat.le_trans (sizeG s45) hn
          refine ⟨keepG hp hq s45 (hB.mono (sizeG s45)), fun s50 => ?_⟩
          clear hB hn
          simp only [Act.put, List.setIfInBounds_toArray, List.set_cons_zero, List.set_cons_succ]
          refine wpAnyH_ready (rs := [3]) (by kernel_rfl) (by simp) ?_
          refine all_call (i := 3) (some 15) 30 _ _ rfl rfl rfl (by rfl) #[U bh bl] rfl Try.func30 (by kernel_rfl) (by kernel_rfl) ?_ ?_
          · refine (rbytes_cl bh bl _ h3 h4).mono ?_
            rintro e W51 ⟨rfl, hB⟩
            refine ⟨_, rfl, keepG hp hq s50 (hB.mono (sizeG s50)), fun s51 => ?_⟩
            have x51 := x50.below hB
            have y51 := y50.below hB
            clear hB
            simp only [Act.put, List.setIfInBounds_toArray, List.set_cons_zero, List.set_cons_succ]
            refine wpAnyH_ready (rs := [6]) (by kernel_rfl) (by simp) ?_
            refine all_store (i := 6) none 42 _ _ rfl rfl rfl (by rfl) X .u8 16 (bf ah al) _ rfl rfl x51 (by kernel_rfl) ?_ AllReadyH.nil
            intro W52 x52 hB
            have y52 := y51.but hB ne.symm
            refine ⟨keepG hp hq s51 (hB.below bX (sizeG s51)), fun s52 => ?_⟩
            clear hB
            simp only [Act.put]
            refine wpAnyH_ready (rs := [7]) (by kernel_rfl) (by simp) ?_
            refine all_store (i := 7) none 42 _ _ rfl rfl rfl (by rfl) Y .u8 16 (bf bh bl) _ rfl rfl y52 (by kernel_rfl) ?_ AllReadyH.nil
            intro W53 y53 hB
            have x53 := x52.but hB ne
            refine ⟨keepG hp hq s52 (hB.below bY (sizeG s52)), fun s53 => ?_⟩
            clear hB
            simp only [Act.put]
            refine wpAnyH_done (by kernel_rfl) ?_ _
            obtain ⟨hp', hq'⟩ := PQ.out
            subst hp' hq'
            clear PQ
            go_wp2_with fail
            go_meet
            case rel => exact ⟨X, Y, rfl, rfl, RowF.of x53, RowF.of y53, AtW.below R.out s53.2.2.2.2.out, hb.out.trans (s53.2.2.2.2.out.mono hb.out.size)⟩
          exact AllReadyH.nil
        exact AllReadyH.nil
      refine all_alloc (i := 4) (some 6) 42 rfl rfl rfl (by rfl) .u8 16 (by kernel_rfl) ?_ ?_
      · intro X W54 hn x54 hB
        have ne : X ≠ Y := by have := y44.2.2; omega
        have y54 := y44.below hB
        have bX := Nat.le_trans (sizeG s44) hn
        refine ⟨keepG hp hq s44 (hB.mono (sizeG s44)), fun s54 => ?_⟩
        clear hB hn
        simp only [Act.put, List.setIfInBounds_toArray, List.set_cons_zero, List.set_cons_succ]
        refine wpAnyH_ready (rs := [1]) (by kernel_rfl) (by simp) ?_
        refine all_call (i := 1) (some 13) 30 _ _ rfl rfl rfl (by rfl) #[U ah al] rfl Try.func30 (by kernel_rfl) (by kernel_rfl) ?_ ?_
        · refine (rbytes_cl ah al _ h1 h2).mono ?_
          rintro e W55 ⟨rfl, hB⟩
          refine ⟨_, rfl, keepG hp hq s54 (hB.mono (sizeG s54)), fun s55 => ?_⟩
          have x55 := x54.below hB
          have y55 := y54.below hB
          clear hB
          simp only [Act.put, List.setIfInBounds_toArray, List.set_cons_zero, List.set_cons_succ]
          refine wpAnyH_ready (rs := [3]) (by kernel_rfl) (by simp) ?_
          refine all_call (i := 3) (some 15) 30 _ _ rfl rfl rfl (by rfl) #[U bh bl] rfl Try.func30 (by kernel_rfl) (by kernel_rfl) ?_ ?_
          · refine (rbytes_cl bh bl _ h3 h4).mono ?_
            rintro e W56 ⟨rfl, hB⟩
            refine ⟨_, rfl, keepG hp hq s55 (hB.mono (sizeG s55)), fun s56 => ?_⟩
            have x56 := x55.below hB
            have y56 := y55.below hB
            clear hB
            simp only [Act.put, List.setIfInBounds_toArray, List.set_cons_zero, List.set_cons_succ]
            refine wpAnyH_ready (rs := [6]) (by kernel_rfl) (by simp) ?_
            refine all_store (i := 6) none 42 _ _ rfl rfl rfl (by rfl) X .u8 16 (bf ah al) _ rfl rfl x56 (by kernel_rfl) ?_ AllReadyH.nil
            intro W57 x57 hB
            have y57 := y56.but hB ne.symm
            refine ⟨keepG hp hq s56 (hB.below bX (sizeG s56)), fun s57 => ?_⟩
            clear hB
            simp only [Act.put]
            refine wpAnyH_ready (rs := [7]) (by kernel_rfl) (by simp) ?_
            refine all_store (i := 7) none 42 _ _ rfl rfl rfl (by rfl) Y .u8 16 (bf bh bl) _ rfl rfl y57 (by kernel_rfl) ?_ AllReadyH.nil
            intro W58 y58 hB
            have x58 := x57.but hB ne
            refine ⟨keepG hp hq s57 (hB.below bY (sizeG s57)), fun s58 => ?_⟩
            clear hB
            simp only [Act.put]
            refine wpAnyH_done (by kernel_rfl) ?_ _
            obtain ⟨hp', hq'⟩ := PQ.out
            subst hp' hq'
            clear PQ
            go_wp2_with fail
            go_meet
            case rel => exact ⟨X, Y, rfl, rfl, RowF.of x58, RowF.of y58, AtW.below R.out s58.2.2.2.2.out, hb.out.trans (s58.2.2.2.2.out.mono hb.out.size)⟩
          exact AllReadyH.nil
        exact AllReadyH.nil
      exact AllReadyH.nil
    exact AllReadyH.nil
  case rest =>
    as_aux_lemma =>
      obtain ⟨X, Y, rfl, rfl, hX, hY, hR, hE⟩ := hcut
      have BA : Hid (∀ j, j < 16 → 0 ≤ bf ah al j ∧ bf ah al j < 256) := bf_byte ah al h1 h2
      have BB : Hid (∀ j, j < 16 → 0 ≤ bf bh bl j ∧ bf bh bl j < 256) := bf_byte bh bl h3 h4
      have SA : Hid (ps (bf ah al) 16 = V ah al) := bf_16 ah al
      have SB : Hid (ps (bf bh bl) 16 = V bh bl) := bf_16 bh bl
      generalize bf ah al = a at *
      generalize bf bh bl = b at *
      obtain ⟨Z, hZ⟩ : ∃ Z, Z = wc.heap.size := ⟨_, rfl⟩
      have zx : Z ≠ X := by have := hX.2; omega
      have zy : Z ≠ Y := by have := hY.2; omega
      have zr : Z ≠ w.heap.size + 1 + 1 := by have := hR.2.2.2.2; omega
      have zw : w.heap.size ≤ Z := by have := hE.size; omega
      have ST : Hid (AddRel w X Y Z (w.heap.size + 1 + 1) a b (.int .i64 0) (.int .i64 0) (wc.alloc (.cells #[.int .u8 0, .int .u8 0, .int .u8 0, .int .u8 0, .int .u8 0, .int .u8 0, .int .u8 0, .int .u8 0, .int .u8 0, .int .u8 0, .int .u8 0, .int .u8 0, .int .u8 0, .int .u8 0, .int .u8 0, .int .u8 0] 42))) := by
        subst hZ
        exact ⟨0, 0, fun _ => 0, by omega, rfl, rfl, by omega, by omega, by simp [ps], fun j hj => by omega, hX.alloc _, hY.alloc _, RowF.zeros wc, fun j => by simp [go_sem], hR.alloc _, hE.alloc (by omega) _⟩
      clear hX hY hR hE
      go_wp2_with fail
      rw [← hZ]
      clear hZ
      go_loopw [9, 10] (fun cv i wr => AddRel w X Y Z (w.heap.size + 1 + 1) a b cv i wr) (fun _ i _ => 16 - (intOf i).toNat)
      case atStart => exact ST.out
      case round =>
        obtain ⟨k, c, z, hk, rfl, rfl, c0, c1, hs, hz, hX, hY, hZ, hf, hR, bel⟩ := hrel
        have HS : Hid (ps z k + c * 256 ^ k = ps a k + ps b k) := hs
        have HZ : Hid (∀ j, j < k → 0 ≤ z j ∧ z j < 256) := hz
        have BE : Hid (Below w.heap.size w wr) := bel
        clear hs hz bel ST
        by_cases hlt : k < 16
        · have x0 := hX.1 k hlt
          have y0 := hY.1 k hlt
          have z0 := hZ.1 k hlt
          obtain ⟨u0, u1⟩ := BA.out k hlt
          obtain ⟨v0, v1⟩ := BB.out k hlt
          obtain ⟨u, hu⟩ : ∃ u, u = a k := ⟨_, rfl⟩
          obtain ⟨v, hv⟩ : ∃ v, v = b k := ⟨_, rfl⟩
          rw [← hu] at x0 u0 u1
          rw [← hv] at y0 v0 v1
          have UV : Hid (u = a k ∧ v = b k) := ⟨hu, hv⟩
          clear hu hv
          go_wp2_with fail
          go_region
          go_wp2_with fail
          exact ⟨add_rel1 w wr X Y Z _ a b z k c u v hlt UV.out.1 UV.out.2 u0 u1 v0 v1 c0 c1 HS.out HZ.out hX hY hZ hf hR BE.out zx zy zr zw, by simp [intOf]; omega⟩
        · obtain rfl : k = 16 := by omega
          have hp : (256 : Int) ^ 16 = 340282366920938463463374607431768211456 := by decide
          have SUM : Hid (ps z 16 + c * 340282366920938463463374607431768211456 = V ah al + V bh bl) := by
            have := HS.out
            rw [hp, SA.out, SB.out] at this
            exact this
          have ZB : Hid (0 ≤ ps z 16 ∧ ps z 16 < 340282366920938463463374607431768211456) := by
            have := ps_bound z 16 HZ.out
            rw [hp] at this
            exact this
          clear hp HS
          obtain ⟨r0, r1, r2, r3, rz⟩ := id hR
          by_cases hc : c = 0
          · subst hc
            go_wp2_with (refine wpList_load_mid rfl 42 (.tmp 8) rfl Z 0 rfl (cells16 z) _ (RowF.range hZ) Try.underlying42 rfl (by kernel_rfl) ?_)
            refine (rof_row z _ HZ.out).mono ?_
            rintro e w5 ⟨rfl, hb5⟩
            have wx1 : Word (le8 fun j => z (8 + j)) := le8_word _ (fun j hj => HZ.out (8 + j) (by omega))
            have wx2 : Word (le8 z) := le8_word _ (fun j hj => HZ.out j (by omega))
            have FIN : Hid (V (le8 fun j => z (8 + j)) (le8 z) = V ah al + V bh bl ∧ V ah al + V bh bl < 340282366920938463463374607431768211456) := by
              have g1 := SUM.out
              have g2 := ZB.out
              rw [ps_16] at g1 g2
              exact ⟨by omega, by omega⟩
            obtain ⟨q0, q1, q2, q3, qz⟩ := hR.below hb5
            have E5 : Hid (Below w.heap.size w w5) := BE.out.trans (hb5.mono BE.out.size)
            clear r0 r1 r2 r3 rz hb5
            generalize (le8 fun j => z (8 + j)) = p at *
            generalize le8 z = q at *
            go_wp2_with fail
            refine bodyPost_ret (v := .tuple #[U p q, .bool false]) (by simp [results, Try.results10, go_sem, q0, q1]) rfl ⟨.inl ⟨FIN.out.2, p, q, rfl, wx1, wx2, FIN.out.1⟩, ?_⟩
            exact (E5.out.setCell (p := ⟨w.heap.size + 1 + 1, 0, none⟩) (by simp; omega) _).setCell (p := ⟨w.heap.size + 1 + 1, 1, none⟩) (by simp; omega) _
          · have hc1 : 0 < c := by omega
            have FIN : Hid (340282366920938463463374607431768211456 ≤ V ah al + V bh bl) := by
              have g1 := SUM.out
              have g2 := ZB.out
              have : c = 1 := by omega
              rw [this] at g1
              unfold Hid
              omega
            go_wp2_with fail
            refine bodyPost_ret (v := .tuple #[U 0 0, .bool true]) (by simp [results, Try.results10, go_sem, r0, r1]) rfl ⟨.inr ⟨FIN.out, rfl⟩, ?_⟩
            exact (BE.out.setCell (p := ⟨w.heap.size + 1 + 1, 0, none⟩) (by simp; omega) _).setCell (p := ⟨w.heap.size + 1 + 1, 1, none⟩) (by simp; omega) _
end Go.Proofs.Ytkpkehbhgfbckaa
