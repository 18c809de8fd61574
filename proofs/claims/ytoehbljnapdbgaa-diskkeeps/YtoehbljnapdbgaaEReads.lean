/-
  Walks, not a claim by itself: the law's reads; Turn behind the sector's end. By the verifier.
-/
import Derived.Test.YtoehbljnapdbgaaEOne
import Derived.Test.YtoehbljnapdbgaaDRead
namespace Go.Proofs.Ytoehbljnapdbgaa
open Go.RowKit Go.Maps
set_option maxRecDepth 100000 in
theorem turn_range (W : World) (d s m : Nat) (D : Dsk) (x p v : Int) (h : DiskAt W d s m D) (hp : 256 ≤ p) :
    Calls Try.prog 15 #[.pointer (some ⟨d, 0, none⟩), .int .i64 x, .int .i64 p, .int .u8 v] W fun e w' => e = .returned (.int .i64 5) ∧ w' = W := by
  obtain ⟨c1, _⟩ := h.recd.cel 1 _ rfl
  have HD : Hid (DiskAt W d s m D) := h
  have p0 : ¬ p < 0 := by omega
  clear h
  by_cases x0 : x < 0
  · go_enter Try.func15, Try.ntmps15
    go_wp2_with (go_at_call 55; refine (made_ok _ d s m D HD.out).mono ?_; rintro e w1 ⟨rfl, rfl⟩)
    go_ret
    exact ⟨rfl, rfl⟩
  · by_cases x1 : (D.N : Int) ≤ x
    · go_enter Try.func15, Try.ntmps15
      go_wp2_with (go_at_call 55; refine (made_ok _ d s m D HD.out).mono ?_; rintro e w1 ⟨rfl, rfl⟩)
      go_ret
      exact ⟨rfl, rfl⟩
    · go_enter Try.func15, Try.ntmps15
      go_wp2_with (go_at_call 55; refine (made_ok _ d s m D HD.out).mono ?_; rintro e w1 ⟨rfl, rfl⟩)
      go_ret
      exact ⟨rfl, rfl⟩
def readsRel (w : World) (n : Nat) (i : Value) (wr : World) : Prop := ∃ k : Nat, k ≤ n ∧ i = .int .i64 k ∧ Below w.heap.size w wr
theorem read_of (W : World) (d s m x n : Nat) (D : Dsk) (l : Int) (o : Bool) (h : DiskAt W d s m D) (hf : FuseIs W D.fz l o) (hu : D.up o = true) (hx : x + n ≤ D.N) (i j : Int) (hi : i = x) (hj : j = n) :
    Calls Try.prog 12 #[.pointer (some ⟨d, 0, none⟩), .int .i64 i, .int .i64 j] W (ReadPost W n (fun j => D.sec (x * 256 + j))) := by subst hi hj; exact read_ok W d s m x n D l o h hf hu hx
theorem reads_next {W V U : World} {n k : Nat} (hlt : k < n) (h1 : Below W.heap.size W V) (h2 : Below V.heap.size V U) : readsRel W n (.int .i64 ((k : Int) + 1)) U := ⟨k + 1, by omega, by go_num, h1.trans (h2.mono h1.size)⟩
theorem reads_less {n k : Nat} (hlt : k < n) : n - (RowKit.intOf (.int .i64 ((k : Int) + 1))).toNat < n - (RowKit.intOf (.int .i64 (k : Int))).toNat := by simp [RowKit.intOf]; omega
theorem reads_ar (n k : Nat) (hlt : k < n) (hn : n ≤ 8) : (k : Int) < n ∧ (0 : Int) ≤ (k : Int) ∧ wrap64 ((k : Int) * 256) = (k : Int) * 256 ∧ IntKind.i64.wrap ((k : Int) * 256) = (k : Int) * 256 ∧ wrap64 (((k : Int) + 1) * 256) = ((k : Int) + 1) * 256 ∧ IntKind.i64.wrap (((k : Int) + 1) * 256) = ((k : Int) + 1) * 256 ∧ (0 : Int) ≤ (k : Int) * 256 ∧ (k : Int) * 256 ≤ ((k : Int) + 1) * 256 ∧ ((k : Int) + 1) * 256 ≤ (n : Int) * 256 ∧ ((k : Int) * 256).toNat = k * 256 ∧ (((k : Int) + 1) * 256 - (k : Int) * 256).toNat = 256 ∧ ((k : Int) + 1) * 256 - (k : Int) * 256 = 256 ∧ wrap64 ((k : Int) + 1) = (k : Int) + 1 ∧ IntKind.i64.wrap ((k : Int) + 1) = (k : Int) + 1 ∧ ((0 : Int) ≤ ((k : Int) + 1) * 256 ∧ (k : Int) + 1 ≤ n) ∧ (k : Int) * 256 ≤ max (((k : Int) + 1) * 256) 0 ∧ ¬ n * 256 = k * 256 ∧ (((k : Int) + 1) * 256).toNat - k * 256 = 256 := by
  refine ⟨by omega, by omega, by unfold wrap64; omega, by rw [IntKind.wrap_i64]; omega, by unfold wrap64; omega, by rw [IntKind.wrap_i64]; omega, by omega, by omega, by omega, by omega, by omega, by omega, by unfold wrap64; omega, by rw [IntKind.wrap_i64]; omega, by omega, by omega, by omega, by omega⟩
set_option maxRecDepth 100000 in
set_option maxHeartbeats 1000000 in
theorem reads_any (W : World) (d s m x n b off C : Nat) (D : Dsk) (l : Int) (o : Bool) (g : Nat → Int) (h : DiskAt W d s m D) (hf : FuseIs W D.fz l o) (hu : D.up o = true) (hx : x + n ≤ D.N) (hn : n ≤ 8) (hL : Lies W b off n g) (hs : ∀ k j, k < n → j < 256 → D.sec ((x + k) * 256 + j) = g k) :
    Calls Try.prog 29 #[.pointer (some ⟨d, 0, none⟩), .int .i64 (x : Int), .slice (some ⟨b, off, none⟩) n C] W fun e w' => e = .returned (.bool true) ∧ Below W.heap.size W w' := by
  have RD : Hid (Calls Try.prog 12 #[.pointer (some ⟨d, 0, none⟩), .int .i64 (x : Int), .int .i64 (n : Int)] W (ReadPost W n (fun j => D.sec (x * 256 + j)))) := read_ok W d s m x n D l o h hf hu hx
  have HS : Hid (∀ k j, k < n → j < 256 → D.sec ((x + k) * 256 + j) = g k) := hs
  have SB : Hid (∀ j, j < n * 256 → 0 ≤ D.sec (x * 256 + j) ∧ D.sec (x * 256 + j) < 256) := fun j hj => h.sb _ (by omega)
  have HL : Hid (Lies W b off n g) := hL
  have m1 : wrap64 ((n : Int) * 256) = (n : Int) * 256 := by unfold wrap64; omega
  have m2 : IntKind.i64.wrap ((n : Int) * 256) = (n : Int) * 256 := by rw [IntKind.wrap_i64]; omega
  clear h hf hu hs hL
  go_enter Try.func29, Try.ntmps29
  go_wp2_with (go_at_call 12; refine RD.out.mono ?_; rintro e w1 ⟨rfl, hR, hB⟩; have HR : Hid (IRow w1 W.heap.size .u8 (n * 256) (fun j => D.sec (x * 256 + j))) := hR; have HB : Hid (Below W.heap.size W w1) := hB; clear hR hB RD)
  have ST : Hid (readsRel w1 n (.int .i64 0) w1) := ⟨0, by omega, rfl, Below.refl _ _⟩
  go_loopw [9] (fun i wr => readsRel w1 n i wr) (fun i _ => n - (RowKit.intOf i).toNat)
  case atStart => exact ST.out
  case round =>
    obtain ⟨k, hk, rfl, hB⟩ := hrel
    clear ST
    by_cases hlt : k < n
    · have L1 : Hid (Lies wr b off n g) := (HL.out.below HB.out).below hB
      have R1 : Hid (IRow wr W.heap.size .u8 (n * 256) (fun j => D.sec (x * 256 + j))) := HR.out.below hB
      have c0 : wr.cell? ⟨b, off + k, none⟩ = some (.int .u8 (g k)) := L1.out.1 k hlt
      have gb : 0 ≤ g k ∧ g k < 256 := L1.out.2.1 k hlt
      have lb := L1.out.2.2
      have A1 : Hid (∀ W', Below wr.heap.size wr W' → Arg W' (some ⟨W.heap.size, k * 256, none⟩) 256 (fun j => D.sec (x * 256 + (k * 256 + j)))) := fun W' hW => by
        have := Arg.part ((R1.out.below hW).lies SB.out) (k * 256) 256 (by omega)
        rwa [Nat.zero_add] at this
      have TT : decide (txtN 256 (fun j => D.sec (x * 256 + (k * 256 + j))) = txtN 256 (fun _ => g k)) = true := decide_eq_true (txtN_congr _ _ _ (fun j hj => by have := HS.out k j hlt hj; rwa [show (x + k) * 256 + j = x * 256 + (k * 256 + j) by omega] at this))
      have BE : Hid (Below w1.heap.size w1 wr) := hB
      have zz := BE.out.size
      obtain ⟨i0, i1, i2, i3, i4, i5, i6, i7, i8, i9, j1, j2, j3, j4, q1, q2, q3, q4⟩ := reads_ar n k hlt hn
      go_wp2_with fail
      refine wp_region_noPanic ?_
      refine wp_region_held_drew (S := fun V => V.cell? ⟨b, off + k, none⟩ = some (.int .u8 (g k))) (by kernel_rfl) ?_ (fun hHeld => ?_)
      · exact c0
      refine take_at (i := 0) (v := ?_) (some 34) rfl rfl (by kernel_rfl) (by kernel_rfl) (by kernel_rfl) (fun _ _ _ h => h) (Or.inl ⟨by rfl, ?_⟩) (by assumption) ?_
      rotate_left
      · (intro w hSw; (try dsimp only at hSw); go_simp; try with_reducible rfl)
      simp only [Act.put, List.setIfInBounds_toArray, List.set_cons_zero, List.set_cons_succ]
      refine take_at (i := 1) (v := ?_) (some 35) rfl rfl (by kernel_rfl) (by kernel_rfl) (by kernel_rfl) (fun _ _ _ h => h) (Or.inl ⟨by rfl, ?_⟩) (by assumption) ?_
      rotate_left
      · (intro w hSw; (try dsimp only at hSw); go_simp; try with_reducible rfl)
      simp only [Act.put, List.setIfInBounds_toArray, List.set_cons_zero, List.set_cons_succ]
      refine take_at (i := 2) (v := ?_) (some 36) rfl rfl (by kernel_rfl) (by kernel_rfl) (by kernel_rfl) (fun _ _ _ h => h) (Or.inl ⟨by rfl, ?_⟩) (by assumption) ?_
      rotate_left
      · (intro w hSw; (try dsimp only at hSw); go_simp; try with_reducible rfl)
      simp only [Act.put, List.setIfInBounds_toArray, List.set_cons_zero, List.set_cons_succ]
      refine take_at (i := 3) (v := ?_) (some 37) rfl rfl (by kernel_rfl) (by kernel_rfl) (by kernel_rfl) (fun _ _ _ h => h) (Or.inl ⟨by rfl, ?_⟩) (by assumption) ?_
      rotate_left
      · (intro w hSw; (try dsimp only at hSw); go_simp; try with_reducible rfl)
      simp only [Act.put, List.setIfInBounds_toArray, List.set_cons_zero, List.set_cons_succ]
      refine take_at (i := 4) (v := ?_) (some 38) rfl rfl (by kernel_rfl) (by kernel_rfl) (by kernel_rfl) (fun _ _ _ h => h) (Or.inl ⟨by rfl, ?_⟩) (by assumption) ?_
      rotate_left
      · (intro w hSw; (try dsimp only at hSw); go_simp; try with_reducible rfl)
      simp only [Act.put, List.setIfInBounds_toArray, List.set_cons_zero, List.set_cons_succ]
      refine take_at (i := 5) (v := ?_) (some 39) rfl rfl (by kernel_rfl) (by kernel_rfl) (by kernel_rfl) (fun _ _ _ h => h) (Or.inl ⟨by rfl, ?_⟩) (by assumption) ?_
      rotate_left
      · (intro w hSw; (try dsimp only at hSw); go_simp; try with_reducible rfl)
      simp only [Act.put, List.setIfInBounds_toArray, List.set_cons_zero, List.set_cons_succ]
      refine take_at (i := 6) (v := (.slice (some ⟨W.heap.size, k * 256, none⟩) 256 (n * 256 - k * 256))) (some 40) rfl rfl (by kernel_rfl) (by kernel_rfl) (by kernel_rfl) (fun _ _ _ h => h) (Or.inl ⟨by rfl, ?_⟩) (by assumption) ?_
      · (intro w hSw; (try dsimp only at hSw); go_simp)
      simp only [Act.put, List.setIfInBounds_toArray, List.set_cons_zero, List.set_cons_succ]
      refine take_at (i := 7) (v := ?_) (some 41) rfl rfl (by kernel_rfl) (by kernel_rfl) (by kernel_rfl) (fun _ _ _ h => h) (Or.inl ⟨by rfl, ?_⟩) (by assumption) ?_
      rotate_left
      · (intro w hSw; (try dsimp only at hSw); go_simp; try with_reducible rfl)
      simp only [Act.put, List.setIfInBounds_toArray, List.set_cons_zero, List.set_cons_succ]
      refine take_at (i := 8) (v := ?_) (some 42) rfl rfl (by kernel_rfl) (by kernel_rfl) (by kernel_rfl) (fun _ _ _ h => h) (Or.inl ⟨by rfl, ?_⟩) (by assumption) ?_
      rotate_left
      · (intro w hSw; (try dsimp only at hSw); go_simp; try with_reducible rfl)
      simp only [Act.put, List.setIfInBounds_toArray, List.set_cons_zero, List.set_cons_succ]
      refine take_at (i := 9) (v := ?_) (some 43) rfl rfl (by kernel_rfl) (by kernel_rfl) (by kernel_rfl) (fun _ _ _ h => h) (Or.inl ⟨by rfl, ?_⟩) (by assumption) ?_
      rotate_left
      · (intro w hSw; (try dsimp only at hSw); go_simp; try with_reducible rfl)
      simp only [Act.put, List.setIfInBounds_toArray, List.set_cons_zero, List.set_cons_succ]
      refine take_at (i := 10) (v := ?_) (some 44) rfl rfl (by kernel_rfl) (by kernel_rfl) (by kernel_rfl) (fun _ _ _ h => h) (Or.inl ⟨by rfl, ?_⟩) (by assumption) ?_
      rotate_left
      · (intro w hSw; (try dsimp only at hSw); go_simp; try with_reducible rfl)
      simp only [Act.put, List.setIfInBounds_toArray, List.set_cons_zero, List.set_cons_succ]
      refine call_at (i := 11) (some 45) 24 _ _ rfl rfl rfl (by rfl) (by kernel_rfl) #[.int .u8 (g k)] rfl Try.func24 (by kernel_rfl) (by kernel_rfl) ?_
      refine (sector_any (g k) _).mono ?_
      rintro e w5 ⟨rfl, hR5, hB5⟩
      have B5 : Hid (Below wr.heap.size wr w5) := (Below.refl _ wr).drew.trans hB5
      have R5 : Hid (IRow w5 wr.heap.size .u8 256 (fun _ => g k)) := hR5.irow
      have S5 : w5.cell? ⟨b, off + k, none⟩ = some (.int .u8 (g k)) := (hB5.cell (p := ⟨b, off + k, none⟩) lb).trans c0
      clear hR5 hB5
      refine ⟨_, rfl, S5, fun hHeld => ?_⟩
      simp only [Act.put, List.setIfInBounds_toArray, List.set_cons_zero, List.set_cons_succ]
      refine call_at (i := 12) (some 46) 25 _ _ rfl rfl rfl (by rfl) (by kernel_rfl) #[.slice (some ⟨W.heap.size, k * 256, none⟩) 256 (n * 256 - k * 256), .slice (some ⟨wr.heap.size, 0, none⟩) 256 256] rfl Try.func25 (by kernel_rfl) (by kernel_rfl) ?_
      refine (same_any _ _ _ _ _ _ _ (fun _ => g k) _ (A1.out _ B5.out) (Arg.of (R5.out.lies (fun _ _ => gb)))).mono ?_
      rintro e w6 ⟨rfl, h6⟩
      rw [h6, TT]
      clear h6 w6
      refine ⟨_, rfl, S5, fun hHeld => ?_⟩
      simp only [Act.put, List.setIfInBounds_toArray, List.set_cons_zero, List.set_cons_succ]
      refine take_at (i := 13) (v := ?_) (some 47) rfl rfl (by kernel_rfl) (by kernel_rfl) (by kernel_rfl) (fun _ _ _ h => h) (Or.inl ⟨by rfl, ?_⟩) (by assumption) ?_
      rotate_left
      · (intro w hSw; (try dsimp only at hSw); go_simp; try with_reducible rfl)
      simp only [Act.put, List.setIfInBounds_toArray, List.set_cons_zero, List.set_cons_succ]
      refine wpAnyH_done (by kernel_rfl) ?_ _
      refine NoPanic.normal ?_
      have RR : Hid (readsRel w1 n (.int .i64 ((k : Int) + 1)) w5) := reads_next hlt BE.out B5.out
      clear i2 i3 i4 i5 i6 i7 i8 i9 j1 j2 q1 q2 q3 q4 hHeld c0 S5 gb lb TT m1 m2
      go_wp2_with fail
      go_roundw
      case rel => exact RR.out
      case measure => exact reads_less hlt
    · have i0 : ¬ (k : Int) < n := by omega
      have EE : Hid (Below W.heap.size W wr) := HB.out.trans (hB.mono HB.out.size)
      clear hB
      go_wp2_with fail
      go_ret
      exact ⟨rfl, EE.out⟩
end Go.Proofs.Ytoehbljnapdbgaa
