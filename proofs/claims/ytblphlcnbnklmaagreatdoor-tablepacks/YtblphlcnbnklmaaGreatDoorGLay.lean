/-
  Walks, not a claim by itself: block's lay, layRef and layRefs. By the verifier.
-/
import Derived.Test.YtblphlcnbnklmaaGreatDoorGVal
namespace Go.Proofs.YtblphlcnbnklmaaGreatDoor
open Go.RowKit
theorem over_none (g : Nat → Int) (o : Nat) (f : Nat → Int) : over g o 0 f = g := by
  funext j; unfold over; rw [if_neg (by omega)]
theorem over_step (g : Nat → Int) (o k : Nat) (f : Nat → Int) : upd (over g o k f) (o + k) (f k) = over g o (k + 1) f := by
  funext j
  unfold upd over
  by_cases h : j = o + k
  · rw [if_pos h, if_pos (by omega), show j - o = k by omega]
  · rw [if_neg h]
    by_cases g : o ≤ j ∧ j < o + k
    · rw [if_pos g, if_pos (by omega)]
    · rw [if_neg g, if_neg (show ¬ (o ≤ j ∧ j < o + (k + 1)) by omega)]
def l1Rel (w : World) (r N o : Nat) (f : Nat → Int) (x : Int) (i : Value) (wr : World) : Prop := ∃ k : Nat, k ≤ 4 ∧ i = .int .i64 k ∧ IRow wr r .u8 N (over f o k (byt x)) ∧ But r w wr ∧ wr.heap.size = w.heap.size
theorem l1_step (w wr : World) (r N o k m : Nat) (f : Nat → Int) (x v : Int) (hk : k < 4) (hm : m = o + k) (hv : v = x / 2 ^ (8 * k) % 256) (hR : IRow wr r .u8 N (over f o k (byt x))) (hB : But r w wr) (hz : wr.heap.size = w.heap.size) :
    l1Rel w r N o f x (.int .i64 ((k : Int) + 1)) ((wr.setCell ⟨r, m, none⟩ (.int .u8 v)).drew) := by
  subst hm hv
  exact ⟨k + 1, by omega, by go_num, by rw [byt_eq, ← over_step]; exact (hR.set _ _).drew, (hB.put (.inl rfl) _).drew, by simp [World.setCell]; exact hz⟩
theorem l1_step' (w wr : World) (r N o k m : Nat) (f : Nat → Int) (x v : Int) (hk : k < 4) (hm : m = o + k) (hv : v = x / 2 ^ (8 * k) % 256) (hR : IRow wr r .u8 N (over f o k (byt x))) (hB : But r w wr) (hz : wr.heap.size = w.heap.size) :
    l1Rel w r N o f x (.int .i64 ((k : Int) + 1)) (wr.setCell ⟨r, m, none⟩ (.int .u8 v)) := by
  subst hm hv
  exact ⟨k + 1, by omega, by go_num, by rw [byt_eq, ← over_step]; exact hR.set _ _, hB.put (.inl rfl) _, by simp [World.setCell]; exact hz⟩
/-- What lay leaves. -/
def LayPost (w : World) (r N q m : Nat) (f : Nat → Int) (x : Int) (e : Ending) (w' : World) : Prop := ∃ q', e = .returned (.slice (some ⟨r, q', none⟩) (m - 4) (m - 4)) ∧ (4 < m → q' = q + 4) ∧ IRow w' r .u8 N (over f q 4 (byt x)) ∧ But r w w' ∧ w'.heap.size = w.heap.size
set_option maxRecDepth 100000 in
set_option maxHeartbeats 1000000 in
theorem lay_any (w : World) (r N q m : Nat) (f : Nat → Int) (x : Int) (hR : IRow w r .u8 N f) (hq : q + m ≤ N) (hm : 4 ≤ m) (hN : N ≤ 1000000) :
    Calls Tryz.prog 197 #[.slice (some ⟨r, q, none⟩) m m, .int .i64 x] w (LayPost w r N q m f x) := by
  have ST : Hid (l1Rel w r N q f x (.int .i64 0) w) := ⟨0, by omega, rfl, by rw [over_none]; exact hR, But.refl _ _, rfl⟩
  clear hR
  go_enter Tryz.func197, Tryz.ntmps197
  go_wp2_with fail
  go_loopw [6] (fun i wr => l1Rel w r N q f x i wr) (fun i _ => 4 - (RowKit.intOf i).toNat)
  case atStart => exact ST.out
  case round =>
    obtain ⟨k, hk, rfl, hR, hB, hz⟩ := hrel
    clear ST
    have BE : Hid (But r w wr) := hB
    have HZ : Hid (wr.heap.size = w.heap.size) := hz
    have RR : Hid (IRow wr r .u8 N (over f q k (byt x))) := hR
    by_cases hlt : k < 4
    · have gk := hR.1 (q + k) (by omega)
      have fk := hR.2.1 (q + k)
      clear hR hB hz
      have w8 := wrap_8 k (by omega)
      have i0 : (k : Int) < 4 := by omega
      have i1 : (0 : Int) ≤ 8 * (k : Int) := by omega
      have i2 : 8 * (k : Int) < 64 := by omega
      have i3 : (8 * (k : Int)).toNat = 8 * k := by omega
      have i4 : (0 : Int) ≤ (k : Int) := by omega
      have i5 : (k : Int) < m := by omega
      go_wp2_with fail
      try (go_region; go_wp2_with fail)
      go_roundw
      case rel => first | exact l1_step w wr r N q k _ f x _ hlt rfl rfl RR.out BE.out HZ.out | exact l1_step' w wr r N q k _ f x _ hlt rfl rfl RR.out BE.out HZ.out
      case measure => simp [RowKit.intOf]; omega
    · obtain rfl : k = 4 := by omega
      clear hR hB hz
      have i0 : (4 : Int) ≤ m := by omega
      have PP : Hid (∀ q', (4 < m → q' = q + 4) → LayPost w r N q m f x (.returned (.slice (some ⟨r, q', none⟩) (m - 4) (m - 4))) wr) := fun q' h => ⟨q', rfl, h, RR.out, BE.out, HZ.out⟩
      rw [show ((4 : Nat) : Int) = 4 from rfl]
      by_cases e4 : m = 4
      · subst e4
        go_wp2_with fail
        go_ret
        exact PP.out _ (fun h => by omega)
      · go_wp2_with fail
        go_ret
        exact PP.out _ (fun _ => rfl)
/-- What layRef leaves. -/
def LayRefPost (w : World) (r N q m : Nat) (f : Nat → Int) (x y : Int) (e : Ending) (w' : World) : Prop := ∃ q', e = .returned (.slice (some ⟨r, q', none⟩) (m - 8) (m - 8)) ∧ (8 < m → q' = q + 8) ∧ IRow w' r .u8 N (over (over f q 4 (byt x)) (q + 4) 4 (byt y)) ∧ But r w w'
set_option maxRecDepth 100000 in
set_option maxHeartbeats 1000000 in
theorem layref_any (w : World) (r N q m : Nat) (f : Nat → Int) (x y : Int) (hR : IRow w r .u8 N f) (hq : q + m ≤ N) (hm : 8 ≤ m) (hN : N ≤ 1000000) :
    Calls Tryz.prog 198 #[.slice (some ⟨r, q, none⟩) m m, .agg (twoC x y).toArray] w (LayRefPost w r N q m f x y) := by
  have HR := hidIt hR
  have hrw : r < w.heap.size := hR.2.2
  clear hR
  go_enter Tryz.func198, Tryz.ntmps198
  go_wp2_with (refine wpList_box_rec rfl 57 (.tmp 1) rfl (twoC x y) rfl w.heap.size rfl ?_; intro W0 R0 B0 z0; have c0 := R0.1 0 _ rfl; have c1 := R0.1 1 _ rfl; simp only [Nat.zero_add] at c0 c1; have R1 := hidIt (HR.out.below B0); have BB := hidIt B0; have ZZ := hidIt z0; clear R0 B0 z0)
  refine wp_region_noPanic ?_
  refine wp_region_held_drew (S := fun W' => W'.cell? ⟨w.heap.size, 0, none⟩ = some (.int .i64 x) ∧ W'.cell? ⟨w.heap.size, 1, none⟩ = some (.int .i64 y)) (by kernel_rfl) ?_ (fun hHeld => ?_)
  · exact ⟨c0, c1⟩
  refine take_at (i := 0) (v := ?_) (some 5) rfl rfl (by kernel_rfl) (by kernel_rfl) (by kernel_rfl) (fun _ _ _ h => h) (Or.inl ⟨by rfl, ?_⟩) (by assumption) ?_
  rotate_left
  · (intro w hSw; (try dsimp only at hSw); (try obtain ⟨q1, q2⟩ := hSw); go_simp; try with_reducible rfl)
  simp only [Act.put, List.setIfInBounds_toArray, List.set_cons_zero, List.set_cons_succ]
  refine take_at (i := 1) (v := ?_) (some 6) rfl rfl (by kernel_rfl) (by kernel_rfl) (by kernel_rfl) (fun _ _ _ h => h) (Or.inl ⟨by rfl, ?_⟩) (by assumption) ?_
  rotate_left
  · (intro w hSw; (try dsimp only at hSw); (try obtain ⟨q1, q2⟩ := hSw); go_simp; try with_reducible rfl)
  simp only [Act.put, List.setIfInBounds_toArray, List.set_cons_zero, List.set_cons_succ]
  refine take_at (i := 2) (v := ?_) (some 7) rfl rfl (by kernel_rfl) (by kernel_rfl) (by kernel_rfl) (fun _ _ _ h => h) (Or.inl ⟨by rfl, ?_⟩) (by assumption) ?_
  rotate_left
  · (intro w hSw; (try dsimp only at hSw); (try obtain ⟨q1, q2⟩ := hSw); go_simp; try with_reducible rfl)
  simp only [Act.put, List.setIfInBounds_toArray, List.set_cons_zero, List.set_cons_succ]
  refine take_at (i := 4) (v := ?_) (some 9) rfl rfl (by kernel_rfl) (by kernel_rfl) (by kernel_rfl) (fun _ _ _ h => h) (Or.inl ⟨by rfl, ?_⟩) (by assumption) ?_
  rotate_left
  · (intro w hSw; (try dsimp only at hSw); (try obtain ⟨q1, q2⟩ := hSw); go_simp; try with_reducible rfl)
  simp only [Act.put, List.setIfInBounds_toArray, List.set_cons_zero, List.set_cons_succ]
  refine take_at (i := 5) (v := ?_) (some 10) rfl rfl (by kernel_rfl) (by kernel_rfl) (by kernel_rfl) (fun _ _ _ h => h) (Or.inl ⟨by rfl, ?_⟩) (by assumption) ?_
  rotate_left
  · (intro w hSw; (try dsimp only at hSw); (try obtain ⟨q1, q2⟩ := hSw); go_simp; try with_reducible rfl)
  simp only [Act.put, List.setIfInBounds_toArray, List.set_cons_zero, List.set_cons_succ]
  refine call_at (i := 3) (some 8) 197 _ _ rfl rfl rfl (by rfl) (by kernel_rfl) #[.slice (some ⟨r, q, none⟩) m m, .int .i64 x] rfl Tryz.func197 (by kernel_rfl) (by kernel_rfl) ?_
  refine (lay_any W0.drew r N q m f x R1.out hq (by omega) hN).mono ?_
  rintro e w1 ⟨q1, rfl, hq1, h1, b1, z1⟩
  obtain rfl := hq1 (by omega)
  have LR := hidIt h1
  have LB := hidIt b1
  have LZ := hidIt z1
  have k0 := (b1.cell (p := ⟨w.heap.size, 0, none⟩) (by show w.heap.size < W0.heap.size; rw [ZZ.out]; omega) (by show w.heap.size ≠ r; omega)).trans c0
  have k1 := (b1.cell (p := ⟨w.heap.size, 1, none⟩) (by show w.heap.size < W0.heap.size; rw [ZZ.out]; omega) (by show w.heap.size ≠ r; omega)).trans c1
  clear h1 b1 z1 hq1
  refine ⟨_, rfl, ⟨k0, k1⟩, fun hHeld => ?_⟩
  simp only [Act.put, List.setIfInBounds_toArray, List.set_cons_zero, List.set_cons_succ]
  refine call_at (i := 6) (some 11) 197 _ _ rfl rfl rfl (by rfl) (by kernel_rfl) #[.slice (some ⟨r, q + 4, none⟩) (m - 4) (m - 4), .int .i64 y] rfl Tryz.func197 (by kernel_rfl) (by kernel_rfl) ?_
  refine (lay_any w1 r N (q + 4) (m - 4) _ y LR.out (by omega) (by omega) hN).mono ?_
  rintro e w2 ⟨q2, rfl, hq2, h2, b2, z2⟩
  have M0 := (b2.cell (p := ⟨w.heap.size, 0, none⟩) (by show w.heap.size < w1.heap.size; rw [LZ.out]; show w.heap.size < W0.heap.size; rw [ZZ.out]; omega) (by show w.heap.size ≠ r; omega)).trans k0
  have M1 := (b2.cell (p := ⟨w.heap.size, 1, none⟩) (by show w.heap.size < w1.heap.size; rw [LZ.out]; show w.heap.size < W0.heap.size; rw [ZZ.out]; omega) (by show w.heap.size ≠ r; omega)).trans k1
  have PP : Hid (LayRefPost w r N q m f x y (.returned (.slice (some ⟨r, q2, none⟩) (m - 4 - 4) (m - 4 - 4))) w2) := ⟨q2, by rw [show m - 4 - 4 = m - 8 by omega], fun h => by rw [hq2 (by omega)], h2, (But.of BB.out.drew).trans (LB.out.trans b2)⟩
  clear hq2 h2 b2 z2
  refine ⟨_, rfl, ⟨M0, M1⟩, fun hHeld => ?_⟩
  simp only [Act.put, List.setIfInBounds_toArray, List.set_cons_zero, List.set_cons_succ]
  refine take_at (i := 7) (v := ?_) (some 4) rfl rfl (by kernel_rfl) (by kernel_rfl) (by kernel_rfl) (fun _ _ _ h => h) (Or.inl ⟨by rfl, ?_⟩) (by assumption) ?_
  rotate_left
  · (intro w hSw; (try dsimp only at hSw); (try obtain ⟨q1, q2⟩ := hSw); go_simp; try with_reducible rfl)
  simp only [Act.put, List.setIfInBounds_toArray, List.set_cons_zero, List.set_cons_succ]
  refine wpAnyH_done (by kernel_rfl) ?_ _
  refine NoPanic.normal ?_
  go_wp2_with fail
  go_ret
  exact PP.out
/-- What layRefs has laid of k refs. -/
def refG (h : Nat → Int) (j : Nat) : Int := byt (h (j / 4)) (j % 4)
theorem refG_step (f h : Nat → Int) (q k : Nat) : over (over (over f q (8 * k) (refG h)) (q + 8 * k) 4 (byt (h (2 * k)))) (q + 8 * k + 4) 4 (byt (h (2 * k + 1))) = over f q (8 * (k + 1)) (refG h) := by
  funext j
  unfold over
  by_cases a : q + 8 * k + 4 ≤ j ∧ j < q + 8 * k + 4 + 4
  · rw [if_pos a, if_pos (by omega)]
    unfold refG
    rw [show (j - q) / 4 = 2 * k + 1 by omega, show (j - q) % 4 = j - (q + 8 * k + 4) by omega]
  · rw [if_neg a]
    by_cases b : q + 8 * k ≤ j ∧ j < q + 8 * k + 4
    · rw [if_pos b, if_pos (by omega)]
      unfold refG
      rw [show (j - q) / 4 = 2 * k by omega, show (j - q) % 4 = j - (q + 8 * k) by omega]
    · rw [if_neg b]
      by_cases c : q ≤ j ∧ j < q + 8 * k
      · rw [if_pos c, if_pos (by omega)]
      · rw [if_neg c, if_neg (by omega)]
def lrsRel (w : World) (r N q k : Nat) (f h : Nat → Int) (v i : Value) (wr : World) : Prop := ∃ n q' : Nat, n ≤ k ∧ i = .int .i64 n ∧ v = .slice (some ⟨r, q', none⟩) (128 - 8 * n) (128 - 8 * n) ∧ (n < 16 → q' = q + 8 * n) ∧ IRow wr r .u8 N (over f q (8 * n) (refG h)) ∧ But r w wr
/-- What layRefs leaves. -/
def LayRefsPost (w : World) (r N q m k : Nat) (f h : Nat → Int) (e : Ending) (w' : World) : Prop := e = .returned (.slice (some ⟨r, q + 128, none⟩) (m - 128) (m - 128)) ∧ IRow w' r .u8 N (over f q (8 * k) (refG h)) ∧ But r w w'
set_option maxRecDepth 100000 in
set_option maxHeartbeats 1000000 in
theorem layrefs_any (w0 w : World) (r N q m k C : Nat) (a : Option Addr) (f h : Nat → Int) (hA : HArg w0 a k h) (hB0 : Below w0.heap.size w0 w) (hr : w0.heap.size ≤ r) (hR : IRow w r .u8 N f) (hq : q + m ≤ N) (hm : 128 < m) (hN : N ≤ 1000000) (hk : k ≤ 16) :
    Calls Tryz.prog 199 #[.slice (some ⟨r, q, none⟩) m m, .slice a k C] w (LayRefsPost w r N q m k f h) := by
  have HA := hidIt hA
  have HB0 := hidIt hB0
  have RW := hidIt hR.2.2
  have ST : Hid (lrsRel w r N q k f h (.slice (some ⟨r, q, none⟩) 128 128) (.int .i64 0) w) := ⟨0, q, by omega, rfl, rfl, fun _ => rfl, by rw [over_none]; exact hR, But.refl _ _⟩
  clear hA hB0 hR
  have m1 : (128 : Int) ≤ (m : Int) := by omega
  have m2 : ¬ m = 128 := by omega
  go_enter Tryz.func199, Tryz.ntmps199
  go_wp2_with fail
  go_loopw [5, 12] (fun v i wr => lrsRel w r N q k f h v i wr) (fun _ i _ => k - (RowKit.intOf i).toNat)
  case atStart => exact ST.out
  case round =>
    obtain ⟨n, q', hn, rfl, rfl, hq', hR, hB⟩ := hrel
    clear ST
    have RR := hidIt hR
    have BE := hidIt hB
    clear hR hB
    by_cases hlt : n < k
    · obtain rfl := hq' (by omega)
      clear hq'
      have i0 : (n : Int) < (k : Int) := by omega
      have E0 : Hid (Below w0.heap.size w0 wr) := HB0.out.trans (BE.out.below hr HB0.out.size)
      rcases HA.out.below E0.out with e | ⟨g, o, rfl, hc, hb⟩
      · omega
      have r2 := hidIt (HArg.two hc hlt)
      clear hc hb
      have NX : Hid (∀ q' W2, (8 < 128 - 8 * n → q' = q + 8 * n + 8) → IRow W2 r .u8 N (over (over (over f q (8 * n) (refG h)) (q + 8 * n) 4 (byt (h (2 * n)))) (q + 8 * n + 4) 4 (byt (h (2 * n + 1)))) → But r w W2 → lrsRel w r N q k f h (.slice (some ⟨r, q', none⟩) (128 - 8 * n - 8) (128 - 8 * n - 8)) (.int .i64 ((n : Int) + 1)) W2) := fun q' W2 h1 h2 h3 => ⟨n + 1, q', by omega, by go_num, by rw [show 128 - 8 * n - 8 = 128 - 8 * (n + 1) by omega], fun h => by rw [h1 (by omega)]; omega, by rw [← refG_step]; exact h2, h3⟩
      obtain ⟨m8, hm8⟩ : ∃ m8, 128 - 8 * n = m8 := ⟨_, rfl⟩
      rw [hm8] at NX ⊢
      go_wp2_with (first
        | (refine wpList_load_mid (P := Tryz.prog) rfl 57 (.tmp 14) rfl g (o + n * 2) (by first | rfl | simp) _ _ r2.out Tryz.underlying57 rfl (by kernel_rfl) ?_)
        | (refine wpList_alloc_rec rfl 57 rfl (twoC 0 0) wr.heap.size rfl zero_ref ?_; intro W1 R1 hB1 z1)
        | (refine wpList_store_rec rfl 57 (.tmp 7) (.tmp 15) rfl wr.heap.size 0 (twoC 0 0) (twoC (h (2 * n)) (h (2 * n + 1))) rfl rfl R1 rfl (by kernel_rfl) (twoC_one _ _) ?_; intro W2 R2 hB2; have R2' := hidIt R2; have BX : Below wr.heap.size wr W2 := hB1.trans (hB2.below (Nat.le_refl _) hB1.size); have RX := hidIt (RR.out.below BX); have B2 : Hid (But r w W2) := BE.out.trans (But.of BX); clear R1 hB1 z1 R2 hB2 BX)
        | (refine wpList_load_rec rfl 57 (.tmp 7) rfl wr.heap.size 0 (twoC (h (2 * n)) (h (2 * n + 1))) rfl _ Tryz.underlying57 rfl (by kernel_rfl) R2'.out ?_)
        | (go_at_call 198; refine (layref_any _ r N (q + 8 * n) m8 _ _ _ RX.out (by omega) (by omega) hN).mono ?_; rintro e w5 ⟨q5, rfl, hq5, h5, b5⟩; have P5 := hidIt (NX.out q5 _ hq5 h5 (B2.out.trans b5)); clear hq5 h5 b5))
      go_roundw
      case rel => exact P5.out
      case measure => simp [RowKit.intOf]; omega
    · obtain rfl : n = k := by omega
      have PP : Hid (LayRefsPost w r N q m n f h (.returned (.slice (some ⟨r, q + 128, none⟩) (m - 128) (m - 128))) wr) := ⟨rfl, RR.out, BE.out⟩
      clear hq'
      go_wp2_with fail
      go_ret
      exact PP.out
end Go.Proofs.YtblphlcnbnklmaaGreatDoor
