/-
  Walks, not a claim by itself: the reference's Seal and Open. By the verifier.
-/
import Derived.Test.YtmlllglgjpmicaaHSum
import Derived.Test.YtmlllglgjpmicaaCOpn
import Derived.Test.YtmlllglgjpmicaaBApart
import Derived.Test.YtmlllglgjpmicaaReg
namespace Go.Proofs.Ytmlllglgjpmicaa
open Go.RowKit
theorem cat_seal (n : Nat) (f : Nat → Int) : cat (sealF n f) 16 f = sealedF n f := rfl
theorem own0 (w : World) (base : Nat) (h : base ≤ w.heap.size) : Own (w.alloc (.cells #[] 5)) base (.slice (some ⟨w.heap.size, 0, none⟩) 0 0) 0 (fun _ => 0) := Own.lit w base 0 (fun _ => 0) h (by omega)
theorem sealedF_byte (n : Nat) (f : Nat → Int) (h : ∀ j, j < n → 0 ≤ f j ∧ f j < 256) (j : Nat) (hj : j < 16 + n) : 0 ≤ sealedF n f j ∧ sealedF n f j < 256 := by
  unfold sealedF
  by_cases e : j < 16
  · rw [if_pos e]; exact sealF_byte n f j
  · rw [if_neg e]; exact h _ (by omega)
theorem hseal_pre (a : Option Addr) (n C : Nat) (f : Nat → Int) (w w1 : World) (hA0 : Arg w a n f) (hn : n ≤ 900000) (hB1 : Below w.heap.size w w1) : Hid (∀ W2 : World, IRow W2 w1.heap.size .u8 16 (sealF n f) → Below w1.heap.size w1 W2 → W2.heap.size = w1.heap.size + 1 → ∃ (v3 : Value) (W3 : World) (v4 : Value) (W4 : World), (Builtin.append_ #[25, 25] 25 #[.slice (some ⟨w1.heap.size + 1, 0, none⟩) 0 0, .slice (some ⟨w1.heap.size, 0, none⟩) 16 16]).run Try.prog (W2.alloc (.cells #[] 5)) = .ok v3 W3 ∧ (Builtin.append_ #[25, 25] 25 #[v3, .slice a n C]).run Try.prog W3 = .ok v4 W4 ∧ Hid (∃ a' cap, v4 = .slice a' (16 + n) cap ∧ Arg W4 a' (16 + n) (sealedF n f) ∧ Below w.heap.size w W4)) := by
  intro W2 hR2 K2 hz
  have E2 : Below w.heap.size w W2 := hB1.trans (K2.mono hB1.size)
  obtain ⟨v3, W3, hr3, hO3, hB4⟩ := app_arg 25 (W2.alloc (.cells #[] 5)) W2.heap.size 0 16 16 _ (some ⟨w1.heap.size, 0, none⟩) (fun _ => 0) (sealF n f) (own0 W2 _ (Nat.le_refl _)) (Arg.of ((hR2.alloc _).lies (fun j _ => sealF_byte n f j))) (by omega) (by simp)
  have hO3' : Own W3 W2.heap.size v3 16 (sealF n f) := hO3.congr (fun j hj => by unfold cat; rw [if_neg (by omega), Nat.sub_zero])
  have K3 : Below W2.heap.size W2 W3 := ((Below.refl W2.heap.size W2).alloc (Nat.le_refl _) _).trans hB4
  have E3 : Below w.heap.size w W3 := E2.trans (K3.mono E2.size)
  obtain ⟨v4, W4, hr4, hO4, hB5⟩ := app_arg 25 W3 W2.heap.size 16 n C v3 a (sealF n f) f hO3' (hA0.below E3) (by omega) K3.size
  obtain ⟨a', cap, rfl, hA, _⟩ := hO4.slice (fun j hj => by rw [cat_seal]; exact sealedF_byte n f hA0.bytes j hj)
  rw [cat_seal] at hA
  rw [hz] at hr3
  exact ⟨v3, W3, _, W4, hr3, hr4, a', cap, rfl, hA, E3.trans (hB5.mono E2.size)⟩
set_option maxRecDepth 100000 in
set_option maxHeartbeats 1000000 in
theorem hseal_any (a : Option Addr) (n C : Nat) (f : Nat → Int) (w : World) (h : Arg w a n f) (hn : n ≤ 900000) :
    Calls Try.prog 28 #[.slice a n C] w fun e w' => ∃ a' cap, e = .returned (.slice a' (16 + n) cap) ∧ Arg w' a' (16 + n) (sealedF n f) ∧ Below w.heap.size w w' := by
  have HA : Hid (Arg w a n f) := h
  clear h
  go_enter Try.func28, Try.ntmps28
  go_wp2_with (first
    | (go_at_call 40; refine (hsum_any a n C f _ HA.out hn).mono ?_; rintro e w1 ⟨rfl, hB1⟩; have PR := hseal_pre a n C f w w1 HA.out hn hB1)
    | (refine wpList_alloc_row rfl 50 rfl .u8 16 w1.heap.size rfl zero8_16 ?_; intro W1 hR1 hB2 hz1)
    | (refine wpList_store_row rfl 50 (.tmp 3) _ rfl w1.heap.size .u8 16 (sealF n f) (fun _ => 0) rfl rfl hR1 (by kernel_rfl) ?_; intro W2 hR2 hB3 hz2; have hz3 := hz2.trans hz1; obtain ⟨v3, W3, v4, W4, hr3, hr4, HF⟩ := PR.out W2 hR2 (hB2.trans (hB3.below (Nat.le_refl _) (by omega))) hz3)
    | (at_builtin; refine wpList_append_go rfl (.tmp 6) (.tmp 7) 25 25 rfl _ _ rfl rfl hr3 ?_)
    | (at_builtin; refine wpList_append_go rfl (.tmp 8) (.tmp 9) 25 25 rfl _ _ rfl rfl hr4 ?_))
  obtain ⟨a', cap, rfl, hA, hE⟩ := HF.out
  exact bodyPost_ret (by simp [results, Try.results28, go_sem]) rfl ⟨a', cap, rfl, hA, hE⟩
set_option maxHeartbeats 1000000 in
theorem hopen_few (a : Option Addr) (n C : Nat) (w : World) (h : n < 16) :
    Calls Try.prog 34 #[.slice a n C] w fun e w' => e = .returned (.tuple #[.slice none 0 0, .int .i64 4]) ∧ w' = w := by
  have e1 : (n : Int) < 16 := by omega
  go_enter Try.func34, Try.ntmps34
  go_wp2
  go_ret2
  exact ⟨rfl, rfl⟩
theorem txt_ne {f : Nat → Int} (hf : ∀ j, j < 16 → 0 ≤ f j ∧ f j < 256) {n : Nat} {g : Nat → Int} (ho : eqN 16 (sealF n g) f = false) : decide (txtN 16 (sealF n g) = txtN 16 f) = false := by
  refine decide_eq_false (fun e => ?_)
  have := (eqN_iff _ _ _).2 (txtN_inj (fun j _ => sealF_byte _ _ j) hf e).2
  rw [ho] at this
  cases this
theorem lies16 {w : World} {b off n : Nat} {f : Nat → Int} (h : Lies w b off n f) (hn : 16 ≤ n := by omega) : Lies w b off 16 f := ⟨fun j hj => h.1 j (by omega), fun j hj => h.2.1 j (by omega), h.2.2⟩
set_option maxRecDepth 100000 in
set_option maxHeartbeats 1000000 in
theorem hopen_ok16 (b off : Nat) (f : Nat → Int) (w : World) (h : Lies w b off 16 f) (ho : eqN 16 (sealF 0 (fun j => f (16 + j))) f = true) :
    Calls Try.prog 34 #[.slice (some ⟨b, off, none⟩) 16 16] w fun e w' => ∃ a' cap, e = .returned (.tuple #[.slice a' 0 cap, .int .i64 0]) ∧ Arg w' a' 0 (fun j => f (16 + j)) ∧ Below w.heap.size w w' := by
  have LL : Hid (Lies w b off 16 f) := h
  have HA : Hid (Arg w (some ⟨b, off, none⟩) 0 (fun j => f (16 + j))) := .inl ⟨rfl, .inr ⟨_, rfl⟩⟩
  have htx : ((txtN 16 (sealF 0 (fun j => f (16 + j)))).toList == (txtN 16 f).toList) = true := by rw [bytes_beq]; exact decide_eq_true (txtN_congr 16 _ _ ((eqN_iff _ _ _).1 ho))
  clear h ho
  go_enter Try.func34, Try.ntmps34
  go_wp2_with (first
    | (go_at_call 40; refine (hsum_any (some ⟨b, off, none⟩) 0 0 (fun j => f (16 + j)) _ HA.out (by omega)).mono ?_; rintro e w1 ⟨rfl, hB1⟩)
    | (refine wpList_alloc_row rfl 50 rfl .u8 16 w1.heap.size rfl zero8_16 ?_; intro W1 hR1 hB2 hz1)
    | (refine wpList_store_row rfl 50 (.tmp 4) _ rfl w1.heap.size .u8 16 (sealF 0 (fun j => f (16 + j))) (fun _ => 0) rfl rfl hR1 (by kernel_rfl) ?_; intro W2 hR2 hB3 hz2))
  have K2 : Below w1.heap.size w1 W2 := hB2.trans (hB3.below (Nat.le_refl _) (by omega))
  have E2 : Hid (Below w.heap.size w W2) := hB1.trans (K2.mono hB1.size)
  obtain ⟨S, hS⟩ : ∃ S, sealF 0 (fun j => f (16 + j)) = S := ⟨_, rfl⟩
  have SB : ∀ j, j < 16 → 0 ≤ S j ∧ S j < 256 := fun j _ => by rw [← hS]; exact sealF_byte _ _ j
  rw [hS] at hR2 htx ⊢
  have hh' : (convert 25 9 (.slice (some ⟨w1.heap.size, 0, none⟩) 16 16)).run Try.prog W2.drew = .ok (.string (txtN 16 S)) W2.drew ∧ (convert 25 9 (.slice (some ⟨b, off, none⟩) 16 16)).run Try.prog W2.drew = .ok (.string (txtN 16 f)) W2.drew :=
    ⟨conv_arg _ _ 16 16 S (Arg.of (hR2.drew.lies SB)), conv_arg _ _ 16 16 f (Arg.of (lies16 ((LL.out.below E2.out).below (Below.refl _ _).drew)))⟩
  clear hR1 hB2 hz1 hR2 hB3 hz2 K2 hB1 SB hS
  go_wp2_with fail
  refine wp_region_noPanic ?_
  refine wp_region_held_drew (S := fun W' => (convert 25 9 (.slice (some ⟨w1.heap.size, 0, none⟩) 16 16)).run Try.prog W' = .ok (.string (txtN 16 S)) W' ∧ (convert 25 9 (.slice (some ⟨b, off, none⟩) 16 16)).run Try.prog W' = .ok (.string (txtN 16 f)) W') (by kernel_rfl) ?_ (fun hHeld => ?_)
  · exact hh'
  refine take_at (i := 0) (v := ?_) (some 11) rfl rfl (by kernel_rfl) (by kernel_rfl) (by kernel_rfl) (fun _ _ _ h => h) (Or.inl ⟨by rfl, ?_⟩) (by assumption) ?_
  rotate_left
  · (intro w hSw; (try dsimp only at hSw); go_simp; try with_reducible rfl)
  simp only [Act.put, List.setIfInBounds_toArray, List.set_cons_zero, List.set_cons_succ]
  refine take_at (i := 1) (v := ?_) (some 12) rfl rfl (by kernel_rfl) (by kernel_rfl) (by kernel_rfl) (fun _ _ _ h => h) (Or.inl ⟨by rfl, ?_⟩) (by assumption) ?_
  rotate_left
  · (intro w hSw; (try dsimp only at hSw); go_simp; try with_reducible rfl)
  simp only [Act.put, List.setIfInBounds_toArray, List.set_cons_zero, List.set_cons_succ]
  refine take_at (i := 2) (v := ?_) (some 13) rfl rfl (by kernel_rfl) (by kernel_rfl) (by kernel_rfl) (fun _ _ _ h => h) (Or.inl ⟨by rfl, ?_⟩) (by assumption) ?_
  rotate_left
  · (intro w hSw; (try dsimp only at hSw); go_simp; try with_reducible rfl)
  simp only [Act.put, List.setIfInBounds_toArray, List.set_cons_zero, List.set_cons_succ]
  refine take_at (i := 3) (v := ?_) (some 14) rfl rfl (by kernel_rfl) (by kernel_rfl) (by kernel_rfl) (fun _ _ _ h => h) (Or.inl ⟨by rfl, ?_⟩) (by assumption) ?_
  rotate_left
  · (intro w hSw; (try dsimp only at hSw); go_simp; try with_reducible rfl)
  simp only [Act.put, List.setIfInBounds_toArray, List.set_cons_zero, List.set_cons_succ]
  refine take_at (i := 4) (v := ?_) (some 15) rfl rfl (by kernel_rfl) (by kernel_rfl) (by kernel_rfl) (fun _ _ _ h => h) (Or.inl ⟨by rfl, ?_⟩) (by assumption) ?_
  rotate_left
  · (intro w hSw; (try dsimp only at hSw); go_simp; try with_reducible rfl)
  simp only [Act.put, List.setIfInBounds_toArray, List.set_cons_zero, List.set_cons_succ]
  refine take_at (i := 5) (v := ?_) (some 16) rfl rfl (by kernel_rfl) (by kernel_rfl) (by kernel_rfl) (fun _ _ _ h => h) (Or.inl ⟨by rfl, ?_⟩) (by assumption) ?_
  rotate_left
  · (intro w hSw; (try dsimp only at hSw); go_simp; try with_reducible rfl)
  simp only [Act.put, List.setIfInBounds_toArray, List.set_cons_zero, List.set_cons_succ]
  refine wpAnyH_done (by kernel_rfl) ?_ _
  refine NoPanic.normal ?_
  clear hHeld hh'
  have E3 : Hid (Below w.heap.size w W2.drew) := E2.out.drew
  generalize W2.drew = W3 at E3 ⊢
  obtain ⟨v4, W4, hr4, hO4, hB5⟩ := app_arg 25 (W3.alloc (.cells #[] 5)) W3.heap.size 0 0 0 _ (some ⟨b, off, none⟩) (fun _ => 0) (fun j => f (16 + j)) (own0 W3 _ (Nat.le_refl _)) ((HA.out.below E3.out).below ((Below.refl _ _).alloc (Nat.le_refl _) _)) (by omega) (by simp)
  have RR : Hid (∃ a' cap, v4 = .slice a' 0 cap ∧ Arg W4 a' 0 (fun j => f (16 + j))) := by
    rw [Nat.zero_add] at hO4
    obtain ⟨a', cap, rfl, hA, _⟩ := (hO4.congr (G := fun j => f (16 + j)) (fun j _ => by unfold cat; rw [if_neg (by omega), Nat.sub_zero])).slice HA.out.bytes
    exact ⟨a', cap, rfl, hA⟩
  have E5 : Hid (Below w.heap.size w W4) := E3.out.trans ((((Below.refl W3.heap.size W3).alloc (Nat.le_refl _) _).trans hB5).mono E3.out.size)
  clear hO4 hB5
  go_wp2_with (at_builtin; refine wpList_append_go rfl (.tmp 17) (.tmp 19) 25 25 rfl _ _ rfl rfl hr4 ?_)
  obtain ⟨a', cap, rfl, hA⟩ := RR.out
  go_ret2
  exact ⟨a', cap, rfl, hA, E5.out⟩
set_option maxRecDepth 100000 in
set_option maxHeartbeats 1000000 in
theorem hopen_no16 (b off : Nat) (f : Nat → Int) (w : World) (h : Lies w b off 16 f) (ho : eqN 16 (sealF 0 (fun j => f (16 + j))) f = false) :
    Calls Try.prog 34 #[.slice (some ⟨b, off, none⟩) 16 16] w fun e w' => e = .returned (.tuple #[.slice none 0 0, .int .i64 12]) ∧ Below w.heap.size w w' := by
  have LL : Hid (Lies w b off 16 f) := h
  have HA : Hid (Arg w (some ⟨b, off, none⟩) 0 (fun j => f (16 + j))) := .inl ⟨rfl, .inr ⟨_, rfl⟩⟩
  have htx : ((txtN 16 (sealF 0 (fun j => f (16 + j)))).toList == (txtN 16 f).toList) = false := by rw [bytes_beq]; exact txt_ne (fun j hj => h.2.1 j (by omega)) ho
  clear h ho
  go_enter Try.func34, Try.ntmps34
  go_wp2_with (first
    | (go_at_call 40; refine (hsum_any (some ⟨b, off, none⟩) 0 0 (fun j => f (16 + j)) _ HA.out (by omega)).mono ?_; rintro e w1 ⟨rfl, hB1⟩)
    | (refine wpList_alloc_row rfl 50 rfl .u8 16 w1.heap.size rfl zero8_16 ?_; intro W1 hR1 hB2 hz1)
    | (refine wpList_store_row rfl 50 (.tmp 4) _ rfl w1.heap.size .u8 16 (sealF 0 (fun j => f (16 + j))) (fun _ => 0) rfl rfl hR1 (by kernel_rfl) ?_; intro W2 hR2 hB3 hz2))
  have K2 : Below w1.heap.size w1 W2 := hB2.trans (hB3.below (Nat.le_refl _) (by omega))
  have E2 : Hid (Below w.heap.size w W2) := hB1.trans (K2.mono hB1.size)
  obtain ⟨S, hS⟩ : ∃ S, sealF 0 (fun j => f (16 + j)) = S := ⟨_, rfl⟩
  have SB : ∀ j, j < 16 → 0 ≤ S j ∧ S j < 256 := fun j _ => by rw [← hS]; exact sealF_byte _ _ j
  rw [hS] at hR2 htx ⊢
  have hh' : (convert 25 9 (.slice (some ⟨w1.heap.size, 0, none⟩) 16 16)).run Try.prog W2.drew = .ok (.string (txtN 16 S)) W2.drew ∧ (convert 25 9 (.slice (some ⟨b, off, none⟩) 16 16)).run Try.prog W2.drew = .ok (.string (txtN 16 f)) W2.drew :=
    ⟨conv_arg _ _ 16 16 S (Arg.of (hR2.drew.lies SB)), conv_arg _ _ 16 16 f (Arg.of (lies16 ((LL.out.below E2.out).below (Below.refl _ _).drew)))⟩
  clear hR1 hB2 hz1 hR2 hB3 hz2 K2 hB1 SB hS
  go_wp2_with fail
  refine wp_region_noPanic ?_
  refine wp_region_held_drew (S := fun W' => (convert 25 9 (.slice (some ⟨w1.heap.size, 0, none⟩) 16 16)).run Try.prog W' = .ok (.string (txtN 16 S)) W' ∧ (convert 25 9 (.slice (some ⟨b, off, none⟩) 16 16)).run Try.prog W' = .ok (.string (txtN 16 f)) W') (by kernel_rfl) ?_ (fun hHeld => ?_)
  · exact hh'
  refine take_at (i := 0) (v := ?_) (some 11) rfl rfl (by kernel_rfl) (by kernel_rfl) (by kernel_rfl) (fun _ _ _ h => h) (Or.inl ⟨by rfl, ?_⟩) (by assumption) ?_
  rotate_left
  · (intro w hSw; (try dsimp only at hSw); go_simp; try with_reducible rfl)
  simp only [Act.put, List.setIfInBounds_toArray, List.set_cons_zero, List.set_cons_succ]
  refine take_at (i := 1) (v := ?_) (some 12) rfl rfl (by kernel_rfl) (by kernel_rfl) (by kernel_rfl) (fun _ _ _ h => h) (Or.inl ⟨by rfl, ?_⟩) (by assumption) ?_
  rotate_left
  · (intro w hSw; (try dsimp only at hSw); go_simp; try with_reducible rfl)
  simp only [Act.put, List.setIfInBounds_toArray, List.set_cons_zero, List.set_cons_succ]
  refine take_at (i := 2) (v := ?_) (some 13) rfl rfl (by kernel_rfl) (by kernel_rfl) (by kernel_rfl) (fun _ _ _ h => h) (Or.inl ⟨by rfl, ?_⟩) (by assumption) ?_
  rotate_left
  · (intro w hSw; (try dsimp only at hSw); go_simp; try with_reducible rfl)
  simp only [Act.put, List.setIfInBounds_toArray, List.set_cons_zero, List.set_cons_succ]
  refine take_at (i := 3) (v := ?_) (some 14) rfl rfl (by kernel_rfl) (by kernel_rfl) (by kernel_rfl) (fun _ _ _ h => h) (Or.inl ⟨by rfl, ?_⟩) (by assumption) ?_
  rotate_left
  · (intro w hSw; (try dsimp only at hSw); go_simp; try with_reducible rfl)
  simp only [Act.put, List.setIfInBounds_toArray, List.set_cons_zero, List.set_cons_succ]
  refine take_at (i := 4) (v := ?_) (some 15) rfl rfl (by kernel_rfl) (by kernel_rfl) (by kernel_rfl) (fun _ _ _ h => h) (Or.inl ⟨by rfl, ?_⟩) (by assumption) ?_
  rotate_left
  · (intro w hSw; (try dsimp only at hSw); go_simp; try with_reducible rfl)
  simp only [Act.put, List.setIfInBounds_toArray, List.set_cons_zero, List.set_cons_succ]
  refine take_at (i := 5) (v := ?_) (some 16) rfl rfl (by kernel_rfl) (by kernel_rfl) (by kernel_rfl) (fun _ _ _ h => h) (Or.inl ⟨by rfl, ?_⟩) (by assumption) ?_
  rotate_left
  · (intro w hSw; (try dsimp only at hSw); go_simp; try with_reducible rfl)
  simp only [Act.put, List.setIfInBounds_toArray, List.set_cons_zero, List.set_cons_succ]
  refine wpAnyH_done (by kernel_rfl) ?_ _
  refine NoPanic.normal ?_
  go_wp2_with fail
  go_ret2
  exact ⟨rfl, E2.out.drew⟩
set_option maxRecDepth 100000 in
set_option maxHeartbeats 1000000 in
theorem hopen_okm (b off n C : Nat) (f : Nat → Int) (w : World) (h : Lies w b off n f) (hn : 16 ≤ n) (h16 : 16 < C) (hm : n ≤ 900000) (ho : eqN 16 (sealF (n - 16) (fun j => f (16 + j))) f = true) :
    Calls Try.prog 34 #[.slice (some ⟨b, off, none⟩) n C] w fun e w' => ∃ a' cap, e = .returned (.tuple #[.slice a' (n - 16) cap, .int .i64 0]) ∧ Arg w' a' (n - 16) (fun j => f (16 + j)) ∧ Below w.heap.size w w' := by
  have LL : Hid (Lies w b off n f) := h
  have HA : Hid (Arg w (some ⟨b, off + 16, none⟩) (n - 16) (fun j => f (16 + j))) := Arg.part h 16 (n - 16) (by omega)
  have htx : ((txtN 16 (sealF (n - 16) (fun j => f (16 + j)))).toList == (txtN 16 f).toList) = true := by rw [bytes_beq]; exact decide_eq_true (txtN_congr 16 _ _ ((eqN_iff _ _ _).1 ho))
  clear h ho
  have e1 : ¬ (n : Int) < 16 := by omega
  have e2 : (16 : Int) ≤ n := by omega
  have e3 : (16 : Int) ≤ C := by omega
  have e4 : ¬ C = 16 := by omega
  go_enter Try.func34, Try.ntmps34
  go_wp2_with (first
    | (go_at_call 40; refine (hsum_any (some ⟨b, off + 16, none⟩) (n - 16) (C - 16) (fun j => f (16 + j)) _ HA.out (by omega)).mono ?_; rintro e w1 ⟨rfl, hB1⟩)
    | (refine wpList_alloc_row rfl 50 rfl .u8 16 w1.heap.size rfl zero8_16 ?_; intro W1 hR1 hB2 hz1)
    | (refine wpList_store_row rfl 50 (.tmp 4) _ rfl w1.heap.size .u8 16 (sealF (n - 16) (fun j => f (16 + j))) (fun _ => 0) rfl rfl hR1 (by kernel_rfl) ?_; intro W2 hR2 hB3 hz2))
  have K2 : Below w1.heap.size w1 W2 := hB2.trans (hB3.below (Nat.le_refl _) (by omega))
  have E2 : Hid (Below w.heap.size w W2) := hB1.trans (K2.mono hB1.size)
  obtain ⟨S, hS⟩ : ∃ S, sealF (n - 16) (fun j => f (16 + j)) = S := ⟨_, rfl⟩
  have SB : ∀ j, j < 16 → 0 ≤ S j ∧ S j < 256 := fun j _ => by rw [← hS]; exact sealF_byte _ _ j
  rw [hS] at hR2 htx ⊢
  have hh' : (convert 25 9 (.slice (some ⟨w1.heap.size, 0, none⟩) 16 16)).run Try.prog W2.drew = .ok (.string (txtN 16 S)) W2.drew ∧ (convert 25 9 (.slice (some ⟨b, off, none⟩) 16 C)).run Try.prog W2.drew = .ok (.string (txtN 16 f)) W2.drew :=
    ⟨conv_arg _ _ 16 16 S (Arg.of (hR2.drew.lies SB)), conv_arg _ _ 16 C f (Arg.of (lies16 ((LL.out.below E2.out).below (Below.refl _ _).drew) hn))⟩
  clear hR1 hB2 hz1 hR2 hB3 hz2 K2 hB1 SB hS
  go_wp2_with fail
  refine wp_region_noPanic ?_
  refine wp_region_held_drew (S := fun W' => (convert 25 9 (.slice (some ⟨w1.heap.size, 0, none⟩) 16 16)).run Try.prog W' = .ok (.string (txtN 16 S)) W' ∧ (convert 25 9 (.slice (some ⟨b, off, none⟩) 16 C)).run Try.prog W' = .ok (.string (txtN 16 f)) W') (by kernel_rfl) ?_ (fun hHeld => ?_)
  · exact hh'
  refine take_at (i := 0) (v := ?_) (some 11) rfl rfl (by kernel_rfl) (by kernel_rfl) (by kernel_rfl) (fun _ _ _ h => h) (Or.inl ⟨by rfl, ?_⟩) (by assumption) ?_
  rotate_left
  · (intro w hSw; (try dsimp only at hSw); go_simp; try with_reducible rfl)
  simp only [Act.put, List.setIfInBounds_toArray, List.set_cons_zero, List.set_cons_succ]
  refine take_at (i := 1) (v := ?_) (some 12) rfl rfl (by kernel_rfl) (by kernel_rfl) (by kernel_rfl) (fun _ _ _ h => h) (Or.inl ⟨by rfl, ?_⟩) (by assumption) ?_
  rotate_left
  · (intro w hSw; (try dsimp only at hSw); go_simp; try with_reducible rfl)
  simp only [Act.put, List.setIfInBounds_toArray, List.set_cons_zero, List.set_cons_succ]
  refine take_at (i := 2) (v := ?_) (some 13) rfl rfl (by kernel_rfl) (by kernel_rfl) (by kernel_rfl) (fun _ _ _ h => h) (Or.inl ⟨by rfl, ?_⟩) (by assumption) ?_
  rotate_left
  · (intro w hSw; (try dsimp only at hSw); go_simp; try with_reducible rfl)
  simp only [Act.put, List.setIfInBounds_toArray, List.set_cons_zero, List.set_cons_succ]
  refine take_at (i := 3) (v := ?_) (some 14) rfl rfl (by kernel_rfl) (by kernel_rfl) (by kernel_rfl) (fun _ _ _ h => h) (Or.inl ⟨by rfl, ?_⟩) (by assumption) ?_
  rotate_left
  · (intro w hSw; (try dsimp only at hSw); go_simp; try with_reducible rfl)
  simp only [Act.put, List.setIfInBounds_toArray, List.set_cons_zero, List.set_cons_succ]
  refine take_at (i := 4) (v := ?_) (some 15) rfl rfl (by kernel_rfl) (by kernel_rfl) (by kernel_rfl) (fun _ _ _ h => h) (Or.inl ⟨by rfl, ?_⟩) (by assumption) ?_
  rotate_left
  · (intro w hSw; (try dsimp only at hSw); go_simp; try with_reducible rfl)
  simp only [Act.put, List.setIfInBounds_toArray, List.set_cons_zero, List.set_cons_succ]
  refine take_at (i := 5) (v := ?_) (some 16) rfl rfl (by kernel_rfl) (by kernel_rfl) (by kernel_rfl) (fun _ _ _ h => h) (Or.inl ⟨by rfl, ?_⟩) (by assumption) ?_
  rotate_left
  · (intro w hSw; (try dsimp only at hSw); go_simp; try with_reducible rfl)
  simp only [Act.put, List.setIfInBounds_toArray, List.set_cons_zero, List.set_cons_succ]
  refine wpAnyH_done (by kernel_rfl) ?_ _
  refine NoPanic.normal ?_
  clear hHeld hh'
  have E3 : Hid (Below w.heap.size w W2.drew) := E2.out.drew
  generalize W2.drew = W3 at E3 ⊢
  obtain ⟨v4, W4, hr4, hO4, hB5⟩ := app_arg 25 (W3.alloc (.cells #[] 5)) W3.heap.size 0 (n - 16) (C - 16) _ (some ⟨b, off + 16, none⟩) (fun _ => 0) (fun j => f (16 + j)) (own0 W3 _ (Nat.le_refl _)) ((HA.out.below E3.out).below ((Below.refl _ _).alloc (Nat.le_refl _) _)) (by omega) (by simp)
  have RR : Hid (∃ a' cap, v4 = .slice a' (n - 16) cap ∧ Arg W4 a' (n - 16) (fun j => f (16 + j))) := by
    rw [Nat.zero_add] at hO4
    obtain ⟨a', cap, rfl, hA, _⟩ := (hO4.congr (G := fun j => f (16 + j)) (fun j _ => by unfold cat; rw [if_neg (by omega), Nat.sub_zero])).slice HA.out.bytes
    exact ⟨a', cap, rfl, hA⟩
  have E5 : Hid (Below w.heap.size w W4) := E3.out.trans ((((Below.refl W3.heap.size W3).alloc (Nat.le_refl _) _).trans hB5).mono E3.out.size)
  clear hO4 hB5
  go_wp2_with (at_builtin; refine wpList_append_go rfl (.tmp 17) (.tmp 19) 25 25 rfl _ _ rfl rfl hr4 ?_)
  obtain ⟨a', cap, rfl, hA⟩ := RR.out
  go_ret2
  exact ⟨a', cap, rfl, hA, E5.out⟩
set_option maxRecDepth 100000 in
set_option maxHeartbeats 1000000 in
theorem hopen_nom (b off n C : Nat) (f : Nat → Int) (w : World) (h : Lies w b off n f) (hn : 16 ≤ n) (h16 : 16 < C) (hm : n ≤ 900000) (ho : eqN 16 (sealF (n - 16) (fun j => f (16 + j))) f = false) :
    Calls Try.prog 34 #[.slice (some ⟨b, off, none⟩) n C] w fun e w' => e = .returned (.tuple #[.slice none 0 0, .int .i64 12]) ∧ Below w.heap.size w w' := by
  have LL : Hid (Lies w b off n f) := h
  have HA : Hid (Arg w (some ⟨b, off + 16, none⟩) (n - 16) (fun j => f (16 + j))) := Arg.part h 16 (n - 16) (by omega)
  have htx : ((txtN 16 (sealF (n - 16) (fun j => f (16 + j)))).toList == (txtN 16 f).toList) = false := by rw [bytes_beq]; exact txt_ne (fun j hj => h.2.1 j (by omega)) ho
  clear h ho
  have e1 : ¬ (n : Int) < 16 := by omega
  have e2 : (16 : Int) ≤ n := by omega
  have e3 : (16 : Int) ≤ C := by omega
  have e4 : ¬ C = 16 := by omega
  go_enter Try.func34, Try.ntmps34
  go_wp2_with (first
    | (go_at_call 40; refine (hsum_any (some ⟨b, off + 16, none⟩) (n - 16) (C - 16) (fun j => f (16 + j)) _ HA.out (by omega)).mono ?_; rintro e w1 ⟨rfl, hB1⟩)
    | (refine wpList_alloc_row rfl 50 rfl .u8 16 w1.heap.size rfl zero8_16 ?_; intro W1 hR1 hB2 hz1)
    | (refine wpList_store_row rfl 50 (.tmp 4) _ rfl w1.heap.size .u8 16 (sealF (n - 16) (fun j => f (16 + j))) (fun _ => 0) rfl rfl hR1 (by kernel_rfl) ?_; intro W2 hR2 hB3 hz2))
  have K2 : Below w1.heap.size w1 W2 := hB2.trans (hB3.below (Nat.le_refl _) (by omega))
  have E2 : Hid (Below w.heap.size w W2) := hB1.trans (K2.mono hB1.size)
  obtain ⟨S, hS⟩ : ∃ S, sealF (n - 16) (fun j => f (16 + j)) = S := ⟨_, rfl⟩
  have SB : ∀ j, j < 16 → 0 ≤ S j ∧ S j < 256 := fun j _ => by rw [← hS]; exact sealF_byte _ _ j
  rw [hS] at hR2 htx ⊢
  have hh' : (convert 25 9 (.slice (some ⟨w1.heap.size, 0, none⟩) 16 16)).run Try.prog W2.drew = .ok (.string (txtN 16 S)) W2.drew ∧ (convert 25 9 (.slice (some ⟨b, off, none⟩) 16 C)).run Try.prog W2.drew = .ok (.string (txtN 16 f)) W2.drew :=
    ⟨conv_arg _ _ 16 16 S (Arg.of (hR2.drew.lies SB)), conv_arg _ _ 16 C f (Arg.of (lies16 ((LL.out.below E2.out).below (Below.refl _ _).drew) hn))⟩
  clear hR1 hB2 hz1 hR2 hB3 hz2 K2 hB1 SB hS
  go_wp2_with fail
  refine wp_region_noPanic ?_
  refine wp_region_held_drew (S := fun W' => (convert 25 9 (.slice (some ⟨w1.heap.size, 0, none⟩) 16 16)).run Try.prog W' = .ok (.string (txtN 16 S)) W' ∧ (convert 25 9 (.slice (some ⟨b, off, none⟩) 16 C)).run Try.prog W' = .ok (.string (txtN 16 f)) W') (by kernel_rfl) ?_ (fun hHeld => ?_)
  · exact hh'
  refine take_at (i := 0) (v := ?_) (some 11) rfl rfl (by kernel_rfl) (by kernel_rfl) (by kernel_rfl) (fun _ _ _ h => h) (Or.inl ⟨by rfl, ?_⟩) (by assumption) ?_
  rotate_left
  · (intro w hSw; (try dsimp only at hSw); go_simp; try with_reducible rfl)
  simp only [Act.put, List.setIfInBounds_toArray, List.set_cons_zero, List.set_cons_succ]
  refine take_at (i := 1) (v := ?_) (some 12) rfl rfl (by kernel_rfl) (by kernel_rfl) (by kernel_rfl) (fun _ _ _ h => h) (Or.inl ⟨by rfl, ?_⟩) (by assumption) ?_
  rotate_left
  · (intro w hSw; (try dsimp only at hSw); go_simp; try with_reducible rfl)
  simp only [Act.put, List.setIfInBounds_toArray, List.set_cons_zero, List.set_cons_succ]
  refine take_at (i := 2) (v := ?_) (some 13) rfl rfl (by kernel_rfl) (by kernel_rfl) (by kernel_rfl) (fun _ _ _ h => h) (Or.inl ⟨by rfl, ?_⟩) (by assumption) ?_
  rotate_left
  · (intro w hSw; (try dsimp only at hSw); go_simp; try with_reducible rfl)
  simp only [Act.put, List.setIfInBounds_toArray, List.set_cons_zero, List.set_cons_succ]
  refine take_at (i := 3) (v := ?_) (some 14) rfl rfl (by kernel_rfl) (by kernel_rfl) (by kernel_rfl) (fun _ _ _ h => h) (Or.inl ⟨by rfl, ?_⟩) (by assumption) ?_
  rotate_left
  · (intro w hSw; (try dsimp only at hSw); go_simp; try with_reducible rfl)
  simp only [Act.put, List.setIfInBounds_toArray, List.set_cons_zero, List.set_cons_succ]
  refine take_at (i := 4) (v := ?_) (some 15) rfl rfl (by kernel_rfl) (by kernel_rfl) (by kernel_rfl) (fun _ _ _ h => h) (Or.inl ⟨by rfl, ?_⟩) (by assumption) ?_
  rotate_left
  · (intro w hSw; (try dsimp only at hSw); go_simp; try with_reducible rfl)
  simp only [Act.put, List.setIfInBounds_toArray, List.set_cons_zero, List.set_cons_succ]
  refine take_at (i := 5) (v := ?_) (some 16) rfl rfl (by kernel_rfl) (by kernel_rfl) (by kernel_rfl) (fun _ _ _ h => h) (Or.inl ⟨by rfl, ?_⟩) (by assumption) ?_
  rotate_left
  · (intro w hSw; (try dsimp only at hSw); go_simp; try with_reducible rfl)
  simp only [Act.put, List.setIfInBounds_toArray, List.set_cons_zero, List.set_cons_succ]
  refine wpAnyH_done (by kernel_rfl) ?_ _
  refine NoPanic.normal ?_
  go_wp2_with fail
  go_ret2
  exact ⟨rfl, E2.out.drew⟩
theorem hopen_ok (a : Option Addr) (n C : Nat) (f : Nat → Int) (w : World) (h : Arg w a n f) (hn : 16 ≤ n) (hC : n ≤ C) (hm : n ≤ 900000) (ho : opens n f = true) :
    Calls Try.prog 34 #[.slice a n C] w fun e w' => ∃ a' cap, e = .returned (.tuple #[.slice a' (n - 16) cap, .int .i64 0]) ∧ Arg w' a' (n - 16) (fun j => f (16 + j)) ∧ Below w.heap.size w w' := by
  rcases h with ⟨h, _⟩ | ⟨_, b, off, rfl, hl⟩
  · omega
  by_cases e : C = 16
  · subst e
    obtain rfl : n = 16 := by omega
    exact hopen_ok16 b off f w hl ho
  · exact hopen_okm b off n C f w hl hn (by omega) hm ho
theorem hopen_no (a : Option Addr) (n C : Nat) (f : Nat → Int) (w : World) (h : Arg w a n f) (hn : 16 ≤ n) (hC : n ≤ C) (hm : n ≤ 900000) (ho : opens n f = false) :
    Calls Try.prog 34 #[.slice a n C] w fun e w' => e = .returned (.tuple #[.slice none 0 0, .int .i64 12]) ∧ Below w.heap.size w w' := by
  rcases h with ⟨h, _⟩ | ⟨_, b, off, rfl, hl⟩
  · omega
  by_cases e : C = 16
  · subst e
    obtain rfl : n = 16 := by omega
    exact hopen_no16 b off f w hl ho
  · exact hopen_nom b off n C f w hl hn (by omega) hm ho
end Go.Proofs.Ytmlllglgjpmicaa
