/-
  Walks, not a claim by itself: RecordBack. By the verifier.
-/
import Derived.Test.YtlcnhmlcmedonaaXTop
import Derived.Test.YtlcnhmlcmedonaaRKnown
namespace Go.Proofs.Ytlcnhmlcmedonaa
open Go.RowKit
theorem RArg.some {w : World} {a : Option Addr} {n : Nat} {acc : Nat → Fld} (h : RArg w a n acc) (hn : 0 < n) : ∃ b off, a = some ⟨b, off, none⟩ ∧ Recs w b off n acc := by
  rcases h with h | h
  · omega
  · exact h
theorem RArg.wf {w : World} {a : Option Addr} {n : Nat} {acc : Nat → Fld} (h : RArg w a n acc) : ∀ i, i < n → (acc i).wf := by
  rcases h with h | ⟨b, off, rfl, h⟩
  · intro i hi; omega
  · exact h.2.1
theorem recOf_wf (f : Nat → Int) (hf : ∀ j, j < 128 → 0 ≤ f j ∧ f j < 256) : (recOf f).wf := by
  have w8 : ∀ o, o + 8 ≤ 128 → Word (le8 fun j => f (o + j)) := fun o ho => le8_word _ (fun j hj => hf _ (by omega))
  have hi : ∀ o, o + 16 ≤ 128 → Word (hi16 fun j => f (o + j)) := fun o ho => le8_word _ (fun j hj => hf _ (by omega))
  have lo : ∀ o, o + 16 ≤ 128 → Word (lo16 fun j => f (o + j)) := fun o ho => le8_word _ (fun j hj => hf _ (by omega))
  have pb : ∀ o n, o + n ≤ 128 → 0 ≤ ps (fun j => f (o + j)) n ∧ ps (fun j => f (o + j)) n < 256 ^ n := fun o n ho => ps_bound _ n (fun j hj => hf _ (by omega))
  exact ⟨hi 0 (by omega), lo 0 (by omega), hi 16 (by omega), lo 16 (by omega), hi 32 (by omega), lo 32 (by omega), hi 48 (by omega), lo 48 (by omega), hi 64 (by omega), lo 64 (by omega), hi 80 (by omega), lo 80 (by omega), pb 96 8 (by omega), pb 104 4 (by omega), pb 108 4 (by omega), pb 112 4 (by omega), pb 116 2 (by omega), pb 118 2 (by omega), pb 120 8 (by omega)⟩
set_option maxRecDepth 100000 in
set_option maxHeartbeats 400000 in
theorem back_long (a0 a1 a2 : Option Addr) (n0 C0 n1 C1 n2 C2 : Nat) (w : World) (hl : 20 < n0 ∨ 20 < n1 ∨ 1024 < n2) :
    Calls Try.prog 5 #[.slice a0 n0 C0, .slice a1 n1 C1, .slice a2 n2 C2] w fun e w' => e = .returned (.bool true) ∧ Below w.heap.size w w' := by
  by_cases h0 : 20 < n0
  · have e0 : (20 : Int) < n0 := by omega
    clear hl
    go_enter Try.func5, Try.ntmps5
    go_wp2_with (go_at_call 25; refine (known_any _).mono ?_; rintro e w1 ⟨rfl, hB⟩)
    go_ret
    exact ⟨rfl, hB⟩
  · have e0 : ¬ (20 : Int) < n0 := by omega
    by_cases h1 : 20 < n1
    · have e1 : (20 : Int) < n1 := by omega
      clear hl
      go_enter Try.func5, Try.ntmps5
      go_wp2_with (go_at_call 25; refine (known_any _).mono ?_; rintro e w1 ⟨rfl, hB⟩)
      go_ret
      exact ⟨rfl, hB⟩
    · have e1 : ¬ (20 : Int) < n1 := by omega
      have e2 : (1024 : Int) < n2 := by omega
      clear hl
      go_enter Try.func5, Try.ntmps5
      go_wp2_with (go_at_call 25; refine (known_any _).mono ?_; rintro e w1 ⟨rfl, hB⟩)
      go_ret
      exact ⟨rfl, hB⟩
def bkRel (w : World) (n : Nat) (i : Value) (wr : World) : Prop := ∃ k : Nat, k ≤ n ∧ i = .int .i64 k ∧ Below w.heap.size w wr
set_option maxRecDepth 100000 in
set_option maxHeartbeats 1000000 in
theorem back_short (a0 a1 a2 : Option Addr) (n0 C0 n1 C1 n2 C2 : Nat) (acc tra : Nat → Fld) (f : Nat → Int) (w : World) (h0 : RArg w a0 n0 acc) (h1 : RArg w a1 n1 tra) (h2 : Arg w a2 n2 f) (hC : n2 ≤ C2) (e0 : n0 ≤ 20) (e1 : n1 ≤ 20) (e2 : n2 ≤ 1024) :
    Calls Try.prog 5 #[.slice a0 n0 C0, .slice a1 n1 C1, .slice a2 n2 C2] w fun e w' => e = .returned (.bool true) ∧ Below w.heap.size w w' := by
  have H0 : Hid (RArg w a0 n0 acc) := h0
  have H1 : Hid (RArg w a1 n1 tra) := h1
  have H2 : Hid (Arg w a2 n2 f) := h2
  clear h0 h1 h2
  have g0 : ¬ (20 : Int) < n0 := by omega
  have g1 : ¬ (20 : Int) < n1 := by omega
  have g2 : ¬ (1024 : Int) < n2 := by omega
  go_enter Try.func5, Try.ntmps5
  go_wp2_with (go_at_call 25; refine (known_any _).mono ?_; rintro e w1 ⟨rfl, hB⟩; have ST : Hid (bkRel w n0 (.int .i64 0) w1) := ⟨0, by omega, rfl, hB⟩; clear hB)
  go_loopw [8] (fun i wr => bkRel w n0 i wr) (fun i _ => n0 - (intOf i).toNat)
  case atStart => exact ST.out
  case round =>
    obtain ⟨k, hk, rfl, bel⟩ := hrel
    have BE : Hid (Below w.heap.size w wr) := bel
    by_cases hlt : k < n0
    · have i1 : (k : Int) < n0 := by omega
      obtain ⟨b, off, rfl, HR⟩ := H0.out.some (by omega)
      have HB : Hid (Recs wr b off n0 acc) := HR.below bel
      have rng : wr.rangeAt b (off + k * 19) (acc k).cells := HB.out.1 k hlt
      clear bel HR
      go_wp2_with (first
        | (refine wpList_load_mid (P := Try.prog) rfl 28 (.tmp 50) rfl b (off + k * 19) rfl (acc k).cells _ rng Try.underlying28 rfl (by kernel_rfl) ?_))
      refine (abytes_any (acc k) _ (HB.out.2.1 k hlt)).mono ?_
      rintro e w3 ⟨b3, rfl, hb3, R3, K3⟩
      have L3 : Hid (Lies w3 b3 0 128 (acc k).img) := ⟨fun j hj => by rw [Nat.zero_add]; exact R3.1 j hj, fun j _ => ximg_byte _ j, R3.2.2⟩
      clear R3 hb3 rng
      go_wp2_with fail
      refine (readAccount_ok b3 0 128 (acc k).img _ L3.out (Nat.le_refl _)).mono ?_
      rintro e w4 ⟨rfl, K4⟩
      rw [recOf_img _ (HB.out.2.1 k hlt)]
      have D4 : Below wr.heap.size wr w4 := K3.trans (K4.mono K3.size)
      clear K3 K4 L3
      go_wp2_with (refine wpList_store_rec rfl 28 (.tmp 9) _ rfl w4.heap.size 0 zero19 (acc k).cells rfl rfl (Rec19.new w4 28 zero19) rfl (by kernel_rfl) (acc k).cells_one ?_; intro W5 R5 K5)
      have D5 : Below wr.heap.size wr W5 := D4.trans ((((Below.refl _ w4).alloc (Nat.le_refl _) (.cells zero19.toArray 28)).trans (K5.below (Nat.le_refl _) (by simp))).mono D4.size)
      have r1 : W5.drew.rangeAt w4.heap.size 0 (acc k).cells := R5.1
      have r2 : W5.drew.rangeAt b (off + k * 19) (acc k).cells := (HB.out.below D5).1 k hlt
      have E5 : Hid (Below w.heap.size w W5) := BE.out.trans (D5.mono BE.out.size)
      clear R5 K5 D4 D5
      refine wp_region_noPanic ?_
      refine wp_region_held_drew (S := fun W => W.rangeAt w4.heap.size 0 (acc k).cells ∧ W.rangeAt b (off + k * 19) (acc k).cells) (by kernel_rfl) ?_ (fun hHeld => ?_)
      · exact ⟨r1, r2⟩
      refine take_at (i := 0) (v := ?_) (some 56) rfl rfl (by kernel_rfl) (by kernel_rfl) (by kernel_rfl) (fun _ _ _ h => h) (Or.inl ⟨by rfl, ?_⟩) (by assumption) ?_
      rotate_left
      · (intro w hSw; (try dsimp only at hSw); go_simp; try with_reducible rfl)
      simp only [Act.put, List.setIfInBounds_toArray, List.set_cons_zero, List.set_cons_succ]
      refine take_at (i := 1) (v := ?_) (some 57) rfl rfl (by kernel_rfl) (by kernel_rfl) (by kernel_rfl) (fun _ _ _ h => h) (Or.inl ⟨by rfl, ?_⟩) (by assumption) ?_
      rotate_left
      · (intro w hSw; (try dsimp only at hSw); go_simp; try with_reducible rfl)
      simp only [Act.put, List.setIfInBounds_toArray, List.set_cons_zero, List.set_cons_succ]
      refine take_at (i := 2) (v := ?_) (some 58) rfl rfl (by kernel_rfl) (by kernel_rfl) (by kernel_rfl) (fun _ _ _ h => h) (Or.inl ⟨by rfl, ?_⟩) (by assumption) ?_
      rotate_left
      · (intro w hSw; (try dsimp only at hSw); go_simp; try with_reducible rfl)
      simp only [Act.put, List.setIfInBounds_toArray, List.set_cons_zero, List.set_cons_succ]
      refine take_at (i := 4) (v := ?_) (some 60) rfl rfl (by kernel_rfl) (by kernel_rfl) (by kernel_rfl) (fun _ _ _ h => h) (Or.inl ⟨by rfl, ?_⟩) (by assumption) ?_
      rotate_left
      · (intro w hSw; (try dsimp only at hSw); go_simp; try with_reducible rfl)
      simp only [Act.put, List.setIfInBounds_toArray, List.set_cons_zero, List.set_cons_succ]
      refine take_at (i := 5) (v := ?_) (some 61) rfl rfl (by kernel_rfl) (by kernel_rfl) (by kernel_rfl) (fun _ _ _ h => h) (Or.inl ⟨by rfl, ?_⟩) (by assumption) ?_
      rotate_left
      · (intro w hSw; (try dsimp only at hSw); go_simp; try with_reducible rfl)
      simp only [Act.put, List.setIfInBounds_toArray, List.set_cons_zero, List.set_cons_succ]
      refine take_at (i := 6) (v := ?_) (some 62) rfl rfl (by kernel_rfl) (by kernel_rfl) (by kernel_rfl) (fun _ _ _ h => h) (Or.inl ⟨by rfl, ?_⟩) (by assumption) ?_
      rotate_left
      · (intro w hSw; (try dsimp only at hSw); go_simp; try with_reducible rfl)
      simp only [Act.put, List.setIfInBounds_toArray, List.set_cons_zero, List.set_cons_succ]
      refine take_at (i := 3) (v := _) (some 59) rfl rfl (by kernel_rfl) (by kernel_rfl) (by kernel_rfl) (fun _ _ _ h => h) (yieldsIf_load_mid (by rfl) _ _ rfl _ _ rfl _ _ (fun _ h => h.1) Try.underlying28 rfl (by kernel_rfl)) (by assumption) ?_
      simp only [Act.put, List.setIfInBounds_toArray, List.set_cons_zero, List.set_cons_succ]
      refine take_at (i := 7) (v := _) (some 63) rfl rfl (by kernel_rfl) (by kernel_rfl) (by kernel_rfl) (fun _ _ _ h => h) (yieldsIf_load_mid (by rfl) _ _ rfl _ _ rfl _ _ (fun _ h => h.2) Try.underlying28 rfl (by kernel_rfl)) (by assumption) ?_
      simp only [Act.put, List.setIfInBounds_toArray, List.set_cons_zero, List.set_cons_succ]
      refine take_at (i := 8) (v := (.bool false)) (some 64) rfl rfl (by kernel_rfl) (by kernel_rfl) (by kernel_rfl) (fun _ _ _ h => h) (Or.inl ⟨by rfl, fun w _ => neq_run 28 28 (.tmp 59) (.tmp 63) rfl (acc k).cells.toArray rfl rfl (neq_acc (acc k)) guard_acc⟩) (by assumption) ?_
      simp only [Act.put, List.setIfInBounds_toArray, List.set_cons_zero, List.set_cons_succ]
      refine take_at (i := 9) (v := ?_) (some 65) rfl rfl (by kernel_rfl) (by kernel_rfl) (by kernel_rfl) (fun _ _ _ h => h) (Or.inl ⟨by rfl, ?_⟩) (by assumption) ?_
      rotate_left
      · (intro w hSw; (try dsimp only at hSw); go_simp; try with_reducible rfl)
      simp only [Act.put, List.setIfInBounds_toArray, List.set_cons_zero, List.set_cons_succ]
      refine wpAnyH_done (by kernel_rfl) ?_ _
      refine NoPanic.normal ?_
      go_wp2_with fail
      go_roundw
      case rel => exact ⟨k + 1, by omega, by go_num, E5.out.drew⟩
      case measure => simp [intOf]; omega
    · have i1 : ¬ (k : Int) < n0 := by omega
      clear bel
      go_wp2_with fail
      have ST2 : Hid (bkRel w n1 (.int .i64 0) wr) := ⟨0, by omega, rfl, BE.out⟩
      clear ST BE
      go_loopw [11] (fun i wr => bkRel w n1 i wr) (fun i _ => n1 - (intOf i).toNat)
      case atStart => exact ST2.out
      case round =>
        obtain ⟨k, hk, rfl, bel⟩ := hrel
        have BE : Hid (Below w.heap.size w wr) := bel
        by_cases hlt : k < n1
        · have i1 : (k : Int) < n1 := by omega
          obtain ⟨b, off, rfl, HR⟩ := H1.out.some (by omega)
          have HB : Hid (Recs wr b off n1 tra) := HR.below bel
          have rng : wr.rangeAt b (off + k * 19) (tra k).cells := HB.out.1 k hlt
          clear bel HR
          go_wp2_with (first
            | (refine wpList_load_mid (P := Try.prog) rfl 30 (.tmp 75) rfl b (off + k * 19) rfl (tra k).cells _ rng Try.underlying30 rfl (by kernel_rfl) ?_))
          refine (tbytes_any (tra k) _ (HB.out.2.1 k hlt)).mono ?_
          rintro e w3 ⟨b3, rfl, hb3, R3, K3⟩
          have L3 : Hid (Lies w3 b3 0 128 (tra k).img) := ⟨fun j hj => by rw [Nat.zero_add]; exact R3.1 j hj, fun j _ => ximg_byte _ j, R3.2.2⟩
          clear R3 hb3 rng
          go_wp2_with fail
          refine (readTransfer_ok b3 0 128 (tra k).img _ L3.out (Nat.le_refl _)).mono ?_
          rintro e w4 ⟨rfl, K4⟩
          rw [recOf_img _ (HB.out.2.1 k hlt)]
          have D4 : Below wr.heap.size wr w4 := K3.trans (K4.mono K3.size)
          clear K3 K4 L3
          go_wp2_with (refine wpList_store_rec rfl 30 (.tmp 12) _ rfl w4.heap.size 0 zero19 (tra k).cells rfl rfl (Rec19.new w4 30 zero19) rfl (by kernel_rfl) (tra k).cells_one ?_; intro W5 R5 K5)
          have D5 : Below wr.heap.size wr W5 := D4.trans ((((Below.refl _ w4).alloc (Nat.le_refl _) (.cells zero19.toArray 30)).trans (K5.below (Nat.le_refl _) (by simp))).mono D4.size)
          have r1 : W5.drew.rangeAt w4.heap.size 0 (tra k).cells := R5.1
          have r2 : W5.drew.rangeAt b (off + k * 19) (tra k).cells := (HB.out.below D5).1 k hlt
          have E5 : Hid (Below w.heap.size w W5) := BE.out.trans (D5.mono BE.out.size)
          clear R5 K5 D4 D5
          refine wp_region_noPanic ?_
          refine wp_region_held_drew (S := fun W => W.rangeAt w4.heap.size 0 (tra k).cells ∧ W.rangeAt b (off + k * 19) (tra k).cells) (by kernel_rfl) ?_ (fun hHeld => ?_)
          · exact ⟨r1, r2⟩
          refine take_at (i := 0) (v := ?_) (some 81) rfl rfl (by kernel_rfl) (by kernel_rfl) (by kernel_rfl) (fun _ _ _ h => h) (Or.inl ⟨by rfl, ?_⟩) (by assumption) ?_
          rotate_left
          · (intro w hSw; (try dsimp only at hSw); go_simp; try with_reducible rfl)
          simp only [Act.put, List.setIfInBounds_toArray, List.set_cons_zero, List.set_cons_succ]
          refine take_at (i := 1) (v := ?_) (some 82) rfl rfl (by kernel_rfl) (by kernel_rfl) (by kernel_rfl) (fun _ _ _ h => h) (Or.inl ⟨by rfl, ?_⟩) (by assumption) ?_
          rotate_left
          · (intro w hSw; (try dsimp only at hSw); go_simp; try with_reducible rfl)
          simp only [Act.put, List.setIfInBounds_toArray, List.set_cons_zero, List.set_cons_succ]
          refine take_at (i := 2) (v := ?_) (some 83) rfl rfl (by kernel_rfl) (by kernel_rfl) (by kernel_rfl) (fun _ _ _ h => h) (Or.inl ⟨by rfl, ?_⟩) (by assumption) ?_
          rotate_left
          · (intro w hSw; (try dsimp only at hSw); go_simp; try with_reducible rfl)
          simp only [Act.put, List.setIfInBounds_toArray, List.set_cons_zero, List.set_cons_succ]
          refine take_at (i := 4) (v := ?_) (some 85) rfl rfl (by kernel_rfl) (by kernel_rfl) (by kernel_rfl) (fun _ _ _ h => h) (Or.inl ⟨by rfl, ?_⟩) (by assumption) ?_
          rotate_left
          · (intro w hSw; (try dsimp only at hSw); go_simp; try with_reducible rfl)
          simp only [Act.put, List.setIfInBounds_toArray, List.set_cons_zero, List.set_cons_succ]
          refine take_at (i := 5) (v := ?_) (some 86) rfl rfl (by kernel_rfl) (by kernel_rfl) (by kernel_rfl) (fun _ _ _ h => h) (Or.inl ⟨by rfl, ?_⟩) (by assumption) ?_
          rotate_left
          · (intro w hSw; (try dsimp only at hSw); go_simp; try with_reducible rfl)
          simp only [Act.put, List.setIfInBounds_toArray, List.set_cons_zero, List.set_cons_succ]
          refine take_at (i := 6) (v := ?_) (some 87) rfl rfl (by kernel_rfl) (by kernel_rfl) (by kernel_rfl) (fun _ _ _ h => h) (Or.inl ⟨by rfl, ?_⟩) (by assumption) ?_
          rotate_left
          · (intro w hSw; (try dsimp only at hSw); go_simp; try with_reducible rfl)
          simp only [Act.put, List.setIfInBounds_toArray, List.set_cons_zero, List.set_cons_succ]
          refine take_at (i := 3) (v := _) (some 84) rfl rfl (by kernel_rfl) (by kernel_rfl) (by kernel_rfl) (fun _ _ _ h => h) (yieldsIf_load_mid (by rfl) _ _ rfl _ _ rfl _ _ (fun _ h => h.1) Try.underlying30 rfl (by kernel_rfl)) (by assumption) ?_
          simp only [Act.put, List.setIfInBounds_toArray, List.set_cons_zero, List.set_cons_succ]
          refine take_at (i := 7) (v := _) (some 88) rfl rfl (by kernel_rfl) (by kernel_rfl) (by kernel_rfl) (fun _ _ _ h => h) (yieldsIf_load_mid (by rfl) _ _ rfl _ _ rfl _ _ (fun _ h => h.2) Try.underlying30 rfl (by kernel_rfl)) (by assumption) ?_
          simp only [Act.put, List.setIfInBounds_toArray, List.set_cons_zero, List.set_cons_succ]
          refine take_at (i := 8) (v := (.bool false)) (some 89) rfl rfl (by kernel_rfl) (by kernel_rfl) (by kernel_rfl) (fun _ _ _ h => h) (Or.inl ⟨by rfl, fun w _ => neq_run 30 30 (.tmp 84) (.tmp 88) rfl (tra k).cells.toArray rfl rfl (neq_tr (tra k)) guard_tr⟩) (by assumption) ?_
          simp only [Act.put, List.setIfInBounds_toArray, List.set_cons_zero, List.set_cons_succ]
          refine take_at (i := 9) (v := ?_) (some 90) rfl rfl (by kernel_rfl) (by kernel_rfl) (by kernel_rfl) (fun _ _ _ h => h) (Or.inl ⟨by rfl, ?_⟩) (by assumption) ?_
          rotate_left
          · (intro w hSw; (try dsimp only at hSw); go_simp; try with_reducible rfl)
          simp only [Act.put, List.setIfInBounds_toArray, List.set_cons_zero, List.set_cons_succ]
          refine wpAnyH_done (by kernel_rfl) ?_ _
          refine NoPanic.normal ?_
          go_wp2_with fail
          go_roundw
          case rel => exact ⟨k + 1, by omega, by go_num, E5.out.drew⟩
          case measure => simp [intOf]; omega
        · have i1 : ¬ (k : Int) < n1 := by omega
          clear bel
          go_wp2_with fail
          clear ST2
          by_cases c0 : n0 ≤ 8
          · have j0 : (n0 : Int) ≤ 8 := by omega
            by_cases c1 : n1 ≤ 8
            · have j1 : (n1 : Int) ≤ 8 := by omega
              by_cases d : n2 = 128
              · subst d
                obtain ⟨b, off, rfl, L⟩ : ∃ b off, a2 = some ⟨b, off, none⟩ ∧ Lies w b off 128 f := by
                  rcases H2.out with ⟨h, _⟩ | ⟨_, b, off, rfl, L⟩
                  · omega
                  · exact ⟨b, off, rfl, L⟩
                have LL : Hid (Lies w b off 128 f) := L
                clear L
                go_wp2_with (first
                  | (go_at_call 14; refine (AccountsBytes_ok a0 n0 C0 acc _ (H0.out.below BE.out) c0).mono ?_; rintro e X1 ⟨v1, rfl, O1, K1⟩
                     have E1 : Hid (Below w.heap.size w X1) := BE.out.trans (K1.mono BE.out.size)
                     have P1 : Hid (X1.ownsRow wr.heap.size 5 1 v1 (n0 * 128) (batCells acc n0)) := O1
                     clear O1 K1)
                  | (go_at_call 20; refine (ReadAccounts_bat X1 wr.heap.size n0 v1 acc P1.out c0 H0.out.wf).mono ?_; rintro e X2 ⟨p2, q2, rfl, A2, K2⟩
                     have E2 : Hid (Below w.heap.size w X2) := E1.out.trans (K2.mono E1.out.size)
                     have Q2 : Hid (RArg X2 p2 n0 acc) := A2
                     clear A2 K2 P1)
                  | (go_at_call 16; refine (TransfersBytes_ok a1 n1 C1 tra _ (H1.out.below E2.out) c1).mono ?_; rintro e X3 ⟨v3, rfl, O3, K3⟩
                     have E3 : Hid (Below w.heap.size w X3) := E2.out.trans (K3.mono E2.out.size)
                     have P3 : Hid (X3.ownsRow X2.heap.size 5 1 v3 (n1 * 128) (batCells tra n1)) := O3
                     have Q3 : Hid (RArg X3 p2 n0 acc) := Q2.out.below K3
                     clear Q2
                     clear O3 K3)
                  | (go_at_call 22; refine (ReadTransfers_bat X3 X2.heap.size n1 v3 tra P3.out c1 H1.out.wf).mono ?_; rintro e X4 ⟨p4, q4, rfl, A4, K4⟩
                     have E4 : Hid (Below w.heap.size w X4) := E3.out.trans (K4.mono E3.out.size)
                     have S4 : Hid (RArg X4 p4 n1 tra) := A4
                     have Q4 : Hid (RArg X4 p2 n0 acc) := Q3.out.below K4
                     clear Q3
                     clear A4 K4 P3)
                  | (go_at_call 18; refine (sameAccounts_any p2 a0 n0 q2 C0 acc _ Q4.out (H0.out.below E4.out) (by omega)).mono ?_; rintro e X5 ⟨rfl, K5⟩
                     have E5 : Hid (Below w.heap.size w X5) := E4.out.trans (K5.mono E4.out.size)
                     have S5 : Hid (RArg X5 p4 n1 tra) := S4.out.below K5
                     clear S4
                     clear K5 Q4)
                  | (go_at_call 19; refine (sameTransfers_any p4 a1 n1 q4 C1 tra _ S5.out (H1.out.below E5.out) (by omega)).mono ?_; rintro e X6 ⟨rfl, K6⟩
                     have E6 : Hid (Below w.heap.size w X6) := E5.out.trans (K6.mono E5.out.size)
                     clear K6 S5)
                  | (go_at_call 26; refine (readAccount_ok b off C2 f _ (LL.out.below E6.out) hC).mono ?_; rintro e Y1 ⟨rfl, G1⟩
                     have F1 : Hid (Below w.heap.size w Y1) := E6.out.trans (G1.mono E6.out.size)
                     clear G1)
                  | (refine wpList_store_rec rfl 28 (.tmp 22) _ rfl Y1.heap.size 0 zero19 (recOf f).cells rfl rfl (Rec19.new Y1 28 zero19) rfl (by kernel_rfl) (recOf f).cells_one ?_; intro Y2 R2 G2
                     have F2 : Hid (Below w.heap.size w Y2) := F1.out.trans ((((Below.refl _ Y1).alloc (Nat.le_refl _) (.cells zero19.toArray 28)).trans (G2.below (Nat.le_refl _) (by simp))).mono F1.out.size)
                     have M2 : Hid (Rec19 Y2 Y1.heap.size 0 (recOf f).cells) := R2
                     clear R2 G2)
                  | (go_at_call 27; refine (readTransfer_ok b off C2 f _ (LL.out.below F2.out) hC).mono ?_; rintro e Y3 ⟨rfl, G3⟩
                     have F3 : Hid (Below w.heap.size w Y3) := F2.out.trans (G3.mono F2.out.size)
                     have M3 : Hid (Rec19 Y3 Y1.heap.size 0 (recOf f).cells) := M2.out.below G3
                     clear G3 M2)
                  | (refine wpList_store_rec rfl 30 (.tmp 24) _ rfl Y3.heap.size 0 zero19 (recOf f).cells rfl rfl (Rec19.new Y3 30 zero19) rfl (by kernel_rfl) (recOf f).cells_one ?_; intro Y4 R4 G4
                     have J4 : Below Y3.heap.size Y3 Y4 := ((Below.refl _ Y3).alloc (Nat.le_refl _) (.cells zero19.toArray 30)).trans (G4.below (Nat.le_refl _) (by simp))
                     have F4 : Hid (Below w.heap.size w Y4) := F3.out.trans (J4.mono F3.out.size)
                     have M4 : Hid (Rec19 Y4 Y1.heap.size 0 (recOf f).cells) := M3.out.below J4
                     have N4 : Hid (Rec19 Y4 Y3.heap.size 0 (recOf f).cells) := R4
                     clear R4 G4 J4 M3)
                  | (refine wpList_load_w (by rfl) 28 (.tmp 22) rfl Y1.heap.size 0 (recOf f).cells rfl _ Try.underlying28 rfl (by kernel_rfl) M4.out ?_)
                  | (go_at_call 6; refine (abytes_any (recOf f) _ (recOf_wf f LL.out.2.1)).mono ?_; rintro e Y5 ⟨g5, rfl, _, R5, G5⟩
                     have F5 : Hid (Below w.heap.size w Y5) := F4.out.trans (G5.mono F4.out.size)
                     have N5 : Hid (Rec19 Y5 Y3.heap.size 0 (recOf f).cells) := N4.out.below G5
                     have B5 : Hid (Arg Y5 (some ⟨g5, 0, none⟩) 128 (recOf f).img) := Arg.of ⟨fun j hj => by rw [Nat.zero_add]; exact R5.1 j hj, fun j _ => ximg_byte _ j, R5.2.2⟩
                     clear R5 G5 M4 N4)
                  | (have _q := B5; clear _q; go_at_call 8; refine (same_any (some ⟨g5, 0, none⟩) (some ⟨b, off, none⟩) 128 128 _ _ (recOf f).img f _ B5.out (Arg.of (LL.out.below F5.out))).mono ?_; rintro e Y6 ⟨rfl, hY6⟩; rw [hY6, decide_eq_true (txtN_congr 128 _ _ (img_recOf f LL.out.2.1))]
                     clear hY6 Y6 B5)
                  | (refine wpList_load_w (by rfl) 30 (.tmp 24) rfl Y3.heap.size 0 (recOf f).cells rfl _ Try.underlying30 rfl (by kernel_rfl) N5.out ?_)
                  | (go_at_call 7; refine (tbytes_any (recOf f) _ (recOf_wf f LL.out.2.1)).mono ?_; rintro e Y7 ⟨g7, rfl, _, R7, G7⟩
                     have F7 : Hid (Below w.heap.size w Y7) := F5.out.trans (G7.mono F5.out.size)
                     have B7 : Hid (Arg Y7 (some ⟨g7, 0, none⟩) 128 (recOf f).img) := Arg.of ⟨fun j hj => by rw [Nat.zero_add]; exact R7.1 j hj, fun j _ => ximg_byte _ j, R7.2.2⟩
                     clear R7 G7 N5)
                  | (go_at_call 8; refine (same_any (some ⟨g7, 0, none⟩) (some ⟨b, off, none⟩) 128 128 _ _ (recOf f).img f _ B7.out (Arg.of (LL.out.below F7.out))).mono ?_; rintro e Y8 ⟨rfl, hY8⟩; rw [hY8, decide_eq_true (txtN_congr 128 _ _ (img_recOf f LL.out.2.1))]
                     clear hY8 Y8))
                go_ret
                exact ⟨rfl, F7.out⟩
              · have d' : ¬ (n2 : Int) = 128 := by omega
                go_wp2_with (first
                  | (go_at_call 14; refine (AccountsBytes_ok a0 n0 C0 acc _ (H0.out.below BE.out) c0).mono ?_; rintro e X1 ⟨v1, rfl, O1, K1⟩
                     have E1 : Hid (Below w.heap.size w X1) := BE.out.trans (K1.mono BE.out.size)
                     have P1 : Hid (X1.ownsRow wr.heap.size 5 1 v1 (n0 * 128) (batCells acc n0)) := O1
                     clear O1 K1)
                  | (go_at_call 20; refine (ReadAccounts_bat X1 wr.heap.size n0 v1 acc P1.out c0 H0.out.wf).mono ?_; rintro e X2 ⟨p2, q2, rfl, A2, K2⟩
                     have E2 : Hid (Below w.heap.size w X2) := E1.out.trans (K2.mono E1.out.size)
                     have Q2 : Hid (RArg X2 p2 n0 acc) := A2
                     clear A2 K2 P1)
                  | (go_at_call 16; refine (TransfersBytes_ok a1 n1 C1 tra _ (H1.out.below E2.out) c1).mono ?_; rintro e X3 ⟨v3, rfl, O3, K3⟩
                     have E3 : Hid (Below w.heap.size w X3) := E2.out.trans (K3.mono E2.out.size)
                     have P3 : Hid (X3.ownsRow X2.heap.size 5 1 v3 (n1 * 128) (batCells tra n1)) := O3
                     have Q3 : Hid (RArg X3 p2 n0 acc) := Q2.out.below K3
                     clear Q2
                     clear O3 K3)
                  | (go_at_call 22; refine (ReadTransfers_bat X3 X2.heap.size n1 v3 tra P3.out c1 H1.out.wf).mono ?_; rintro e X4 ⟨p4, q4, rfl, A4, K4⟩
                     have E4 : Hid (Below w.heap.size w X4) := E3.out.trans (K4.mono E3.out.size)
                     have S4 : Hid (RArg X4 p4 n1 tra) := A4
                     have Q4 : Hid (RArg X4 p2 n0 acc) := Q3.out.below K4
                     clear Q3
                     clear A4 K4 P3)
                  | (go_at_call 18; refine (sameAccounts_any p2 a0 n0 q2 C0 acc _ Q4.out (H0.out.below E4.out) (by omega)).mono ?_; rintro e X5 ⟨rfl, K5⟩
                     have E5 : Hid (Below w.heap.size w X5) := E4.out.trans (K5.mono E4.out.size)
                     have S5 : Hid (RArg X5 p4 n1 tra) := S4.out.below K5
                     clear S4
                     clear K5 Q4)
                  | (go_at_call 19; refine (sameTransfers_any p4 a1 n1 q4 C1 tra _ S5.out (H1.out.below E5.out) (by omega)).mono ?_; rintro e X6 ⟨rfl, K6⟩
                     have E6 : Hid (Below w.heap.size w X6) := E5.out.trans (K6.mono E5.out.size)
                     clear K6 S5)
                  | (go_at_call 26; refine (readAccount_no a2 n2 C2 _ d).mono ?_; rintro e Y1 ⟨rfl, G1⟩
                     have F1 : Hid (Below w.heap.size w Y1) := E6.out.trans (G1.mono E6.out.size)
                     clear G1)
                  | (refine wpList_store_rec rfl 28 (.tmp 22) _ rfl Y1.heap.size 0 zero19 zero19 rfl rfl (Rec19.new Y1 28 zero19) rfl (by kernel_rfl) zero19_one ?_; intro Y2 R2 G2
                     have F2 : Hid (Below w.heap.size w Y2) := F1.out.trans ((((Below.refl _ Y1).alloc (Nat.le_refl _) (.cells zero19.toArray 28)).trans (G2.below (Nat.le_refl _) (by simp))).mono F1.out.size)
                     clear R2 G2)
                  | (go_at_call 27; refine (readTransfer_no a2 n2 C2 _ d).mono ?_; rintro e Y3 ⟨rfl, G3⟩
                     have F3 : Hid (Below w.heap.size w Y3) := F2.out.trans (G3.mono F2.out.size)
                     clear G3)
                  | (refine wpList_store_rec rfl 30 (.tmp 24) _ rfl Y3.heap.size 0 zero19 zero19 rfl rfl (Rec19.new Y3 30 zero19) rfl (by kernel_rfl) zero19_one ?_; intro Y4 R4 G4
                     have F4 : Hid (Below w.heap.size w Y4) := F3.out.trans ((((Below.refl _ Y3).alloc (Nat.le_refl _) (.cells zero19.toArray 30)).trans (G4.below (Nat.le_refl _) (by simp))).mono F3.out.size)
                     clear R4 G4))
                go_ret
                exact ⟨rfl, F4.out⟩
            · have j1 : ¬ (n1 : Int) ≤ 8 := by omega
              by_cases d : n2 = 128
              · subst d
                obtain ⟨b, off, rfl, L⟩ : ∃ b off, a2 = some ⟨b, off, none⟩ ∧ Lies w b off 128 f := by
                  rcases H2.out with ⟨h, _⟩ | ⟨_, b, off, rfl, L⟩
                  · omega
                  · exact ⟨b, off, rfl, L⟩
                have LL : Hid (Lies w b off 128 f) := L
                clear L
                go_wp2_with (first
                  | (go_at_call 14; refine (AccountsBytes_ok a0 n0 C0 acc _ (H0.out.below BE.out) c0).mono ?_; rintro e X1 ⟨v1, rfl, O1, K1⟩
                     have E1 : Hid (Below w.heap.size w X1) := BE.out.trans (K1.mono BE.out.size)
                     have P1 : Hid (X1.ownsRow wr.heap.size 5 1 v1 (n0 * 128) (batCells acc n0)) := O1
                     clear O1 K1)
                  | (go_at_call 20; refine (ReadAccounts_bat X1 wr.heap.size n0 v1 acc P1.out c0 H0.out.wf).mono ?_; rintro e X2 ⟨p2, q2, rfl, A2, K2⟩
                     have E2 : Hid (Below w.heap.size w X2) := E1.out.trans (K2.mono E1.out.size)
                     have Q2 : Hid (RArg X2 p2 n0 acc) := A2
                     clear A2 K2 P1)
                  | (go_at_call 16; refine (TransfersBytes_long a1 n1 C1 _ (by omega)).mono ?_; rintro e X3 ⟨rfl, K3⟩
                     have E3 : Hid (Below w.heap.size w X3) := E2.out.trans (K3.mono E2.out.size)
                     have Q3 : Hid (RArg X3 p2 n0 acc) := Q2.out.below K3
                     clear Q2
                     clear K3)
                  | (go_at_call 22; refine (readTransfers_nil X3).mono ?_; rintro e X4 ⟨b4, rfl, K4⟩
                     have E4 : Hid (Below w.heap.size w X4) := E3.out.trans (K4.mono E3.out.size)
                     have Q4 : Hid (RArg X4 p2 n0 acc) := Q3.out.below K4
                     clear Q3
                     clear K4)
                  | (go_at_call 18; refine (sameAccounts_any p2 a0 n0 q2 C0 acc _ Q4.out (H0.out.below E4.out) (by omega)).mono ?_; rintro e X5 ⟨rfl, K5⟩
                     have E5 : Hid (Below w.heap.size w X5) := E4.out.trans (K5.mono E4.out.size)
                     clear K5 Q4)
                  | (go_at_call 26; refine (readAccount_ok b off C2 f _ (LL.out.below E5.out) hC).mono ?_; rintro e Y1 ⟨rfl, G1⟩
                     have F1 : Hid (Below w.heap.size w Y1) := E5.out.trans (G1.mono E5.out.size)
                     clear G1)
                  | (refine wpList_store_rec rfl 28 (.tmp 22) _ rfl Y1.heap.size 0 zero19 (recOf f).cells rfl rfl (Rec19.new Y1 28 zero19) rfl (by kernel_rfl) (recOf f).cells_one ?_; intro Y2 R2 G2
                     have F2 : Hid (Below w.heap.size w Y2) := F1.out.trans ((((Below.refl _ Y1).alloc (Nat.le_refl _) (.cells zero19.toArray 28)).trans (G2.below (Nat.le_refl _) (by simp))).mono F1.out.size)
                     have M2 : Hid (Rec19 Y2 Y1.heap.size 0 (recOf f).cells) := R2
                     clear R2 G2)
                  | (go_at_call 27; refine (readTransfer_ok b off C2 f _ (LL.out.below F2.out) hC).mono ?_; rintro e Y3 ⟨rfl, G3⟩
                     have F3 : Hid (Below w.heap.size w Y3) := F2.out.trans (G3.mono F2.out.size)
                     have M3 : Hid (Rec19 Y3 Y1.heap.size 0 (recOf f).cells) := M2.out.below G3
                     clear G3 M2)
                  | (refine wpList_store_rec rfl 30 (.tmp 24) _ rfl Y3.heap.size 0 zero19 (recOf f).cells rfl rfl (Rec19.new Y3 30 zero19) rfl (by kernel_rfl) (recOf f).cells_one ?_; intro Y4 R4 G4
                     have J4 : Below Y3.heap.size Y3 Y4 := ((Below.refl _ Y3).alloc (Nat.le_refl _) (.cells zero19.toArray 30)).trans (G4.below (Nat.le_refl _) (by simp))
                     have F4 : Hid (Below w.heap.size w Y4) := F3.out.trans (J4.mono F3.out.size)
                     have M4 : Hid (Rec19 Y4 Y1.heap.size 0 (recOf f).cells) := M3.out.below J4
                     have N4 : Hid (Rec19 Y4 Y3.heap.size 0 (recOf f).cells) := R4
                     clear R4 G4 J4 M3)
                  | (refine wpList_load_w (by rfl) 28 (.tmp 22) rfl Y1.heap.size 0 (recOf f).cells rfl _ Try.underlying28 rfl (by kernel_rfl) M4.out ?_)
                  | (go_at_call 6; refine (abytes_any (recOf f) _ (recOf_wf f LL.out.2.1)).mono ?_; rintro e Y5 ⟨g5, rfl, _, R5, G5⟩
                     have F5 : Hid (Below w.heap.size w Y5) := F4.out.trans (G5.mono F4.out.size)
                     have N5 : Hid (Rec19 Y5 Y3.heap.size 0 (recOf f).cells) := N4.out.below G5
                     have B5 : Hid (Arg Y5 (some ⟨g5, 0, none⟩) 128 (recOf f).img) := Arg.of ⟨fun j hj => by rw [Nat.zero_add]; exact R5.1 j hj, fun j _ => ximg_byte _ j, R5.2.2⟩
                     clear R5 G5 M4 N4)
                  | (have _q := B5; clear _q; go_at_call 8; refine (same_any (some ⟨g5, 0, none⟩) (some ⟨b, off, none⟩) 128 128 _ _ (recOf f).img f _ B5.out (Arg.of (LL.out.below F5.out))).mono ?_; rintro e Y6 ⟨rfl, hY6⟩; rw [hY6, decide_eq_true (txtN_congr 128 _ _ (img_recOf f LL.out.2.1))]
                     clear hY6 Y6 B5)
                  | (refine wpList_load_w (by rfl) 30 (.tmp 24) rfl Y3.heap.size 0 (recOf f).cells rfl _ Try.underlying30 rfl (by kernel_rfl) N5.out ?_)
                  | (go_at_call 7; refine (tbytes_any (recOf f) _ (recOf_wf f LL.out.2.1)).mono ?_; rintro e Y7 ⟨g7, rfl, _, R7, G7⟩
                     have F7 : Hid (Below w.heap.size w Y7) := F5.out.trans (G7.mono F5.out.size)
                     have B7 : Hid (Arg Y7 (some ⟨g7, 0, none⟩) 128 (recOf f).img) := Arg.of ⟨fun j hj => by rw [Nat.zero_add]; exact R7.1 j hj, fun j _ => ximg_byte _ j, R7.2.2⟩
                     clear R7 G7 N5)
                  | (go_at_call 8; refine (same_any (some ⟨g7, 0, none⟩) (some ⟨b, off, none⟩) 128 128 _ _ (recOf f).img f _ B7.out (Arg.of (LL.out.below F7.out))).mono ?_; rintro e Y8 ⟨rfl, hY8⟩; rw [hY8, decide_eq_true (txtN_congr 128 _ _ (img_recOf f LL.out.2.1))]
                     clear hY8 Y8))
                go_ret
                exact ⟨rfl, F7.out⟩
              · have d' : ¬ (n2 : Int) = 128 := by omega
                go_wp2_with (first
                  | (go_at_call 14; refine (AccountsBytes_ok a0 n0 C0 acc _ (H0.out.below BE.out) c0).mono ?_; rintro e X1 ⟨v1, rfl, O1, K1⟩
                     have E1 : Hid (Below w.heap.size w X1) := BE.out.trans (K1.mono BE.out.size)
                     have P1 : Hid (X1.ownsRow wr.heap.size 5 1 v1 (n0 * 128) (batCells acc n0)) := O1
                     clear O1 K1)
                  | (go_at_call 20; refine (ReadAccounts_bat X1 wr.heap.size n0 v1 acc P1.out c0 H0.out.wf).mono ?_; rintro e X2 ⟨p2, q2, rfl, A2, K2⟩
                     have E2 : Hid (Below w.heap.size w X2) := E1.out.trans (K2.mono E1.out.size)
                     have Q2 : Hid (RArg X2 p2 n0 acc) := A2
                     clear A2 K2 P1)
                  | (go_at_call 16; refine (TransfersBytes_long a1 n1 C1 _ (by omega)).mono ?_; rintro e X3 ⟨rfl, K3⟩
                     have E3 : Hid (Below w.heap.size w X3) := E2.out.trans (K3.mono E2.out.size)
                     have Q3 : Hid (RArg X3 p2 n0 acc) := Q2.out.below K3
                     clear Q2
                     clear K3)
                  | (go_at_call 22; refine (readTransfers_nil X3).mono ?_; rintro e X4 ⟨b4, rfl, K4⟩
                     have E4 : Hid (Below w.heap.size w X4) := E3.out.trans (K4.mono E3.out.size)
                     have Q4 : Hid (RArg X4 p2 n0 acc) := Q3.out.below K4
                     clear Q3
                     clear K4)
                  | (go_at_call 18; refine (sameAccounts_any p2 a0 n0 q2 C0 acc _ Q4.out (H0.out.below E4.out) (by omega)).mono ?_; rintro e X5 ⟨rfl, K5⟩
                     have E5 : Hid (Below w.heap.size w X5) := E4.out.trans (K5.mono E4.out.size)
                     clear K5 Q4)
                  | (go_at_call 26; refine (readAccount_no a2 n2 C2 _ d).mono ?_; rintro e Y1 ⟨rfl, G1⟩
                     have F1 : Hid (Below w.heap.size w Y1) := E5.out.trans (G1.mono E5.out.size)
                     clear G1)
                  | (refine wpList_store_rec rfl 28 (.tmp 22) _ rfl Y1.heap.size 0 zero19 zero19 rfl rfl (Rec19.new Y1 28 zero19) rfl (by kernel_rfl) zero19_one ?_; intro Y2 R2 G2
                     have F2 : Hid (Below w.heap.size w Y2) := F1.out.trans ((((Below.refl _ Y1).alloc (Nat.le_refl _) (.cells zero19.toArray 28)).trans (G2.below (Nat.le_refl _) (by simp))).mono F1.out.size)
                     clear R2 G2)
                  | (go_at_call 27; refine (readTransfer_no a2 n2 C2 _ d).mono ?_; rintro e Y3 ⟨rfl, G3⟩
                     have F3 : Hid (Below w.heap.size w Y3) := F2.out.trans (G3.mono F2.out.size)
                     clear G3)
                  | (refine wpList_store_rec rfl 30 (.tmp 24) _ rfl Y3.heap.size 0 zero19 zero19 rfl rfl (Rec19.new Y3 30 zero19) rfl (by kernel_rfl) zero19_one ?_; intro Y4 R4 G4
                     have F4 : Hid (Below w.heap.size w Y4) := F3.out.trans ((((Below.refl _ Y3).alloc (Nat.le_refl _) (.cells zero19.toArray 30)).trans (G4.below (Nat.le_refl _) (by simp))).mono F3.out.size)
                     clear R4 G4))
                go_ret
                exact ⟨rfl, F4.out⟩
          · have j0 : ¬ (n0 : Int) ≤ 8 := by omega
            by_cases c1 : n1 ≤ 8
            · have j1 : (n1 : Int) ≤ 8 := by omega
              by_cases d : n2 = 128
              · subst d
                obtain ⟨b, off, rfl, L⟩ : ∃ b off, a2 = some ⟨b, off, none⟩ ∧ Lies w b off 128 f := by
                  rcases H2.out with ⟨h, _⟩ | ⟨_, b, off, rfl, L⟩
                  · omega
                  · exact ⟨b, off, rfl, L⟩
                have LL : Hid (Lies w b off 128 f) := L
                clear L
                go_wp2_with (first
                  | (go_at_call 14; refine (AccountsBytes_long a0 n0 C0 _ (by omega)).mono ?_; rintro e X1 ⟨rfl, K1⟩
                     have E1 : Hid (Below w.heap.size w X1) := BE.out.trans (K1.mono BE.out.size)
                     clear K1)
                  | (go_at_call 20; refine (readAccounts_nil X1).mono ?_; rintro e X2 ⟨b2, rfl, K2⟩
                     have E2 : Hid (Below w.heap.size w X2) := E1.out.trans (K2.mono E1.out.size)
                     clear K2)
                  | (go_at_call 16; refine (TransfersBytes_ok a1 n1 C1 tra _ (H1.out.below E2.out) c1).mono ?_; rintro e X3 ⟨v3, rfl, O3, K3⟩
                     have E3 : Hid (Below w.heap.size w X3) := E2.out.trans (K3.mono E2.out.size)
                     have P3 : Hid (X3.ownsRow X2.heap.size 5 1 v3 (n1 * 128) (batCells tra n1)) := O3
                     clear O3 K3)
                  | (go_at_call 22; refine (ReadTransfers_bat X3 X2.heap.size n1 v3 tra P3.out c1 H1.out.wf).mono ?_; rintro e X4 ⟨p4, q4, rfl, A4, K4⟩
                     have E4 : Hid (Below w.heap.size w X4) := E3.out.trans (K4.mono E3.out.size)
                     have S4 : Hid (RArg X4 p4 n1 tra) := A4
                     clear A4 K4 P3)
                  | (go_at_call 19; refine (sameTransfers_any p4 a1 n1 q4 C1 tra _ S4.out (H1.out.below E4.out) (by omega)).mono ?_; rintro e X5 ⟨rfl, K6⟩
                     have E5 : Hid (Below w.heap.size w X5) := E4.out.trans (K6.mono E4.out.size)
                     clear K6 S4)
                  | (go_at_call 26; refine (readAccount_ok b off C2 f _ (LL.out.below E5.out) hC).mono ?_; rintro e Y1 ⟨rfl, G1⟩
                     have F1 : Hid (Below w.heap.size w Y1) := E5.out.trans (G1.mono E5.out.size)
                     clear G1)
                  | (refine wpList_store_rec rfl 28 (.tmp 22) _ rfl Y1.heap.size 0 zero19 (recOf f).cells rfl rfl (Rec19.new Y1 28 zero19) rfl (by kernel_rfl) (recOf f).cells_one ?_; intro Y2 R2 G2
                     have F2 : Hid (Below w.heap.size w Y2) := F1.out.trans ((((Below.refl _ Y1).alloc (Nat.le_refl _) (.cells zero19.toArray 28)).trans (G2.below (Nat.le_refl _) (by simp))).mono F1.out.size)
                     have M2 : Hid (Rec19 Y2 Y1.heap.size 0 (recOf f).cells) := R2
                     clear R2 G2)
                  | (go_at_call 27; refine (readTransfer_ok b off C2 f _ (LL.out.below F2.out) hC).mono ?_; rintro e Y3 ⟨rfl, G3⟩
                     have F3 : Hid (Below w.heap.size w Y3) := F2.out.trans (G3.mono F2.out.size)
                     have M3 : Hid (Rec19 Y3 Y1.heap.size 0 (recOf f).cells) := M2.out.below G3
                     clear G3 M2)
                  | (refine wpList_store_rec rfl 30 (.tmp 24) _ rfl Y3.heap.size 0 zero19 (recOf f).cells rfl rfl (Rec19.new Y3 30 zero19) rfl (by kernel_rfl) (recOf f).cells_one ?_; intro Y4 R4 G4
                     have J4 : Below Y3.heap.size Y3 Y4 := ((Below.refl _ Y3).alloc (Nat.le_refl _) (.cells zero19.toArray 30)).trans (G4.below (Nat.le_refl _) (by simp))
                     have F4 : Hid (Below w.heap.size w Y4) := F3.out.trans (J4.mono F3.out.size)
                     have M4 : Hid (Rec19 Y4 Y1.heap.size 0 (recOf f).cells) := M3.out.below J4
                     have N4 : Hid (Rec19 Y4 Y3.heap.size 0 (recOf f).cells) := R4
                     clear R4 G4 J4 M3)
                  | (refine wpList_load_w (by rfl) 28 (.tmp 22) rfl Y1.heap.size 0 (recOf f).cells rfl _ Try.underlying28 rfl (by kernel_rfl) M4.out ?_)
                  | (go_at_call 6; refine (abytes_any (recOf f) _ (recOf_wf f LL.out.2.1)).mono ?_; rintro e Y5 ⟨g5, rfl, _, R5, G5⟩
                     have F5 : Hid (Below w.heap.size w Y5) := F4.out.trans (G5.mono F4.out.size)
                     have N5 : Hid (Rec19 Y5 Y3.heap.size 0 (recOf f).cells) := N4.out.below G5
                     have B5 : Hid (Arg Y5 (some ⟨g5, 0, none⟩) 128 (recOf f).img) := Arg.of ⟨fun j hj => by rw [Nat.zero_add]; exact R5.1 j hj, fun j _ => ximg_byte _ j, R5.2.2⟩
                     clear R5 G5 M4 N4)
                  | (have _q := B5; clear _q; go_at_call 8; refine (same_any (some ⟨g5, 0, none⟩) (some ⟨b, off, none⟩) 128 128 _ _ (recOf f).img f _ B5.out (Arg.of (LL.out.below F5.out))).mono ?_; rintro e Y6 ⟨rfl, hY6⟩; rw [hY6, decide_eq_true (txtN_congr 128 _ _ (img_recOf f LL.out.2.1))]
                     clear hY6 Y6 B5)
                  | (refine wpList_load_w (by rfl) 30 (.tmp 24) rfl Y3.heap.size 0 (recOf f).cells rfl _ Try.underlying30 rfl (by kernel_rfl) N5.out ?_)
                  | (go_at_call 7; refine (tbytes_any (recOf f) _ (recOf_wf f LL.out.2.1)).mono ?_; rintro e Y7 ⟨g7, rfl, _, R7, G7⟩
                     have F7 : Hid (Below w.heap.size w Y7) := F5.out.trans (G7.mono F5.out.size)
                     have B7 : Hid (Arg Y7 (some ⟨g7, 0, none⟩) 128 (recOf f).img) := Arg.of ⟨fun j hj => by rw [Nat.zero_add]; exact R7.1 j hj, fun j _ => ximg_byte _ j, R7.2.2⟩
                     clear R7 G7 N5)
                  | (go_at_call 8; refine (same_any (some ⟨g7, 0, none⟩) (some ⟨b, off, none⟩) 128 128 _ _ (recOf f).img f _ B7.out (Arg.of (LL.out.below F7.out))).mono ?_; rintro e Y8 ⟨rfl, hY8⟩; rw [hY8, decide_eq_true (txtN_congr 128 _ _ (img_recOf f LL.out.2.1))]
                     clear hY8 Y8))
                go_ret
                exact ⟨rfl, F7.out⟩
              · have d' : ¬ (n2 : Int) = 128 := by omega
                go_wp2_with (first
                  | (go_at_call 14; refine (AccountsBytes_long a0 n0 C0 _ (by omega)).mono ?_; rintro e X1 ⟨rfl, K1⟩
                     have E1 : Hid (Below w.heap.size w X1) := BE.out.trans (K1.mono BE.out.size)
                     clear K1)
                  | (go_at_call 20; refine (readAccounts_nil X1).mono ?_; rintro e X2 ⟨b2, rfl, K2⟩
                     have E2 : Hid (Below w.heap.size w X2) := E1.out.trans (K2.mono E1.out.size)
                     clear K2)
                  | (go_at_call 16; refine (TransfersBytes_ok a1 n1 C1 tra _ (H1.out.below E2.out) c1).mono ?_; rintro e X3 ⟨v3, rfl, O3, K3⟩
                     have E3 : Hid (Below w.heap.size w X3) := E2.out.trans (K3.mono E2.out.size)
                     have P3 : Hid (X3.ownsRow X2.heap.size 5 1 v3 (n1 * 128) (batCells tra n1)) := O3
                     clear O3 K3)
                  | (go_at_call 22; refine (ReadTransfers_bat X3 X2.heap.size n1 v3 tra P3.out c1 H1.out.wf).mono ?_; rintro e X4 ⟨p4, q4, rfl, A4, K4⟩
                     have E4 : Hid (Below w.heap.size w X4) := E3.out.trans (K4.mono E3.out.size)
                     have S4 : Hid (RArg X4 p4 n1 tra) := A4
                     clear A4 K4 P3)
                  | (go_at_call 19; refine (sameTransfers_any p4 a1 n1 q4 C1 tra _ S4.out (H1.out.below E4.out) (by omega)).mono ?_; rintro e X5 ⟨rfl, K6⟩
                     have E5 : Hid (Below w.heap.size w X5) := E4.out.trans (K6.mono E4.out.size)
                     clear K6 S4)
                  | (go_at_call 26; refine (readAccount_no a2 n2 C2 _ d).mono ?_; rintro e Y1 ⟨rfl, G1⟩
                     have F1 : Hid (Below w.heap.size w Y1) := E5.out.trans (G1.mono E5.out.size)
                     clear G1)
                  | (refine wpList_store_rec rfl 28 (.tmp 22) _ rfl Y1.heap.size 0 zero19 zero19 rfl rfl (Rec19.new Y1 28 zero19) rfl (by kernel_rfl) zero19_one ?_; intro Y2 R2 G2
                     have F2 : Hid (Below w.heap.size w Y2) := F1.out.trans ((((Below.refl _ Y1).alloc (Nat.le_refl _) (.cells zero19.toArray 28)).trans (G2.below (Nat.le_refl _) (by simp))).mono F1.out.size)
                     clear R2 G2)
                  | (go_at_call 27; refine (readTransfer_no a2 n2 C2 _ d).mono ?_; rintro e Y3 ⟨rfl, G3⟩
                     have F3 : Hid (Below w.heap.size w Y3) := F2.out.trans (G3.mono F2.out.size)
                     clear G3)
                  | (refine wpList_store_rec rfl 30 (.tmp 24) _ rfl Y3.heap.size 0 zero19 zero19 rfl rfl (Rec19.new Y3 30 zero19) rfl (by kernel_rfl) zero19_one ?_; intro Y4 R4 G4
                     have F4 : Hid (Below w.heap.size w Y4) := F3.out.trans ((((Below.refl _ Y3).alloc (Nat.le_refl _) (.cells zero19.toArray 30)).trans (G4.below (Nat.le_refl _) (by simp))).mono F3.out.size)
                     clear R4 G4))
                go_ret
                exact ⟨rfl, F4.out⟩
            · have j1 : ¬ (n1 : Int) ≤ 8 := by omega
              by_cases d : n2 = 128
              · subst d
                obtain ⟨b, off, rfl, L⟩ : ∃ b off, a2 = some ⟨b, off, none⟩ ∧ Lies w b off 128 f := by
                  rcases H2.out with ⟨h, _⟩ | ⟨_, b, off, rfl, L⟩
                  · omega
                  · exact ⟨b, off, rfl, L⟩
                have LL : Hid (Lies w b off 128 f) := L
                clear L
                go_wp2_with (first
                  | (go_at_call 14; refine (AccountsBytes_long a0 n0 C0 _ (by omega)).mono ?_; rintro e X1 ⟨rfl, K1⟩
                     have E1 : Hid (Below w.heap.size w X1) := BE.out.trans (K1.mono BE.out.size)
                     clear K1)
                  | (go_at_call 20; refine (readAccounts_nil X1).mono ?_; rintro e X2 ⟨b2, rfl, K2⟩
                     have E2 : Hid (Below w.heap.size w X2) := E1.out.trans (K2.mono E1.out.size)
                     clear K2)
                  | (go_at_call 16; refine (TransfersBytes_long a1 n1 C1 _ (by omega)).mono ?_; rintro e X3 ⟨rfl, K3⟩
                     have E3 : Hid (Below w.heap.size w X3) := E2.out.trans (K3.mono E2.out.size)
                     clear K3)
                  | (go_at_call 22; refine (readTransfers_nil X3).mono ?_; rintro e X4 ⟨b4, rfl, K4⟩
                     have E4 : Hid (Below w.heap.size w X4) := E3.out.trans (K4.mono E3.out.size)
                     clear K4)
                  | (go_at_call 26; refine (readAccount_ok b off C2 f _ (LL.out.below E4.out) hC).mono ?_; rintro e Y1 ⟨rfl, G1⟩
                     have F1 : Hid (Below w.heap.size w Y1) := E4.out.trans (G1.mono E4.out.size)
                     clear G1)
                  | (refine wpList_store_rec rfl 28 (.tmp 22) _ rfl Y1.heap.size 0 zero19 (recOf f).cells rfl rfl (Rec19.new Y1 28 zero19) rfl (by kernel_rfl) (recOf f).cells_one ?_; intro Y2 R2 G2
                     have F2 : Hid (Below w.heap.size w Y2) := F1.out.trans ((((Below.refl _ Y1).alloc (Nat.le_refl _) (.cells zero19.toArray 28)).trans (G2.below (Nat.le_refl _) (by simp))).mono F1.out.size)
                     have M2 : Hid (Rec19 Y2 Y1.heap.size 0 (recOf f).cells) := R2
                     clear R2 G2)
                  | (go_at_call 27; refine (readTransfer_ok b off C2 f _ (LL.out.below F2.out) hC).mono ?_; rintro e Y3 ⟨rfl, G3⟩
                     have F3 : Hid (Below w.heap.size w Y3) := F2.out.trans (G3.mono F2.out.size)
                     have M3 : Hid (Rec19 Y3 Y1.heap.size 0 (recOf f).cells) := M2.out.below G3
                     clear G3 M2)
                  | (refine wpList_store_rec rfl 30 (.tmp 24) _ rfl Y3.heap.size 0 zero19 (recOf f).cells rfl rfl (Rec19.new Y3 30 zero19) rfl (by kernel_rfl) (recOf f).cells_one ?_; intro Y4 R4 G4
                     have J4 : Below Y3.heap.size Y3 Y4 := ((Below.refl _ Y3).alloc (Nat.le_refl _) (.cells zero19.toArray 30)).trans (G4.below (Nat.le_refl _) (by simp))
                     have F4 : Hid (Below w.heap.size w Y4) := F3.out.trans (J4.mono F3.out.size)
                     have M4 : Hid (Rec19 Y4 Y1.heap.size 0 (recOf f).cells) := M3.out.below J4
                     have N4 : Hid (Rec19 Y4 Y3.heap.size 0 (recOf f).cells) := R4
                     clear R4 G4 J4 M3)
                  | (refine wpList_load_w (by rfl) 28 (.tmp 22) rfl Y1.heap.size 0 (recOf f).cells rfl _ Try.underlying28 rfl (by kernel_rfl) M4.out ?_)
                  | (go_at_call 6; refine (abytes_any (recOf f) _ (recOf_wf f LL.out.2.1)).mono ?_; rintro e Y5 ⟨g5, rfl, _, R5, G5⟩
                     have F5 : Hid (Below w.heap.size w Y5) := F4.out.trans (G5.mono F4.out.size)
                     have N5 : Hid (Rec19 Y5 Y3.heap.size 0 (recOf f).cells) := N4.out.below G5
                     have B5 : Hid (Arg Y5 (some ⟨g5, 0, none⟩) 128 (recOf f).img) := Arg.of ⟨fun j hj => by rw [Nat.zero_add]; exact R5.1 j hj, fun j _ => ximg_byte _ j, R5.2.2⟩
                     clear R5 G5 M4 N4)
                  | (have _q := B5; clear _q; go_at_call 8; refine (same_any (some ⟨g5, 0, none⟩) (some ⟨b, off, none⟩) 128 128 _ _ (recOf f).img f _ B5.out (Arg.of (LL.out.below F5.out))).mono ?_; rintro e Y6 ⟨rfl, hY6⟩; rw [hY6, decide_eq_true (txtN_congr 128 _ _ (img_recOf f LL.out.2.1))]
                     clear hY6 Y6 B5)
                  | (refine wpList_load_w (by rfl) 30 (.tmp 24) rfl Y3.heap.size 0 (recOf f).cells rfl _ Try.underlying30 rfl (by kernel_rfl) N5.out ?_)
                  | (go_at_call 7; refine (tbytes_any (recOf f) _ (recOf_wf f LL.out.2.1)).mono ?_; rintro e Y7 ⟨g7, rfl, _, R7, G7⟩
                     have F7 : Hid (Below w.heap.size w Y7) := F5.out.trans (G7.mono F5.out.size)
                     have B7 : Hid (Arg Y7 (some ⟨g7, 0, none⟩) 128 (recOf f).img) := Arg.of ⟨fun j hj => by rw [Nat.zero_add]; exact R7.1 j hj, fun j _ => ximg_byte _ j, R7.2.2⟩
                     clear R7 G7 N5)
                  | (go_at_call 8; refine (same_any (some ⟨g7, 0, none⟩) (some ⟨b, off, none⟩) 128 128 _ _ (recOf f).img f _ B7.out (Arg.of (LL.out.below F7.out))).mono ?_; rintro e Y8 ⟨rfl, hY8⟩; rw [hY8, decide_eq_true (txtN_congr 128 _ _ (img_recOf f LL.out.2.1))]
                     clear hY8 Y8))
                go_ret
                exact ⟨rfl, F7.out⟩
              · have d' : ¬ (n2 : Int) = 128 := by omega
                go_wp2_with (first
                  | (go_at_call 14; refine (AccountsBytes_long a0 n0 C0 _ (by omega)).mono ?_; rintro e X1 ⟨rfl, K1⟩
                     have E1 : Hid (Below w.heap.size w X1) := BE.out.trans (K1.mono BE.out.size)
                     clear K1)
                  | (go_at_call 20; refine (readAccounts_nil X1).mono ?_; rintro e X2 ⟨b2, rfl, K2⟩
                     have E2 : Hid (Below w.heap.size w X2) := E1.out.trans (K2.mono E1.out.size)
                     clear K2)
                  | (go_at_call 16; refine (TransfersBytes_long a1 n1 C1 _ (by omega)).mono ?_; rintro e X3 ⟨rfl, K3⟩
                     have E3 : Hid (Below w.heap.size w X3) := E2.out.trans (K3.mono E2.out.size)
                     clear K3)
                  | (go_at_call 22; refine (readTransfers_nil X3).mono ?_; rintro e X4 ⟨b4, rfl, K4⟩
                     have E4 : Hid (Below w.heap.size w X4) := E3.out.trans (K4.mono E3.out.size)
                     clear K4)
                  | (go_at_call 26; refine (readAccount_no a2 n2 C2 _ d).mono ?_; rintro e Y1 ⟨rfl, G1⟩
                     have F1 : Hid (Below w.heap.size w Y1) := E4.out.trans (G1.mono E4.out.size)
                     clear G1)
                  | (refine wpList_store_rec rfl 28 (.tmp 22) _ rfl Y1.heap.size 0 zero19 zero19 rfl rfl (Rec19.new Y1 28 zero19) rfl (by kernel_rfl) zero19_one ?_; intro Y2 R2 G2
                     have F2 : Hid (Below w.heap.size w Y2) := F1.out.trans ((((Below.refl _ Y1).alloc (Nat.le_refl _) (.cells zero19.toArray 28)).trans (G2.below (Nat.le_refl _) (by simp))).mono F1.out.size)
                     clear R2 G2)
                  | (go_at_call 27; refine (readTransfer_no a2 n2 C2 _ d).mono ?_; rintro e Y3 ⟨rfl, G3⟩
                     have F3 : Hid (Below w.heap.size w Y3) := F2.out.trans (G3.mono F2.out.size)
                     clear G3)
                  | (refine wpList_store_rec rfl 30 (.tmp 24) _ rfl Y3.heap.size 0 zero19 zero19 rfl rfl (Rec19.new Y3 30 zero19) rfl (by kernel_rfl) zero19_one ?_; intro Y4 R4 G4
                     have F4 : Hid (Below w.heap.size w Y4) := F3.out.trans ((((Below.refl _ Y3).alloc (Nat.le_refl _) (.cells zero19.toArray 30)).trans (G4.below (Nat.le_refl _) (by simp))).mono F3.out.size)
                     clear R4 G4))
                go_ret
                exact ⟨rfl, F4.out⟩
end Go.Proofs.Ytlcnhmlcmedonaa
