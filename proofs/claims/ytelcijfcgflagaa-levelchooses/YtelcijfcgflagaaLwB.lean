
/-
  Laws for the walk, not a claim by itself: what take keeps. By the verifier.
-/
import Derived.Test.YtelcijfcgflagaaLwA
namespace Go.Proofs.Ytelcijfcgflagaa
open Go.RowKit
theorem half_int (lo hi : Nat) (h : lo < hi) (hn : hi ≤ 1000000) : ∃ m : Nat, wrap64 ((lo : Int) + (hi : Int)) = (lo : Int) + (hi : Int) ∧ IntKind.u64.wrap ((lo : Int) + (hi : Int)) = (lo : Int) + (hi : Int) ∧ wrap64 (((lo : Int) + (hi : Int)) / 2) = (m : Int) ∧ wrap64 ((m : Int) + 1) = (m : Int) + 1 ∧ lo ≤ m ∧ m < hi :=
  ⟨(lo + hi) / 2, by unfold wrap64; omega, by rw [IntKind.wrap_u64]; omega, by unfold wrap64; omega, by unfold wrap64; omega, by omega, by omega⟩
theorem meas_go (lo m hi : Nat) (z : Int) (hz : z = (m : Int) + 1) (h : lo ≤ m) (k : m < hi) : (RowKit.intOf (.int .i64 (hi : Int)) - RowKit.intOf (.int .i64 z)).toNat < (RowKit.intOf (.int .i64 (hi : Int)) - RowKit.intOf (.int .i64 (lo : Int))).toNat := by
  simp only [RowKit.intOf]
  omega
theorem meas_lo (lo m hi : Nat) (h : lo ≤ m) (k : m < hi) : ((hi : Int) - ((m : Int) + 1)).toNat < ((hi : Int) - (lo : Int)).toNat := by omega
theorem meas_hi (lo m hi : Nat) (h : lo ≤ m) (k : m < hi) : ((m : Int) - (lo : Int)).toNat < ((hi : Int) - (lo : Int)).toNat := by omega
/-- What holds at the head of the search's loop. -/
def srR (W : World) (P : Nat → Bool) (n : Nat) (i j : Value) (wr : World) : Prop := ∃ lo hi : Nat, i = .int .i64 (lo : Int) ∧ j = .int .i64 (hi : Int) ∧ lo ≤ hi ∧ hi ≤ n ∧ Below W.heap.size W wr ∧ (∀ k, k < lo → P k = false) ∧ (∀ k, hi ≤ k → k < n → P k = true)
theorem sr_go (W w1 : World) (P : Nat → Bool) (n m hi : Nat) (z : Int) (hz : z = (m : Int) + 1) (hm : m < hi) (hn : hi ≤ n) (hB : Below W.heap.size W w1) (h1 : ∀ k, k < m + 1 → P k = false) (h2 : ∀ k, hi ≤ k → k < n → P k = true) : srR W P n (.int .i64 z) (.int .i64 (hi : Int)) w1 :=
  ⟨m + 1, hi, by rw [hz]; rfl, rfl, hm, hn, hB, h1, h2⟩
theorem sr_low {P : Nat → Bool} {n m : Nat} (hP : ∀ a b, a < b → b < n → P a = true → P b = true) (hm : m < n) (h : P m = false) : ∀ k, k < m + 1 → P k = false := fun k hk => by
  by_cases e : k = m
  · rw [e]; exact h
  · cases q : P k with
    | false => rfl
    | true => rw [hP k m (by omega) hm q] at h; cases h
theorem sr_high {P : Nat → Bool} {n m : Nat} (hP : ∀ a b, a < b → b < n → P a = true → P b = true) (h : P m = true) : ∀ k, m ≤ k → k < n → P k = true := fun k hk hn => by
  by_cases e : k = m
  · rw [e]; exact h
  · exact hP m k (by omega) hn h
/-- What Search answers: the first place from which on P holds. -/
def SrP (W : World) (P : Nat → Bool) (n : Nat) (e : Ending) (w' : World) : Prop := Below W.heap.size W w' ∧ ∃ k, k ≤ n ∧ e = .returned (.int .i64 (k : Int)) ∧ (∀ i, i < k → P i = false) ∧ (∀ i, k ≤ i → i < n → P i = true)
set_option maxRecDepth 100000 in
set_option maxHeartbeats 1000000 in
theorem search_m1 (W : World) (P : Nat → Bool) (n : Nat) (p q : Value) (hn : n ≤ 1000000) (hP : ∀ a b, a < b → b < n → P a = true → P b = true) (hf : ∀ h u, h < n → Below W.heap.size W u → Calls Try.prog 83 #[.int .i64 ((h : Nat) : Int), p, q] u fun e w' => e = .returned (.bool (P h)) ∧ Below u.heap.size u w') :
    Calls Try.prog 82 #[.int .i64 (n : Int), .func (.func 83) #[] #[p, q]] W (SrP W P n) := by
  have HP := hidIt hP
  have HF := hidIt hf
  have HN := hidIt hn
  have st : Hid (srR W P n (.int .i64 0) (.int .i64 (n : Int)) W) := ⟨0, n, rfl, rfl, Nat.zero_le _, Nat.le_refl _, Below.refl _ _, fun k hk => by omega, fun k h1 h2 => by omega⟩
  clear hP hf hn
  go_enter Try.func82, Try.ntmps82
  go_wp2_with fail
  go_loopw [5, 6] (fun i j wr => srR W P n i j wr) (fun i j _ => ((RowKit.intOf j) - (RowKit.intOf i)).toNat)
  case atStart => exact st.out
  case round =>
    clear st
    obtain ⟨lo, hi, rfl, rfl, hlh, hhn, hB, h1, h2⟩ := hrel
    have BB := hidIt hB
    have H1 := hidIt h1
    have H2 := hidIt h2
    clear hB h1 h2
    by_cases hlt : lo < hi
    · obtain ⟨m, em1, em2, em3, em4, m1, m2⟩ := half_int lo hi hlt (by have := HN.out; omega)
      have CM := hidIt (HF.out m wr (by omega) BB.out)
      have X := hidIt (And.intro m1 m2)
      have i0 : (lo : Int) < hi := Int.ofNat_lt.2 hlt
      have Y := hidIt (And.intro hlh hhn)
      clear m1 m2 hlh hhn hlt
      cases hc : P m with
      | false =>
        have HC := hidIt hc
        rw [hc] at CM
        clear hc
        as_aux_lemma =>
        go_wp2_with (first
          | (go_at_call 83; refine CM.out.mono ?_; rintro e w1 ⟨rfl, hb⟩; have B1 := hidIt (BB.out.trans (hb.mono BB.out.size)); clear hb))
        obtain ⟨m1, m2⟩ := X.out
        exact ⟨sr_go W w1 P n m hi _ em4 m2 Y.out.2 B1.out (sr_low HP.out (by have := Y.out.2; omega) HC.out) H2.out, meas_go lo m hi _ em4 m1 m2⟩
      | true =>
        have HC := hidIt hc
        rw [hc] at CM
        clear hc
        as_aux_lemma =>
        go_wp2_with (first
          | (go_at_call 83; refine CM.out.mono ?_; rintro e w1 ⟨rfl, hb⟩; have B1 := hidIt (BB.out.trans (hb.mono BB.out.size)); clear hb))
        obtain ⟨m1, m2⟩ := X.out
        refine ⟨⟨lo, m, rfl, rfl, m1, by have := Y.out.2; omega, B1.out, H1.out, sr_high HP.out HC.out⟩, ?_⟩
        simp only [RowKit.intOf]
        exact meas_hi lo m hi m1 m2
    · obtain rfl : lo = hi := by omega
      have FIN : Hid (SrP W P n (.returned (.int .i64 (lo : Int))) wr) := ⟨BB.out, lo, hhn, rfl, H1.out, H2.out⟩
      have i0 : ((lo : Int) < (lo : Int)) = False := eq_false (by omega)
      clear hlt hlh hhn H1 H2
      as_aux_lemma =>
      go_wp2_with fail
      exact bodyPost_ret (v := .int .i64 (lo : Int)) (by simp [results, Try.results82, go_sem]) rfl FIN.out
set_option maxRecDepth 100000 in
set_option maxHeartbeats 1000000 in
theorem search_m2 (W : World) (P : Nat → Bool) (n : Nat) (p q : Value) (hn : n ≤ 1000000) (hP : ∀ a b, a < b → b < n → P a = true → P b = true) (hf : ∀ h u, h < n → Below W.heap.size W u → Calls Try.prog 84 #[.int .i64 ((h : Nat) : Int), p, q] u fun e w' => e = .returned (.bool (P h)) ∧ Below u.heap.size u w') :
    Calls Try.prog 82 #[.int .i64 (n : Int), .func (.func 84) #[] #[p, q]] W (SrP W P n) := by
  have HP := hidIt hP
  have HF := hidIt hf
  have HN := hidIt hn
  have st : Hid (srR W P n (.int .i64 0) (.int .i64 (n : Int)) W) := ⟨0, n, rfl, rfl, Nat.zero_le _, Nat.le_refl _, Below.refl _ _, fun k hk => by omega, fun k h1 h2 => by omega⟩
  clear hP hf hn
  go_enter Try.func82, Try.ntmps82
  go_wp2_with fail
  go_loopw [5, 6] (fun i j wr => srR W P n i j wr) (fun i j _ => ((RowKit.intOf j) - (RowKit.intOf i)).toNat)
  case atStart => exact st.out
  case round =>
    clear st
    obtain ⟨lo, hi, rfl, rfl, hlh, hhn, hB, h1, h2⟩ := hrel
    have BB := hidIt hB
    have H1 := hidIt h1
    have H2 := hidIt h2
    clear hB h1 h2
    by_cases hlt : lo < hi
    · obtain ⟨m, em1, em2, em3, em4, m1, m2⟩ := half_int lo hi hlt (by have := HN.out; omega)
      have CM := hidIt (HF.out m wr (by omega) BB.out)
      have X := hidIt (And.intro m1 m2)
      have i0 : (lo : Int) < hi := Int.ofNat_lt.2 hlt
      have Y := hidIt (And.intro hlh hhn)
      clear m1 m2 hlh hhn hlt
      cases hc : P m with
      | false =>
        have HC := hidIt hc
        rw [hc] at CM
        clear hc
        as_aux_lemma =>
        go_wp2_with (first
          | (go_at_call 84; refine CM.out.mono ?_; rintro e w1 ⟨rfl, hb⟩; have B1 := hidIt (BB.out.trans (hb.mono BB.out.size)); clear hb))
        obtain ⟨m1, m2⟩ := X.out
        exact ⟨sr_go W w1 P n m hi _ em4 m2 Y.out.2 B1.out (sr_low HP.out (by have := Y.out.2; omega) HC.out) H2.out, meas_go lo m hi _ em4 m1 m2⟩
      | true =>
        have HC := hidIt hc
        rw [hc] at CM
        clear hc
        as_aux_lemma =>
        go_wp2_with (first
          | (go_at_call 84; refine CM.out.mono ?_; rintro e w1 ⟨rfl, hb⟩; have B1 := hidIt (BB.out.trans (hb.mono BB.out.size)); clear hb))
        obtain ⟨m1, m2⟩ := X.out
        refine ⟨⟨lo, m, rfl, rfl, m1, by have := Y.out.2; omega, B1.out, H1.out, sr_high HP.out HC.out⟩, ?_⟩
        simp only [RowKit.intOf]
        exact meas_hi lo m hi m1 m2
    · obtain rfl : lo = hi := by omega
      have FIN : Hid (SrP W P n (.returned (.int .i64 (lo : Int))) wr) := ⟨BB.out, lo, hhn, rfl, H1.out, H2.out⟩
      have i0 : ((lo : Int) < (lo : Int)) = False := eq_false (by omega)
      clear hlt hlh hhn H1 H2
      as_aux_lemma =>
      go_wp2_with fail
      exact bodyPost_ret (v := .int .i64 (lo : Int)) (by simp [results, Try.results82, go_sem]) rfl FIN.out
end Go.Proofs.Ytelcijfcgflagaa
namespace Go.Proofs.Ytelcijfcgflagaa
open Go.RowKit
attribute [-go_sem] Builtin.append_
set_option maxRecDepth 100000 in
set_option maxHeartbeats 1000000 in
theorem meet1_any {u : World} {a : Option Addr} {ps : List RV} {n C h b3 b4 : Nat} {N : List Nat} {kv : Value} {t : ByteArray} {y : RV} (hn : ps.length = n) (hL : LsR u a ps) (hy : ps[h]? = some y) (hf : n ≤ 100000) (c3 : u.cell? ⟨b3, 0, none⟩ = some (.slice a n C)) (c4 : u.cell? ⟨b4, 0, none⟩ = some kv) (hk : Txt u N kv t) : Calls Try.prog 83 #[.int .i64 (h : Int), .pointer (some ⟨b3, 0, none⟩), .pointer (some ⟨b4, 0, none⟩)] u fun e w' => e = .returned (.bool (decide (0 ≤ cmpB y.r.l t))) ∧ Below u.heap.size u w' := by
  obtain ⟨b, o, ha, hr, hb⟩ := hL.at h y hy
  subst ha
  have OY := hidIt (hL.1 y (List.mem_of_getElem? hy))
  have HK := hidIt hk
  have hh : h < n := by have := (List.getElem?_eq_some_iff.1 hy).1; omega
  obtain ⟨i0, i1, _⟩ := tb_ar h n hh hf
  have cy : u.cell? ⟨b, o + h * 5 + 4, none⟩ = some y.l := (five_cells hr).2.2.2.2
  have BD := hidIt (Below.refl u.heap.size u).drew
  clear hn hL hy hf hk hr hb hh
  cases hc : decide (0 ≤ cmpB y.r.l t) with
  | false =>
    have q : (0 ≤ cmpB y.r.l t) = False := eq_false (by simpa using hc)
    clear hc
    go_enter Try.func83, Try.ntmps83
    go_wp2_with fail
    refine wp_region_noPanic ?_
    refine wp_region_held_drew (S := fun w' => w'.cell? ⟨b3, 0, none⟩ = some (.slice (some ⟨b, o, none⟩) n C) ∧ w'.cell? ⟨b, o + h * 5 + 4, none⟩ = some y.l ∧ w'.cell? ⟨b4, 0, none⟩ = some kv) (by kernel_rfl) ?_ (fun hHeld => ?_)
    · exact ⟨c3, cy, c4⟩
    refine take_at (i := 0) (v := ?_) (some 5) rfl rfl (by kernel_rfl) (by kernel_rfl) (by kernel_rfl) (fun _ _ _ h => h) (Or.inl ⟨by rfl, ?_⟩) (by assumption) ?_
    rotate_left
    · (intro w hSw; (try dsimp only at hSw); go_simp; try with_reducible rfl)
    simp only [Act.put, List.setIfInBounds_toArray, List.set_cons_zero, List.set_cons_succ]
    refine take_at (i := 1) (v := ?_) (some 6) rfl rfl (by kernel_rfl) (by kernel_rfl) (by kernel_rfl) (fun _ _ _ h => h) (Or.inl ⟨by rfl, ?_⟩) (by assumption) ?_
    rotate_left
    · (intro w hSw; (try dsimp only at hSw); go_simp; try with_reducible rfl)
    simp only [Act.put, List.setIfInBounds_toArray, List.set_cons_zero, List.set_cons_succ]
    refine take_at (i := 2) (v := ?_) (some 7) rfl rfl (by kernel_rfl) (by kernel_rfl) (by kernel_rfl) (fun _ _ _ h => h) (Or.inl ⟨by rfl, ?_⟩) (by assumption) ?_
    rotate_left
    · (intro w hSw; (try dsimp only at hSw); go_simp; try with_reducible rfl)
    simp only [Act.put, List.setIfInBounds_toArray, List.set_cons_zero, List.set_cons_succ]
    refine take_at (i := 3) (v := ?_) (some 8) rfl rfl (by kernel_rfl) (by kernel_rfl) (by kernel_rfl) (fun _ _ _ h => h) (Or.inl ⟨by rfl, ?_⟩) (by assumption) ?_
    rotate_left
    · (intro w hSw; (try dsimp only at hSw); go_simp; try with_reducible rfl)
    simp only [Act.put, List.setIfInBounds_toArray, List.set_cons_zero, List.set_cons_succ]
    refine take_at (i := 4) (v := ?_) (some 9) rfl rfl (by kernel_rfl) (by kernel_rfl) (by kernel_rfl) (fun _ _ _ h => h) (Or.inl ⟨by rfl, ?_⟩) (by assumption) ?_
    rotate_left
    · (intro w hSw; (try dsimp only at hSw); go_simp; try with_reducible rfl)
    simp only [Act.put, List.setIfInBounds_toArray, List.set_cons_zero, List.set_cons_succ]
    refine take_at (i := 5) (v := ?_) (some 10) rfl rfl (by kernel_rfl) (by kernel_rfl) (by kernel_rfl) (fun _ _ _ h => h) (Or.inl ⟨by rfl, ?_⟩) (by assumption) ?_
    rotate_left
    · (intro w hSw; (try dsimp only at hSw); go_simp; try with_reducible rfl)
    simp only [Act.put, List.setIfInBounds_toArray, List.set_cons_zero, List.set_cons_succ]
    refine call_at (i := 6) (some 11) 35 _ _ rfl rfl rfl (by rfl) (by kernel_rfl) #[y.l, kv] rfl Try.func35 (by kernel_rfl) (by kernel_rfl) ?_
    refine (ycmp_any (OY.out.2.below BD.out) (HK.out.below BD.out)).mono ?_
    rintro e W2 ⟨rfl, hw⟩
    subst hw
    refine ⟨_, rfl, ⟨c3, cy, c4⟩, fun hHeld => ?_⟩
    simp only [Act.put, List.setIfInBounds_toArray, List.set_cons_zero, List.set_cons_succ]
    refine take_at (i := 7) (v := ?_) (some 12) rfl rfl (by kernel_rfl) (by kernel_rfl) (by kernel_rfl) (fun _ _ _ h => h) (Or.inl ⟨by rfl, ?_⟩) (by assumption) ?_
    rotate_left
    · (intro w hSw; (try dsimp only at hSw); go_simp; try with_reducible rfl)
    simp only [Act.put, List.setIfInBounds_toArray, List.set_cons_zero, List.set_cons_succ]
    refine take_at (i := 8) (v := ?_) (some 4) rfl rfl (by kernel_rfl) (by kernel_rfl) (by kernel_rfl) (fun _ _ _ h => h) (Or.inl ⟨by rfl, ?_⟩) (by assumption) ?_
    rotate_left
    · (intro w hSw; (try dsimp only at hSw); go_simp; try with_reducible rfl)
    simp only [Act.put, List.setIfInBounds_toArray, List.set_cons_zero, List.set_cons_succ]
    refine wpAnyH_done (by kernel_rfl) ?_ _
    refine NoPanic.normal ?_
    go_wp2_with fail
    exact bodyPost_ret (v := .bool false) (by simp [results, Try.results83, go_sem]) rfl ⟨rfl, BD.out⟩
  | true =>
    have q : (0 ≤ cmpB y.r.l t) = True := eq_true (by simpa using hc)
    clear hc
    go_enter Try.func83, Try.ntmps83
    go_wp2_with fail
    refine wp_region_noPanic ?_
    refine wp_region_held_drew (S := fun w' => w'.cell? ⟨b3, 0, none⟩ = some (.slice (some ⟨b, o, none⟩) n C) ∧ w'.cell? ⟨b, o + h * 5 + 4, none⟩ = some y.l ∧ w'.cell? ⟨b4, 0, none⟩ = some kv) (by kernel_rfl) ?_ (fun hHeld => ?_)
    · exact ⟨c3, cy, c4⟩
    refine take_at (i := 0) (v := ?_) (some 5) rfl rfl (by kernel_rfl) (by kernel_rfl) (by kernel_rfl) (fun _ _ _ h => h) (Or.inl ⟨by rfl, ?_⟩) (by assumption) ?_
    rotate_left
    · (intro w hSw; (try dsimp only at hSw); go_simp; try with_reducible rfl)
    simp only [Act.put, List.setIfInBounds_toArray, List.set_cons_zero, List.set_cons_succ]
    refine take_at (i := 1) (v := ?_) (some 6) rfl rfl (by kernel_rfl) (by kernel_rfl) (by kernel_rfl) (fun _ _ _ h => h) (Or.inl ⟨by rfl, ?_⟩) (by assumption) ?_
    rotate_left
    · (intro w hSw; (try dsimp only at hSw); go_simp; try with_reducible rfl)
    simp only [Act.put, List.setIfInBounds_toArray, List.set_cons_zero, List.set_cons_succ]
    refine take_at (i := 2) (v := ?_) (some 7) rfl rfl (by kernel_rfl) (by kernel_rfl) (by kernel_rfl) (fun _ _ _ h => h) (Or.inl ⟨by rfl, ?_⟩) (by assumption) ?_
    rotate_left
    · (intro w hSw; (try dsimp only at hSw); go_simp; try with_reducible rfl)
    simp only [Act.put, List.setIfInBounds_toArray, List.set_cons_zero, List.set_cons_succ]
    refine take_at (i := 3) (v := ?_) (some 8) rfl rfl (by kernel_rfl) (by kernel_rfl) (by kernel_rfl) (fun _ _ _ h => h) (Or.inl ⟨by rfl, ?_⟩) (by assumption) ?_
    rotate_left
    · (intro w hSw; (try dsimp only at hSw); go_simp; try with_reducible rfl)
    simp only [Act.put, List.setIfInBounds_toArray, List.set_cons_zero, List.set_cons_succ]
    refine take_at (i := 4) (v := ?_) (some 9) rfl rfl (by kernel_rfl) (by kernel_rfl) (by kernel_rfl) (fun _ _ _ h => h) (Or.inl ⟨by rfl, ?_⟩) (by assumption) ?_
    rotate_left
    · (intro w hSw; (try dsimp only at hSw); go_simp; try with_reducible rfl)
    simp only [Act.put, List.setIfInBounds_toArray, List.set_cons_zero, List.set_cons_succ]
    refine take_at (i := 5) (v := ?_) (some 10) rfl rfl (by kernel_rfl) (by kernel_rfl) (by kernel_rfl) (fun _ _ _ h => h) (Or.inl ⟨by rfl, ?_⟩) (by assumption) ?_
    rotate_left
    · (intro w hSw; (try dsimp only at hSw); go_simp; try with_reducible rfl)
    simp only [Act.put, List.setIfInBounds_toArray, List.set_cons_zero, List.set_cons_succ]
    refine call_at (i := 6) (some 11) 35 _ _ rfl rfl rfl (by rfl) (by kernel_rfl) #[y.l, kv] rfl Try.func35 (by kernel_rfl) (by kernel_rfl) ?_
    refine (ycmp_any (OY.out.2.below BD.out) (HK.out.below BD.out)).mono ?_
    rintro e W2 ⟨rfl, hw⟩
    subst hw
    refine ⟨_, rfl, ⟨c3, cy, c4⟩, fun hHeld => ?_⟩
    simp only [Act.put, List.setIfInBounds_toArray, List.set_cons_zero, List.set_cons_succ]
    refine take_at (i := 7) (v := ?_) (some 12) rfl rfl (by kernel_rfl) (by kernel_rfl) (by kernel_rfl) (fun _ _ _ h => h) (Or.inl ⟨by rfl, ?_⟩) (by assumption) ?_
    rotate_left
    · (intro w hSw; (try dsimp only at hSw); go_simp; try with_reducible rfl)
    simp only [Act.put, List.setIfInBounds_toArray, List.set_cons_zero, List.set_cons_succ]
    refine take_at (i := 8) (v := ?_) (some 4) rfl rfl (by kernel_rfl) (by kernel_rfl) (by kernel_rfl) (fun _ _ _ h => h) (Or.inl ⟨by rfl, ?_⟩) (by assumption) ?_
    rotate_left
    · (intro w hSw; (try dsimp only at hSw); go_simp; try with_reducible rfl)
    simp only [Act.put, List.setIfInBounds_toArray, List.set_cons_zero, List.set_cons_succ]
    refine wpAnyH_done (by kernel_rfl) ?_ _
    refine NoPanic.normal ?_
    go_wp2_with fail
    exact bodyPost_ret (v := .bool true) (by simp [results, Try.results83, go_sem]) rfl ⟨rfl, BD.out⟩
set_option maxRecDepth 100000 in
set_option maxHeartbeats 1000000 in
theorem meet2_any {u : World} {a : Option Addr} {ps : List RV} {n C h b3 b4 : Nat} {N : List Nat} {kv : Value} {t : ByteArray} {y : RV} (hn : ps.length = n) (hL : LsR u a ps) (hy : ps[h]? = some y) (hf : n ≤ 100000) (c3 : u.cell? ⟨b3, 0, none⟩ = some (.slice a n C)) (c4 : u.cell? ⟨b4, 0, none⟩ = some kv) (hk : Txt u N kv t) : Calls Try.prog 84 #[.int .i64 (h : Int), .pointer (some ⟨b3, 0, none⟩), .pointer (some ⟨b4, 0, none⟩)] u fun e w' => e = .returned (.bool (decide (0 < cmpB y.r.f t))) ∧ Below u.heap.size u w' := by
  obtain ⟨b, o, ha, hr, hb⟩ := hL.at h y hy
  subst ha
  have OY := hidIt (hL.1 y (List.mem_of_getElem? hy))
  have HK := hidIt hk
  have hh : h < n := by have := (List.getElem?_eq_some_iff.1 hy).1; omega
  obtain ⟨i0, i1, _⟩ := tb_ar h n hh hf
  have cy : u.cell? ⟨b, o + h * 5 + 3, none⟩ = some y.f := (five_cells hr).2.2.2.1
  have BD := hidIt (Below.refl u.heap.size u).drew
  clear hn hL hy hf hk hr hb hh
  cases hc : decide (0 < cmpB y.r.f t) with
  | false =>
    have q : (0 < cmpB y.r.f t) = False := eq_false (by simpa using hc)
    clear hc
    go_enter Try.func84, Try.ntmps84
    go_wp2_with fail
    refine wp_region_noPanic ?_
    refine wp_region_held_drew (S := fun w' => w'.cell? ⟨b3, 0, none⟩ = some (.slice (some ⟨b, o, none⟩) n C) ∧ w'.cell? ⟨b, o + h * 5 + 3, none⟩ = some y.f ∧ w'.cell? ⟨b4, 0, none⟩ = some kv) (by kernel_rfl) ?_ (fun hHeld => ?_)
    · exact ⟨c3, cy, c4⟩
    refine take_at (i := 0) (v := ?_) (some 5) rfl rfl (by kernel_rfl) (by kernel_rfl) (by kernel_rfl) (fun _ _ _ h => h) (Or.inl ⟨by rfl, ?_⟩) (by assumption) ?_
    rotate_left
    · (intro w hSw; (try dsimp only at hSw); go_simp; try with_reducible rfl)
    simp only [Act.put, List.setIfInBounds_toArray, List.set_cons_zero, List.set_cons_succ]
    refine take_at (i := 1) (v := ?_) (some 6) rfl rfl (by kernel_rfl) (by kernel_rfl) (by kernel_rfl) (fun _ _ _ h => h) (Or.inl ⟨by rfl, ?_⟩) (by assumption) ?_
    rotate_left
    · (intro w hSw; (try dsimp only at hSw); go_simp; try with_reducible rfl)
    simp only [Act.put, List.setIfInBounds_toArray, List.set_cons_zero, List.set_cons_succ]
    refine take_at (i := 2) (v := ?_) (some 7) rfl rfl (by kernel_rfl) (by kernel_rfl) (by kernel_rfl) (fun _ _ _ h => h) (Or.inl ⟨by rfl, ?_⟩) (by assumption) ?_
    rotate_left
    · (intro w hSw; (try dsimp only at hSw); go_simp; try with_reducible rfl)
    simp only [Act.put, List.setIfInBounds_toArray, List.set_cons_zero, List.set_cons_succ]
    refine take_at (i := 3) (v := ?_) (some 8) rfl rfl (by kernel_rfl) (by kernel_rfl) (by kernel_rfl) (fun _ _ _ h => h) (Or.inl ⟨by rfl, ?_⟩) (by assumption) ?_
    rotate_left
    · (intro w hSw; (try dsimp only at hSw); go_simp; try with_reducible rfl)
    simp only [Act.put, List.setIfInBounds_toArray, List.set_cons_zero, List.set_cons_succ]
    refine take_at (i := 4) (v := ?_) (some 9) rfl rfl (by kernel_rfl) (by kernel_rfl) (by kernel_rfl) (fun _ _ _ h => h) (Or.inl ⟨by rfl, ?_⟩) (by assumption) ?_
    rotate_left
    · (intro w hSw; (try dsimp only at hSw); go_simp; try with_reducible rfl)
    simp only [Act.put, List.setIfInBounds_toArray, List.set_cons_zero, List.set_cons_succ]
    refine take_at (i := 5) (v := ?_) (some 10) rfl rfl (by kernel_rfl) (by kernel_rfl) (by kernel_rfl) (fun _ _ _ h => h) (Or.inl ⟨by rfl, ?_⟩) (by assumption) ?_
    rotate_left
    · (intro w hSw; (try dsimp only at hSw); go_simp; try with_reducible rfl)
    simp only [Act.put, List.setIfInBounds_toArray, List.set_cons_zero, List.set_cons_succ]
    refine call_at (i := 6) (some 11) 35 _ _ rfl rfl rfl (by rfl) (by kernel_rfl) #[y.f, kv] rfl Try.func35 (by kernel_rfl) (by kernel_rfl) ?_
    refine (ycmp_any (OY.out.1.below BD.out) (HK.out.below BD.out)).mono ?_
    rintro e W2 ⟨rfl, hw⟩
    subst hw
    refine ⟨_, rfl, ⟨c3, cy, c4⟩, fun hHeld => ?_⟩
    simp only [Act.put, List.setIfInBounds_toArray, List.set_cons_zero, List.set_cons_succ]
    refine take_at (i := 7) (v := ?_) (some 12) rfl rfl (by kernel_rfl) (by kernel_rfl) (by kernel_rfl) (fun _ _ _ h => h) (Or.inl ⟨by rfl, ?_⟩) (by assumption) ?_
    rotate_left
    · (intro w hSw; (try dsimp only at hSw); go_simp; try with_reducible rfl)
    simp only [Act.put, List.setIfInBounds_toArray, List.set_cons_zero, List.set_cons_succ]
    refine take_at (i := 8) (v := ?_) (some 4) rfl rfl (by kernel_rfl) (by kernel_rfl) (by kernel_rfl) (fun _ _ _ h => h) (Or.inl ⟨by rfl, ?_⟩) (by assumption) ?_
    rotate_left
    · (intro w hSw; (try dsimp only at hSw); go_simp; try with_reducible rfl)
    simp only [Act.put, List.setIfInBounds_toArray, List.set_cons_zero, List.set_cons_succ]
    refine wpAnyH_done (by kernel_rfl) ?_ _
    refine NoPanic.normal ?_
    go_wp2_with fail
    exact bodyPost_ret (v := .bool false) (by simp [results, Try.results84, go_sem]) rfl ⟨rfl, BD.out⟩
  | true =>
    have q : (0 < cmpB y.r.f t) = True := eq_true (by simpa using hc)
    clear hc
    go_enter Try.func84, Try.ntmps84
    go_wp2_with fail
    refine wp_region_noPanic ?_
    refine wp_region_held_drew (S := fun w' => w'.cell? ⟨b3, 0, none⟩ = some (.slice (some ⟨b, o, none⟩) n C) ∧ w'.cell? ⟨b, o + h * 5 + 3, none⟩ = some y.f ∧ w'.cell? ⟨b4, 0, none⟩ = some kv) (by kernel_rfl) ?_ (fun hHeld => ?_)
    · exact ⟨c3, cy, c4⟩
    refine take_at (i := 0) (v := ?_) (some 5) rfl rfl (by kernel_rfl) (by kernel_rfl) (by kernel_rfl) (fun _ _ _ h => h) (Or.inl ⟨by rfl, ?_⟩) (by assumption) ?_
    rotate_left
    · (intro w hSw; (try dsimp only at hSw); go_simp; try with_reducible rfl)
    simp only [Act.put, List.setIfInBounds_toArray, List.set_cons_zero, List.set_cons_succ]
    refine take_at (i := 1) (v := ?_) (some 6) rfl rfl (by kernel_rfl) (by kernel_rfl) (by kernel_rfl) (fun _ _ _ h => h) (Or.inl ⟨by rfl, ?_⟩) (by assumption) ?_
    rotate_left
    · (intro w hSw; (try dsimp only at hSw); go_simp; try with_reducible rfl)
    simp only [Act.put, List.setIfInBounds_toArray, List.set_cons_zero, List.set_cons_succ]
    refine take_at (i := 2) (v := ?_) (some 7) rfl rfl (by kernel_rfl) (by kernel_rfl) (by kernel_rfl) (fun _ _ _ h => h) (Or.inl ⟨by rfl, ?_⟩) (by assumption) ?_
    rotate_left
    · (intro w hSw; (try dsimp only at hSw); go_simp; try with_reducible rfl)
    simp only [Act.put, List.setIfInBounds_toArray, List.set_cons_zero, List.set_cons_succ]
    refine take_at (i := 3) (v := ?_) (some 8) rfl rfl (by kernel_rfl) (by kernel_rfl) (by kernel_rfl) (fun _ _ _ h => h) (Or.inl ⟨by rfl, ?_⟩) (by assumption) ?_
    rotate_left
    · (intro w hSw; (try dsimp only at hSw); go_simp; try with_reducible rfl)
    simp only [Act.put, List.setIfInBounds_toArray, List.set_cons_zero, List.set_cons_succ]
    refine take_at (i := 4) (v := ?_) (some 9) rfl rfl (by kernel_rfl) (by kernel_rfl) (by kernel_rfl) (fun _ _ _ h => h) (Or.inl ⟨by rfl, ?_⟩) (by assumption) ?_
    rotate_left
    · (intro w hSw; (try dsimp only at hSw); go_simp; try with_reducible rfl)
    simp only [Act.put, List.setIfInBounds_toArray, List.set_cons_zero, List.set_cons_succ]
    refine take_at (i := 5) (v := ?_) (some 10) rfl rfl (by kernel_rfl) (by kernel_rfl) (by kernel_rfl) (fun _ _ _ h => h) (Or.inl ⟨by rfl, ?_⟩) (by assumption) ?_
    rotate_left
    · (intro w hSw; (try dsimp only at hSw); go_simp; try with_reducible rfl)
    simp only [Act.put, List.setIfInBounds_toArray, List.set_cons_zero, List.set_cons_succ]
    refine call_at (i := 6) (some 11) 35 _ _ rfl rfl rfl (by rfl) (by kernel_rfl) #[y.f, kv] rfl Try.func35 (by kernel_rfl) (by kernel_rfl) ?_
    refine (ycmp_any (OY.out.1.below BD.out) (HK.out.below BD.out)).mono ?_
    rintro e W2 ⟨rfl, hw⟩
    subst hw
    refine ⟨_, rfl, ⟨c3, cy, c4⟩, fun hHeld => ?_⟩
    simp only [Act.put, List.setIfInBounds_toArray, List.set_cons_zero, List.set_cons_succ]
    refine take_at (i := 7) (v := ?_) (some 12) rfl rfl (by kernel_rfl) (by kernel_rfl) (by kernel_rfl) (fun _ _ _ h => h) (Or.inl ⟨by rfl, ?_⟩) (by assumption) ?_
    rotate_left
    · (intro w hSw; (try dsimp only at hSw); go_simp; try with_reducible rfl)
    simp only [Act.put, List.setIfInBounds_toArray, List.set_cons_zero, List.set_cons_succ]
    refine take_at (i := 8) (v := ?_) (some 4) rfl rfl (by kernel_rfl) (by kernel_rfl) (by kernel_rfl) (fun _ _ _ h => h) (Or.inl ⟨by rfl, ?_⟩) (by assumption) ?_
    rotate_left
    · (intro w hSw; (try dsimp only at hSw); go_simp; try with_reducible rfl)
    simp only [Act.put, List.setIfInBounds_toArray, List.set_cons_zero, List.set_cons_succ]
    refine wpAnyH_done (by kernel_rfl) ?_ _
    refine NoPanic.normal ?_
    go_wp2_with fail
    exact bodyPost_ret (v := .bool true) (by simp [results, Try.results84, go_sem]) rfl ⟨rfl, BD.out⟩
end Go.Proofs.Ytelcijfcgflagaa
namespace Go.Proofs.Ytelcijfcgflagaa
open Go.RowKit
attribute [-go_sem] Builtin.append_
theorem filter_seg {α : Type} (l : List α) (p : α → Bool) (i j : Nat) (hij : i ≤ j) (h1 : ∀ k x, l[k]? = some x → k < i → p x = false) (h2 : ∀ k x, l[k]? = some x → i ≤ k → k < j → p x = true) (h3 : ∀ k x, l[k]? = some x → j ≤ k → p x = false) : l.filter p = (l.drop i).take (j - i) := by
  have e : l = l.take i ++ ((l.drop i).take (j - i) ++ l.drop j) := by
    have a : (l.drop i).drop (j - i) = l.drop j := by rw [List.drop_drop]; congr 1; omega
    rw [← a, List.take_append_drop, List.take_append_drop]
  have f1 : (l.take i).filter p = [] := by
    rw [List.filter_eq_nil_iff]
    intro x hx
    obtain ⟨k, hk⟩ := List.getElem?_of_mem hx
    rw [List.getElem?_take] at hk
    split at hk
    · rw [h1 k x hk (by assumption)]; simp
    · cases hk
  have f2 : ((l.drop i).take (j - i)).filter p = (l.drop i).take (j - i) := by
    rw [List.filter_eq_self]
    intro x hx
    obtain ⟨k, hk⟩ := List.getElem?_of_mem hx
    rw [List.getElem?_take] at hk
    split at hk
    · rw [List.getElem?_drop] at hk
      exact h2 (i + k) x hk (by omega) (by omega)
    · cases hk
  have f3 : (l.drop j).filter p = [] := by
    rw [List.filter_eq_nil_iff]
    intro x hx
    obtain ⟨k, hk⟩ := List.getElem?_of_mem hx
    rw [List.getElem?_drop] at hk
    rw [h3 (j + k) x hk (by omega)]; simp
  conv => lhs; rw [e]
  rw [List.filter_append, List.filter_append, f1, f2, f3, List.append_nil, List.nil_append]
/-- Tables that stand one behind the other. -/
structure Row (ps : List RV) : Prop where
  snd : ∀ x ∈ ps, cmpB x.r.f x.r.l ≤ 0
  chn : ∀ i x y, ps[i]? = some x → ps[i + 1]? = some y → cmpB x.r.l y.r.f < 0
theorem Row.lt {ps : List RV} (h : Row ps) : ∀ (d i : Nat) (x y : RV), ps[i]? = some x → ps[i + d + 1]? = some y → cmpB x.r.l y.r.f < 0
  | 0, i, x, y, hx, hy => h.chn i x y hx hy
  | d + 1, i, x, y, hx, hy => by
    have hl := (List.getElem?_eq_some_iff.1 hy).1
    obtain ⟨z, hz⟩ : ∃ z, ps[i + d + 1]? = some z := ⟨_, List.getElem?_eq_getElem (by omega)⟩
    have a := Row.lt h d i x z hx hz
    have b := h.snd z (List.mem_of_getElem? hz)
    have c := h.chn (i + d + 1) z y hz (by rw [show i + d + 1 + 1 = i + (d + 1) + 1 by omega]; exact hy)
    exact c_trans (c_lt_le a b) c
def pre1 (ps : List RV) (f : ByteArray) (h : Nat) : Bool := match ps[h]? with
  | some y => decide (0 ≤ cmpB y.r.l f)
  | none => true
def pre2 (ps : List RV) (t : ByteArray) (h : Nat) : Bool := match ps[h]? with
  | some y => decide (0 < cmpB y.r.f t)
  | none => true
theorem pre1_at {ps : List RV} {f : ByteArray} {h : Nat} {y : RV} (e : ps[h]? = some y) : pre1 ps f h = decide (0 ≤ cmpB y.r.l f) := by unfold pre1; rw [e]
theorem pre2_at {ps : List RV} {f : ByteArray} {h : Nat} {y : RV} (e : ps[h]? = some y) : pre2 ps f h = decide (0 < cmpB y.r.f f) := by unfold pre2; rw [e]
theorem pre1_mono {ps : List RV} (h : Row ps) (f : ByteArray) : ∀ a b, a < b → b < ps.length → pre1 ps f a = true → pre1 ps f b = true := fun a b hab hb ha => by
  have hy := List.getElem?_eq_getElem hb
  have hx := List.getElem?_eq_getElem (show a < ps.length by omega)
  rw [pre1_at hx, decide_eq_true_eq] at ha
  rw [pre1_at hy, decide_eq_true_eq]
  have l1 := h.lt (b - a - 1) a _ _ hx (by rw [show a + (b - a - 1) + 1 = b by omega]; exact hy)
  have l2 := h.snd _ (List.getElem_mem hb)
  have l3 := c_lt_le l1 l2
  have a1 := c_anti f (ps[a]).r.l
  have l4 := c_le_lt (x := f) (by omega) l3
  have a2 := c_anti f (ps[b]).r.l
  omega
theorem pre2_mono {ps : List RV} (h : Row ps) (t : ByteArray) : ∀ a b, a < b → b < ps.length → pre2 ps t a = true → pre2 ps t b = true := fun a b hab hb ha => by
  have hy := List.getElem?_eq_getElem hb
  have hx := List.getElem?_eq_getElem (show a < ps.length by omega)
  rw [pre2_at hx, decide_eq_true_eq] at ha
  rw [pre2_at hy, decide_eq_true_eq]
  have l1 := h.lt (b - a - 1) a _ _ hx (by rw [show a + (b - a - 1) + 1 = b by omega]; exact hy)
  have l2 := h.snd _ (List.getElem_mem (show a < ps.length by omega))
  have l3 := c_le_lt l2 l1
  have a1 := c_anti t (ps[a]).r.f
  have l4 := c_trans (x := t) (by omega) l3
  have a2 := c_anti t (ps[b]).r.f
  omega
/-- The tables that span a key from f to t. -/
def metB (f t : ByteArray) (r : Rn) : Bool := decide (cmpB r.f t ≤ 0) && decide (cmpB f r.l ≤ 0)
def metL (ps : List RV) (f t : ByteArray) : List RV := ps.filter fun x => metB f t x.r
theorem met_seg {ps : List RV} {f t : ByteArray} {i j : Nat} (h : Row ps) (hft : cmpB f t ≤ 0) (hi : i ≤ ps.length) (hj : j ≤ ps.length) (a1 : ∀ k, k < i → pre1 ps f k = false) (a2 : ∀ k, i ≤ k → k < ps.length → pre1 ps f k = true) (b1 : ∀ k, k < j → pre2 ps t k = false) (b2 : ∀ k, j ≤ k → k < ps.length → pre2 ps t k = true) : i ≤ j ∧ metL ps f t = (ps.drop i).take (j - i) := by
  have hij : i ≤ j := by
    refine Nat.le_of_not_lt fun q => ?_
    have hx := List.getElem?_eq_getElem (show j < ps.length by omega)
    have p1 := a1 j q
    have p2 := b2 j (Nat.le_refl _) (by omega)
    rw [pre1_at hx, decide_eq_false_iff_not] at p1
    rw [pre2_at hx, decide_eq_true_eq] at p2
    have s := h.snd _ (List.getElem_mem (show j < ps.length by omega))
    have l1 := c_lt_le (c_le_lt s (show cmpB (ps[j]).r.l f < 0 by omega)) hft
    omega
  refine ⟨hij, filter_seg ps _ i j hij (fun k x hx hk => ?_) (fun k x hx hk hk2 => ?_) (fun k x hx hk => ?_)⟩
  · have p1 := a1 k hk
    rw [pre1_at hx, decide_eq_false_iff_not] at p1
    have := c_anti f x.r.l
    unfold metB
    rw [decide_eq_false (p := cmpB f x.r.l ≤ 0) (by omega), Bool.and_false]
  · have hl := (List.getElem?_eq_some_iff.1 hx).1
    have p1 := a2 k hk hl
    have p2 := b1 k hk2
    rw [pre1_at hx, decide_eq_true_eq] at p1
    rw [pre2_at hx, decide_eq_false_iff_not] at p2
    have := c_anti f x.r.l
    unfold metB
    rw [decide_eq_true (p := cmpB x.r.f t ≤ 0) (by omega), decide_eq_true (p := cmpB f x.r.l ≤ 0) (by omega)]
    rfl
  · have hl := (List.getElem?_eq_some_iff.1 hx).1
    have p2 := b2 k hk hl
    rw [pre2_at hx, decide_eq_true_eq] at p2
    unfold metB
    rw [decide_eq_false (p := cmpB x.r.f t ≤ 0) (by omega), Bool.false_and]
theorem slc_run {a : Act} {w : World} {o : Oper} (x y z : Operand) (ho : o.op = .slice 23 x (some y) (some z) none) (v v' : Value) (ad : Option Addr) (n C : Nat) (i j : Nat) (hv : v = .slice ad n C) (hx : a.eval x = v) (hy : a.eval y = .int .i64 (i : Int)) (hz : a.eval z = .int .i64 (j : Int)) (he : Try.prog.underlying 23 = some (.slice (Try.prog.elem 23))) (hr : (Instr.slice 23 v (some (.int .i64 (i : Int))) (some (.int .i64 (j : Int))) none).run Try.prog w = .ok v' w) : (execOp a.eval o).run Try.prog w = .ok (.value v') w := by
  subst hv
  unfold execOp
  simp only [ho, hx, Option.map_some, Option.map_none, hy, hz, Sem.run_bind, run_sliceAt_slice _ _ _ _ _ _ he, hr, Result.andThen_ok]
  rfl
theorem LsR.nilA (W : World) (a : Option Addr) : LsR W a [] := ⟨fun x hx => (by cases hx), fun q => absurd rfl q⟩
theorem LsR.seg {W : World} {b off : Nat} {ps : List RV} (h : LsR W (some ⟨b, off, none⟩) ps) (i m : Nat) : LsR W (some ⟨b, off + i * 5, none⟩) ((ps.drop i).take m) := by
  refine ⟨fun x hx => h.1 x (List.mem_of_mem_drop (List.mem_of_mem_take hx)), fun hne => ?_⟩
  have hp : ps ≠ [] := fun e => hne (by rw [e]; simp)
  obtain ⟨b', off', ha, hr, hb⟩ := h.2 hp
  injection ha with ha
  injection ha with e1 e2
  subst e1 e2
  refine ⟨b, off + i * 5, rfl, fun j v hj => ?_, hb⟩
  have e : (rcs ((ps.drop i).take m))[j]? = ((rcs (ps.drop i)).take (m * 5))[j]? := by rw [rcs_take]
  rw [e, List.getElem?_take] at hj
  split at hj
  · rw [← rcs_drop, List.getElem?_drop] at hj
    rw [Nat.add_assoc]
    exact hr _ v hj
  · cases hj
theorem slc_any (W : World) (a : Option Addr) (ps : List RV) (n C i j : Nat) (hn : ps.length = n) (hL : LsR W a ps) (hC : n ≤ C) (hij : i ≤ j) (hj : j ≤ n) : ∃ a' : Option Addr, (Instr.slice 23 (.slice a n C) (some (.int .i64 (i : Int))) (some (.int .i64 (j : Int))) none).run Try.prog W = .ok (.slice a' (j - i) (C - i)) W ∧ ∀ U, LsR U a ps → LsR U a' ((ps.drop i).take (j - i)) := by
  obtain ⟨i0, hi, _, hz1, _⟩ := info_parts info_run
  have hjC : j ≤ C := by omega
  cases a with
  | none =>
    have h0 : ps = [] := by
      by_cases q : ps = []
      · exact q
      · obtain ⟨b, off, ha, _⟩ := hL.2 q
        cases ha
    subst h0
    obtain rfl : n = 0 := by simpa using hn.symm
    obtain rfl : j = 0 := by omega
    obtain rfl : i = 0 := by omega
    refine ⟨none, ?_, fun _ _ => LsR.nilA _ _⟩
    simp [Instr.slice, Instr.sliceBounds, run_underlying under_runs, Instr.sliceBound, asIntOf, sizeOf, typeInfo, hi]
  | some p =>
    by_cases e : C = i
    · obtain rfl : j = i := by omega
      refine ⟨some p, ?_, fun _ _ => by rw [Nat.sub_self, List.take_zero]; exact LsR.nilA _ _⟩
      simp [Instr.slice, Instr.sliceBounds, run_underlying under_runs, Instr.sliceBound, asIntOf, e, sizeOf, typeInfo, hi]
    · by_cases q : i = j
      · subst q
        refine ⟨some (p.add (i * 5)), ?_, fun _ _ => by rw [Nat.sub_self, List.take_zero]; exact LsR.nilA _ _⟩
        simp [Instr.slice, Instr.sliceBounds, run_underlying under_runs, Instr.sliceBound, asIntOf, hjC, e, sizeOf, typeInfo, hi, hz1]
      · obtain ⟨b, off, ha, _, _⟩ := hL.2 (fun z => by subst z; simp at hn; omega)
        injection ha with ha
        subst ha
        refine ⟨some ⟨b, off + i * 5, none⟩, ?_, fun U hU => hU.seg i (j - i)⟩
        simp [Instr.slice, Instr.sliceBounds, run_underlying under_runs, Instr.sliceBound, asIntOf, hij, hjC, e, sizeOf, typeInfo, hi, hz1, Addr.add_mid]
/-- What meeting answers. -/
def MetP (W : World) (a0 : Option Addr) (ps l : List RV) (e : Ending) (w' : World) : Prop := ∃ a c, e = .returned (.slice a l.length c) ∧ l.length ≤ c ∧ (∀ U, LsR U a0 ps → LsR U a l) ∧ Below W.heap.size W w'
set_option maxRecDepth 100000 in
set_option maxHeartbeats 2000000 in
theorem lmeeting_any {W : World} {a : Option Addr} {ps : List RV} {N M : List Nat} {fv tv : Value} {f t : ByteArray} (n C : Nat) (hn : ps.length = n) (hL : LsR W a ps) (hC : n ≤ C) (hf : n ≤ 100000) (hR : Row ps) (hft : cmpB f t ≤ 0) (hfv : Txt W N fv f) (htv : Txt W M tv t) : Calls Try.prog 66 #[.slice a n C, fv, tv] W (MetP W a ps (metL ps f t)) := by
  have HL := hidIt hL
  have HN := hidIt (And.intro hn (And.intro hC (And.intro hf (And.intro hR hft))))
  have HF := hidIt hfv
  have HT := hidIt htv
  obtain ⟨fa, fC, ff, rfl, _⟩ := hfv
  obtain ⟨ta, tC, tf, rfl, _⟩ := htv
  obtain ⟨W3, hW3⟩ : ∃ W3, W3 = ((W.alloc (.cells #[.slice a n C] 23)).alloc (.cells #[.slice fa f.size fC] 43)).alloc (.cells #[.slice ta t.size tC] 43) := ⟨_, rfl⟩
  have H3 : Hid (Below W.heap.size W W3 ∧ (∀ U, Below W3.heap.size W3 U → U.cell? ⟨W.heap.size, 0, none⟩ = some (.slice a n C) ∧ U.cell? ⟨W.heap.size + 1, 0, none⟩ = some (.slice fa f.size fC) ∧ U.cell? ⟨W.heap.size + 1 + 1, 0, none⟩ = some (.slice ta t.size tC))) := hidIt (by
    have z : W3.heap.size = W.heap.size + 3 := by rw [hW3]; simp
    have c0 : W3.cell? ⟨W.heap.size, 0, none⟩ = some (.slice a n C) := by rw [hW3]; simp [go_sem]
    have c1 : W3.cell? ⟨W.heap.size + 1, 0, none⟩ = some (.slice fa f.size fC) := by rw [hW3]; simp [go_sem]
    have c2 : W3.cell? ⟨W.heap.size + 1 + 1, 0, none⟩ = some (.slice ta t.size tC) := by rw [hW3]; simp [go_sem]
    exact ⟨by rw [hW3]; exact (((Below.refl _ _).alloc (Nat.le_refl _) _).alloc (by simp) _).alloc (by simp; omega) _, fun U hU => ⟨(hU.cell (p := ⟨W.heap.size, 0, none⟩) (by show W.heap.size < _; omega)).trans c0, (hU.cell (p := ⟨W.heap.size + 1, 0, none⟩) (by show W.heap.size + 1 < _; omega)).trans c1, (hU.cell (p := ⟨W.heap.size + 1 + 1, 0, none⟩) (by show W.heap.size + 1 + 1 < _; omega)).trans c2⟩⟩)
  have HW := hidIt hW3
  clear hn hL hC hf hR hft hW3
  go_enter Try.func66, Try.ntmps66
  go_wp2_with (first
    | (go_at_call 82; rw [← HW.out]; refine (search_m1 W3 (pre1 ps f) n (.pointer (some ⟨W.heap.size, 0, none⟩)) (.pointer (some ⟨W.heap.size + 1, 0, none⟩)) (by have := HN.out.2.2.1; omega) (by have := pre1_mono HN.out.2.2.2.1 f; rw [HN.out.1] at this; exact this) (fun h u hh hB => by
        obtain ⟨y, hy⟩ : ∃ y, ps[h]? = some y := ⟨_, List.getElem?_eq_getElem (by rw [HN.out.1]; exact hh)⟩
        rw [pre1_at hy]
        have hb := H3.out.1.trans (hB.mono H3.out.1.size)
        exact meet1_any HN.out.1 (HL.out.below hb) hy HN.out.2.2.1 (H3.out.2 u hB).1 (H3.out.2 u hB).2.1 (HF.out.below hb))).mono ?_
       rintro e W4 ⟨hb, k, hk, rfl, a1, a2⟩
       have B4 := hidIt hb
       have A1 := hidIt (And.intro hk (And.intro a1 a2))
       obtain ⟨c0, _, _⟩ := H3.out.2 W4 hb
       clear hb hk a1 a2)
    | (go_at_call 82; refine (search_m2 W4 (pre2 ps t) n (.pointer (some ⟨W.heap.size, 0, none⟩)) (.pointer (some ⟨W.heap.size + 1 + 1, 0, none⟩)) (by have := HN.out.2.2.1; omega) (by have := pre2_mono HN.out.2.2.2.1 t; rw [HN.out.1] at this; exact this) (fun h u hh hB => by
        obtain ⟨y, hy⟩ : ∃ y, ps[h]? = some y := ⟨_, List.getElem?_eq_getElem (by rw [HN.out.1]; exact hh)⟩
        rw [pre2_at hy]
        have h3 := B4.out.trans (hB.mono B4.out.size)
        have hb := H3.out.1.trans (h3.mono H3.out.1.size)
        exact meet2_any HN.out.1 (HL.out.below hb) hy HN.out.2.2.1 (H3.out.2 u h3).1 (H3.out.2 u h3).2.2 (HT.out.below hb))).mono ?_
       rintro e W5 ⟨hb, q, hq, rfl, b1, b2⟩
       have B5 := hidIt (B4.out.trans (hb.mono B4.out.size))
       clear c0
       obtain ⟨c0, _, _⟩ := H3.out.2 W5 B5.out
       obtain ⟨hij, hseg⟩ := met_seg HN.out.2.2.2.1 HN.out.2.2.2.2 (by rw [HN.out.1]; exact A1.out.1) (by rw [HN.out.1]; exact hq) A1.out.2.1 (by rw [HN.out.1]; exact A1.out.2.2) b1 (by rw [HN.out.1]; exact b2)
       have E5 := hidIt (H3.out.1.trans (B5.out.mono H3.out.1.size))
       obtain ⟨a', hr, hs⟩ := slc_any W5 a ps n C k q HN.out.1 (HL.out.below E5.out) HN.out.2.1 hij hq
       have SEG := hidIt hseg
       have SL := hidIt hs
       have SR := hidIt hr
       have IJ := hidIt (And.intro hij (And.intro hq HN.out.1))
       clear hb hq b1 b2 hij hseg hr hs)
    | (refine wpList_run_w (by rfl) (.slice a' (q - k) (C - k)) W5 (slc_run (.tmp 17) (.tmp 18) (.tmp 19) rfl _ _ a n C k q rfl rfl rfl rfl (by kernel_rfl) SR.out) ?_))
  have LN : Hid ((metL ps f t).length = q - k) := hidIt (by rw [SEG.out, List.length_take, List.length_drop]; have := IJ.out; omega)
  exact bodyPost_ret (v := .slice a' (q - k) (C - k)) (by simp [results, Try.results66, go_sem]) rfl ⟨a', C - k, by rw [LN.out], by rw [LN.out]; have := HN.out.2.1; have := IJ.out; omega, by rw [SEG.out]; exact SL.out, E5.out⟩
end Go.Proofs.Ytelcijfcgflagaa
namespace Go.Proofs.Ytelcijfcgflagaa
open Go.RowKit
attribute [-go_sem] Builtin.append_
theorem leq_str (a b : ByteArray) (w : World) : (binOp .leq 9 (.string a) (.string b)).run Try.prog w = .ok (.bool (decide (cmpB a b ≤ 0))) w := by
  have e : (a.toList == b.toList) = decide (cmpB a b = 0) := by
    rw [ByteArray.toList_eq, ByteArray.toList_eq]
    have z := cb_zero a.data.toList b.data.toList
    by_cases h : a.data.toList = b.data.toList
    · rw [decide_eq_true (show cmpB a b = 0 from z.2 h), h]
      simp
    · rw [decide_eq_false (show ¬ cmpB a b = 0 from fun q => h (z.1 q))]
      simpa using h
  have h0 : (binOp .leq 9 (.string a) (.string b)).run Try.prog w = .ok (.bool (Op.bytesLess a.toList b.toList || (a.toList == b.toList))) w := rfl
  rw [h0, e, less_isR]
  congr 2
  by_cases h1 : cmpB a b < 0
  · rw [decide_eq_true h1, decide_eq_true (show cmpB a b ≤ 0 by omega)]; rfl
  · rw [decide_eq_false h1, Bool.false_or]
    by_cases h2 : cmpB a b = 0
    · rw [decide_eq_true h2, decide_eq_true (show cmpB a b ≤ 0 by omega)]
    · rw [decide_eq_false h2, decide_eq_false (show ¬ cmpB a b ≤ 0 by omega)]
/-- Does a table span such a key? (The reference's words.) -/
def rsB (f t : ByteArray) (r : Rn) : Bool := !decide (cmpB r.l f < 0) && (decide (t.size = 0) || decide (cmpB r.f t < 0))
def rsL (fl : List (Nat × RV)) (f t : ByteArray) : List RV := (fl.map fun q => q.2).filter fun x => rsB f t x.r
theorem rsL_snoc {fl : List (Nat × RV)} {k i : Nat} {y : RV} (h : fl[k]? = some (i, y)) (f t : ByteArray) : rsL (fl.take (k + 1)) f t = if rsB f t y.r then rsL (fl.take k) f t ++ [y] else rsL (fl.take k) f t := by
  obtain ⟨hk, e⟩ := List.getElem?_eq_some_iff.1 h
  unfold rsL
  rw [List.take_succ_eq_append_getElem hk, e, List.map_append, List.filter_append]
  by_cases hn : rsB f t y.r = true
  · rw [if_pos hn]; simp [hn]
  · rw [if_neg hn]; simp [hn]
/-- What its loops keep. -/
structure NsI (W : World) (ls : List LR) (f t : ByteArray) (j : Nat) (wr : World) (lv : Value) : Prop where
  own : OwnR wr 0 lv (rsL ((flt 0 ls).take j) f t)
  new : ∀ b, lv.ownBlock = some b → W.heap.size ≤ b
  below : Below W.heap.size W wr
theorem NsI.up {W wr w' : World} {ls : List LR} {f t : ByteArray} {j : Nat} {lv : Value} (h : NsI W ls f t j wr lv) (hB : Below wr.heap.size wr w') : NsI W ls f t j w' lv := ⟨h.own.below hB, h.new, h.below.trans (hB.mono h.below.size)⟩
theorem NsI.skip {W wr : World} {ls : List LR} {f t : ByteArray} {j i : Nat} {lv : Value} {y : RV} (h : NsI W ls f t j wr lv) (hx : (flt 0 ls)[j]? = some (i, y)) (hn : rsB f t y.r = false) : NsI W ls f t (j + 1) wr lv := ⟨by rw [rsL_snoc hx, hn]; exact h.own, h.new, h.below⟩
theorem NsI.app {W wr w' : World} {ls : List LR} {f t : ByteArray} {j i : Nat} {lv v6 : Value} {y : RV} (h : NsI W ls f t j wr lv) (hx : (flt 0 ls)[j]? = some (i, y)) (hn : rsB f t y.r = true) (hI : InsR wr lv (rsL ((flt 0 ls).take j) f t ++ [y]) v6 w') : NsI W ls f t (j + 1) w' v6 := ⟨by rw [rsL_snoc hx, hn]; exact hI.own, fun b hb => by
  rcases hI.blk b hb with q | q
  · exact h.new b q
  · exact Nat.le_trans h.below.size q, h.below.trans (hI.off.below (fun b hb => h.new b (by simpa using hb)) h.below.size)⟩
theorem rsL_few (ls : List LR) (f t : ByteArray) (j : Nat) (h : ∀ x ∈ ls, x.rs.length ≤ 1000) (h4 : ls.length ≤ 4) : (rsL ((flt 0 ls).take j) f t).length ≤ 4000 := by
  have a := flt_few h (b := 0)
  unfold rsL
  refine Nat.le_trans (List.length_filter_le _ _) ?_
  rw [List.length_map, List.length_take]
  omega
theorem mem_flt {ls : List LR} {x : RV} : ∀ {b : Nat}, x ∈ (flt b ls).map (fun q => q.2) → ∃ y ∈ ls, x ∈ y.rs := by
  intro b hx
  obtain ⟨⟨i, z⟩, hz, rfl⟩ := List.mem_map.1 hx
  obtain ⟨j, hj⟩ := List.getElem?_of_mem hz
  obtain ⟨i', k', y, h1, h2, _, _⟩ := flt_has b ls j i z hj
  exact ⟨y, List.mem_of_getElem? h1, List.mem_of_getElem? h2⟩
/-- The tables that the reference tells. -/
def nsL (ls : List LR) (f t : ByteArray) : List RV := if mayB (rns ls) = true ∧ ¬ (0 < t.size ∧ cmpB t f ≤ 0) then rsL (flt 0 ls) f t else []
theorem rsL_map (ls : List LR) (f t : ByteArray) : (rsL (flt 0 ls) f t).map RV.r = (rns ls).flatten.filter (rsB f t) := by
  unfold rsL
  rw [← flt_rns 0 ls, List.filter_map, List.filter_map, List.map_map]
  rfl
theorem rsB_inB {f t : ByteArray} {r : Rn} (h : cmpB r.f r.l ≤ 0) (hn : ¬ (0 < t.size ∧ cmpB t f ≤ 0)) : rsB f t r = inB f t r := by
  unfold rsB inB lowB spnB
  by_cases h1 : cmpB r.f f < 0
  · rw [if_pos h1]
    have a := c_anti r.l f
    have e1 : (!decide (cmpB r.l f < 0)) = (decide (cmpB r.f f ≤ 0) && decide (cmpB f r.l ≤ 0)) := by
      rw [decide_eq_true (show cmpB r.f f ≤ 0 by omega), Bool.true_and]
      by_cases h2 : cmpB r.l f < 0
      · rw [decide_eq_true h2, decide_eq_false (by omega)]; rfl
      · rw [decide_eq_false h2, decide_eq_true (by omega)]; rfl
    rw [e1]
    congr 1
    by_cases h0 : t.size = 0
    · simp [h0]
    · have k : cmpB f t < 0 := by have b := c_anti f t; have : ¬ cmpB t f ≤ 0 := fun q => hn ⟨by omega, q⟩; omega
      rw [decide_eq_true k, decide_eq_true (c_trans h1 k)]
  · rw [if_neg h1]
    have a := c_anti r.f f
    have e2 : ¬ cmpB r.l f < 0 := fun q => h1 (c_le_lt h q)
    rw [decide_eq_false e2, decide_eq_true (show cmpB r.f r.f ≤ 0 by rw [c_self]; exact Int.le_refl _), decide_eq_true h]
    rfl
theorem nsL_spD (ls : List LR) (f t : ByteArray) : (nsL ls f t).map RV.r = spD (rns ls) f t := by
  unfold nsL spD
  by_cases hm : mayB (rns ls) = true
  · rw [if_pos hm]
    have sn : ∀ r ∈ (rns ls).flatten, cmpB r.f r.l ≤ 0 := fun r hr => by
      obtain ⟨l, hl, hr⟩ := List.mem_flatten.1 hr
      obtain ⟨i, hi⟩ := List.getElem?_of_mem hl
      obtain ⟨k, hk⟩ := List.getElem?_of_mem hr
      have := ((mayB_at _).1 hm).2.1 i l k r hi hk
      unfold sndR at this
      simp at this
      exact this.2
    by_cases hn : 0 < t.size ∧ cmpB t f ≤ 0
    · rw [if_neg (fun q => q.2 hn)]
      symm
      rw [List.map_nil, List.filter_eq_nil_iff]
      intro r hr q
      unfold inB at q
      simp only [Bool.and_eq_true, Bool.or_eq_true, decide_eq_true_eq] at q
      rcases q.2 with q2 | q2
      · omega
      · unfold lowB at q2
        by_cases h1 : cmpB r.f f < 0
        · rw [if_pos h1] at q2
          have := c_anti f t
          omega
        · rw [if_neg h1] at q2
          have a := c_lt_le q2 hn.2
          exact h1 a
    · rw [if_pos ⟨hm, hn⟩, rsL_map]
      refine List.filter_congr (fun r hr => rsB_inB (sn r hr) hn)
  · rw [if_neg (fun q => hm q.1), if_neg hm]
    rfl
def nsR (W : World) (ls : List LR) (f t : ByteArray) (L : Nat) (lv iv : Value) (wr : World) : Prop := ∃ n : Nat, n ≤ L ∧ iv = .int .i64 (n : Int) ∧ Hid (NsI W ls f t (offL ls n) wr lv)
def nsJ (W : World) (ls : List LR) (f t : ByteArray) (n m : Nat) (lv iv : Value) (w' : World) : Prop := ∃ k : Nat, k ≤ m ∧ iv = .int .i64 (k : Int) ∧ Hid (NsI W ls f t (offL ls n + k) w' lv)
end Go.Proofs.Ytelcijfcgflagaa
namespace Go.Proofs.Ytelcijfcgflagaa
open Go.RowKit
attribute [-go_sem] Builtin.append_
set_option maxRecDepth 100000 in
theorem noverlap_any {W : World} {N M : List Nat} {x y : RV} (hx : RVOk W N x) (hy : RVOk W M y) : Calls Try.prog 50 #[.agg x.cs.toArray, .agg y.cs.toArray] W fun e w' => e = .returned (.bool (metB y.r.f y.r.l x.r)) ∧ Below W.heap.size W w' := by
  have HX := hidIt hx
  have HY := hidIt hy
  have t1 : Hid True := trivial
  have B1' := (show ∀ W1, Rec19 W1 W.heap.size 0 x.cs → True from fun _ _ => trivial)
  clear hx hy B1'
  by_cases k1 : cmpB x.r.f y.r.l ≤ 0
  · have h1 : ∀ w, (binOp .leq 9 (.string x.r.f) (.string y.r.l)).run Try.prog w = .ok (.bool true) w := fun w => by rw [leq_str, decide_eq_true k1]
    obtain ⟨bb, hbb⟩ : ∃ bb, bb = decide (cmpB y.r.f x.r.l ≤ 0) := ⟨_, rfl⟩
    have h2 : ∀ w, (binOp .leq 9 (.string y.r.f) (.string x.r.l)).run Try.prog w = .ok (.bool bb) w := fun w => by rw [leq_str, hbb]
    have FI : Hid (metB y.r.f y.r.l x.r = bb) := hidIt (by unfold metB; rw [decide_eq_true k1, Bool.true_and, hbb])
    clear k1 hbb
    go_enter Try.func50, Try.ntmps50
    go_wp2_with (first
      | (have _q := t1; clear t1 _q; refine wpList_box_rec rfl 45 (.tmp 0) rfl x.cs rfl W.heap.size rfl ?_; intro W1 R1 B1 z1; have E1 := hidIt (And.intro B1 z1); have P1 := hidIt R1; clear R1 B1 z1)
      | (refine wpList_box_rec rfl 45 (.tmp 1) rfl y.cs rfl (W.heap.size + 1) E1.out.2 ?_; intro W2 R2 B2 z2; have E2 := hidIt (E1.out.1.trans (B2.mono (by have := E1.out.2; omega))); have Q := P1.out.below (by rw [E1.out.2]; exact B2); have q3 := (Q.cel 3 _ rfl).1; have q4 := (Q.cel 4 _ rfl).1; have r3 := (R2.cel 3 _ rfl).1; have r4 := (R2.cel 4 _ rfl).1; have v1 := conv_ofR (HX.out.1.below E2.out); have v2 := conv_ofR (HX.out.2.below E2.out); have v3 := conv_ofR (HY.out.1.below E2.out); have v4 := conv_ofR (HY.out.2.below E2.out); clear R2 B2 z2 Q))
    exact bodyPost_ret (v := .bool bb) (by simp [results, Try.results50, go_sem]) rfl ⟨by rw [FI.out], E2.out⟩
  · have h1 : ∀ w, (binOp .leq 9 (.string x.r.f) (.string y.r.l)).run Try.prog w = .ok (.bool false) w := fun w => by rw [leq_str, decide_eq_false k1]
    have FI : Hid (metB y.r.f y.r.l x.r = false) := hidIt (by unfold metB; rw [decide_eq_false k1, Bool.false_and])
    clear k1
    go_enter Try.func50, Try.ntmps50
    go_wp2_with (first
      | (have _q := t1; clear t1 _q; refine wpList_box_rec rfl 45 (.tmp 0) rfl x.cs rfl W.heap.size rfl ?_; intro W1 R1 B1 z1; have E1 := hidIt (And.intro B1 z1); have P1 := hidIt R1; clear R1 B1 z1)
      | (refine wpList_box_rec rfl 45 (.tmp 1) rfl y.cs rfl (W.heap.size + 1) E1.out.2 ?_; intro W2 R2 B2 z2; have E2 := hidIt (E1.out.1.trans (B2.mono (by have := E1.out.2; omega))); have Q := P1.out.below (by rw [E1.out.2]; exact B2); have q3 := (Q.cel 3 _ rfl).1; have q4 := (Q.cel 4 _ rfl).1; have r3 := (R2.cel 3 _ rfl).1; have r4 := (R2.cel 4 _ rfl).1; have v1 := conv_ofR (HX.out.1.below E2.out); have v2 := conv_ofR (HX.out.2.below E2.out); have v3 := conv_ofR (HY.out.1.below E2.out); have v4 := conv_ofR (HY.out.2.below E2.out); clear R2 B2 z2 Q))
    exact bodyPost_ret (v := .bool false) (by simp [results, Try.results50, go_sem]) rfl ⟨by rw [FI.out], E2.out⟩
/-- What meet's loop keeps. -/
structure NmI (W : World) (ps : List RV) (f t : ByteArray) (k : Nat) (wr : World) (v : Value) : Prop where
  own : OwnR wr 0 v (metL (ps.take k) f t)
  new : ∀ b, v.ownBlock = some b → W.heap.size < b
  below : Below W.heap.size W wr
theorem met_snoc {ps : List RV} {k : Nat} {x : RV} (h : ps[k]? = some x) (f t : ByteArray) : metL (ps.take (k + 1)) f t = metL (ps.take k) f t ++ (if metB f t x.r then [x] else []) := by
  obtain ⟨hl, rfl⟩ := List.getElem?_eq_some_iff.1 h
  unfold metL
  rw [List.take_succ_eq_append_getElem hl, List.filter_append]
  congr 1
  rw [List.filter_cons, List.filter_nil]
theorem NmI.up {W wr w' : World} {ps : List RV} {f t : ByteArray} {k : Nat} {v : Value} (h : NmI W ps f t k wr v) (hB : Below wr.heap.size wr w') : NmI W ps f t k w' v := ⟨h.own.below hB, h.new, h.below.trans (hB.mono h.below.size)⟩
theorem NmI.skip {W wr : World} {ps : List RV} {f t : ByteArray} {k : Nat} {v : Value} {x : RV} (h : NmI W ps f t k wr v) (hx : ps[k]? = some x) (hn : metB f t x.r = false) : NmI W ps f t (k + 1) wr v := ⟨by rw [met_snoc hx, hn]; simpa using h.own, h.new, h.below⟩
theorem NmI.app {W wr w' : World} {ps : List RV} {f t : ByteArray} {k : Nat} {v v6 : Value} {x : RV} (h : NmI W ps f t k wr v) (hx : ps[k]? = some x) (hn : metB f t x.r = true) (hI : InsR wr v (metL (ps.take k) f t ++ [x]) v6 w') (hz : W.heap.size < wr.heap.size) : NmI W ps f t (k + 1) w' v6 := ⟨by rw [met_snoc hx, hn]; exact hI.own, fun b hb => by
  rcases hI.blk b hb with q | q
  · exact h.new b q
  · exact Nat.lt_of_lt_of_le hz q, h.below.trans (hI.off.below (fun b hb => Nat.le_of_lt (h.new b (by simpa using hb))) h.below.size)⟩
/-- What meet answers. -/
def NmP (W : World) (l : List RV) (e : Ending) (w' : World) : Prop := ∃ a c, e = .returned (.slice a l.length c) ∧ OwnR w' 0 (.slice a l.length c) l ∧ (∀ b, (Value.slice a l.length c).ownBlock = some b → W.heap.size ≤ b) ∧ LsR w' a l ∧ Below W.heap.size W w'
set_option maxRecDepth 100000 in
set_option maxHeartbeats 4000000 in
theorem nmeet_any {W : World} {N : List Nat} {a : Option Addr} {ps : List RV} {y : RV} (n C : Nat) (hn : ps.length = n) (hL : LsR W a ps) (hf : n ≤ 50000) (hy : RVOk W N y) : Calls Try.prog 24 #[.slice a n C, .agg y.cs.toArray] W (NmP W (metL ps y.r.f y.r.l)) := by
  have HL := hidIt hL
  have HN := hidIt (And.intro hn hf)
  have HY := hidIt hy
  clear hn hL hf hy
  go_enter Try.func24, Try.ntmps24
  go_wp2_with (refine wpList_box_rec rfl 45 (.tmp 1) rfl y.cs rfl W.heap.size rfl ?_; intro W1 R1 B1 z1; have E1 := hidIt (And.intro B1 z1); have P1 := hidIt R1; clear R1 B1 z1; refine Held.out ?_)
  refine Held.mk ?_
  have st : Hid (NmI W ps y.r.f y.r.l 0 W1 (.slice none 0 0)) := hidIt ⟨by rw [List.take_zero]; exact OwnR.nil _ _, fun b hb => (by cases hb), E1.out.1⟩
  go_wp2_with fail
  go_loopw [5, 6] (fun lv iv wr => ∃ k : Nat, k ≤ n ∧ iv = .int .i64 (k : Int) ∧ Hid (NmI W ps y.r.f y.r.l k wr lv ∧ Rec19 wr W.heap.size 0 y.cs)) (fun _ iv _ => n - (RowKit.intOf iv).toNat)
  case atStart => exact ⟨0, Nat.zero_le _, rfl, hidIt ⟨st.out, P1.out⟩⟩
  case round =>
    clear st P1 E1
    obtain ⟨k, hk, rfl, HI⟩ := hrel
    rename World => wr
    by_cases hlt : k < n
    · obtain ⟨x, hx⟩ : ∃ x, ps[k]? = some x := ⟨_, List.getElem?_eq_getElem (by have := HN.out.1; omega)⟩
      obtain ⟨b, o, ha, hr, hb⟩ := HL.out.at k x hx
      subst ha
      have LT := hidIt hlt
      have HX := hidIt hx
      have XR : Hid (∀ U, Below W.heap.size W U → U.rangeAt b (o + k * 5) x.cs) := hidIt (fun U hU j v hj => (hU.cell (p := ⟨b, o + k * 5 + j, none⟩) hb).trans (hr j v hj))
      have OX := hidIt (HL.out.1 x (List.mem_of_getElem? hx))
      have FEW : Hid ((metL (ps.take k) y.r.f y.r.l).length ≤ 50000) := hidIt (Nat.le_trans (List.length_filter_le _ _) (by rw [List.length_take]; have := HN.out; omega))
      obtain ⟨i0, i1, i2, i3, i4⟩ := tb_ar k n hlt (by have := HN.out.2; omega)
      have GO := hidIt i4
      have J3 := hidIt (HI.out.1.up (Below.refl _ _).drew)
      have P3 := hidIt (HI.out.2.below (Below.refl _ _).drew)
      clear hx hlt hk hb hr i4
      go_wp2_with fail
      refine wp_region_noPanic ?_
      refine wp_region_held_drew (S := fun w' => w'.rangeAt b (o + k * 5) x.cs ∧ w'.rangeAt W.heap.size 0 y.cs) (by kernel_rfl) ?_ (fun hHeld => ?_)
      · exact ⟨XR.out _ J3.out.below, P3.out.1⟩
      refine take_at (i := 0) (v := ?_) (some 13) rfl rfl (by kernel_rfl) (by kernel_rfl) (by kernel_rfl) (fun _ _ _ h => h) (Or.inl ⟨by rfl, ?_⟩) (by assumption) ?_
      rotate_left
      · (intro w hSw; (try dsimp only at hSw); go_simp; try with_reducible rfl)
      simp only [Act.put, List.setIfInBounds_toArray, List.set_cons_zero, List.set_cons_succ]
      refine take_at (i := 1) (v := ?_) (some 14) rfl rfl (by kernel_rfl) (by kernel_rfl) (by kernel_rfl) (fun _ _ _ h => h) (Or.inl ⟨by rfl, ?_⟩) (by assumption) ?_
      rotate_left
      · (intro w hSw; (try dsimp only at hSw); go_simp; try with_reducible rfl)
      simp only [Act.put, List.setIfInBounds_toArray, List.set_cons_zero, List.set_cons_succ]
      refine take_at (i := 2) (v := ?_) (some 15) rfl rfl (by kernel_rfl) (by kernel_rfl) (by kernel_rfl) (fun _ _ _ h => h) (Or.inl ⟨by rfl, ?_⟩) (by assumption) ?_
      rotate_left
      · (intro w hSw; (try dsimp only at hSw); go_simp; try with_reducible rfl)
      simp only [Act.put, List.setIfInBounds_toArray, List.set_cons_zero, List.set_cons_succ]
      refine take_at (i := 3) (v := _) (some 16) rfl rfl (by kernel_rfl) (by kernel_rfl) (by kernel_rfl) (fun _ _ _ h => h) (yieldsIf_load_mid (by rfl) _ _ rfl _ _ rfl _ _ (fun w h => h.1) Try.underlying45 rfl (by kernel_rfl)) (by assumption) ?_
      simp only [Act.put, List.setIfInBounds_toArray, List.set_cons_zero, List.set_cons_succ]
      refine take_at (i := 4) (v := _) (some 17) rfl rfl (by kernel_rfl) (by kernel_rfl) (by kernel_rfl) (fun _ _ _ h => h) (yieldsIf_load_mid (by rfl) _ _ rfl _ _ rfl _ _ (fun w h => h.2) Try.underlying45 rfl (by kernel_rfl)) (by assumption) ?_
      simp only [Act.put, List.setIfInBounds_toArray, List.set_cons_zero, List.set_cons_succ]
      refine call_at (i := 5) (some 18) 50 _ _ rfl rfl rfl (by rfl) (by kernel_rfl) #[.agg x.cs.toArray, .agg y.cs.toArray] rfl Try.func50 (by kernel_rfl) (by kernel_rfl) ?_
      refine (noverlap_any (OX.out.below J3.out.below) (HY.out.below J3.out.below)).mono ?_
      rintro e W4 ⟨rfl, hb⟩
      have J4 := hidIt (J3.out.up hb)
      have P4 := hidIt (P3.out.below hb)
      clear hb
      refine ⟨_, rfl, ⟨XR.out _ J4.out.below, P4.out.1⟩, fun hHeld => ?_⟩
      simp only [Act.put, List.setIfInBounds_toArray, List.set_cons_zero, List.set_cons_succ]
      refine wpAnyH_done (by kernel_rfl) ?_ _
      refine NoPanic.normal ?_
      clear hHeld
      cases hm : metB y.r.f y.r.l x.r with
      | false =>
        have NX : Hid (NmI W ps y.r.f y.r.l (k + 1) W4 u5 ∧ Rec19 W4 W.heap.size 0 y.cs) := hidIt ⟨J4.out.skip HX.out hm, P4.out⟩
        clear hm
        go_wp2_with fail
        exact ⟨⟨k + 1, LT.out, rfl, NX⟩, GO.out⟩
      | true =>
        have xr := XR.out _ J4.out.below
        obtain ⟨W5, hW5⟩ : ∃ W5, W5 = W4.alloc (.cells x.cs.toArray 45) := ⟨_, rfl⟩
        have A5 : Below W4.heap.size W4 W5 := by rw [hW5]; exact (Below.refl _ _).alloc (Nat.le_refl _) _
        have R5 : Rec19 W5 W4.heap.size 0 (rcs [x]) := by rw [hW5, rcs_single]; exact Rec19.new W4 _ x.cs
        have J5 := J4.out.up A5
        obtain ⟨v6, W6, hr6, I6⟩ := app_runs 23 W5 u5 _ [x] ⟨W4.heap.size, 0, none⟩ 1 J5.own (fun j u hj => by rw [Addr.add_mid]; exact R5.1 j u hj) (by rw [rcs_single]; exact OX.out.one) (by simp) (by have := FEW.out; simp; omega)
        simp only [List.length_singleton] at hr6
        have NX : Hid (NmI W ps y.r.f y.r.l (k + 1) W6 v6 ∧ Rec19 W6 W.heap.size 0 y.cs) := hidIt ⟨J5.app HX.out hm I6 (Nat.lt_of_lt_of_le P4.out.2.2 A5.size), (P4.out.below A5).off I6.off (fun q => by have q := J5.new _ (by simpa using q); omega)⟩
        have HW5 := hidIt hW5
        have HR6 := hidIt hr6
        clear hm hW5 A5 R5 J5 I6 hr6
        go_wp2_with (first
          | (refine wpList_load_mid rfl 45 (.tmp 22) rfl b (o + k * 5) rfl x.cs _ xr Try.underlying45 rfl run_size ?_; clear xr)
          | (refine wpList_run_w (by rfl) (.slice (some ⟨W4.heap.size, 0, none⟩) 1 1) W5 (by rw [HW5.out]; exact bsl_run 23 45 1 _ rfl 5 72 _ _ _ under_runs info_run (by decide) (by decide) rfl (by kernel_rfl)) ?_)
          | (at_builtin; refine wpList_append_go rfl (.tmp 19) (.tmp 24) 23 23 rfl _ _ rfl rfl HR6.out ?_))
        exact ⟨⟨k + 1, LT.out, rfl, NX⟩, GO.out⟩
    · obtain rfl : k = n := by omega
      have i0 : ((k : Int) < (k : Int)) = False := eq_false (by omega)
      have hw := HI.out.1.own
      rw [List.take_of_length_le (by have := HN.out.1; omega)] at hw
      obtain ⟨va, vc, hv, _⟩ := hw.sl
      have nw := HI.out.1.new
      have FIN : Hid (NmP W (metL ps y.r.f y.r.l) (.returned u5) wr) := hidIt (by
        rw [hv] at hw nw ⊢
        exact ⟨va, vc, rfl, hw, fun b hb => Nat.le_of_lt (nw b hb), hw.ls (fun x hx => (HL.out.1 x (List.mem_filter.1 hx).1).below HI.out.1.below), HI.out.1.below⟩)
      clear hk hlt hw hv nw
      go_wp2_with fail
      exact bodyPost_ret (v := u5) (by simp [results, Try.results24, go_sem]) rfl FIN.out
end Go.Proofs.Ytelcijfcgflagaa
namespace Go.Proofs.Ytelcijfcgflagaa
open Go.RowKit
attribute [-go_sem] Builtin.append_
/-- A choice's cells. -/
def chC (lv : Int) (fr to f l : Value) (d : Bool) : List Value := [.int .i64 lv, fr, to, f, l, .bool d]
set_option maxRecDepth 100000 in
set_option maxHeartbeats 1000000 in
theorem lmet_any {W : World} {a : Option Addr} {ps : List RV} {N M : List Nat} {fv tv fr to : Value} {f t : ByteArray} {lv : Int} {d : Bool} (n C : Nat) (hn : ps.length = n) (hL : LsR W a ps) (hC : n ≤ C) (hf : n ≤ 100000) (hR : Row ps) (hft : cmpB f t ≤ 0) (hfv : Txt W N fv f) (htv : Txt W M tv t) : Calls Try.prog 48 #[.agg (chC lv fr to fv tv d).toArray, .slice a n C] W (MetP W a ps (metL ps f t)) := by
  have HL := hidIt hL
  have HN := hidIt (And.intro hn (And.intro hC (And.intro hf (And.intro hR hft))))
  have HF := hidIt hfv
  have HT := hidIt htv
  clear hn hL hC hf hR hft hfv htv
  go_enter Try.func48, Try.ntmps48
  go_wp2_with (first
    | (refine wpList_box_rec rfl 50 (.tmp 0) rfl (chC lv fr to fv tv d) rfl W.heap.size rfl ?_; intro W1 R1 B1 z1; have E1 := hidIt B1; have q3 := (R1.cel 3 _ rfl).1; have q4 := (R1.cel 4 _ rfl).1; clear R1 B1 z1)
    | (go_at_call 66; refine (lmeeting_any n C HN.out.1 (HL.out.below E1.out) HN.out.2.1 HN.out.2.2.1 HN.out.2.2.2.1 HN.out.2.2.2.2 (HF.out.below E1.out) (HT.out.below E1.out)).mono ?_; rintro e W2 ⟨a2, c2, rfl, hc, hl, hb⟩; have FI := hidIt (And.intro hc (And.intro hl (E1.out.trans (hb.mono E1.out.size)))); clear hc hl hb))
  exact bodyPost_ret (v := .slice a2 (metL ps f t).length c2) (by simp [results, Try.results48, go_sem]) rfl ⟨a2, c2, rfl, FI.out.1, FI.out.2.1, FI.out.2.2⟩
theorem lmaygo_any (W : World) (z : Int) : Calls Try.prog 18 #[.int .i64 z] W fun e w' => e = .returned (.bool (decide (0 ≤ z) && decide (z < 3))) ∧ w' = W := by
  by_cases h0 : 0 ≤ z
  · have c0 : (0 ≤ z) = True := eq_true h0
    by_cases h1 : z < 3
    · have c1 : (z < 3) = True := eq_true h1
      rw [decide_eq_true h0, decide_eq_true h1]
      clear h0 h1
      go_enter Try.func18, Try.ntmps18
      go_wp2_with fail
      exact bodyPost_ret (v := .bool true) (by simp [results, Try.results18, go_sem]) rfl ⟨rfl, rfl⟩
    · have c1 : (z < 3) = False := eq_false h1
      rw [decide_eq_true h0, decide_eq_false h1]
      clear h0 h1
      go_enter Try.func18, Try.ntmps18
      go_wp2_with fail
      exact bodyPost_ret (v := .bool false) (by simp [results, Try.results18, go_sem]) rfl ⟨rfl, rfl⟩
  · have c0 : (0 ≤ z) = False := eq_false h0
    rw [decide_eq_false h0]
    clear h0
    go_enter Try.func18, Try.ntmps18
    go_wp2_with fail
    exact bodyPost_ret (v := .bool false) (by simp [results, Try.results18, go_sem]) rfl ⟨rfl, rfl⟩
end Go.Proofs.Ytelcijfcgflagaa
namespace Go.Proofs.Ytelcijfcgflagaa
open Go.RowKit
attribute [-go_sem] Builtin.append_
theorem cisnan_any (W : World) (z : Int) : Calls Try.prog 81 #[.int .i64 z] W fun e w' => e = .returned (.bool false) ∧ w' = W := by
  have q : (z != z) = false := by simp
  go_enter Try.func81, Try.ntmps81
  go_wp2_with fail
  exact bodyPost_ret (v := .bool false) (by simp [results, Try.results81, go_sem]) rfl ⟨rfl, rfl⟩
/-- How two numbers stand. -/
def cmpI (x y : Int) : Int := if x < y then -1 else if y < x then 1 else 0
set_option maxRecDepth 100000 in
theorem ccmp_any (W : World) (x y : Int) : Calls Try.prog 65 #[.int .i64 x, .int .i64 y] W fun e w' => e = .returned (.int .i64 (cmpI x y)) ∧ w' = W := by
  have t1 : Hid True := trivial
  unfold cmpI
  by_cases h1 : x < y
  · have c1 : (x < y) = True := eq_true h1
    rw [if_pos h1]
    clear h1
    go_enter Try.func65, Try.ntmps65
    go_wp2_with (first
      | (go_at_call 81; have _q := t1; clear t1 _q; refine (cisnan_any W x).mono ?_; rintro e w1 ⟨rfl, hw⟩; rw [hw]; clear hw w1)
      | (go_at_call 81; refine (cisnan_any W y).mono ?_; rintro e w1 ⟨rfl, hw⟩; rw [hw]; clear hw w1))
    exact bodyPost_ret (v := .int .i64 (-1)) (by simp [results, Try.results65, go_sem]) rfl ⟨rfl, rfl⟩
  · have c1 : (x < y) = False := eq_false h1
    rw [if_neg h1]
    by_cases h2 : y < x
    · have c2 : (y < x) = True := eq_true h2
      rw [if_pos h2]
      clear h1 h2
      go_enter Try.func65, Try.ntmps65
      go_wp2_with (first
        | (go_at_call 81; have _q := t1; clear t1 _q; refine (cisnan_any W x).mono ?_; rintro e w1 ⟨rfl, hw⟩; rw [hw]; clear hw w1)
        | (go_at_call 81; refine (cisnan_any W y).mono ?_; rintro e w1 ⟨rfl, hw⟩; rw [hw]; clear hw w1))
      exact bodyPost_ret (v := .int .i64 1) (by simp [results, Try.results65, go_sem]) rfl ⟨rfl, rfl⟩
    · have c2 : (y < x) = False := eq_false h2
      rw [if_neg h2]
      clear h1 h2
      go_enter Try.func65, Try.ntmps65
      go_wp2_with (first
        | (go_at_call 81; have _q := t1; clear t1 _q; refine (cisnan_any W x).mono ?_; rintro e w1 ⟨rfl, hw⟩; rw [hw]; clear hw w1)
        | (go_at_call 81; refine (cisnan_any W y).mono ?_; rintro e w1 ⟨rfl, hw⟩; rw [hw]; clear hw w1))
      exact bodyPost_ret (v := .int .i64 0) (by simp [results, Try.results65, go_sem]) rfl ⟨rfl, rfl⟩
set_option maxRecDepth 100000 in
set_option maxHeartbeats 2000000 in
theorem fewc_any {W : World} {an : Option Addr} {ps : List RV} {b0 : Nat} {N M : List Nat} {x y : RV} (n C : Nat) (hn : ps.length = n) (hL : LsR W an ps) (hC : n ≤ C) (hf : n ≤ 100000) (hR : Row ps) (c0 : W.cell? ⟨b0, 0, none⟩ = some (.slice an n C)) (hx : RVOk W N x) (hy : RVOk W M y) (sx : cmpB x.r.f x.r.l ≤ 0) (sy : cmpB y.r.f y.r.l ≤ 0) : Calls Try.prog 64 #[.agg x.cs.toArray, .agg y.cs.toArray, .pointer (some ⟨b0, 0, none⟩)] W fun e w' => e = .returned (.int .i64 (cmpI ((metL ps x.r.f x.r.l).length : Int) ((metL ps y.r.f y.r.l).length : Int))) ∧ Below W.heap.size W w' := by
  have HL := hidIt hL
  have HN := hidIt (And.intro hn (And.intro hC (And.intro hf hR)))
  have HX := hidIt (And.intro hx sx)
  have HY := hidIt (And.intro hy sy)
  have C0 := hidIt c0
  have b0l : b0 < W.heap.size := World.block_lt_of_cell? W ⟨b0, 0, none⟩ c0
  have B0 := hidIt b0l
  clear hn hL hC hf hR c0 hx hy sx sy b0l
  go_enter Try.func64, Try.ntmps64
  go_wp2_with (first
    | (refine wpList_box_rec rfl 45 (.tmp 0) rfl x.cs rfl W.heap.size rfl ?_; intro W1 R1 B1 z1; have E1 := hidIt B1; have P1 := hidIt R1; have Z1 := hidIt z1; clear R1 B1 z1)
    | (refine wpList_box_rec rfl 45 (.tmp 1) rfl y.cs rfl (W.heap.size + 1) Z1.out ?_; intro W2 R2 B2 z2; have E2 := hidIt (E1.out.trans (B2.mono (by omega))); have P2 := hidIt (P1.out.below (by rw [Z1.out]; exact B2)); have Q2 := hidIt R2; have Z2 := hidIt z2; clear R2 B2 z2))
  have ED := hidIt E2.out.drew
  have KEEP : Hid (∀ U, Below W2.drew.heap.size W2.drew U → U.cell? ⟨b0, 0, none⟩ = some (.slice an n C) ∧ U.cell? ⟨W.heap.size, 3, none⟩ = some x.f ∧ U.cell? ⟨W.heap.size, 4, none⟩ = some x.l ∧ U.cell? ⟨W.heap.size + 1, 3, none⟩ = some y.f ∧ U.cell? ⟨W.heap.size + 1, 4, none⟩ = some y.l) := hidIt (fun U hU => by
    have p := (P2.out.below (Below.refl _ _).drew).below hU
    have q := (Q2.out.below (Below.refl _ _).drew).below hU
    have e := ED.out.trans (hU.mono ED.out.size)
    exact ⟨(e.cell (p := ⟨b0, 0, none⟩) B0.out).trans C0.out, (p.cel 3 _ rfl).1, (p.cel 4 _ rfl).1, (q.cel 3 _ rfl).1, (q.cel 4 _ rfl).1⟩)
  refine wp_region_noPanic ?_
  refine wp_region_held_drew (S := fun w' => w'.cell? ⟨b0, 0, none⟩ = some (.slice an n C) ∧ w'.cell? ⟨W.heap.size, 3, none⟩ = some x.f ∧ w'.cell? ⟨W.heap.size, 4, none⟩ = some x.l ∧ w'.cell? ⟨W.heap.size + 1, 3, none⟩ = some y.f ∧ w'.cell? ⟨W.heap.size + 1, 4, none⟩ = some y.l) (by kernel_rfl) ?_ (fun hHeld => ?_)
  · exact KEEP.out _ (Below.refl _ _)
  refine take_at (i := 0) (v := ?_) (some 6) rfl rfl (by kernel_rfl) (by kernel_rfl) (by kernel_rfl) (fun _ _ _ h => h) (Or.inl ⟨by rfl, ?_⟩) (by assumption) ?_
  rotate_left
  · (intro w hSw; (try dsimp only at hSw); go_simp; try with_reducible rfl)
  simp only [Act.put, List.setIfInBounds_toArray, List.set_cons_zero, List.set_cons_succ]
  refine take_at (i := 1) (v := ?_) (some 7) rfl rfl (by kernel_rfl) (by kernel_rfl) (by kernel_rfl) (fun _ _ _ h => h) (Or.inl ⟨by rfl, ?_⟩) (by assumption) ?_
  rotate_left
  · (intro w hSw; (try dsimp only at hSw); go_simp; try with_reducible rfl)
  simp only [Act.put, List.setIfInBounds_toArray, List.set_cons_zero, List.set_cons_succ]
  refine take_at (i := 2) (v := ?_) (some 8) rfl rfl (by kernel_rfl) (by kernel_rfl) (by kernel_rfl) (fun _ _ _ h => h) (Or.inl ⟨by rfl, ?_⟩) (by assumption) ?_
  rotate_left
  · (intro w hSw; (try dsimp only at hSw); go_simp; try with_reducible rfl)
  simp only [Act.put, List.setIfInBounds_toArray, List.set_cons_zero, List.set_cons_succ]
  refine take_at (i := 3) (v := ?_) (some 9) rfl rfl (by kernel_rfl) (by kernel_rfl) (by kernel_rfl) (fun _ _ _ h => h) (Or.inl ⟨by rfl, ?_⟩) (by assumption) ?_
  rotate_left
  · (intro w hSw; (try dsimp only at hSw); go_simp; try with_reducible rfl)
  simp only [Act.put, List.setIfInBounds_toArray, List.set_cons_zero, List.set_cons_succ]
  refine take_at (i := 4) (v := ?_) (some 10) rfl rfl (by kernel_rfl) (by kernel_rfl) (by kernel_rfl) (fun _ _ _ h => h) (Or.inl ⟨by rfl, ?_⟩) (by assumption) ?_
  rotate_left
  · (intro w hSw; (try dsimp only at hSw); go_simp; try with_reducible rfl)
  simp only [Act.put, List.setIfInBounds_toArray, List.set_cons_zero, List.set_cons_succ]
  refine take_at (i := 7) (v := ?_) (some 13) rfl rfl (by kernel_rfl) (by kernel_rfl) (by kernel_rfl) (fun _ _ _ h => h) (Or.inl ⟨by rfl, ?_⟩) (by assumption) ?_
  rotate_left
  · (intro w hSw; (try dsimp only at hSw); go_simp; try with_reducible rfl)
  simp only [Act.put, List.setIfInBounds_toArray, List.set_cons_zero, List.set_cons_succ]
  refine take_at (i := 8) (v := ?_) (some 14) rfl rfl (by kernel_rfl) (by kernel_rfl) (by kernel_rfl) (fun _ _ _ h => h) (Or.inl ⟨by rfl, ?_⟩) (by assumption) ?_
  rotate_left
  · (intro w hSw; (try dsimp only at hSw); go_simp; try with_reducible rfl)
  simp only [Act.put, List.setIfInBounds_toArray, List.set_cons_zero, List.set_cons_succ]
  refine take_at (i := 9) (v := ?_) (some 15) rfl rfl (by kernel_rfl) (by kernel_rfl) (by kernel_rfl) (fun _ _ _ h => h) (Or.inl ⟨by rfl, ?_⟩) (by assumption) ?_
  rotate_left
  · (intro w hSw; (try dsimp only at hSw); go_simp; try with_reducible rfl)
  simp only [Act.put, List.setIfInBounds_toArray, List.set_cons_zero, List.set_cons_succ]
  refine take_at (i := 10) (v := ?_) (some 16) rfl rfl (by kernel_rfl) (by kernel_rfl) (by kernel_rfl) (fun _ _ _ h => h) (Or.inl ⟨by rfl, ?_⟩) (by assumption) ?_
  rotate_left
  · (intro w hSw; (try dsimp only at hSw); go_simp; try with_reducible rfl)
  simp only [Act.put, List.setIfInBounds_toArray, List.set_cons_zero, List.set_cons_succ]
  refine take_at (i := 11) (v := ?_) (some 17) rfl rfl (by kernel_rfl) (by kernel_rfl) (by kernel_rfl) (fun _ _ _ h => h) (Or.inl ⟨by rfl, ?_⟩) (by assumption) ?_
  rotate_left
  · (intro w hSw; (try dsimp only at hSw); go_simp; try with_reducible rfl)
  simp only [Act.put, List.setIfInBounds_toArray, List.set_cons_zero, List.set_cons_succ]
  refine call_at (i := 5) (some 11) 66 _ _ rfl rfl rfl (by rfl) (by kernel_rfl) #[.slice an n C, x.f, x.l] rfl Try.func66 (by kernel_rfl) (by kernel_rfl) ?_
  refine (lmeeting_any n C HN.out.1 (HL.out.below ED.out) HN.out.2.1 HN.out.2.2.1 HN.out.2.2.2 HX.out.2 (HX.out.1.1.below ED.out) (HX.out.1.2.below ED.out)).mono ?_
  rintro e W3 ⟨a3, k3, rfl, _, _, hb⟩
  have B3 := hidIt hb
  have E3 := hidIt (ED.out.trans (hb.mono ED.out.size))
  clear hb
  refine ⟨_, rfl, KEEP.out _ B3.out, fun hHeld => ?_⟩
  simp only [Act.put, List.setIfInBounds_toArray, List.set_cons_zero, List.set_cons_succ]
  refine take_at (i := 6) (v := ?_) (some 12) rfl rfl (by kernel_rfl) (by kernel_rfl) (by kernel_rfl) (fun _ _ _ h => h) (Or.inl ⟨by rfl, ?_⟩) (by assumption) ?_
  rotate_left
  · (intro w hSw; (try dsimp only at hSw); go_simp; try with_reducible rfl)
  simp only [Act.put, List.setIfInBounds_toArray, List.set_cons_zero, List.set_cons_succ]
  refine call_at (i := 12) (some 18) 66 _ _ rfl rfl rfl (by rfl) (by kernel_rfl) #[.slice an n C, y.f, y.l] rfl Try.func66 (by kernel_rfl) (by kernel_rfl) ?_
  refine (lmeeting_any n C HN.out.1 (HL.out.below E3.out) HN.out.2.1 HN.out.2.2.1 HN.out.2.2.2 HY.out.2 (HY.out.1.1.below E3.out) (HY.out.1.2.below E3.out)).mono ?_
  rintro e W4 ⟨a4, k4, rfl, _, _, hb⟩
  have B4 := hidIt (B3.out.trans (hb.mono B3.out.size))
  have E4 := hidIt (E3.out.trans (hb.mono E3.out.size))
  clear hb
  refine ⟨_, rfl, KEEP.out _ B4.out, fun hHeld => ?_⟩
  simp only [Act.put, List.setIfInBounds_toArray, List.set_cons_zero, List.set_cons_succ]
  refine take_at (i := 13) (v := ?_) (some 19) rfl rfl (by kernel_rfl) (by kernel_rfl) (by kernel_rfl) (fun _ _ _ h => h) (Or.inl ⟨by rfl, ?_⟩) (by assumption) ?_
  rotate_left
  · (intro w hSw; (try dsimp only at hSw); go_simp; try with_reducible rfl)
  simp only [Act.put, List.setIfInBounds_toArray, List.set_cons_zero, List.set_cons_succ]
  refine call_at (i := 14) (some 20) 65 _ _ rfl rfl rfl (by rfl) (by kernel_rfl) #[.int .i64 ((metL ps x.r.f x.r.l).length : Int), .int .i64 ((metL ps y.r.f y.r.l).length : Int)] rfl Try.func65 (by kernel_rfl) (by kernel_rfl) ?_
  refine (ccmp_any W4 _ _).mono ?_
  rintro e w5 ⟨rfl, hw⟩
  subst hw
  refine ⟨_, rfl, KEEP.out _ B4.out, fun hHeld => ?_⟩
  simp only [Act.put, List.setIfInBounds_toArray, List.set_cons_zero, List.set_cons_succ]
  refine take_at (i := 15) (v := ?_) (some 5) rfl rfl (by kernel_rfl) (by kernel_rfl) (by kernel_rfl) (fun _ _ _ h => h) (Or.inl ⟨by rfl, ?_⟩) (by assumption) ?_
  rotate_left
  · (intro w hSw; (try dsimp only at hSw); go_simp; try with_reducible rfl)
  simp only [Act.put, List.setIfInBounds_toArray, List.set_cons_zero, List.set_cons_succ]
  refine wpAnyH_done (by kernel_rfl) ?_ _
  refine NoPanic.normal ?_
  go_wp2_with fail
  exact bodyPost_ret (v := .int .i64 (cmpI ((metL ps x.r.f x.r.l).length : Int) ((metL ps y.r.f y.r.l).length : Int))) (by simp [results, Try.results64, go_sem]) rfl ⟨rfl, E4.out⟩
end Go.Proofs.Ytelcijfcgflagaa
namespace Go.Proofs.Ytelcijfcgflagaa
open Go.RowKit
attribute [-go_sem] Builtin.append_
section
variable {md : Region.Mode} {ops : Array Oper} {Q : Exit → Act → World → Prop} {S : World → Prop}
/-- A call of a closure that a place holds. -/
theorem callv_at {i : Nat} {o : Oper} {fuel : Nat} {listed : Array Bool} {a : Act} {w : World} (d : Option Tmp) (f : FuncId) (cx : Operand) (xs : Array Operand) (tys : Array TypeId) (caps : Array Value) (hi : ops[i]? = some o) (hd : o.dst = d)
    (hop : o.op = .call { callee := .value cx, args := xs, argTypes := tys }) (hcx : a.eval cx = .func (.func f) #[] caps) (hw : Region.wanted o (yielded ops a.tmps) = true) (hr : Region.ready md ops listed = [i])
    (vs : Array Value) (hv : xs.toList.map a.eval = vs.toList) {fn : Func} (hf : Try.prog.funcs[f]? = some fn) (hg : (fn.name == "runtime.NumGoroutine") = false) (hb : fn.body.isNone = false)
    (hc : Calls Try.prog f (vs ++ caps) w fun e w' => ∃ v, e = .returned v ∧ S w' ∧ (S w' → wpAnyH Try.prog md ops Q S fuel (listed.setIfInBounds i true) (a.put d v) w')) : wpAnyH Try.prog md ops Q S (fuel + 1) listed a w := by
  have hv' : xs.map a.eval = vs := Array.toList_inj.1 (by simpa using hv)
  subst hd hv'
  clear hv
  refine wpAnyH_all hr (by simp) (fun j hj => ?_)
  obtain rfl : j = i := by simpa using hj
  unfold wpOp
  simp only [hi, hw, if_true]
  refine .inl ?_
  unfold Oper.wp
  have hx : (execOp a.eval o).run Try.prog w = .ok (.enter f (xs.map a.eval ++ caps)) w := by
    have hg' : ¬ fn.name = "runtime.NumGoroutine" := by simpa using hg
    have hb' : ¬ fn.body = none := fun e => by rw [e] at hb; cases hb
    simp [execOp, hop, resolve, hcx, Deferred.ofValue, invoke, callFunc, run_program, hf, hg', hb']
  rw [hx]
  refine hc.mono ?_
  rintro e w' ⟨v, rfl, hS, hn⟩
  exact ⟨hS, hn hS⟩
end
/-- The first place of the least. -/
def bst (K : Nat → Nat) : Nat → Nat
  | 0 => 0
  | k + 1 => if K k < K (bst K k) then k else bst K k
theorem bst_lt (K : Nat → Nat) : ∀ k, 0 < k → bst K k < k
  | 0, h => by omega
  | 1, _ => by unfold bst; split <;> simp [bst]
  | k + 2, _ => by
    unfold bst
    have := bst_lt K (k + 1) (by omega)
    split <;> omega
theorem cmpI_neg (a b : Nat) : (cmpI (a : Int) (b : Int) < 0) = (a < b) := by
  unfold cmpI
  by_cases h : a < b
  · rw [if_pos (by omega)]; simp [h]
  · rw [if_neg (by omega)]
    split <;> simp [h]
/-- What MinFunc answers. -/
def MinP (W : World) (ps : List RV) (K : Nat → Nat) (e : Ending) (w' : World) : Prop := ∃ y, ps[bst K ps.length]? = some y ∧ e = .returned (.agg y.cs.toArray) ∧ Below W.heap.size W w'
set_option maxRecDepth 100000 in
set_option maxHeartbeats 2000000 in
theorem minf_any {W : World} {a : Option Addr} {ps : List RV} {p : Value} {K : Nat → Nat} (n C : Nat) (hn : ps.length = n) (hL : LsR W a ps) (h1 : 0 < n) (hf : n ≤ 100000) (hc : ∀ u i j x y, ps[i]? = some x → ps[j]? = some y → Below W.heap.size W u → Calls Try.prog 64 #[.agg x.cs.toArray, .agg y.cs.toArray, p] u fun e w' => e = .returned (.int .i64 (cmpI (K i : Int) (K j : Int))) ∧ Below u.heap.size u w') : Calls Try.prog 63 #[.slice a n C, .func (.func 64) #[] #[p]] W (MinP W ps K) := by
  have HL := hidIt hL
  have HN := hidIt (And.intro hn (And.intro h1 hf))
  have HC := hidIt hc
  obtain ⟨x0, hx0⟩ : ∃ x0, ps[0]? = some x0 := ⟨_, List.getElem?_eq_getElem (by omega)⟩
  obtain ⟨b, o, ha, hr0, hb⟩ := hL.at 0 x0 hx0
  subst ha
  rw [Nat.zero_mul, Nat.add_zero] at hr0
  have X0 := hidIt hx0
  have BL := hidIt hb
  have c1 : ((n : Int) < 1) = False := eq_false (by omega)
  have c1' : (n < 1) = False := eq_false (by omega)
  have c2 : ((0 : Int) < (n : Int)) = True := eq_true (by omega)
  have c2' : (0 < n) = True := eq_true h1
  have R0 := hidIt hr0
  clear hn hL h1 hf hc hx0 hb hr0
  go_enter Try.func63, Try.ntmps63
  have t1 : Hid True := trivial
  go_wp2_with (first
    | (have _q := t1; clear t1 _q; refine wpList_alloc_rec rfl 45 rfl _ W.heap.size rfl run_zero ?_; intro W1 R1 B1 z1; have E1 := hidIt B1; have P1 := hidIt R1; have Z1 := hidIt z1; clear R1 B1 z1)
    | (refine wpList_load_mid rfl 45 (.tmp 12) rfl b o rfl x0.cs _ (fun j v hj => (E1.out.cell (p := ⟨b, o + j, none⟩) BL.out).trans (R0.out j v hj)) Try.underlying45 rfl run_size ?_)
    | (refine wpList_alloc_rec rfl 45 rfl _ (W.heap.size + 1) Z1.out run_zero ?_; intro W2 R2 B2 z2; have E2 := hidIt (E1.out.trans (B2.mono (by omega))); have P2 := hidIt R2; have Q2 := hidIt (P1.out.below (by rw [Z1.out]; exact B2)); clear R2 B2 z2)
    | (refine wpList_store_rec rfl 45 (.tmp 5) (.tmp 13) rfl (W.heap.size + 1) 0 _ x0.cs rfl rfl P2.out rfl run_size (HL.out.1 x0 (List.mem_of_getElem? X0.out)).one ?_; intro W3 R3 B3; have E3 := hidIt (E2.out.trans (B3.below (by omega) E2.out.size)); have P3 := hidIt R3; have Q3 := hidIt (Q2.out.but B3 (by omega)); clear R3 B3; refine Held.out ?_))
  have ST : Hid (∃ y, ps[bst K 1]? = some y ∧ Rec19 W3 (W.heap.size + 1) 0 y.cs ∧ Rec19 W3 W.heap.size 0 [.int .i64 0, .int .i64 0, .int .i64 0, .slice none 0 0, .slice none 0 0] ∧ Below W.heap.size W W3) := hidIt ⟨x0, by have := bst_lt K 1 (by omega); rw [show bst K 1 = 0 by omega]; exact X0.out, P3.out, Q3.out, E3.out⟩
  clear c1 c1' c2 c2'
  refine Held.mk ?_
  go_wp2_with fail
  go_loopw [6] (fun iv wr => ∃ k : Nat, 1 ≤ k ∧ k ≤ n ∧ iv = .int .i64 (k : Int) ∧ Hid (∃ y, ps[bst K k]? = some y ∧ Rec19 wr (W.heap.size + 1) 0 y.cs ∧ Rec19 wr W.heap.size 0 [.int .i64 0, .int .i64 0, .int .i64 0, .slice none 0 0, .slice none 0 0] ∧ Below W.heap.size W wr)) (fun iv _ => n - (RowKit.intOf iv).toNat)
  case atStart => exact ⟨1, by omega, HN.out.2.1, rfl, ST⟩
  case round =>
    clear ST
    obtain ⟨k, hk1, hk, rfl, HI⟩ := hrel
    rename World => wr
    obtain ⟨y, hy, hR5, hR4, hB⟩ := HI.out
    have HY := hidIt hy
    have P5 := hidIt hR5
    have P4 := hidIt hR4
    have BB := hidIt hB
    clear hy hR5 hR4 hB
    by_cases hlt : k < n
    · obtain ⟨x, hx⟩ : ∃ x, ps[k]? = some x := ⟨_, List.getElem?_eq_getElem (by have := HN.out.1; omega)⟩
      have HX := hidIt hx
      have LT := hidIt hlt
      obtain ⟨b', o', ha, hr, hb⟩ := HL.out.at k x hx
      injection ha with ha
      injection ha with e1 e2
      subst e1 e2
      have RX : Hid (∀ U, Below W.heap.size W U → U.rangeAt b (o + k * 5) x.cs) := hidIt (fun U hU j v hj => (hU.cell (p := ⟨b, o + k * 5 + j, none⟩) hb).trans (hr j v hj))
      obtain ⟨i0, i1, i2, i3, i4⟩ := tb_ar k n hlt HN.out.2.2
      have GO := hidIt i4
      clear hx hr hb hlt hk i4
      by_cases hlss : K k < K (bst K k)
      · have q : (cmpI (K k : Int) (K (bst K k) : Int) < 0) = True := by rw [cmpI_neg]; exact eq_true hlss
        have NB : Hid (bst K (k + 1) = k) := hidIt (by show (if K k < K (bst K k) then k else bst K k) = k; rw [if_pos hlss])
        clear hlss
        have sx := RX.out _ BB.out.drew
        have sy := (P5.out.below (Below.refl _ _).drew).1
        go_wp2_with fail
        refine wp_region_noPanic ?_
        refine wp_region_held_drew (S := fun w' => w'.rangeAt b (o + k * 5) x.cs ∧ w'.rangeAt (W.heap.size + 1) 0 y.cs) (by kernel_rfl) ?_ (fun hHeld => ?_)
        · exact ⟨sx, sy⟩
        refine take_at (i := 0) (v := ?_) (some 20) rfl rfl (by kernel_rfl) (by kernel_rfl) (by kernel_rfl) (fun _ _ _ h => h) (Or.inl ⟨by rfl, ?_⟩) (by assumption) ?_
        rotate_left
        · (intro w hSw; (try dsimp only at hSw); go_simp; try with_reducible rfl)
        simp only [Act.put, List.setIfInBounds_toArray, List.set_cons_zero, List.set_cons_succ]
        refine take_at (i := 1) (v := ?_) (some 21) rfl rfl (by kernel_rfl) (by kernel_rfl) (by kernel_rfl) (fun _ _ _ h => h) (Or.inl ⟨by rfl, ?_⟩) (by assumption) ?_
        rotate_left
        · (intro w hSw; (try dsimp only at hSw); go_simp; try with_reducible rfl)
        simp only [Act.put, List.setIfInBounds_toArray, List.set_cons_zero, List.set_cons_succ]
        refine take_at (i := 2) (v := ?_) (some 22) rfl rfl (by kernel_rfl) (by kernel_rfl) (by kernel_rfl) (fun _ _ _ h => h) (Or.inl ⟨by rfl, ?_⟩) (by assumption) ?_
        rotate_left
        · (intro w hSw; (try dsimp only at hSw); go_simp; try with_reducible rfl)
        simp only [Act.put, List.setIfInBounds_toArray, List.set_cons_zero, List.set_cons_succ]
        refine take_at (i := 3) (v := ?_) (some 23) rfl rfl (by kernel_rfl) (by kernel_rfl) (by kernel_rfl) (fun _ _ _ h => h) (Or.inl ⟨by rfl, ?_⟩) (by assumption) ?_
        rotate_left
        · (intro w hSw; (try dsimp only at hSw); go_simp; try with_reducible rfl)
        simp only [Act.put, List.setIfInBounds_toArray, List.set_cons_zero, List.set_cons_succ]
        refine take_at (i := 4) (v := _) (some 24) rfl rfl (by kernel_rfl) (by kernel_rfl) (by kernel_rfl) (fun _ _ _ h => h) (yieldsIf_load_mid (by rfl) _ _ rfl _ _ rfl _ _ (fun w h => h.1) Try.underlying45 rfl (by kernel_rfl)) (by assumption) ?_
        simp only [Act.put, List.setIfInBounds_toArray, List.set_cons_zero, List.set_cons_succ]
        refine take_at (i := 5) (v := _) (some 25) rfl rfl (by kernel_rfl) (by kernel_rfl) (by kernel_rfl) (fun _ _ _ h => h) (yieldsIf_load_mid (by rfl) _ _ rfl _ _ rfl _ _ (fun w h => h.2) Try.underlying45 rfl (by kernel_rfl)) (by assumption) ?_
        simp only [Act.put, List.setIfInBounds_toArray, List.set_cons_zero, List.set_cons_succ]
        refine callv_at (i := 6) (some 26) 64 _ _ _ #[p] rfl rfl rfl rfl (by rfl) (by kernel_rfl) #[.agg x.cs.toArray, .agg y.cs.toArray] rfl Try.func64 (by kernel_rfl) (by kernel_rfl) ?_
        refine (HC.out _ k (bst K k) x y HX.out HY.out BB.out.drew).mono ?_
        rintro e W2 ⟨rfl, hb2⟩
        have E2 := hidIt (BB.out.drew.trans (hb2.mono BB.out.drew.size))
        have P6 := hidIt ((P5.out.below (Below.refl _ _).drew).below hb2)
        have P7 := hidIt ((P4.out.below (Below.refl _ _).drew).below hb2)
        clear hb2 sx sy
        refine ⟨_, rfl, ⟨RX.out W2 E2.out, P6.out.1⟩, fun hHeld => ?_⟩
        simp only [Act.put, List.setIfInBounds_toArray, List.set_cons_zero, List.set_cons_succ]
        refine take_at (i := 7) (v := ?_) (some 27) rfl rfl (by kernel_rfl) (by kernel_rfl) (by kernel_rfl) (fun _ _ _ h => h) (Or.inl ⟨by rfl, ?_⟩) (by assumption) ?_
        rotate_left
        · (intro w hSw; (try dsimp only at hSw); go_simp; try with_reducible rfl)
        simp only [Act.put, List.setIfInBounds_toArray, List.set_cons_zero, List.set_cons_succ]
        refine wpAnyH_done (by kernel_rfl) ?_ _
        refine NoPanic.normal ?_
        clear hHeld
        have rx := RX.out W2 E2.out
        go_wp2_with (first
          | (refine wpList_load_mid rfl 45 (.tmp 30) rfl b (o + k * 5) rfl x.cs _ rx Try.underlying45 rfl run_size ?_; clear rx)
          | (refine wpList_store_rec rfl 45 (.tmp 5) (.tmp 31) rfl (W.heap.size + 1) 0 _ x.cs rfl rfl P6.out rfl run_size (HL.out.1 x (List.mem_of_getElem? HX.out)).one ?_; intro W3 R3 B3; have NX : Hid (∃ y, ps[bst K (k + 1)]? = some y ∧ Rec19 W3 (W.heap.size + 1) 0 y.cs ∧ Rec19 W3 W.heap.size 0 [.int .i64 0, .int .i64 0, .int .i64 0, .slice none 0 0, .slice none 0 0] ∧ Below W.heap.size W W3) := hidIt ⟨x, by rw [NB.out]; exact HX.out, R3, P7.out.but B3 (by omega), E2.out.trans (B3.below (by omega) E2.out.size)⟩; clear R3 B3))
        exact ⟨⟨k + 1, by omega, LT.out, rfl, NX⟩, GO.out⟩
      · have q : (cmpI (K k : Int) (K (bst K k) : Int) < 0) = False := by rw [cmpI_neg]; exact eq_false hlss
        have NB : Hid (bst K (k + 1) = bst K k) := hidIt (by show (if K k < K (bst K k) then k else bst K k) = bst K k; rw [if_neg hlss])
        clear hlss
        have sx := RX.out _ BB.out.drew
        have sy := (P5.out.below (Below.refl _ _).drew).1
        go_wp2_with fail
        refine wp_region_noPanic ?_
        refine wp_region_held_drew (S := fun w' => w'.rangeAt b (o + k * 5) x.cs ∧ w'.rangeAt (W.heap.size + 1) 0 y.cs) (by kernel_rfl) ?_ (fun hHeld => ?_)
        · exact ⟨sx, sy⟩
        refine take_at (i := 0) (v := ?_) (some 20) rfl rfl (by kernel_rfl) (by kernel_rfl) (by kernel_rfl) (fun _ _ _ h => h) (Or.inl ⟨by rfl, ?_⟩) (by assumption) ?_
        rotate_left
        · (intro w hSw; (try dsimp only at hSw); go_simp; try with_reducible rfl)
        simp only [Act.put, List.setIfInBounds_toArray, List.set_cons_zero, List.set_cons_succ]
        refine take_at (i := 1) (v := ?_) (some 21) rfl rfl (by kernel_rfl) (by kernel_rfl) (by kernel_rfl) (fun _ _ _ h => h) (Or.inl ⟨by rfl, ?_⟩) (by assumption) ?_
        rotate_left
        · (intro w hSw; (try dsimp only at hSw); go_simp; try with_reducible rfl)
        simp only [Act.put, List.setIfInBounds_toArray, List.set_cons_zero, List.set_cons_succ]
        refine take_at (i := 2) (v := ?_) (some 22) rfl rfl (by kernel_rfl) (by kernel_rfl) (by kernel_rfl) (fun _ _ _ h => h) (Or.inl ⟨by rfl, ?_⟩) (by assumption) ?_
        rotate_left
        · (intro w hSw; (try dsimp only at hSw); go_simp; try with_reducible rfl)
        simp only [Act.put, List.setIfInBounds_toArray, List.set_cons_zero, List.set_cons_succ]
        refine take_at (i := 3) (v := ?_) (some 23) rfl rfl (by kernel_rfl) (by kernel_rfl) (by kernel_rfl) (fun _ _ _ h => h) (Or.inl ⟨by rfl, ?_⟩) (by assumption) ?_
        rotate_left
        · (intro w hSw; (try dsimp only at hSw); go_simp; try with_reducible rfl)
        simp only [Act.put, List.setIfInBounds_toArray, List.set_cons_zero, List.set_cons_succ]
        refine take_at (i := 4) (v := _) (some 24) rfl rfl (by kernel_rfl) (by kernel_rfl) (by kernel_rfl) (fun _ _ _ h => h) (yieldsIf_load_mid (by rfl) _ _ rfl _ _ rfl _ _ (fun w h => h.1) Try.underlying45 rfl (by kernel_rfl)) (by assumption) ?_
        simp only [Act.put, List.setIfInBounds_toArray, List.set_cons_zero, List.set_cons_succ]
        refine take_at (i := 5) (v := _) (some 25) rfl rfl (by kernel_rfl) (by kernel_rfl) (by kernel_rfl) (fun _ _ _ h => h) (yieldsIf_load_mid (by rfl) _ _ rfl _ _ rfl _ _ (fun w h => h.2) Try.underlying45 rfl (by kernel_rfl)) (by assumption) ?_
        simp only [Act.put, List.setIfInBounds_toArray, List.set_cons_zero, List.set_cons_succ]
        refine callv_at (i := 6) (some 26) 64 _ _ _ #[p] rfl rfl rfl rfl (by rfl) (by kernel_rfl) #[.agg x.cs.toArray, .agg y.cs.toArray] rfl Try.func64 (by kernel_rfl) (by kernel_rfl) ?_
        refine (HC.out _ k (bst K k) x y HX.out HY.out BB.out.drew).mono ?_
        rintro e W2 ⟨rfl, hb2⟩
        have E2 := hidIt (BB.out.drew.trans (hb2.mono BB.out.drew.size))
        have P6 := hidIt ((P5.out.below (Below.refl _ _).drew).below hb2)
        have P7 := hidIt ((P4.out.below (Below.refl _ _).drew).below hb2)
        clear hb2 sx sy
        refine ⟨_, rfl, ⟨RX.out W2 E2.out, P6.out.1⟩, fun hHeld => ?_⟩
        simp only [Act.put, List.setIfInBounds_toArray, List.set_cons_zero, List.set_cons_succ]
        refine take_at (i := 7) (v := ?_) (some 27) rfl rfl (by kernel_rfl) (by kernel_rfl) (by kernel_rfl) (fun _ _ _ h => h) (Or.inl ⟨by rfl, ?_⟩) (by assumption) ?_
        rotate_left
        · (intro w hSw; (try dsimp only at hSw); go_simp; try with_reducible rfl)
        simp only [Act.put, List.setIfInBounds_toArray, List.set_cons_zero, List.set_cons_succ]
        refine wpAnyH_done (by kernel_rfl) ?_ _
        refine NoPanic.normal ?_
        clear hHeld
        have NX : Hid (∃ y, ps[bst K (k + 1)]? = some y ∧ Rec19 W2 (W.heap.size + 1) 0 y.cs ∧ Rec19 W2 W.heap.size 0 [.int .i64 0, .int .i64 0, .int .i64 0, .slice none 0 0, .slice none 0 0] ∧ Below W.heap.size W W2) := hidIt ⟨y, by rw [NB.out]; exact HY.out, P6.out, P7.out, E2.out⟩
        go_wp2_with fail
        exact ⟨⟨k + 1, by omega, LT.out, rfl, NX⟩, GO.out⟩
    · obtain rfl : k = n := by omega
      have i0 : ((k : Int) < (k : Int)) = False := eq_false (by omega)
      clear hk hlt
      go_wp2_with (first
        | (refine wpList_load_rec rfl 45 (.tmp 5) rfl (W.heap.size + 1) 0 y.cs rfl _ Try.underlying45 rfl run_size P5.out ?_)
        | (refine wpList_store_rec rfl 45 (.tmp 4) (.tmp 32) rfl W.heap.size 0 _ y.cs rfl rfl P4.out rfl run_size (HL.out.1 y (List.mem_of_getElem? HY.out)).one ?_; intro W3 R3 B3; have RR := hidIt R3; have E3 := hidIt (BB.out.trans (B3.below (Nat.le_refl _) BB.out.size)); clear R3 B3))
      have hl := RR.out.run_load 45 _ Try.underlying45 rfl run_size
      exact bodyPost_ret (v := .agg y.cs.toArray) (by simp [results, Try.results63, asAddr, Act.put, hl]) rfl ⟨y, by rw [HN.out.1]; exact HY.out, rfl, E3.out⟩
/-- How many of a level a table meets. -/
def keyM (ps nx : List RV) (i : Nat) : Nat := match ps[i]? with
  | some x => (metL nx x.r.f x.r.l).length
  | none => 0
theorem keyM_at {ps nx : List RV} {i : Nat} {x : RV} (h : ps[i]? = some x) : keyM ps nx i = (metL nx x.r.f x.r.l).length := by unfold keyM; rw [h]
set_option maxRecDepth 100000 in
set_option maxHeartbeats 1000000 in
theorem lfewest_any {W : World} {a an : Option Addr} {ps nx : List RV} (n C m D : Nat) (hn : ps.length = n) (hL : LsR W a ps) (h1 : 0 < n) (hf : n ≤ 100000) (hs : ∀ x ∈ ps, cmpB x.r.f x.r.l ≤ 0) (hm : nx.length = m) (hM : LsR W an nx) (hD : m ≤ D) (hg : m ≤ 100000) (hR : Row nx) : Calls Try.prog 47 #[.slice a n C, .slice an m D] W (MinP W ps (keyM ps nx)) := by
  have HL := hidIt hL
  have HN := hidIt (And.intro hn (And.intro h1 (And.intro hf hs)))
  have HM := hidIt (And.intro hm (And.intro hM (And.intro hD (And.intro hg hR))))
  clear hn hL h1 hf hs hm hM hD hg hR
  go_enter Try.func47, Try.ntmps47
  have A1 : Below W.heap.size W (W.alloc (.cells #[.slice an m D] 23)) := (Below.refl _ _).alloc (Nat.le_refl _) _
  have R1 : Rec19 (W.alloc (.cells #[.slice an m D] 23)) W.heap.size 0 [.slice an m D] := Rec19.new W 23 [.slice an m D]
  obtain ⟨W1, hW1⟩ : ∃ W1, W1 = W.alloc (.cells #[.slice an m D] 23) := ⟨_, rfl⟩
  rw [← hW1] at A1 R1
  have E1 := hidIt A1
  have P1 := hidIt R1
  have HW := hidIt hW1
  have Z1 : Hid (W1.heap.size = W.heap.size + 1) := hidIt (by rw [hW1]; simp)
  clear A1 R1 hW1
  go_wp2_with (first
    | (rw [← HW.out]; refine wpList_alloc_rec rfl 45 rfl _ (W.heap.size + 1) Z1.out run_zero ?_; intro W2 R2 B2 z2; have E2 := hidIt (E1.out.trans (B2.mono (by omega))); have P2 := hidIt R2; have Q2 := hidIt (P1.out.below (by rw [Z1.out]; exact B2)); clear R2 B2 z2)
    | (go_at_call 63; refine (minf_any (p := .pointer (some ⟨W.heap.size, 0, none⟩)) (K := keyM ps nx) n C HN.out.1 (HL.out.below E2.out) HN.out.2.1 HN.out.2.2.1 (fun u i j x y hx hy hB => by
        have hb := E2.out.trans (hB.mono E2.out.size)
        rw [keyM_at hx, keyM_at hy]
        exact fewc_any m D HM.out.1 (HM.out.2.1.below hb) HM.out.2.2.1 HM.out.2.2.2.1 HM.out.2.2.2.2 ((Q2.out.below hB).cel 0 _ rfl).1 ((HL.out.below hb).1 x (List.mem_of_getElem? hx)) ((HL.out.below hb).1 y (List.mem_of_getElem? hy)) (HN.out.2.2.2 x (List.mem_of_getElem? hx)) (HN.out.2.2.2 y (List.mem_of_getElem? hy)))).mono ?_
       rintro e W3 ⟨y, hy, rfl, hb⟩
       have HY := hidIt hy
       have E3 := hidIt (E2.out.trans (hb.mono E2.out.size))
       have P3 := hidIt (P2.out.below hb)
       clear hy hb)
    | (refine wpList_store_rec rfl 45 (.tmp 4) (.tmp 7) rfl (W.heap.size + 1) 0 _ y.cs rfl rfl P3.out rfl run_size (HL.out.1 y (List.mem_of_getElem? HY.out)).one ?_; intro W4 R4 B4; have RR := hidIt R4; have E4 := hidIt (E3.out.trans (B4.below (by omega) E3.out.size)); clear R4 B4))
  have hl := RR.out.run_load 45 _ Try.underlying45 rfl run_size
  exact bodyPost_ret (v := .agg y.cs.toArray) (by simp [results, Try.results47, asAddr, Act.put, hl]) rfl ⟨y, HY.out, rfl, E4.out⟩
end Go.Proofs.Ytelcijfcgflagaa
namespace Go.Proofs.Ytelcijfcgflagaa
open Go.RowKit
attribute [-go_sem] Builtin.append_
theorem OvS.below {S T : Nat → Prop} {W W' : World} {s : Value} (h : OvS W S T s) (hB : Below W.heap.size W W') : OvS W' S T s := by
  rcases h with h | ⟨g2, n, F2, hs, hb2, hl2, h1, h2, hR2⟩
  · exact .inl h
  · have q : hsz W' g2 = hsz W g2 := hsz_eq (hB.block g2 hR2.2.2)
    exact .inr ⟨g2, n, F2, by rw [q]; exact hs, hb2, hl2, by rw [q]; exact h1, by rw [q]; exact h2, by rw [q]; exact hR2.below hB⟩
/-- What plan answers. -/
structure PlI (W w' : World) (B1 B2 : Nat) (a : Option Addr) (c : Nat) (os : List RV) (a2 : Option Addr) (c2 : Nat) (os2 : List RV) : Prop where
  lo : W.heap.size ≤ B1 ∧ B1 ≤ B2
  hi : B2 ≤ w'.heap.size
  own : OwnR w' 0 (.slice a os.length c) os
  new : ∀ b, (Value.slice a os.length c).ownBlock = some b → B1 ≤ b ∧ b < B2
  oks : ∀ x ∈ os, OkT B1 w' (Value.slice a os.length c).ownBlock.toList x
  ovs : ∀ x ∈ os, OvS w' (fun b => B1 ≤ b ∧ b < B2) (fun b => b ∈ (Value.slice a os.length c).ownBlock.toList) x.f ∧ OvS w' (fun b => B1 ≤ b ∧ b < B2) (fun b => b ∈ (Value.slice a os.length c).ownBlock.toList) x.l
  own2 : OwnR w' 0 (.slice a2 os2.length c2) os2
  new2 : ∀ b, (Value.slice a2 os2.length c2).ownBlock = some b → B2 ≤ b
  oks2 : ∀ x ∈ os2, OkT B2 w' (Value.slice a2 os2.length c2).ownBlock.toList x
  below : Below W.heap.size W w'
theorem PlI.below' {W w' w2 : World} {B1 B2 : Nat} {a a2 : Option Addr} {c c2 : Nat} {os os2 : List RV} (h : PlI W w' B1 B2 a c os a2 c2 os2) (hB : Below w'.heap.size w' w2) : PlI W w2 B1 B2 a c os a2 c2 os2 :=
  ⟨h.lo, Nat.le_trans h.hi hB.size, h.own.below hB, h.new, fun x hx => (h.oks x hx).below hB, fun x hx => ⟨(h.ovs x hx).1.below hB, (h.ovs x hx).2.below hB⟩, h.own2.below hB, h.new2, fun x hx => (h.oks2 x hx).below hB, h.below.trans (hB.mono h.below.size)⟩
theorem OvS.far {S T : Nat → Prop} {b : Nat} {W W' : World} {s : Value} (h : OvS W S T s) (hB : But b W W') (hb : ¬ S b) : OvS W' S T s := by
  rcases h with h | ⟨g2, n, F2, hs, hb2, hl2, h1, h2, hR2⟩
  · exact .inl h
  · have e : g2 ≠ b := fun q => hb (q ▸ hb2)
    have q : hsz W' g2 = hsz W g2 := hsz_eq (hB.block g2 hR2.2.2 e)
    exact .inr ⟨g2, n, F2, by rw [q]; exact hs, hb2, hl2, by rw [q]; exact h1, by rw [q]; exact h2, by rw [q]; exact hR2.but hB e⟩
theorem OkT.far {B b : Nat} {W W' : World} {N : List Nat} {x : RV} (h : OkT B W N x) (hB : But b W W') (hb : b < B) : OkT B W' N x := by
  have O := Off.but (bs := [b]) hB (by simp)
  have hN : ∀ g, g ∈ [b] → g < B := fun g hg => by rcases List.mem_singleton.1 hg with rfl; exact hb
  exact ⟨⟨h.1.1.off O hN, h.1.2.off O hN⟩, h.2.both ⟨h.1.1.txt hN, h.1.2.txt hN⟩ O⟩
theorem PlI.put {W w' w2 : World} {B1 B2 b : Nat} {a a2 : Option Addr} {c c2 : Nat} {os os2 : List RV} (h : PlI W w' B1 B2 a c os a2 c2 os2) (hB : But b w' w2) (hb : b < B1) (hw : W.heap.size ≤ b) : PlI W w2 B1 B2 a c os a2 c2 os2 := by
  have O := Off.but (bs := [b]) hB (by simp)
  have l := h.lo
  exact ⟨h.lo, Nat.le_trans h.hi hB.size, h.own.off O (fun g hg q => by have := h.new g hg; rcases List.mem_singleton.1 q with rfl; omega), h.new, fun x hx => (h.oks x hx).far hB hb, fun x hx => ⟨(h.ovs x hx).1.far hB (by omega), (h.ovs x hx).2.far hB (by omega)⟩, h.own2.off O (fun g hg q => by have := h.new2 g hg; rcases List.mem_singleton.1 q with rfl; omega), h.new2, fun x hx => (h.oks2 x hx).far hB (by omega), h.below.trans (hB.below hw h.below.size)⟩
def plC (lv : Int) (fr to : Value) (d : Bool) : List Value := [.int .i64 lv, fr, to, .bool d]
def PlP (W : World) (lv : Int) (d : Bool) (r1 r2 : List Rn) (e : Ending) (w' : World) : Prop := ∃ B1 B2 a c os a2 c2 os2, e = .returned (.agg (plC lv (.slice a (os : List RV).length c) (.slice a2 (os2 : List RV).length c2) d).toArray) ∧ PlI W w' B1 B2 a c os a2 c2 os2 ∧ os.map RV.r = r1 ∧ os2.map RV.r = r2
theorem zero_plan : (Try.prog.info? 25).bind (·.zero) = some (.agg (plC 0 (.slice none 0 0) (.slice none 0 0) false).toArray) := by kernel_rfl
theorem plan_size : (Try.prog.info? 25).map (·.size) = some 4 := by kernel_rfl
set_option maxRecDepth 100000 in
set_option maxHeartbeats 2000000 in
theorem lplan_any {W : World} {a1 a2 : Option Addr} {ps qs : List RV} {fv tv : Value} {lv : Int} {d : Bool} (n C m D : Nat) (hn : ps.length = n) (hL : LsR W a1 ps) (hf : n ≤ 50000) (hz : ∀ y ∈ ps, y.r.f.size ≤ 1000000 ∧ y.r.l.size ≤ 1000000) (hm : qs.length = m) (hM : LsR W a2 qs) (hg : m ≤ 50000) (hw : ∀ y ∈ qs, y.r.f.size ≤ 1000000 ∧ y.r.l.size ≤ 1000000) : Calls Try.prog 21 #[.agg (chC lv (.slice a1 n C) (.slice a2 m D) fv tv d).toArray] W (PlP W lv d (ps.map RV.r) (qs.map RV.r)) := by
  have HL := hidIt (And.intro hn (And.intro hL (And.intro hf hz)))
  have HM := hidIt (And.intro hm (And.intro hM (And.intro hg hw)))
  clear hn hL hf hz hm hM hg hw
  go_enter Try.func21, Try.ntmps21
  go_wp2_with (first
    | (refine wpList_box_rec rfl 50 (.tmp 0) rfl (chC lv (.slice a1 n C) (.slice a2 m D) fv tv d) rfl W.heap.size rfl ?_; intro W1 R1 B1 z1; have E1 := hidIt B1; have P1 := hidIt R1; have Z1 := hidIt z1; clear R1 B1 z1)
    | (refine wpList_alloc_rec rfl 25 rfl (plC 0 (.slice none 0 0) (.slice none 0 0) false) (W.heap.size + 1) Z1.out zero_plan ?_; intro W2 R2 B2 z2; have E2 := hidIt (E1.out.trans (B2.mono (by omega))); have P2 := hidIt (P1.out.below (by rw [Z1.out]; exact B2)); have Q2 := hidIt R2; have Z2 := hidIt z2; clear R2 B2 z2))
  have ED := hidIt E2.out.drew
  have PD := hidIt (P2.out.below (Below.refl _ _).drew)
  have QD := hidIt (Q2.out.below (Below.refl _ _).drew)
  have KEEP : Hid (∀ U, Rec19 U W.heap.size 0 (chC lv (.slice a1 n C) (.slice a2 m D) fv tv d) → U.cell? ⟨W.heap.size, 0, none⟩ = some (.int .i64 lv) ∧ U.cell? ⟨W.heap.size, 1, none⟩ = some (.slice a1 n C) ∧ U.cell? ⟨W.heap.size, 2, none⟩ = some (.slice a2 m D) ∧ U.cell? ⟨W.heap.size, 5, none⟩ = some (.bool d)) := hidIt (fun U p => ⟨(p.cel 0 _ rfl).1, (p.cel 1 _ rfl).1, (p.cel 2 _ rfl).1, (p.cel 5 _ rfl).1⟩)
  refine wp_region_noPanic ?_
  refine wp_region_held_drew (S := fun w' => w'.cell? ⟨W.heap.size, 0, none⟩ = some (.int .i64 lv) ∧ w'.cell? ⟨W.heap.size, 1, none⟩ = some (.slice a1 n C) ∧ w'.cell? ⟨W.heap.size, 2, none⟩ = some (.slice a2 m D) ∧ w'.cell? ⟨W.heap.size, 5, none⟩ = some (.bool d)) (by kernel_rfl) ?_ (fun hHeld => ?_)
  · exact KEEP.out _ PD.out
  refine take_at (i := 0) (v := ?_) (some 3) rfl rfl (by kernel_rfl) (by kernel_rfl) (by kernel_rfl) (fun _ _ _ h => h) (Or.inl ⟨by rfl, ?_⟩) (by assumption) ?_
  rotate_left
  · (intro w hSw; (try dsimp only at hSw); go_simp; try with_reducible rfl)
  simp only [Act.put, List.setIfInBounds_toArray, List.set_cons_zero, List.set_cons_succ]
  refine take_at (i := 1) (v := ?_) (some 4) rfl rfl (by kernel_rfl) (by kernel_rfl) (by kernel_rfl) (fun _ _ _ h => h) (Or.inl ⟨by rfl, ?_⟩) (by assumption) ?_
  rotate_left
  · (intro w hSw; (try dsimp only at hSw); go_simp; try with_reducible rfl)
  simp only [Act.put, List.setIfInBounds_toArray, List.set_cons_zero, List.set_cons_succ]
  refine take_at (i := 2) (v := ?_) (some 5) rfl rfl (by kernel_rfl) (by kernel_rfl) (by kernel_rfl) (fun _ _ _ h => h) (Or.inl ⟨by rfl, ?_⟩) (by assumption) ?_
  rotate_left
  · (intro w hSw; (try dsimp only at hSw); go_simp; try with_reducible rfl)
  simp only [Act.put, List.setIfInBounds_toArray, List.set_cons_zero, List.set_cons_succ]
  refine take_at (i := 3) (v := ?_) (some 6) rfl rfl (by kernel_rfl) (by kernel_rfl) (by kernel_rfl) (fun _ _ _ h => h) (Or.inl ⟨by rfl, ?_⟩) (by assumption) ?_
  rotate_left
  · (intro w hSw; (try dsimp only at hSw); go_simp; try with_reducible rfl)
  simp only [Act.put, List.setIfInBounds_toArray, List.set_cons_zero, List.set_cons_succ]
  refine take_at (i := 5) (v := ?_) (some 8) rfl rfl (by kernel_rfl) (by kernel_rfl) (by kernel_rfl) (fun _ _ _ h => h) (Or.inl ⟨by rfl, ?_⟩) (by assumption) ?_
  rotate_left
  · (intro w hSw; (try dsimp only at hSw); go_simp; try with_reducible rfl)
  simp only [Act.put, List.setIfInBounds_toArray, List.set_cons_zero, List.set_cons_succ]
  refine take_at (i := 6) (v := ?_) (some 9) rfl rfl (by kernel_rfl) (by kernel_rfl) (by kernel_rfl) (fun _ _ _ h => h) (Or.inl ⟨by rfl, ?_⟩) (by assumption) ?_
  rotate_left
  · (intro w hSw; (try dsimp only at hSw); go_simp; try with_reducible rfl)
  simp only [Act.put, List.setIfInBounds_toArray, List.set_cons_zero, List.set_cons_succ]
  refine take_at (i := 8) (v := ?_) (some 11) rfl rfl (by kernel_rfl) (by kernel_rfl) (by kernel_rfl) (fun _ _ _ h => h) (Or.inl ⟨by rfl, ?_⟩) (by assumption) ?_
  rotate_left
  · (intro w hSw; (try dsimp only at hSw); go_simp; try with_reducible rfl)
  simp only [Act.put, List.setIfInBounds_toArray, List.set_cons_zero, List.set_cons_succ]
  refine take_at (i := 9) (v := ?_) (some 12) rfl rfl (by kernel_rfl) (by kernel_rfl) (by kernel_rfl) (fun _ _ _ h => h) (Or.inl ⟨by rfl, ?_⟩) (by assumption) ?_
  rotate_left
  · (intro w hSw; (try dsimp only at hSw); go_simp; try with_reducible rfl)
  simp only [Act.put, List.setIfInBounds_toArray, List.set_cons_zero, List.set_cons_succ]
  refine call_at (i := 4) (some 7) 32 _ _ rfl rfl rfl (by rfl) (by kernel_rfl) #[.slice a1 n C] rfl Try.func32 (by kernel_rfl) (by kernel_rfl) ?_
  refine (copiedTables_any n C HL.out.1 (HL.out.2.1.below ED.out) HL.out.2.2.1 HL.out.2.2.2).mono ?_
  rintro e W3 ⟨a, c, os, rfl, o1, o2, o3, o4, hb⟩
  have B3 := hidIt hb
  have P3 := hidIt (PD.out.below hb)
  have Q3 := hidIt (QD.out.below hb)
  have E3 := hidIt (ED.out.trans (hb.mono ED.out.size))
  have O3 := hidIt (And.intro o1 (And.intro o2 (And.intro o3 o4)))
  clear o1 o2 o3 o4 hb
  refine ⟨_, rfl, KEEP.out _ P3.out, fun hHeld => ?_⟩
  simp only [Act.put, List.setIfInBounds_toArray, List.set_cons_zero, List.set_cons_succ]
  refine call_at (i := 7) (some 10) 32 _ _ rfl rfl rfl (by rfl) (by kernel_rfl) #[.slice a2 m D] rfl Try.func32 (by kernel_rfl) (by kernel_rfl) ?_
  refine (copiedTables_any m D HM.out.1 (HM.out.2.1.below E3.out) HM.out.2.2.1 HM.out.2.2.2).mono ?_
  rintro e W4 ⟨a', c', os', rfl, o1, o2, o3, o4, hb⟩
  have P4 := hidIt (P3.out.below hb)
  have Q4 := hidIt (Q3.out.below hb)
  have E4 := hidIt (E3.out.trans (hb.mono E3.out.size))
  have DZ : Hid (W2.drew.heap.size = W.heap.size + 2) := hidIt Z2.out
  have PL : Hid (PlI W W4 W2.drew.heap.size W3.heap.size a c os a' c' os') := hidIt ⟨⟨ED.out.size, B3.out.size⟩, hb.size, O3.out.1.below hb, fun b q => ⟨O3.out.2.1 b q, O3.out.1.lt q⟩, fun x hx => (O3.out.2.2.1 x hx).below hb, fun x hx => ⟨(OvS.of (O3.out.2.2.1 x hx).1.1 (O3.out.2.2.1 x hx).2.1 (fun _ q => q) (fun _ q r => ⟨q, r⟩)).below hb, (OvS.of (O3.out.2.2.1 x hx).1.2 (O3.out.2.2.1 x hx).2.2 (fun _ q => q) (fun _ q r => ⟨q, r⟩)).below hb⟩, o1, o2, o3, E4.out⟩
  have MP := hidIt (And.intro O3.out.2.2.2 o4)
  clear o1 o2 o3 o4 hb
  refine ⟨_, rfl, KEEP.out _ P4.out, fun hHeld => ?_⟩
  simp only [Act.put, List.setIfInBounds_toArray, List.set_cons_zero, List.set_cons_succ]
  refine take_at (i := 10) (v := .agg (plC lv (.slice a os.length c) (.slice a' os'.length c') d).toArray) (some 13) rfl rfl (by kernel_rfl) (by kernel_rfl) (by kernel_rfl) (fun _ _ _ h => h) (Or.inl ⟨by rfl, fun w hSw => bld_run 25 _ rfl _ (by kernel_rfl)⟩) (by assumption) ?_
  simp only [Act.put, List.setIfInBounds_toArray, List.set_cons_zero, List.set_cons_succ]
  obtain ⟨W5, hr5, R5, B5⟩ := Q4.out.run_store 25 (plC lv (.slice a os.length c) (.slice a' os'.length c') d) rfl plan_size (by intro u hu; simp only [plC, List.mem_cons, List.not_mem_nil, or_false] at hu; rcases hu with rfl | rfl | rfl | rfl <;> rfl)
  have P5 := P4.out.but B5 (by omega)
  have RR := hidIt R5
  have FIN : Hid (PlI W W5 W2.drew.heap.size W3.heap.size a c os a' c' os') := hidIt (PL.out.put B5 (by have := DZ.out; omega) (by omega))
  refine mute_at (i := 11) none rfl rfl (by rfl) (by kernel_rfl) W5 (put_mute 25 (.tmp 2) (.tmp 13) rfl _ _ rfl rfl hr5) (KEEP.out _ P5) (fun hHeld => ?_)
  simp only [Act.put]
  clear hr5 R5 B5 P5
  refine wpAnyH_done (by kernel_rfl) ?_ _
  refine NoPanic.normal ?_
  go_wp2_with fail
  have hl := RR.out.run_load 25 _ Try.underlying25 rfl plan_size
  exact bodyPost_ret (v := .agg (plC lv (.slice a os.length c) (.slice a' os'.length c') d).toArray) (by simp [results, Try.results21, asAddr, hl]) rfl ⟨_, _, _, _, _, _, _, _, rfl, FIN.out, MP.out.1, MP.out.2⟩
end Go.Proofs.Ytelcijfcgflagaa
namespace Go.Proofs.Ytelcijfcgflagaa
open Go.RowKit
attribute [-go_sem] Builtin.append_
def rv0 : RV := ⟨.slice none 0 0, .slice none 0 0, ⟨0, 0, 0, .empty, .empty⟩⟩
/-- The first table whose First is the least; whose Last is the greatest. -/
def mF (ps : List RV) : Nat → RV
  | 0 => ps.getD 0 rv0
  | k + 1 => if cmpB (ps.getD k rv0).r.f (mF ps k).r.f < 0 then ps.getD k rv0 else mF ps k
def mL (ps : List RV) : Nat → RV
  | 0 => ps.getD 0 rv0
  | k + 1 => if 0 < cmpB (ps.getD k rv0).r.l (mL ps k).r.l then ps.getD k rv0 else mL ps k
theorem mF_mem (ps : List RV) (h : 0 < ps.length) : ∀ k, k ≤ ps.length → mF ps k ∈ ps
  | 0, _ => by unfold mF; rw [List.getD_eq_getElem?_getD, List.getElem?_eq_getElem h]; exact List.getElem_mem h
  | k + 1, hk => by
    unfold mF
    split
    · rw [List.getD_eq_getElem?_getD, List.getElem?_eq_getElem (by omega)]; exact List.getElem_mem (by omega)
    · exact mF_mem ps h k (by omega)
theorem mL_mem (ps : List RV) (h : 0 < ps.length) : ∀ k, k ≤ ps.length → mL ps k ∈ ps
  | 0, _ => by unfold mL; rw [List.getD_eq_getElem?_getD, List.getElem?_eq_getElem h]; exact List.getElem_mem h
  | k + 1, hk => by
    unfold mL
    split
    · rw [List.getD_eq_getElem?_getD, List.getElem?_eq_getElem (by omega)]; exact List.getElem_mem (by omega)
    · exact mL_mem ps h k (by omega)
/-- What take's loop keeps. -/
structure TkI (W : World) (b : Nat) (lv : Int) (to : Value) (d : Bool) (ps : List RV) (k : Nat) (wr : World) (fr fv tv : Value) : Prop where
  rc : Rec19 wr b 0 (chC lv fr to fv tv d)
  own : OwnR wr 0 fr (ps.take k)
  new : ∀ g, fr.ownBlock = some g → W.heap.size ≤ g
  off : Off [b] W wr
  zero : k = 0 → fv = .slice none 0 0 ∧ tv = .slice none 0 0
  more : 0 < k → fv = (mF ps k).f ∧ tv = (mL ps k).l
theorem TkI.start {W : World} {b : Nat} {lv : Int} {to : Value} {d : Bool} {ps : List RV} (h : Rec19 W b 0 (chC lv (.slice none 0 0) to (.slice none 0 0) (.slice none 0 0) d)) : TkI W b lv to d ps 0 W (.slice none 0 0) (.slice none 0 0) (.slice none 0 0) :=
  ⟨h, OwnR.nil _ _, fun g hg => (by cases hg), Off.of (Below.refl _ _), fun _ => ⟨rfl, rfl⟩, fun z => by omega⟩
end Go.Proofs.Ytelcijfcgflagaa
