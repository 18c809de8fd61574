/-
  Plain facts, not a claim by itself: what is sealed is opened; what is opened is sealed. By the verifier.
-/
import Derived.Test.YtijpoipcadhchaaDoorMOpen
namespace Go.Proofs.YtijpoipcadhchaaDoor
open Go.RowKit
theorem over_in (g : Nat → Int) (o c : Nat) (f : Nat → Int) (i : Nat) (h : i < c) : over g o c f (o + i) = f i := by
  unfold over; rw [if_pos (by omega), Nat.add_sub_cancel_left]
theorem over_out (g : Nat → Int) (o c : Nat) (f : Nat → Int) (j : Nat) (h : j < o ∨ o + c ≤ j) : over g o c f j = g j := by
  unfold over; rw [if_neg (by omega)]
theorem fat_mono (k m : Nat) (h : k < m) : fat k + 4 ≤ fat m := by
  unfold fat; split <;> (try split) <;> (try split) <;> (try split) <;> omega
theorem fat_gap (k : Nat) (h : k < 13) : fat k + 4 ≤ 68 ∨ (84 ≤ fat k ∧ fat k + 4 ≤ 92) ∨ (100 ≤ fat k ∧ fat k + 4 ≤ 108) := by
  unfold fat; split <;> (try split) <;> omega
theorem fat_cover (j : Nat) (h1 : 32 ≤ j) (h2 : j < 108) (h3 : j < 68 ∨ 84 ≤ j) (h4 : j < 92 ∨ 100 ≤ j) : ∃ k i, k < 13 ∧ i < 4 ∧ j = fat k + i := by
  by_cases a : j < 68
  · exact ⟨(j - 32) / 4, j % 4, by omega, by omega, by unfold fat; rw [if_pos (by omega)]; omega⟩
  · by_cases b : j < 92
    · exact ⟨(j - 48) / 4, j % 4, by omega, by omega, by unfold fat; rw [if_neg (by omega), if_pos (by omega)]; omega⟩
    · exact ⟨(j - 56) / 4, j % 4, by omega, by omega, by unfold fat; rw [if_neg (by omega), if_neg (by omega)]; omega⟩
theorem laysF_at (h s : Nat → Int) : ∀ (m k i : Nat), k < m → i < 4 → laysF h s m (fat k + i) = byt (h (pos k)) i
  | m + 1, k, i, hk, hi => by
    rw [laysF_succ]
    by_cases e : k = m
    · rw [e, over_in _ _ _ _ _ hi]
    · rw [over_out _ _ _ _ _ (by have := fat_mono k m (by omega); omega), laysF_at h s m k i (by omega) hi]
theorem laysF_off (h s : Nat → Int) (j : Nat) : ∀ m : Nat, (∀ k, k < m → j < fat k ∨ fat k + 4 ≤ j) → laysF h s m j = over (fun _ => 0) 16 16 s j
  | 0, _ => rfl
  | m + 1, hm => by rw [laysF_succ, over_out _ _ _ _ _ (hm m (by omega)), laysF_off h s j m (fun k hk => hm k (by omega))]
theorem fat_low (k : Nat) : 32 ≤ fat k := by unfold fat; split <;> (try split) <;> omega
theorem innerF_num (h s : Nat → Int) (k i : Nat) (hk : k < 13) (hi : i < 4) : innerF h s (fat k + i) = byt (h (pos k)) i := by
  unfold innerF
  have := fat_gap k hk
  rw [over_out _ _ _ _ _ (by omega), over_out _ _ _ _ _ (by omega), laysF_at h s 13 k i hk hi]
theorem innerF_seal (h s : Nat → Int) (j : Nat) (hj : j < 16) : innerF h s (16 + j) = s j := by
  unfold innerF
  rw [over_out _ _ _ _ _ (by omega), over_out _ _ _ _ _ (by omega), laysF_off h s _ 13 (fun k _ => by have := fat_low k; omega), over_in _ _ _ _ _ hj]
theorem innerF_client (h s : Nat → Int) (j : Nat) (hj : j < 16) : innerF h s (68 + j) = wide (h 9) (h 10) j := by
  unfold innerF
  rw [over_out _ _ _ _ _ (by omega), over_in _ _ _ _ _ hj]
theorem innerF_time (h s : Nat → Int) (j : Nat) (hj : j < 8) : innerF h s (92 + j) = byt (h 13) j := by
  unfold innerF
  rw [over_in _ _ _ _ _ hj]
theorem innerF_none (h s : Nat → Int) (j : Nat) (hj : 108 ≤ j) : innerF h s j = 0 := by
  unfold innerF
  rw [over_out _ _ _ _ _ (by omega), over_out _ _ _ _ _ (by omega), laysF_off h s _ 13 (fun k hk => by have := fat_gap k hk; omega), over_out _ _ _ _ _ (by omega)]
theorem innerF_congr (h h' s s' : Nat → Int) (hh : ∀ j, j < 16 → h j = h' j) (hs : ∀ j, j < 16 → s j = s' j) (j : Nat) (h0 : 16 ≤ j) : innerF h s j = innerF h' s' j := by
  by_cases a : j < 32
  · obtain ⟨i, rfl⟩ : ∃ i, j = 16 + i := ⟨j - 16, by omega⟩
    rw [innerF_seal _ _ i (by omega), innerF_seal _ _ i (by omega), hs i (by omega)]
  by_cases b : 108 ≤ j
  · rw [innerF_none _ _ j b, innerF_none _ _ j b]
  by_cases c : 68 ≤ j ∧ j < 84
  · obtain ⟨i, rfl⟩ : ∃ i, j = 68 + i := ⟨j - 68, by omega⟩
    rw [innerF_client _ _ i (by omega), innerF_client _ _ i (by omega), hh 9 (by omega), hh 10 (by omega)]
  by_cases d : 92 ≤ j ∧ j < 100
  · obtain ⟨i, rfl⟩ : ∃ i, j = 92 + i := ⟨j - 92, by omega⟩
    rw [innerF_time _ _ i (by omega), innerF_time _ _ i (by omega), hh 13 (by omega)]
  obtain ⟨k, i, hk, hi, rfl⟩ := fat_cover j (by omega) (by omega) (by omega) (by omega)
  rw [innerF_num _ _ k i hk hi, innerF_num _ _ k i hk hi, hh _ (pos_lt k hk)]
theorem headF_low (h s : Nat → Int) (j : Nat) (hj : j < 16) : headF h s j = sealF 240 (fun j => innerF h s (16 + j)) j := by
  unfold headF
  have := over_in (innerF h s) 0 16 (sealF 240 (fun j => innerF h s (16 + j))) j hj
  rwa [Nat.zero_add] at this
theorem headF_high (h s : Nat → Int) (j : Nat) (hj : 16 ≤ j) : headF h s j = innerF h s j := by
  unfold headF
  rw [over_out _ _ _ _ _ (by omega)]
theorem headF_congr (h h' s s' : Nat → Int) (hh : ∀ j, j < 16 → h j = h' j) (hs : ∀ j, j < 16 → s j = s' j) (j : Nat) : headF h s j = headF h' s' j := by
  by_cases e : j < 16
  · rw [headF_low _ _ j e, headF_low _ _ j e, sealF_congr 240 _ (fun j => innerF h' s' (16 + j)) (fun i _ => innerF_congr h h' s s' hh hs (16 + i) (by omega))]
  · rw [headF_high _ _ j (by omega), headF_high _ _ j (by omega), innerF_congr h h' s s' hh hs j (by omega)]
/-! What hdrF tells of each field. -/
theorem pos_inj (k m : Nat) (h : pos k = pos m) : k = m := by
  unfold pos at h
  split at h <;> (try split at h) <;> (try split at h) <;> (try split at h) <;> omega
theorem pos_ne (k : Nat) : pos k ≠ 9 ∧ pos k ≠ 10 ∧ pos k ≠ 13 := by
  unfold pos; split <;> (try split) <;> omega
theorem gotF_at (f : Nat → Int) : ∀ (m k : Nat), k < m → gotF f m (pos k) = ps (fun i => f (fat k + i)) 4
  | m + 1, k, hk => by
    show upd (gotF f m) (pos m) (ps (fun i => f (fat m + i)) 4) (pos k) = _
    unfold upd
    by_cases e : k = m
    · rw [e, if_pos rfl]
    · rw [if_neg (fun q => e (pos_inj k m q)), gotF_at f m k (by omega)]
theorem hdrF_num (f : Nat → Int) (k : Nat) (hk : k < 13) : hdrF f (pos k) = ps (fun i => f (fat k + i)) 4 := by
  obtain ⟨a, b, c⟩ := pos_ne k
  unfold hdrF
  rw [upd, if_neg c, upd, if_neg b, upd, if_neg a, gotF_at f 13 k hk]
theorem hdrF_9 (f : Nat → Int) : hdrF f 9 = ps (fun i => f (76 + i)) 8 := by
  unfold hdrF
  rw [upd, if_neg (by omega), upd, if_neg (by omega), upd, if_pos rfl]
theorem hdrF_10 (f : Nat → Int) : hdrF f 10 = ps (fun i => f (68 + i)) 8 := by
  unfold hdrF
  rw [upd, if_neg (by omega), upd, if_pos rfl]
theorem hdrF_13 (f : Nat → Int) : hdrF f 13 = ps (fun i => f (92 + i)) 8 := by
  unfold hdrF
  rw [upd, if_pos rfl]
theorem pos_cover (j : Nat) (h : j < 16) : j = 9 ∨ j = 10 ∨ j = 13 ∨ ∃ k, k < 13 ∧ j = pos k := by
  by_cases a : j < 9
  · exact .inr (.inr (.inr ⟨j, by omega, by unfold pos; rw [if_pos a]⟩))
  · by_cases b : j = 9
    · exact .inl b
    · by_cases c : j = 10
      · exact .inr (.inl c)
      · by_cases d : j = 13
        · exact .inr (.inr (.inl d))
        · by_cases e : j < 13
          · exact .inr (.inr (.inr ⟨j - 2, by omega, by unfold pos; rw [if_neg (by omega), if_pos (by omega)]; omega⟩))
          · exact .inr (.inr (.inr ⟨j - 3, by omega, by unfold pos; rw [if_neg (by omega), if_neg (by omega)]; omega⟩))
theorem hcs_congr (h h' : Nat → Int) (hh : ∀ j, j < 16 → h j = h' j) : hcs h = hcs h' := by
  unfold hcs
  rw [hh 0 (by omega), hh 1 (by omega), hh 2 (by omega), hh 3 (by omega), hh 4 (by omega), hh 5 (by omega), hh 6 (by omega), hh 7 (by omega), hh 8 (by omega), hh 9 (by omega), hh 10 (by omega), hh 11 (by omega), hh 12 (by omega), hh 13 (by omega), hh 14 (by omega), hh 15 (by omega)]
theorem okH_congr (h h' : Nat → Int) (hh : ∀ j, j < 16 → h j = h' j) : okH h = okH h' := by
  rw [Bool.eq_iff_iff, okH_iff, okH_iff]
  have e : ∀ k, k < 13 → within h k = within h' k := fun k hk => by unfold within; rw [hh _ (pos_lt k hk)]
  exact ⟨fun a k hk => by rw [← e k hk]; exact a k hk, fun a k hk => by rw [e k hk]; exact a k hk⟩
/-- Of a header that may be, its bytes tell it. -/
theorem hdrF_headF (h s F : Nat → Int) (hok : okH h = true) (hw : Words h) (hF : ∀ j, 16 ≤ j → j < 256 → F j = innerF h s j) (j : Nat) (hj : j < 16) : hdrF F j = h j := by
  obtain ⟨w9, w10, w13⟩ := hw
  rcases pos_cover j hj with rfl | rfl | rfl | ⟨k, hk, rfl⟩
  · rw [hdrF_9, ps_congr _ (byt (h 9)) 8 (fun i hi => ?_), ps_byt_eq _ 8 w9.1 w9.2]
    rw [hF (76 + i) (by omega) (by omega), show 76 + i = 68 + (8 + i) by omega, innerF_client _ _ _ (by omega), wide, if_neg (by omega), Nat.add_sub_cancel_left]
  · rw [hdrF_10, ps_congr _ (byt (h 10)) 8 (fun i hi => ?_), ps_byt_eq _ 8 w10.1 w10.2]
    rw [hF (68 + i) (by omega) (by omega), innerF_client _ _ _ (by omega), wide, if_pos (by omega)]
  · rw [hdrF_13, ps_congr _ (byt (h 13)) 8 (fun i hi => ?_), ps_byt_eq _ 8 w13.1 w13.2]
    rw [hF (92 + i) (by omega) (by omega), innerF_time _ _ _ (by omega)]
  · have := within_of ((okH_iff h).1 hok k hk)
    rw [hdrF_num _ k hk, ps_congr _ (byt (h (pos k))) 4 (fun i hi => ?_), ps_byt_eq _ 4 this.1 (by omega)]
    have := fat_le k hk
    rw [hF _ (by omega) (by omega), innerF_num _ _ _ _ hk hi]
/-- What Open answers. -/
def openCode (n : Nat) (f : Nat → Int) : Int := if n < 256 then 4 else if headCode f ≠ 0 then headCode f else if hdrF f 2 ≠ ((n - 256 : Nat) : Int) then 4 else if bodySeal n f = false then 12 else 0
/-- What is sealed is opened. -/
theorem open_sealed (h f : Nat → Int) (n : Nat) (hok : okH h = true) (hw : Words h) (h2 : h 2 = n) :
    openCode (256 + n) (msgF h n f) = 0 ∧ (∀ j, j < 16 → hdrF (msgF h n f) j = h j) ∧ headCode (msgF h n f) = 0 := by
  have low : ∀ j, 16 ≤ j → j < 256 → msgF h n f j = innerF h (sealF n f) j := fun j a b => by unfold msgF; rw [if_pos b, headF_high _ _ j a]
  have hh := hdrF_headF h (sealF n f) (msgF h n f) hok hw low
  have c1 : headSeal (msgF h n f) = true := by
    unfold headSeal
    rw [eqN_iff]
    intro j hj
    rw [sealF_congr 240 _ (fun j => innerF h (sealF n f) (16 + j)) (fun i hi => low (16 + i) (by omega) (by omega)), msgF, if_pos (by omega), headF_low _ _ j hj]
  have c2 : headNone (msgF h n f) = true := by
    unfold headNone
    rw [zeroN_iff]
    intro j hj
    rw [low (108 + j) (by omega) (by omega), innerF_none _ _ _ (by omega)]
  have c3 : okH (hdrF (msgF h n f)) = true := by rw [okH_congr _ h hh, hok]
  have c4 := headCode_ok c1 c2 c3
  have c5 : bodySeal (256 + n) (msgF h n f) = true := by
    unfold bodySeal
    rw [eqN_iff]
    intro j hj
    rw [Nat.add_sub_cancel_left, sealF_congr n _ f (fun i _ => by show msgF h n f (256 + i) = f i; unfold msgF; rw [if_neg (by omega), Nat.add_sub_cancel_left]), low (16 + j) (by omega) (by omega), innerF_seal _ _ j hj]
  refine ⟨?_, hh, c4⟩
  unfold openCode
  rw [if_neg (by omega), if_neg (by rw [c4]; simp), if_neg (by rw [hh 2 (by omega), h2, Nat.add_sub_cancel_left]; simp), c5]
  rfl
theorem openCode_zero {n : Nat} {f : Nat → Int} (h : openCode n f = 0) : 256 ≤ n ∧ headCode f = 0 ∧ hdrF f 2 = ((n - 256 : Nat) : Int) ∧ bodySeal n f = true := by
  unfold openCode at h
  by_cases a : n < 256
  · rw [if_pos a] at h; omega
  rw [if_neg a] at h
  by_cases b : headCode f = 0
  · rw [if_neg (by rw [b]; simp)] at h
    by_cases c : hdrF f 2 = ((n - 256 : Nat) : Int)
    · rw [if_neg (by rw [c]; simp)] at h
      by_cases d : bodySeal n f = false
      · rw [if_pos d] at h; omega
      · exact ⟨by omega, b, c, by simpa using d⟩
    · rw [if_pos c] at h; omega
  · rw [if_pos b] at h; exact absurd h b
/-- What is opened is sealed as it was. -/
theorem seal_opened (n : Nat) (f : Nat → Int) (hf : ∀ j, j < n → 0 ≤ f j ∧ f j < 256) (h : openCode n f = 0) :
    okH (hdrF f) = true ∧ Words (hdrF f) ∧ n - 256 ≤ 1024 ∧ ∀ j, j < n → msgF (hdrF f) (n - 256) (fun j => f (256 + j)) j = f j := by
  obtain ⟨hn, hc, hs, hb⟩ := openCode_zero h
  obtain ⟨c1, c2, c3⟩ := headCode_zero hc
  have hw : Words (hdrF f) := by
    refine ⟨?_, ?_, ?_⟩
    · rw [hdrF_9]; exact ps_8 _ 8 (by omega) (fun j hj => hf _ (by omega))
    · rw [hdrF_10]; exact ps_8 _ 8 (by omega) (fun j hj => hf _ (by omega))
    · rw [hdrF_13]; exact ps_8 _ 8 (by omega) (fun j hj => hf _ (by omega))
  have hin : ∀ j, 16 ≤ j → j < 256 → innerF (hdrF f) (sealF (n - 256) (fun j => f (256 + j))) j = f j := by
    intro j h0 h1
    by_cases a : j < 32
    · obtain ⟨i, rfl⟩ : ∃ i, j = 16 + i := ⟨j - 16, by omega⟩
      rw [innerF_seal _ _ i (by omega)]
      exact (eqN_iff _ _ _).1 hb i (by omega)
    by_cases b : 108 ≤ j
    · rw [innerF_none _ _ j b]
      have := (zeroN_iff _ _).1 c2 (j - 108) (by omega)
      rw [show 108 + (j - 108) = j by omega] at this
      exact this.symm
    by_cases c : 68 ≤ j ∧ j < 84
    · obtain ⟨i, rfl⟩ : ∃ i, j = 68 + i := ⟨j - 68, by omega⟩
      rw [innerF_client _ _ i (by omega), wide, hdrF_9, hdrF_10]
      by_cases e : i < 8
      · rw [if_pos e, byt_ps _ 8 i (fun j hj => hf _ (by omega)) e]
      · rw [if_neg e, byt_ps _ 8 (i - 8) (fun j hj => hf _ (by omega)) (by omega), show 76 + (i - 8) = 68 + i by omega]
    by_cases d : 92 ≤ j ∧ j < 100
    · obtain ⟨i, rfl⟩ : ∃ i, j = 92 + i := ⟨j - 92, by omega⟩
      rw [innerF_time _ _ i (by omega), hdrF_13, byt_ps _ 8 i (fun j hj => hf _ (by omega)) (by omega)]
    obtain ⟨k, i, hk, hi, rfl⟩ := fat_cover j (by omega) (by omega) (by omega) (by omega)
    have := fat_le k hk
    rw [innerF_num _ _ k i hk hi, hdrF_num _ k hk, byt_ps _ 4 i (fun j hj => hf _ (by omega)) hi]
  refine ⟨c3, hw, ?_, fun j hj => ?_⟩
  · have := (okH_iff _).1 c3 2 (by omega)
    unfold within at this
    simp [fmo, pos, hs] at this
    omega
  · unfold msgF
    by_cases e : j < 256
    · rw [if_pos e]
      by_cases a : j < 16
      · rw [headF_low _ _ j a, sealF_congr 240 _ (fun j => f (16 + j)) (fun i hi => hin (16 + i) (by omega) (by omega))]
        exact (eqN_iff _ _ _).1 c1 j a
      · rw [headF_high _ _ j (by omega), hin j (by omega) e]
    · rw [if_neg e]
      show f (256 + (j - 256)) = f j
      rw [show 256 + (j - 256) = j by omega]
/-! Seal and Open, whatever they are handed. -/
theorem mseal_ok (h : Nat → Int) (a : Option Addr) (n C : Nat) (f : Nat → Int) (w : World) (hn : n ≤ 1024) (hT : Tab w) (hA : Arg w a n f) (hC : n ≤ C) (hW : Words h) (hk : okH (upd h 2 (n : Nat)) = true) :
    Calls Tryd.prog 48 #[.agg (msg h a n C).toArray] w fun e w' => ∃ g, e = .returned (.tuple #[.slice (some ⟨g, 0, none⟩) (256 + n) (256 + n), .int .i64 0]) ∧ w.heap.size ≤ g ∧ IRow w' g .u8 (256 + n) (msgF (upd h 2 (n : Nat)) n f) ∧ Below w.heap.size w w' := by
  by_cases e : n = 0
  · subst e
    exact mseal_none h a C f w hT hA hC hW hk
  · exact mseal_more h a n C f w (by omega) hn hT hA hC hW hk
theorem mopen_ok (a : Option Addr) (n C : Nat) (f : Nat → Int) (w : World) (hT : Tab w) (hA : Arg w a n f) (hC : n ≤ C) (hm : n ≤ 1000000) (hc : openCode n f = 0) :
    Calls Tryd.prog 45 #[.slice a n C] w fun e w' => ∃ g, e = .returned (ME (hdrF f) (some ⟨g, 0, none⟩) (n - 256) 0) ∧ w.heap.size ≤ g ∧ IRow w' g .u8 (n - 256) (fun j => f (256 + j)) ∧ Below w.heap.size w w' := by
  obtain ⟨hn, h1, h2, h3⟩ := openCode_zero hc
  rcases hA with ⟨h, _⟩ | ⟨_, b, off, rfl, hl⟩
  · omega
  by_cases e : C = 256
  · subst e
    obtain rfl : n = 256 := by omega
    exact mopen_ok_end b off f w hT hl h1 h2 h3
  · exact mopen_ok_mid b off n C f w hT hl hn hC e hm h1 h2 h3
theorem mopen_no (a : Option Addr) (n C : Nat) (f : Nat → Int) (w : World) (hT : Tab w) (hA : Arg w a n f) (hC : n ≤ C) (hm : n ≤ 1000000) (hc : openCode n f ≠ 0) :
    Calls Tryd.prog 45 #[.slice a n C] w fun e w' => e = .returned (ME (fun _ => 0) none 0 (openCode n f)) ∧ Below w.heap.size w w' := by
  by_cases hn : n < 256
  · rw [show openCode n f = 4 from by unfold openCode; rw [if_pos hn]]
    exact mopen_few a n C w hn
  rcases hA with ⟨h, _⟩ | ⟨_, b, off, rfl, hl⟩
  · omega
  by_cases h1 : headCode f = 0
  · by_cases h2 : hdrF f 2 = ((n - 256 : Nat) : Int)
    · have h3 : bodySeal n f = false := by
        cases h3 : bodySeal n f with
        | false => rfl
        | true => exact absurd (by unfold openCode; rw [if_neg hn, if_neg (by rw [h1]; simp), if_neg (by rw [h2]; simp), h3]; rfl) hc
      rw [show openCode n f = 12 from by unfold openCode; rw [if_neg hn, if_neg (by rw [h1]; simp), if_neg (by rw [h2]; simp), if_pos h3]]
      by_cases e : C = 256
      · subst e
        obtain rfl : n = 256 := by omega
        exact mopen_seal_end b off f w hT hl h1 h2 h3
      · exact mopen_seal_mid b off n C f w hT hl (by omega) hC e hm h1 h2 h3
    · rw [show openCode n f = 4 from by unfold openCode; rw [if_neg hn, if_neg (by rw [h1]; simp), if_pos h2]]
      by_cases e : C = 256
      · subst e
        obtain rfl : n = 256 := by omega
        exact mopen_size_end b off f w hT hl h1 h2
      · exact mopen_size_mid b off n C f w hT hl (by omega) hC e hm h1 h2
  · rw [show openCode n f = headCode f from by unfold openCode; rw [if_neg hn, if_pos h1]]
    exact mopen_head b off n C f w hT hl (by omega) hC (headCode f) rfl h1
end Go.Proofs.YtijpoipcadhchaaDoor
