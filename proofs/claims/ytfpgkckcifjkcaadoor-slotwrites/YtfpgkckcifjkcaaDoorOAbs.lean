/-
  Plain facts, not a claim by itself: the bytes of prepares, and how slots are. By the verifier.
-/
import Derived.Test.YtfpgkckcifjkcaaDoorOJd2
namespace Go.Proofs.YtfpgkckcifjkcaaDoor
open Go.RowKit
theorem ps_head (f g : Nat → Int) (n : Nat) (h : ∀ j, j < 256 → f j = g j) (o c : Nat) (ho : o + c ≤ 256) (hn : n = c) : ps (fun i => f (o + i)) n = ps (fun i => g (o + i)) n := ps_congr _ _ n (fun j hj => h _ (by omega))
theorem hdrF_congr (f g : Nat → Int) (h : ∀ j, j < 256 → f j = g j) (j : Nat) (hj : j < 16) : hdrF f j = hdrF g j := by
  rcases pos_cover j hj with rfl | rfl | rfl | ⟨k, hk, rfl⟩
  · rw [hdrF_9, hdrF_9, ps_head f g 8 h 76 8 (by omega) rfl]
  · rw [hdrF_10, hdrF_10, ps_head f g 8 h 68 8 (by omega) rfl]
  · rw [hdrF_13, hdrF_13, ps_head f g 8 h 92 8 (by omega) rfl]
  · have : fat k + 4 ≤ 256 := by unfold fat; split <;> (try split) <;> omega
    rw [hdrF_num _ k hk, hdrF_num _ k hk, ps_head f g 4 h (fat k) 4 (by omega) rfl]
theorem headCode_congr (f g : Nat → Int) (h : ∀ j, j < 256 → f j = g j) : headCode f = headCode g := by
  have a : headSeal f = headSeal g := by
    unfold headSeal
    rw [sealF_congr 240 (fun j => f (16 + j)) (fun j => g (16 + j)) (fun j hj => h _ (by omega)), Bool.eq_iff_iff, eqN_iff, eqN_iff]
    exact ⟨fun k i hi => (k i hi).trans (h i (by omega)), fun k i hi => (k i hi).trans (h i (by omega)).symm⟩
  have b : headNone f = headNone g := by
    unfold headNone
    rw [Bool.eq_iff_iff, zeroN_iff, zeroN_iff]
    exact ⟨fun k i hi => (h _ (by omega)).symm.trans (k i hi), fun k i hi => (h _ (by omega)).trans (k i hi)⟩
  have c : okH (hdrF f) = okH (hdrF g) := okH_congr _ _ (hdrF_congr f g h)
  unfold headCode
  rw [a, b, c]
theorem bodySeal_congr (n : Nat) (hn : 256 ≤ n) (f g : Nat → Int) (h : ∀ j, j < n → f j = g j) : bodySeal n f = bodySeal n g := by
  unfold bodySeal
  rw [sealF_congr (n - 256) (fun j => f (256 + j)) (fun j => g (256 + j)) (fun j hj => h _ (by omega)), Bool.eq_iff_iff, eqN_iff, eqN_iff]
  exact ⟨fun k i hi => (k i hi).trans (h _ (by omega)), fun k i hi => (k i hi).trans (h _ (by omega)).symm⟩
theorem openCode_congr (n : Nat) (hn : 256 ≤ n) (f g : Nat → Int) (h : ∀ j, j < n → f j = g j) : openCode n f = openCode n g := by
  unfold openCode
  rw [headCode_congr f g (fun j hj => h j (by omega)), hdrF_congr f g (fun j hj => h j (by omega)) 2 (by omega), bodySeal_congr n hn f g h]
theorem isPrep_congr (h g : Nat → Int) (k : Int) (e : ∀ j, j < 16 → h j = g j) : isPrep h k = isPrep g k := by
  unfold isPrep
  rw [e 0 (by omega), e 5 (by omega)]
theorem prepOK_congr (n : Nat) (f g : Nat → Int) (k : Int) (h : ∀ j, j < n → f j = g j) : prepOK n f k = prepOK n g k := by
  by_cases hn : 256 ≤ n
  · have h0 : ∀ j, j < 256 → f j = g j := fun j hj => h j (by omega)
    have hc := headCode_congr f g h0
    have h2 := hdrF_congr f g h0 2 (by omega)
    have hp := isPrep_congr (hdrF f) (hdrF g) k (hdrF_congr f g h0)
    rw [Bool.eq_iff_iff, prepOK_iff, prepOK_iff, hc, h2, hp]
    refine and_congr_right fun a => and_congr_right fun b => and_congr_right fun c => and_congr_right fun d => ?_
    rw [openCode_congr _ (by omega) f g (fun j hj => h j (by have := size_range b; omega))]
  · have e : ∀ F : Nat → Int, prepOK n F k = false := fun F => by rw [Bool.eq_false_iff]; intro q; exact hn (prepOK_iff.1 q).1
    rw [e f, e g]
/-- A prepare's slot's bytes are whole. -/
theorem slot_whole (h f : Nat → Int) (n N : Nat) (k : Int) (hn : 256 + n ≤ N) (hok : okH (upd h 2 (n : Nat)) = true) (hw : Words h) (hp : isPrep h k = true) (F : Nat → Int) (hF : ∀ j, j < 256 + n → F j = msgF (upd h 2 (n : Nat)) n f j) :
    prepOK N F k = true ∧ (∀ j, j < 16 → hdrF F j = upd h 2 (n : Nat) j) ∧ headCode F = 0 := by
  obtain ⟨a, b, c⟩ := open_sealed (upd h 2 (n : Nat)) f n hok (hw.size _) (by unfold upd; rw [if_pos rfl])
  have h0 : ∀ j, j < 256 → F j = msgF (upd h 2 (n : Nat)) n f j := fun j hj => hF j (by omega)
  have hb : ∀ j, j < 16 → hdrF F j = upd h 2 (n : Nat) j := fun j hj => (hdrF_congr _ _ h0 j hj).trans (b j hj)
  have hc : headCode F = 0 := (headCode_congr _ _ h0).trans c
  have h2 : hdrF F 2 = (n : Int) := by rw [hb 2 (by omega)]; unfold upd; rw [if_pos rfl]
  refine ⟨prepOK_iff.2 ⟨by omega, hc, ?_, by rw [h2]; omega, ?_⟩, hb, hc⟩
  · rw [isPrep_congr _ _ k hb]; exact hp
  · rw [h2, Int.toNat_natCast, openCode_congr _ (by omega) _ _ hF, a]
/-- And so is its header. -/
theorem head_whole {n : Nat} {F : Nat → Int} {k : Int} (hn : n = 256) (hc : headCode F = 0) (hp : isPrep (hdrF F) k = true) : fhK n F k = 2 := by
  have e : headC n F = 0 := by unfold headC; rw [if_pos hn, hc]
  unfold fhK
  rw [if_pos e, if_pos hp]
/-- What says that a slot is unwritten is found so. -/
theorem unw_found {k : Int} (hk : isSl k = true) : fhK 256 (unwF k) k = 1 := by
  obtain ⟨_, b, c⟩ := open_sealed (upd (unwH k) 2 ((0 : Nat) : Int)) (fun _ => 0) 0 (unw_ok hk) ((unw_words k).size _) rfl
  have e : headC 256 (unwF k) = 0 := by unfold headC; rw [if_pos rfl]; exact c
  have hp : ¬ isPrep (hdrF (unwF k)) k = true := by
    rw [show isPrep (hdrF (unwF k)) k = _ from isPrep_congr _ _ k b]
    intro h
    unfold isPrep at h
    rw [Bool.and_eq_true, decide_eq_true_iff] at h
    have := h.1
    revert this
    show (1 : Int) = 2 → False
    decide
  have hu : isUnw 256 (unwF k) k = true := by unfold isUnw; rw [hk]; simp
  unfold fhK
  rw [if_pos e, if_neg hp, if_pos hu]
/-- Bytes that are no header are found broken. -/
theorem bad_found {n : Nat} {f : Nat → Int} {k : Int} (h : headC n f ≠ 0) : fhK n f k = 0 := by
  unfold fhK
  rw [if_neg h]
theorem prep_bad {n : Nat} {f : Nat → Int} {k : Int} (h : headCode f ≠ 0) : prepOK n f k = false := by
  rw [Bool.eq_false_iff]
  intro e
  exact h (prepOK_iff.1 e).2.1
theorem zeros_code (f : Nat → Int) (h : ∀ j, j < 256 → f j = 0) : headCode f ≠ 0 := by
  intro e
  have := (okH_iff _).1 (headCode_zero e).2.2 0 (by omega)
  unfold within at this
  rw [Bool.and_eq_true, decide_eq_true_iff] at this
  have h1 := this.1
  rw [hdrF_num f 0 (by omega), ps_congr _ (fun _ => 0) 4 (fun j hj => h _ (by unfold fat; simp; omega))] at h1
  revert h1
  decide
theorem sevens_code (f : Nat → Int) (h : f 108 = 7) : headCode f ≠ 0 := by
  intro e
  have := (zeroN_iff _ _).1 (headCode_zero e).2.1 0 (by omega)
  have h2 : f (108 + 0) = 0 := this
  rw [show 108 + 0 = 108 from rfl, h] at h2
  omega
/-- Headers with other ops are other bytes. -/
theorem txt_op {f g : Nat → Int} (hf : ∀ j, j < 256 → 0 ≤ f j ∧ f j < 256) (hg : ∀ j, j < 256 → 0 ≤ g j ∧ g j < 256) (j : Nat) (hj : j < 16) (h : hdrF f j ≠ hdrF g j) : ¬ txtN 256 f = txtN 256 g :=
  fun e => h (hdrF_congr f g (txtN_inj hf hg e).2 j hj)
end Go.Proofs.YtfpgkckcifjkcaaDoor
