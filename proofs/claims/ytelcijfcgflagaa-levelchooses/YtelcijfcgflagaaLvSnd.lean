/-
  Walks, not a claim by itself: whether a table may stand in levels. By the verifier.
-/
import Derived.Test.YtelcijfcgflagaaLvOrd
namespace Go.Proofs.Ytelcijfcgflagaa
open Go.RowKit
theorem isKey_any {W : World} {N : List Nat} {s : Value} {t : ByteArray} (h : Txt W N s t) : Calls Try.prog 62 #[s] W fun e w' => e = .returned (.bool (keyB t)) ∧ w' = W := by
  obtain ⟨a, C, f, rfl, _⟩ := h
  unfold keyB
  have e1 : decide (1 ≤ t.size) = decide ((1 : Int) ≤ (t.size : Int)) := decide_eq_decide.2 (by omega)
  have e2 : decide (t.size ≤ 32) = decide ((t.size : Int) ≤ 32) := decide_eq_decide.2 (by omega)
  rw [e1, e2]
  clear e1 e2
  generalize t.size = n at *
  by_cases h1 : (1 : Int) ≤ (n : Int)
  · rw [decide_eq_true h1]
    go_enter Try.func62, Try.ntmps62
    go_wp2
    go_ret
    exact ⟨by simp, rfl⟩
  · rw [decide_eq_false h1]
    go_enter Try.func62, Try.ntmps62
    go_wp2
    go_ret
    exact ⟨by simp, rfl⟩
set_option maxRecDepth 100000 in
set_option maxHeartbeats 400000 in
theorem sound_any {W : World} {N : List Nat} {x : RV} (h : RVOk W N x) : Calls Try.prog 45 #[.agg x.cs.toArray] W fun e w' => e = .returned (.bool (sndR x.r)) ∧ Below W.heap.size W w' := by
  have HX := hidIt h
  clear h
  obtain ⟨b, hb⟩ : ∃ b, b = sndR x.r := ⟨_, rfl⟩
  rw [← hb]
  unfold sndR at hb
  obtain ⟨c, hc⟩ : ∃ c, c = x.r.ct := ⟨_, rfl⟩
  rw [← hc] at hb
  have HC := hidIt hc
  by_cases h1 : 1 ≤ c
  · rw [decide_eq_true h1, Bool.true_and] at hb
    by_cases h2 : keyB x.r.f = true
    · rw [h2, Bool.true_and] at hb
      have K2 := hidIt h2
      by_cases h3 : keyB x.r.l = true
      · rw [h3, Bool.true_and] at hb
        have K3 := hidIt h3
        have HB := hidIt hb
        clear h2 h3 hb hc
        go_enter Try.func45, Try.ntmps45
        go_wp2_with (first
          | (refine wpList_box_rec rfl 45 (.tmp 0) rfl x.cs rfl W.heap.size rfl ?_; intro W1 R1 B1 z1; have E1 := hidIt B1; have c0 := (R1.cel 2 _ rfl).1; have c1 := (R1.cel 3 _ rfl).1; have c2 := (R1.cel 4 _ rfl).1; rw [← HC.out] at c0; clear R1 B1 z1; have q1 : Hid True := trivial)
          | (go_at_call 62; have _q := q1; clear q1 _q; refine (isKey_any (HX.out.1.below E1.out)).mono ?_; rintro e w1 ⟨rfl, hw⟩; rw [hw, K2.out]; clear hw)
          | (go_at_call 62; refine (isKey_any (HX.out.2.below E1.out)).mono ?_; rintro e w1 ⟨rfl, hw⟩; rw [hw, K3.out]; clear hw)
          | (go_at_call 35; refine (ycmp_any (HX.out.1.below E1.out) (HX.out.2.below E1.out)).mono ?_; rintro e w1 ⟨rfl, hw⟩; rw [hw]; clear hw))
        go_ret
        exact ⟨by rw [HB.out]; rfl, E1.out⟩
      · have h3 := Bool.eq_false_iff.2 h3
        rw [h3, Bool.false_and] at hb
        subst hb
        have K3 := hidIt h3
        clear h2 h3 hc
        go_enter Try.func45, Try.ntmps45
        go_wp2_with (first
          | (refine wpList_box_rec rfl 45 (.tmp 0) rfl x.cs rfl W.heap.size rfl ?_; intro W1 R1 B1 z1; have E1 := hidIt B1; have c0 := (R1.cel 2 _ rfl).1; have c1 := (R1.cel 3 _ rfl).1; have c2 := (R1.cel 4 _ rfl).1; rw [← HC.out] at c0; clear R1 B1 z1; have q1 : Hid True := trivial)
          | (go_at_call 62; have _q := q1; clear q1 _q; refine (isKey_any (HX.out.1.below E1.out)).mono ?_; rintro e w1 ⟨rfl, hw⟩; rw [hw, K2.out]; clear hw)
          | (go_at_call 62; refine (isKey_any (HX.out.2.below E1.out)).mono ?_; rintro e w1 ⟨rfl, hw⟩; rw [hw, K3.out]; clear hw))
        go_ret
        exact ⟨rfl, E1.out⟩
    · have h2 := Bool.eq_false_iff.2 h2
      rw [h2, Bool.false_and, Bool.false_and] at hb
      subst hb
      have K2 := hidIt h2
      clear h2 hc
      go_enter Try.func45, Try.ntmps45
      go_wp2_with (first
        | (refine wpList_box_rec rfl 45 (.tmp 0) rfl x.cs rfl W.heap.size rfl ?_; intro W1 R1 B1 z1; have E1 := hidIt B1; have c0 := (R1.cel 2 _ rfl).1; have c1 := (R1.cel 3 _ rfl).1; have c2 := (R1.cel 4 _ rfl).1; rw [← HC.out] at c0; clear R1 B1 z1)
        | (go_at_call 62; refine (isKey_any (HX.out.1.below E1.out)).mono ?_; rintro e w1 ⟨rfl, hw⟩; rw [hw, K2.out]; clear hw))
      go_ret
      exact ⟨rfl, E1.out⟩
  · rw [decide_eq_false h1, Bool.false_and, Bool.false_and, Bool.false_and] at hb
    subst hb
    clear hc
    go_enter Try.func45, Try.ntmps45
    go_wp2_with (first
      | (refine wpList_box_rec rfl 45 (.tmp 0) rfl x.cs rfl W.heap.size rfl ?_; intro W1 R1 B1 z1; have E1 := hidIt B1; have c0 := (R1.cel 2 _ rfl).1; have c1 := (R1.cel 3 _ rfl).1; have c2 := (R1.cel 4 _ rfl).1; rw [← HC.out] at c0; clear R1 B1 z1))
    go_ret
    exact ⟨rfl, E1.out⟩
end Go.Proofs.Ytelcijfcgflagaa
