/-
  Walks, not a claim by itself: superblock's Check. By the verifier.
-/
import Derived.Test.YtfapmogjmjlokaaSVal
namespace Go.Proofs.Ytfapmogjmjlokaa
open Go.RowKit
set_option maxRecDepth 100000 in
theorem count_any (n : Int) (w : World) : Calls Try.prog 40 #[.int .i64 n] w fun e w' => e = .returned (.bool (decide (n = 3 ∨ n = 5 ∨ n = 7))) ∧ w' = w := by
  by_cases a : n = 3
  · subst a
    go_enter Try.func40, Try.ntmps40
    go_wp2_with fail
    go_ret
    exact ⟨rfl, rfl⟩
  · by_cases b : n = 5
    · subst b
      go_enter Try.func40, Try.ntmps40
      go_wp2_with fail
      go_ret
      exact ⟨rfl, rfl⟩
    · have a' : (n == 3) = false := by simpa using a
      have b' : (n == 5) = false := by simpa using b
      have e : decide (n = 3 ∨ n = 5 ∨ n = 7) = (n == 7) := by rw [Bool.eq_iff_iff]; simp [a, b]
      rw [e]
      clear e
      go_enter Try.func40, Try.ntmps40
      go_wp2_with fail
      go_ret
      exact ⟨rfl, rfl⟩
set_option maxRecDepth 100000 in
theorem outside_any (n a b : Int) (w : World) : Calls Try.prog 42 #[.agg #[.int .i64 n, .int .i64 a, .int .i64 b]] w fun e w' => e = .returned (.bool (!decide (InR n a b))) ∧ Below w.heap.size w w' := by
  have B0 : Hid (Below w.heap.size w (w.alloc (.cells #[.int .i64 n, .int .i64 a, .int .i64 b] 78))) := (Below.refl _ _).alloc (Nat.le_refl _) _
  unfold InR
  by_cases h : n < a
  · have e : (!decide (a ≤ n ∧ n ≤ b)) = true := by simp; omega
    rw [e]
    clear e
    go_enter Try.func42, Try.ntmps42
    go_wp2_with fail
    go_ret
    exact ⟨rfl, B0.out⟩
  · have e : (!decide (a ≤ n ∧ n ≤ b)) = decide (b < n) := by
      rw [Bool.eq_iff_iff]; simp; omega
    rw [e]
    clear e
    go_enter Try.func42, Try.ntmps42
    go_wp2_with fail
    go_ret
    exact ⟨rfl, B0.out⟩
/-- All of n triples are within their bounds. -/
def allR (n : Nat) (F : Nat → Int) : Prop := ∀ i, i < n → InR (F (i * 3)) (F (i * 3 + 1)) (F (i * 3 + 2))
instance (n : Nat) (F : Nat → Int) : Decidable (allR n F) := by unfold allR; infer_instance
def idxRel (w : World) (n : Nat) (F : Nat → Int) (i : Value) (wr : World) : Prop := ∃ k : Nat, k ≤ n ∧ i = .int .i64 k ∧ allR k F ∧ Below w.heap.size w wr
def IdxPost (w : World) (n : Nat) (F : Nat → Int) (e : Ending) (w' : World) : Prop := ∃ r : Int, e = .returned (.int .i64 r) ∧ (decide (0 ≤ r) = !decide (allR n F)) ∧ Below w.heap.size w w'
set_option maxRecDepth 100000 in
set_option maxHeartbeats 1000000 in
theorem index_any (g n C : Nat) (F : Nat → Int) (w : World) (hc : ∀ j, j < n * 3 → w.cell? ⟨g, j, none⟩ = some (.int .i64 (F j))) (hg : g < w.heap.size) (hn : n ≤ 100000) :
    Calls Try.prog 60 #[.slice (some ⟨g, 0, none⟩) n C, .func (.func 42) #[] #[]] w (IdxPost w n F) := by
  have HC : Hid (∀ j, j < n * 3 → w.cell? ⟨g, j, none⟩ = some (.int .i64 (F j))) := hc
  have ST : Hid (idxRel w n F (.int .i64 0) w) := ⟨0, by omega, rfl, fun i hi => by omega, Below.refl _ _⟩
  clear hc
  go_enter Try.func60, Try.ntmps60
  go_wp2_with fail
  go_loopw [8] (fun i wr => idxRel w n F i wr) (fun i _ => n - (RowKit.intOf i).toNat)
  case atStart => exact ST.out
  case round =>
    obtain ⟨k, hk, rfl, hA, hB⟩ := hrel
    clear ST
    have AA : Hid (allR k F) := hA
    have BE : Hid (Below w.heap.size w wr) := hB
    by_cases hlt : k < n
    · have RG : wr.rangeAt g (k * 3) [.int .i64 (F (k * 3)), .int .i64 (F (k * 3 + 1)), .int .i64 (F (k * 3 + 2))] := fun j v hj => by
        have h3 : j < 3 := (List.getElem?_eq_some_iff.1 hj).1
        have c := (hB.cell (p := ⟨g, k * 3 + j, none⟩) hg).trans (HC.out (k * 3 + j) (by omega))
        rw [c]
        match j, h3 with
        | 0, _ | 1, _ | 2, _ => simpa using hj
      have HR : Hid (wr.rangeAt g (k * 3) [.int .i64 (F (k * 3)), .int .i64 (F (k * 3 + 1)), .int .i64 (F (k * 3 + 2))]) := RG
      have i0 : (k : Int) < n := by omega
      have i1 : (0 : Int) ≤ (k : Int) := by omega
      clear hA hB RG
      by_cases q : InR (F (k * 3)) (F (k * 3 + 1)) (F (k * 3 + 2))
      · have NX : Hid (∀ V, Below wr.heap.size wr V → idxRel w n F (.int .i64 ((k : Int) + 1)) V) := fun V hV => ⟨k + 1, by omega, by go_num, fun i hi => by
          by_cases e : i = k
          · rw [e]; exact q
          · exact AA.out i (by omega), BE.out.trans (hV.mono BE.out.size)⟩
        have Q : Hid (InR (F (k * 3)) (F (k * 3 + 1)) (F (k * 3 + 2))) := q
        clear q
        go_wp2_with (first
          | (refine wpList_load_mid (P := Try.prog) rfl 78 (.tmp 14) rfl g (k * 3) (by first | rfl | simp) _ _ HR.out Try.underlying78 rfl (by kernel_rfl) ?_)
          | (go_at_call 42; refine (outside_any _ _ _ _).mono ?_; rintro e w1 ⟨rfl, hB1⟩; rw [decide_eq_true Q.out]))
        go_roundw
        case rel => exact NX.out _ hB1
        case measure => simp [RowKit.intOf]; omega
      · have PP : Hid (∀ V, Below wr.heap.size wr V → IdxPost w n F (.returned (.int .i64 k)) V) := fun V hV => ⟨k, rfl, by
          rw [decide_eq_false (fun h : allR n F => q (h k hlt))]; simp, BE.out.trans (hV.mono BE.out.size)⟩
        have Q : Hid (¬ InR (F (k * 3)) (F (k * 3 + 1)) (F (k * 3 + 2))) := q
        clear q
        go_wp2_with (first
          | (refine wpList_load_mid (P := Try.prog) rfl 78 (.tmp 14) rfl g (k * 3) (by first | rfl | simp) _ _ HR.out Try.underlying78 rfl (by kernel_rfl) ?_)
          | (go_at_call 42; refine (outside_any _ _ _ _).mono ?_; rintro e w1 ⟨rfl, hB1⟩; rw [decide_eq_false Q.out]))
        go_ret
        exact PP.out _ hB1
    · obtain rfl : k = n := by omega
      have PP : Hid (IdxPost w k F (.returned (.int .i64 (-1))) wr) := ⟨-1, rfl, by rw [decide_eq_true hA]; simp, hB⟩
      clear hA hB
      go_wp2_with fail
      go_ret
      exact PP.out
theorem contains_any (g n C : Nat) (F : Nat → Int) (w : World) (hc : ∀ j, j < n * 3 → w.cell? ⟨g, j, none⟩ = some (.int .i64 (F j))) (hg : g < w.heap.size) (hn : n ≤ 100000) :
    Calls Try.prog 41 #[.slice (some ⟨g, 0, none⟩) n C, .func (.func 42) #[] #[]] w fun e w' => e = .returned (.bool (!decide (allR n F))) ∧ Below w.heap.size w w' := by
  have IX : Hid (Calls Try.prog 60 #[.slice (some ⟨g, 0, none⟩) n C, .func (.func 42) #[] #[]] w (IdxPost w n F)) := index_any g n C F w hc hg hn
  clear hc
  go_enter Try.func41, Try.ntmps41
  go_wp2_with (go_at_call 60; refine IX.out.mono ?_; rintro e w1 ⟨r, rfl, hr, hB1⟩; have HR : Hid (decide (0 ≤ r) = !decide (allR n F)) := hr; have BB : Hid (Below w.heap.size w w1) := hB1; clear hr hB1)
  go_ret
  exact ⟨by rw [← HR.out]; rfl, BB.out⟩
end Go.Proofs.Ytfapmogjmjlokaa
