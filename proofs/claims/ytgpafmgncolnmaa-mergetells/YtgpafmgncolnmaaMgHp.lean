/-
  Walks, not a claim by itself: places that are compared. By the verifier.
-/
import Derived.Test.YtgpafmgncolnmaaMgMem
namespace Go.Proofs.Ytgpafmgncolnmaa
open Go.RowKit
/-- A place as Go has it. -/
def plV (x : LV) (t : Nat) : List Value := [x.v, .int .i64 (t : Int)]
set_option maxRecDepth 100000 in
theorem least_any {W : World} {x : LV} {t : Nat} {p : PV} {r : List PV} (h : LOk W x) (e : x.ps = p :: r) : Calls Try.prog 48 #[.agg (plV x t).toArray] W fun e w' => e = .returned p.k ∧ Below W.heap.size W w' := by
  obtain ⟨b, off, ha, hr, hb, hp⟩ := h.front e
  have HR := hidIt (And.intro hr hb)
  have hl : (0 : Int) < (x.ps.length : Int) := by rw [e]; simp
  have hv : x.v = .slice (some ⟨b, off, none⟩) x.ps.length x.c := by unfold LV.v; rw [ha]
  unfold plV
  rw [hv]
  clear hr hb ha h e hv
  generalize x.ps.length = n at *
  go_enter Try.func48, Try.ntmps48
  go_wp2_with (refine wpList_box_rec rfl 72 (.tmp 0) rfl _ rfl W.heap.size rfl ?_; intro W1 R1 B1 z1; have E1 := hidIt B1; have c0 := (R1.cel 0 _ rfl).1; have c1 : W1.cell? ⟨b, off, none⟩ = some p.k := (B1.cell (p := ⟨b, off, none⟩) HR.out.2).trans (HR.out.1 0 _ rfl); clear R1 B1 z1)
  go_ret
  exact ⟨rfl, E1.out⟩
theorem nan_any (W : World) (i : Int) : Calls Try.prog 57 #[.int .i64 i] W fun e w' => e = .returned (.bool false) ∧ w' = W := by
  go_enter Try.func57, Try.ntmps57
  go_wp2
  go_ret
  exact ⟨rfl, rfl⟩
/-- How two numbers stand. -/
def cmpN (s t : Nat) : Int := if s < t then -1 else if t < s then 1 else 0
theorem ccmp_any (W : World) (s t : Nat) : Calls Try.prog 56 #[.int .i64 (s : Int), .int .i64 (t : Int)] W fun e w' => e = .returned (.int .i64 (cmpN s t)) ∧ w' = W := by
  have N1 := hidIt (nan_any W)
  unfold cmpN
  by_cases h1 : s < t
  · rw [if_pos h1]
    have e1 : ((s : Int) < (t : Int)) = True := by simp; exact h1
    clear h1
    go_enter Try.func56, Try.ntmps56
    go_wp2_with (go_at_call 57; refine (N1.out _).mono ?_; rintro e w1 ⟨rfl, hw⟩; rw [hw]; clear hw)
    go_ret
    exact ⟨rfl, rfl⟩
  · rw [if_neg h1]
    have e1 : ((s : Int) < (t : Int)) = False := by simp; omega
    by_cases h2 : t < s
    · rw [if_pos h2]
      have e2 : ((t : Int) < (s : Int)) = True := by simp; exact h2
      clear h1 h2
      go_enter Try.func56, Try.ntmps56
      go_wp2_with (go_at_call 57; refine (N1.out _).mono ?_; rintro e w1 ⟨rfl, hw⟩; rw [hw]; clear hw)
      go_ret
      exact ⟨rfl, rfl⟩
    · rw [if_neg h2]
      have e2 : ((t : Int) < (s : Int)) = False := by simp; omega
      clear h1 h2
      go_enter Try.func56, Try.ntmps56
      go_wp2_with (go_at_call 57; refine (N1.out _).mono ?_; rintro e w1 ⟨rfl, hw⟩; rw [hw]; clear hw)
      go_ret
      exact ⟨rfl, rfl⟩
/-- The first of two numbers that is not 0. -/
def orN (a b : Int) : Int := if a = 0 then b else a
set_option maxRecDepth 100000 in
theorem cor_any {W : World} {g : Nat} (a b : Int) (h : W.rangeAt g 0 [.int .i64 a, .int .i64 b]) : Calls Try.prog 55 #[.slice (some ⟨g, 0, none⟩) 2 2] W fun e w' => e = .returned (.int .i64 (orN a b)) ∧ w' = W := by
  have c0 : W.cell? ⟨g, 0, none⟩ = some (.int .i64 a) := h 0 _ rfl
  have c1 : W.cell? ⟨g, 0 + 1, none⟩ = some (.int .i64 b) := h 1 _ rfl
  have c1' : W.cell? ⟨g, 1, none⟩ = some (.int .i64 b) := h 1 _ rfl
  clear h
  unfold orN
  by_cases h1 : a = 0
  · subst h1
    rw [if_pos rfl]
    by_cases h2 : b = 0
    · subst h2
      go_enter Try.func55, Try.ntmps55
      go_wp2
      go_loopw [8] (fun i wr => ∃ k : Nat, k ≤ 2 ∧ i = .int .i64 (k : Int) ∧ wr = W) (fun i _ => 3 - (RowKit.intOf i).toNat)
      case atStart => exact ⟨0, by omega, rfl, rfl⟩
      case round =>
        obtain ⟨k, hk, rfl, rfl⟩ := hrel
        have : k = 0 ∨ k = 1 ∨ k = 2 := by omega
        rcases this with rfl | rfl | rfl
        · go_wp2
          go_roundw
          case rel => exact ⟨1, by omega, rfl, trivial⟩
          case measure => decide
        · go_wp2
          go_roundw
          case rel => exact ⟨2, by omega, rfl, trivial⟩
          case measure => decide
        · go_wp2
          go_ret
          exact ⟨rfl, rfl⟩
    · have e2 : (b != 0) = true := by simp [h2]
      clear h2
      go_enter Try.func55, Try.ntmps55
      go_wp2
      go_loopw [8] (fun i wr => ∃ k : Nat, k ≤ 1 ∧ i = .int .i64 (k : Int) ∧ wr = W) (fun i _ => 3 - (RowKit.intOf i).toNat)
      case atStart => exact ⟨0, by omega, rfl, rfl⟩
      case round =>
        obtain ⟨k, hk, rfl, rfl⟩ := hrel
        have : k = 0 ∨ k = 1 := by omega
        rcases this with rfl | rfl
        · go_wp2
          go_roundw
          case rel => exact ⟨1, by omega, rfl, trivial⟩
          case measure => decide
        · go_wp2
          go_ret
          exact ⟨rfl, rfl⟩
  · rw [if_neg h1]
    have e1 : (a != 0) = true := by simp [h1]
    clear h1
    go_enter Try.func55, Try.ntmps55
    go_wp2
    go_loopw [8] (fun i wr => i = .int .i64 0 ∧ wr = W) (fun i _ => 0)
    case atStart => exact ⟨rfl, rfl⟩
    case round =>
      obtain ⟨rfl, rfl⟩ := hrel
      go_wp2
      go_ret
      exact ⟨rfl, rfl⟩
theorem or_ahd (a b : ByteArray) (s t : Nat) : decide (orN (cmpB a b) (cmpN s t) < 0) = decide (ahd a b s t) := by
  refine decide_eq_decide.2 ?_
  unfold orN cmpN ahd
  by_cases h : cmpB a b = 0
  · rw [if_pos h, h]
    by_cases h1 : s < t
    · simp [h1]
    · rw [if_neg h1]
      by_cases h2 : t < s <;> simp [h1, h2]
  · rw [if_neg h]
    simp [h]
end Go.Proofs.Ytgpafmgncolnmaa
