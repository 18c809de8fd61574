/-
  Walks, not a claim by itself: slot.Unwritten and isUnwritten. By the verifier.
-/
import Derived.Test.YtijpoipcadhchaaDoorOByt
namespace Go.Proofs.YtijpoipcadhchaaDoor
open Go.RowKit
/-- The header that says that the slot n is unwritten. -/
def unwH (n : Int) (j : Nat) : Int := if j = 0 then 1 else if j = 14 then n else 0
/-- Its bytes. -/
def unwF (n : Int) : Nat → Int := msgF (upd (unwH n) 2 ((0 : Nat) : Int)) 0 (fun _ => 0)
theorem unw_words (n : Int) : Words (unwH n) := ⟨by unfold Word unwH; simp, by unfold Word unwH; simp, by unfold Word unwH; simp⟩
theorem isSl_iff {n : Int} : isSl n = true ↔ 0 ≤ n ∧ n < 16 := by unfold isSl; simp
theorem unw_ok {n : Int} (h : isSl n = true) : okH (upd (unwH n) 2 ((0 : Nat) : Int)) = true := by
  obtain ⟨h0, h1⟩ := isSl_iff.1 h
  rw [okH_iff]
  intro k hk
  unfold within
  rw [Bool.and_eq_true, decide_eq_true_iff, decide_eq_true_iff]
  match k, hk with
  | 0, _ | 1, _ | 2, _ | 3, _ | 4, _ | 5, _ | 6, _ | 7, _ | 8, _ | 9, _ | 10, _ | 12, _ => exact ⟨by simp [upd, unwH, pos, fle], by simp [upd, unwH, pos, fmo]⟩
  | 11, _ => exact ⟨h0, by show n ≤ 1073741824; omega⟩
  | k + 13, hk => omega
theorem unw_build (n : Int) : (hcs (unwH n)) = [.int .i64 1, .int .i64 0, .int .i64 0, .int .i64 0, .int .i64 0, .int .i64 0, .int .i64 0, .int .i64 0, .int .i64 0, .int .u64 0, .int .u64 0, .int .i64 0, .int .i64 0, .int .u64 0, .int .i64 n, .int .i64 0] := rfl
theorem unwF_byte (n : Int) (j : Nat) (hj : j < 256) : 0 ≤ unwF n j ∧ unwF n j < 256 := msgF_byte _ 0 _ (fun j h => by omega) j (by omega)
set_option maxRecDepth 100000 in
set_option maxHeartbeats 400000 in
theorem unwritten_no (n : Int) (w : World) (hn : isSl n = false) :
    Calls Tryd.prog 58 #[.int .i64 n] w fun e w' => e = .returned (.tuple #[.slice none 0 0, .int .i64 5]) ∧ w' = w := by
  go_enter Tryd.func58, Tryd.ntmps58
  go_wp2_with (first
    | (go_at_call 67; refine (isSlot_any n _).mono ?_; rintro e w3 ⟨rfl, rfl⟩; rw [hn]))
  go_ret2
  exact ⟨rfl, rfl⟩
set_option maxRecDepth 100000 in
set_option maxHeartbeats 400000 in
theorem unwritten_ok (n : Int) (w : World) (hT : Tab w) (hn : isSl n = true) :
    Calls Tryd.prog 58 #[.int .i64 n] w fun e w' => ∃ g, e = .returned (.tuple #[.slice (some ⟨g, 0, none⟩) 256 256, .int .i64 0]) ∧ w.heap.size ≤ g ∧ IRow w' g .u8 256 (unwF n) ∧ Below w.heap.size w w' := by
  have TT : Hid (Tab w) := hT
  have HN : Hid (isSl n = true) := hn
  clear hT hn
  go_enter Tryd.func58, Tryd.ntmps58
  go_wp2_with (first
    | (go_at_call 67; refine (isSlot_any n _).mono ?_; rintro e w3 ⟨rfl, rfl⟩; rw [HN.out])
    | (refine wpList_build_to rfl 26 _ rfl (hcs (unwH n)).toArray (by kernel_rfl) ?_)
    | (refine wpList_build_to rfl 29 _ rfl (msg (unwH n) none 0 0).toArray (by kernel_rfl) ?_)
    | (go_at_call 48; refine (mseal_ok (unwH n) none 0 0 (fun _ => 0) _ (by omega) TT.out (.inl ⟨rfl, .inl rfl⟩) (Nat.le_refl _) (unw_words n) (unw_ok HN.out)).mono ?_; rintro e W1 ⟨g, rfl, hg, hR, hB⟩))
  go_ret2
  exact ⟨g, rfl, hg, hR, hB⟩
/-- Do bytes say that the slot k is unwritten? -/
def isUnw (n : Nat) (f : Nat → Int) (k : Int) : Bool := isSl k && decide (txtN n f = txtN 256 (unwF k))
set_option maxRecDepth 100000 in
set_option maxHeartbeats 400000 in
theorem isUnwritten_any (a : Option Addr) (n C : Nat) (f : Nat → Int) (k : Int) (w : World) (hT : Tab w) (hA : Arg w a n f) :
    Calls Tryd.prog 84 #[.slice a n C, .int .i64 k] w fun e w' => e = .returned (.bool (isUnw n f k)) ∧ Below w.heap.size w w' := by
  have TT : Hid (Tab w) := hT
  have HA : Hid (Arg w a n f) := hA
  clear hT hA
  by_cases hk : isSl k = true
  · rw [show isUnw n f k = decide (txtN n f = txtN 256 (unwF k)) from by unfold isUnw; rw [hk]; rfl]
    have HK : Hid (isSl k = true) := hk
    clear hk
    obtain ⟨x, hx⟩ : ∃ x, txtN n f = x := ⟨_, rfl⟩
    obtain ⟨y, hy⟩ : ∃ y, txtN 256 (unwF k) = y := ⟨_, rfl⟩
    have HX : Hid (txtN n f = x) := hx
    have HY : Hid (txtN 256 (unwF k) = y) := hy
    rw [hx, hy]
    clear hx hy
    go_enter Tryd.func84, Tryd.ntmps84
    go_wp2_with (first
      | (go_at_call 58; refine (unwritten_ok k _ TT.out HK.out).mono ?_; rintro e W1 ⟨g, rfl, hg, hR, hB⟩
         have c1 := conv_arg W1 a n C f (HA.out.below hB)
         have c2 := conv_arg W1 (some ⟨g, 0, none⟩) 256 256 (unwF k) (Arg.of (hR.lies (unwF_byte k)))
         have BB : Hid (Below w.heap.size w W1) := hB
         clear hB hR
         rw [HX.out] at c1
         rw [HY.out] at c2))
    rw [bytes_beq]
    go_ret
    exact ⟨rfl, BB.out⟩
  · have hk' : isSl k = false := by simpa using hk
    rw [show isUnw n f k = false from by unfold isUnw; rw [hk']; rfl]
    have HK : Hid (isSl k = false) := hk'
    clear hk hk'
    go_enter Tryd.func84, Tryd.ntmps84
    go_wp2_with (first
      | (go_at_call 58; refine (unwritten_no k _ HK.out).mono ?_; rintro e W1 ⟨rfl, rfl⟩))
    go_ret
    exact ⟨rfl, Below.refl _ _⟩
end Go.Proofs.YtijpoipcadhchaaDoor
