/-
  Walks, not a claim by itself: the kit's OverBytes. By the verifier.
-/
import Derived.Test.YtcjapldhfolpnaaDoorBCopy
namespace Go.Proofs.YtcjapldhfolpnaaDoor
open Go.RowKit
/-- A byte written over. -/
def ov (x : Int) : Int := bits .xor .u8 x 90
theorem ov_ov (x : Int) (h : 0 ≤ x ∧ x < 256) : ov (ov x) = x := by
  unfold ov
  rw [u8_xor x 90 h.1 h.2 (by omega) (by omega)]
  have h1 : x.toNat ^^^ (90 : Int).toNat < 2 ^ 8 := Nat.xor_lt_two_pow (by omega) (by decide)
  rw [u8_xor _ 90 (by omega) (by omega) (by omega) (by omega), Int.toNat_natCast, Nat.xor_assoc, Nat.xor_self, Nat.xor_zero]
  omega
theorem ov_byte (x : Int) (h : 0 ≤ x ∧ x < 256) : 0 ≤ ov x ∧ ov x < 256 := by
  unfold ov
  rw [u8_xor x 90 h.1 h.2 (by omega) (by omega)]
  have h1 : x.toNat ^^^ (90 : Int).toNat < 2 ^ 8 := Nat.xor_lt_two_pow (by omega) (by decide)
  omega
/-- The first k bytes written over. -/
def ovF (F : Nat → Int) (k j : Nat) : Int := if j < k then ov (F j) else F j
theorem ovF_step (F : Nat → Int) (k : Nat) : upd (ovF F k) k (ov (F k)) = ovF F (k + 1) := by
  funext j
  unfold upd ovF
  by_cases h : j = k
  · subst h; rw [if_pos rfl, if_pos (by omega)]
  · rw [if_neg h]
    by_cases g : j < k
    · rw [if_pos g, if_pos (by omega)]
    · rw [if_neg g, if_neg (by omega)]
theorem ovF_at (F : Nat → Int) (k : Nat) : ovF F k k = F k := by unfold ovF; rw [if_neg (by omega)]
def ovRel (w : World) (g C : Nat) (F : Nat → Int) (i : Value) (wr : World) : Prop := ∃ k : Nat, k ≤ C ∧ i = .int .i64 k ∧ IRow wr g .u8 C (ovF F k) ∧ But g w wr
set_option maxRecDepth 100000 in
set_option maxHeartbeats 1000000 in
theorem over_any (g n C : Nat) (F : Nat → Int) (w : World) (h : IRow w g .u8 C F) (hn : n ≤ C) (hC : C ≤ 1000000) :
    Calls Tryd.prog 41 #[.slice (some ⟨g, 0, none⟩) n C] w fun e w' => e = .returned (.tuple #[]) ∧ IRow w' g .u8 C (fun j => ov (F j)) ∧ But g w w' := by
  have ST : Hid (ovRel w g C F (.int .i64 0) w) := ⟨0, by omega, rfl, h.congr (fun j _ => by unfold ovF; rw [if_neg (by omega)]), But.refl _ _⟩
  clear h
  have e0 : (0 : Int) ≤ (C : Int) := by omega
  have e1 : (n : Int) ≤ C := by omega
  go_enter Tryd.func41, Tryd.ntmps41
  go_wp2_with fail
  go_loopw [3] (fun i wr => ovRel w g C F i wr) (fun i _ => C - (intOf i).toNat)
  case atStart => exact ST.out
  case round =>
    obtain ⟨k, hk, rfl, hR, hB⟩ := hrel
    clear ST
    have RR : Hid (IRow wr g .u8 C (ovF F k)) := hR
    have BE : Hid (But g w wr) := hB
    clear hB
    by_cases hlt : k < C
    · have c := hR.1 k hlt
      rw [ovF_at] at c
      have fr := hR.2.1 k
      clear hR
      have i0 : (k : Int) < C := by omega
      have i1 : (0 : Int) ≤ (k : Int) := by omega
      have eo : bits .xor .u8 (F k) 90 = ov (F k) := rfl
      go_wp2_with fail
      exact ⟨⟨k + 1, by omega, by go_num, by rw [← ovF_step]; exact RR.out.set k _, BE.out.trans (But.set _ _ _)⟩, by simp [intOf]; omega⟩
    · obtain rfl : k = C := by omega
      clear hR
      go_wp2_with fail
      exact bodyPost_end (by simp [results, Tryd.results41, go_sem]) rfl ⟨rfl, RR.out.congr (fun j hj => by unfold ovF; rw [if_pos hj]), BE.out⟩
set_option maxHeartbeats 1000000 in
theorem over_nil (w : World) : Calls Tryd.prog 41 #[.slice none 0 0] w fun e w' => e = .returned (.tuple #[]) ∧ w' = w := by
  go_enter Tryd.func41, Tryd.ntmps41
  go_wp2_with fail
  refine wp_loop_rounds 1 ?_
  rw [rounds_succ]
  go_wp2_with fail
  exact bodyPost_end (by simp [results, Tryd.results41, go_sem]) rfl ⟨rfl, rfl⟩
end Go.Proofs.YtcjapldhfolpnaaDoor
