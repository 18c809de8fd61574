/-
  Walks, not a claim by itself: the statements' part, messages held against one another. By the verifier.
-/
import Derived.Test.YtfpgkckcifjkcaaDoorOTu0
namespace Go.Proofs.YtfpgkckcifjkcaaDoor
open Go.RowKit
/-- Bools that came in. -/
def KArg (w : World) (a : Option Addr) (m : Nat) (K : Nat → Bool) : Prop := m = 0 ∨ ∃ b off, a = some ⟨b, off, none⟩ ∧ (∀ i, i < m → w.cell? ⟨b, off + i, none⟩ = some (.bool (K i))) ∧ b < w.heap.size
theorem KArg.below {w w' : World} {a : Option Addr} {m : Nat} {K : Nat → Bool} (h : KArg w a m K) (hB : Below w.heap.size w w') : KArg w' a m K := by
  rcases h with h | ⟨b, off, ha, hc, hb⟩
  · exact .inl h
  · exact .inr ⟨b, off, ha, fun i hi => (hB.cell (p := ⟨b, off + i, none⟩) hb).trans (hc i hi), Nat.lt_of_lt_of_le hb hB.size⟩
/-- What part answers: some bytes. -/
def PartPost (N : Nat) (w : World) (e : Ending) (w' : World) : Prop := ∃ (g cap : Nat) (F : Nat → Int), e = .returned (.slice (some ⟨g, 0, none⟩) N cap) ∧ w.heap.size ≤ g ∧ N ≤ cap ∧ IRow w' g .u8 N F ∧ (∀ j, 0 ≤ F j ∧ F j < 256) ∧ Below w.heap.size w w'
def ptRel (w : World) (g N M : Nat) (i : Value) (W : World) : Prop := ∃ (k : Nat) (F : Nat → Int), k ≤ M ∧ i = .int .i64 k ∧ IRow W g .u8 N F ∧ (∀ j, 0 ≤ F j ∧ F j < 256) ∧ Below w.heap.size w W
theorem over_all {G F : Nat → Int} {o c : Nat} (hG : ∀ j, 0 ≤ G j ∧ G j < 256) (hF : ∀ j, 0 ≤ F j ∧ F j < 256) (j : Nat) : 0 ≤ over G o c F j ∧ over G o c F j < 256 := by
  unfold over; split
  · exact hF _
  · exact hG j
theorem pt_ar (k M N cap CC L : Nat) (hN : M * 256 = N) (hc : N ≤ cap) (hCC : N ≤ CC) (hk : k < M) (ht : L = 256 ∨ L = 128) : (k : Int) * 256 + (L : Int) ≤ (N : Int) ∧ (0 : Int) ≤ (k : Int) * 256 ∧ (k : Int) * 256 ≤ (k : Int) * 256 + (L : Int) ∧ (k : Int) * 256 + (L : Int) ≤ (cap : Int) ∧ (k : Int) * 256 + (L : Int) ≤ (CC : Int) ∧ ((k : Int) * 256).toNat = k * 256 ∧ ((k : Int) * 256 + (L : Int)).toNat = k * 256 + L ∧ ¬ cap = k * 256 ∧ ¬ CC = k * 256 ∧ k * 256 + L - k * 256 = L := by
  refine ⟨by omega, by omega, by omega, by omega, by omega, by omega, by omega, by omega, by omega, by omega⟩
theorem pt_ar2 (k : Nat) (hk : k < 5) : wrap64 ((k : Int) + 1) = (k : Int) + 1 ∧ wrap64 (((k : Int) + 1) * 256) = (k : Int) * 256 + 256 ∧ wrap64 ((k : Int) * 256) = (k : Int) * 256 ∧ wrap64 ((k : Int) * 256 + 128) = (k : Int) * 256 + 128 ∧ IntKind.i64.wrap ((k : Int) + 1) = (k : Int) + 1 ∧ IntKind.i64.wrap (((k : Int) + 1) * 256) = (k : Int) * 256 + 256 ∧ IntKind.i64.wrap ((k : Int) * 256) = (k : Int) * 256 ∧ IntKind.i64.wrap ((k : Int) * 256 + 128) = (k : Int) * 256 + 128 := by
  refine ⟨?_, ?_, ?_, ?_, ?_, ?_, ?_, ?_⟩
  · unfold wrap64; omega
  · unfold wrap64; omega
  · unfold wrap64; omega
  · unfold wrap64; omega
  · rw [IntKind.wrap_i64]; omega
  · rw [IntKind.wrap_i64]; omega
  · rw [IntKind.wrap_i64]; omega
  · rw [IntKind.wrap_i64]; omega
theorem pt_end (k N : Nat) (hN : k * 256 = N) (hM : k ≤ 5) : wrap64 ((k : Int) * 256) = (k : Int) * 256 ∧ ((k : Int) * 256 < (N : Int)) = False := by
  refine ⟨?_, eq_false (by omega)⟩
  unfold wrap64; omega
theorem pt_less (k M : Nat) (h : k < M) : M - (intOf (.int .i64 ((k : Int) + 1))).toNat < M - (intOf (.int .i64 (k : Int))).toNat := by
  show M - ((k : Int) + 1).toNat < M - ((k : Int)).toNat
  omega
set_option maxRecDepth 100000 in
set_option maxHeartbeats 1000000 in
theorem part_any (a : Option Addr) (N M C CC b m C' : Nat) (t : Option Addr) (f0 f : Nat → Int) (K : Nat → Bool) (tear : Int) (w : World) (hN : M * 256 = N) (hM : M ≤ 5) (h1 : 0 < M) (hA : Arg w a N f0) (hf0 : ∀ j, 0 ≤ f0 j ∧ f0 j < 256) (hL : Lies w b 0 N f) (hf : ∀ j, 0 ≤ f j ∧ f j < 256) (hCC : N ≤ CC) (hK : KArg w t m K) :
    Calls Tryd.prog 26 #[.slice a N C, .slice (some ⟨b, 0, none⟩) N CC, .slice t m C', .int .i64 tear] w (PartPost N w) := by
  have HA : Hid (Arg w a N f0) := hA
  have LF : Hid (Lies w b 0 N f) := hL
  have HK : Hid (KArg w t m K) := hK
  clear hA hL hK
  go_enter Tryd.func26, Tryd.ntmps26
  go_wp2_with fail
  refine (copy_any a N C f0 _ HA.out (by omega)).mono ?_
  rintro e W1 ⟨v1, rfl, hO1, hB1⟩
  obtain ⟨g, cap, rfl, hg, hcap, Q1⟩ := hO1.row (by omega)
  have NG : Hid (w.heap.size ≤ g) := hg
  have ST : Hid (ptRel w g N M (.int .i64 0) W1) := ⟨0, f0, by omega, rfl, Q1, hf0, hB1⟩
  clear hO1 hB1 hg Q1
  go_wp2_with fail
  go_loopw [10] (fun i wr => ptRel w g N M i wr) (fun i _ => M - (intOf i).toNat)
  case atStart => exact ST.out
  case round =>
    obtain ⟨k, F, hk, rfl, hR, hF, hB⟩ := hrel
    clear ST
    have RR : Hid (IRow wr g .u8 N F) := hR
    have BF : Hid (∀ j, 0 ≤ F j ∧ F j < 256) := hF
    have BE : Hid (Below w.heap.size w wr) := hB
    clear hR hF
    by_cases hlt : k < M
    · obtain ⟨p1, p2, p3, p4, q1, q2, q3, q4⟩ := pt_ar2 k (by omega)
      have i0 : (k : Int) * 256 < (N : Int) := by omega
      by_cases hkm : k < m
      · have i1 : (k : Int) < (m : Int) := by omega
        have i2 : (0 : Int) ≤ (k : Int) := by omega
        rcases HK.out with h0 | ⟨tb, toff, rfl, hc, htb⟩
        · omega
        have c0 := (hB.cell (p := ⟨tb, toff + k, none⟩) htb).trans (hc k hkm)
        have ML : Hid (M - (intOf (.int .i64 ((k : Int) + 1))).toNat < M - (intOf (.int .i64 (k : Int))).toNat) := pt_less k M hlt
        have KM : Hid (k + 1 ≤ M ∧ k < M ∧ M * 256 = N) := ⟨hlt, hlt, hN⟩
        clear hc htb
        cases hd : K k with
        | false =>
          rw [hd] at c0
          clear hB hkm hlt hk
          go_wp2_with fail
          exact ⟨⟨k + 1, F, KM.out.1, by go_num, RR.out, BF.out, BE.out⟩, ML.out⟩
        | true =>
          rw [hd] at c0
          by_cases ht : (k : Int) = tear
          · obtain ⟨a4, a5, a6, a7, a8, a9, b1, b2, b3, b4⟩ := pt_ar k M N cap CC 128 hN hcap hCC hlt (.inr rfl)
            rw [show ((128 : Nat) : Int) = 128 from rfl] at a4 a6 a7 a8 b1
            have t1 : ((k : Int) == tear) = true := by simpa using ht
            clear hB hkm hlt hk ht
            go_wp2_with fail
            obtain ⟨W2, hc2, hR2, hB2, hz2⟩ := copy_row wr.drew g N (k * 256) 128 (cap - k * 256) 128 (CC - k * 256) 128 (some ⟨b, k * 256, none⟩) (fun j => f (k * 256 + j)) F RR.out.drew (by have := KM.out; omega) (Nat.min_self _).symm (by
              have := Arg.part (LF.out.below BE.out.drew) (k * 256) 128 (by have := KM.out; omega)
              rwa [Nat.zero_add] at this)
            have SS : Hid (ptRel w g N M (.int .i64 ((k : Int) + 1)) W2) := ⟨k + 1, _, KM.out.1, by go_num, hR2, over_all BF.out (fun j => hf _), BE.out.drew.trans (hB2.below NG.out (show _ ≤ wr.heap.size from BE.out.size))⟩
            clear hR2 hB2 hz2 RR BE BF KM
            go_region_held3 (fun w' => True) (trivial) (refine step_copy rfl (.tmp 49) (.tmp 54) 27 27 rfl _ _ rfl rfl (hc2 _) ?_)
            go_wp2_with fail
            exact ⟨SS.out, ML.out⟩
          · obtain ⟨a4, a5, a6, a7, a8, a9, b1, b2, b3, b4⟩ := pt_ar k M N cap CC 256 hN hcap hCC hlt (.inl rfl)
            rw [show ((256 : Nat) : Int) = 256 from rfl] at a4 a6 a7 a8 b1
            have t1 : ((k : Int) == tear) = false := by simpa using ht
            clear hB hkm hlt hk ht
            go_wp2_with fail
            obtain ⟨W2, hc2, hR2, hB2, hz2⟩ := copy_row wr.drew g N (k * 256) 256 (cap - k * 256) 256 (CC - k * 256) 256 (some ⟨b, k * 256, none⟩) (fun j => f (k * 256 + j)) F RR.out.drew (by have := KM.out; omega) (Nat.min_self _).symm (by
              have := Arg.part (LF.out.below BE.out.drew) (k * 256) 256 (by have := KM.out; omega)
              rwa [Nat.zero_add] at this)
            have SS : Hid (ptRel w g N M (.int .i64 ((k : Int) + 1)) W2) := ⟨k + 1, _, KM.out.1, by go_num, hR2, over_all BF.out (fun j => hf _), BE.out.drew.trans (hB2.below NG.out (show _ ≤ wr.heap.size from BE.out.size))⟩
            clear hR2 hB2 hz2 RR BE BF KM
            go_region_held3 (fun w' => True) (trivial) (refine step_copy rfl (.tmp 49) (.tmp 54) 27 27 rfl _ _ rfl rfl (hc2 _) ?_)
            go_wp2_with fail
            exact ⟨SS.out, ML.out⟩
      · have i1 : ((k : Int) < (m : Int)) = False := eq_false (by omega)
        clear hB hkm hlt hk
        go_wp2_with fail
        go_ret
        exact ⟨g, cap, F, rfl, NG.out, hcap, RR.out, BF.out, BE.out⟩
    · obtain rfl : k = M := by omega
      obtain ⟨p1, p2⟩ := pt_end k N hN hM
      clear hB hlt hk
      go_wp2_with fail
      go_ret
      exact ⟨g, cap, F, rfl, NG.out, hcap, RR.out, BF.out, BE.out⟩
end Go.Proofs.YtfpgkckcifjkcaaDoor
