/-
  Walks, not a claim by itself: header's lay, take, noughts. By the verifier.
-/
import Derived.Test.YtijpoipcadhchaaDoorMPlain
namespace Go.Proofs.YtijpoipcadhchaaDoor
open Go.RowKit
theorem over_none (g : Nat → Int) (o : Nat) (f : Nat → Int) : over g o 0 f = g := by
  funext j; unfold over; rw [if_neg (by omega)]
theorem over_step (g : Nat → Int) (o k : Nat) (f : Nat → Int) : upd (over g o k f) (o + k) (f k) = over g o (k + 1) f := by
  funext j
  unfold upd over
  by_cases h : j = o + k
  · rw [if_pos h, if_pos (by omega), show j - o = k by omega]
  · rw [if_neg h]
    by_cases g : o ≤ j ∧ j < o + k
    · rw [if_pos g, if_pos (by omega)]
    · rw [if_neg g, if_neg (show ¬ (o ≤ j ∧ j < o + (k + 1)) by omega)]
/-- What holds at the head of lay's loop. -/
def mlayRel (w : World) (b N off n : Nat) (f : Nat → Int) (x : Int) (i : Value) (wr : World) : Prop := ∃ k : Nat, k ≤ n ∧ i = .int .i64 k ∧ IRow wr b .u8 N (over f off k (byt x)) ∧ But b w wr ∧ wr.heap.size = w.heap.size
theorem mlay_step (w wr : World) (b N off n k m : Nat) (f : Nat → Int) (x v : Int) (hk : k < n) (hm : m = off + k) (hv : v = x / 2 ^ (8 * k) % 256) (hR : IRow wr b .u8 N (over f off k (byt x))) (hB : But b w wr) (hz : wr.heap.size = w.heap.size) :
    mlayRel w b N off n f x (.int .i64 ((k : Int) + 1)) (wr.setCell ⟨b, m, none⟩ (.int .u8 v)) := by
  subst hm hv
  exact ⟨k + 1, by omega, by go_num, by rw [byt_eq, ← over_step]; exact hR.set _ _, hB.put (.inl rfl) _, by simp [World.setCell]; exact hz⟩
set_option maxRecDepth 100000 in
set_option maxHeartbeats 1000000 in
theorem mlay_any (b N off n C : Nat) (f : Nat → Int) (x : Int) (w : World) (hr : IRow w b .u8 N f) (hn : n ≤ 8) (ho : off + n ≤ N) :
    Calls Tryd.prog 85 #[.slice (some ⟨b, off, none⟩) n C, .int .u64 x] w fun e w' => e = .returned (.tuple #[]) ∧ IRow w' b .u8 N (over f off n (byt x)) ∧ But b w w' ∧ w'.heap.size = w.heap.size := by
  have ST : Hid (mlayRel w b N off n f x (.int .i64 0) w) := ⟨0, by omega, rfl, by rw [over_none]; exact hr, But.refl _ _, rfl⟩
  clear hr
  go_enter Tryd.func85, Tryd.ntmps85
  go_wp2_with fail
  go_loopw [7] (fun i wr => mlayRel w b N off n f x i wr) (fun i _ => n - (intOf i).toNat)
  case atStart => exact ST.out
  case round =>
    obtain ⟨k, hk, rfl, hR, hB, hz⟩ := hrel
    clear ST
    have BE : Hid (But b w wr) := hB
    have HZ : Hid (wr.heap.size = w.heap.size) := hz
    clear hB hz
    have RR : Hid (IRow wr b .u8 N (over f off k (byt x))) := hR
    by_cases hlt : k < n
    · have gk := hR.1 (off + k) (by omega)
      have fk := hR.2.1 (off + k)
      clear hR
      have w8 := wrap_8 k (by omega)
      have i0 : (k : Int) < n := by omega
      go_wp2_with fail
      exact ⟨mlay_step w wr b N off n k _ f x _ hlt rfl rfl RR.out BE.out HZ.out, by simp [intOf]; omega⟩
    · obtain rfl : k = n := by omega
      clear hR
      go_wp2_with fail
      exact bodyPost_end (v := .tuple #[]) (by simp [results, Tryd.results85, go_sem]) rfl ⟨rfl, RR.out, BE.out, HZ.out⟩
/-- What holds at the head of take's loop. -/
def mtakeRel (w : World) (n : Nat) (f : Nat → Int) (acc i : Value) (wr : World) : Prop := ∃ k : Nat, k ≤ n ∧ i = .int .i64 k ∧ acc = .int .u64 (ps f k) ∧ wr = w
set_option maxRecDepth 100000 in
set_option maxHeartbeats 1000000 in
theorem mtake_any (b off n C : Nat) (f : Nat → Int) (w : World) (h : Lies w b off n f) (hn : n ≤ 8) :
    Calls Tryd.prog 81 #[.slice (some ⟨b, off, none⟩) n C] w fun e w' => e = .returned (.int .u64 (ps f n)) ∧ w' = w := by
  have LH : Hid (Lies w b off n f) := h
  clear h
  go_enter Tryd.func81, Tryd.ntmps81
  go_wp2_with fail
  go_loopw [3, 8] (fun acc i wr => mtakeRel w n f acc i wr) (fun _ i _ => n - (intOf i).toNat)
  case atStart => exact ⟨0, by omega, rfl, rfl, rfl⟩
  case round =>
    obtain ⟨k, hk, rfl, rfl, rfl⟩ := hrel
    by_cases hlt : k < n
    · have gk := LH.out.1 k hlt
      obtain ⟨g0, g1⟩ := LH.out.2.1 k hlt
      have w8 := wrap_8 k (by omega)
      go_wp2_with fail
      refine ⟨⟨k + 1, by omega, by go_num, ?_, rfl⟩, by simp [intOf]; omega⟩
      rw [shl_k f k (by omega) (fun j hj => LH.out.2.1 j (by omega)), or_k f k (by omega) (fun j hj => LH.out.2.1 j (by omega))]
    · obtain rfl : k = n := by omega
      go_wp2_with fail
      go_ret
      exact ⟨rfl, rfl⟩
/-- Whether n bytes are noughts. -/
def zeroN (n : Nat) (f : Nat → Int) : Bool := decide (∀ i ∈ List.range n, f i = 0)
theorem zeroN_iff (n : Nat) (f : Nat → Int) : zeroN n f = true ↔ ∀ i, i < n → f i = 0 := by unfold zeroN; simp [List.mem_range]
def noughtRel (w : World) (n : Nat) (f : Nat → Int) (i : Value) (wr : World) : Prop := ∃ k : Nat, k ≤ n ∧ i = .int .i64 k ∧ (∀ j, j < k → f j = 0) ∧ wr = w
set_option maxRecDepth 100000 in
set_option maxHeartbeats 1000000 in
theorem noughts_any (b off n C : Nat) (f : Nat → Int) (w : World) (h : Lies w b off n f) (hn : n ≤ 1000000) :
    Calls Tryd.prog 65 #[.slice (some ⟨b, off, none⟩) n C] w fun e w' => e = .returned (.bool (zeroN n f)) ∧ w' = w := by
  have LH : Hid (Lies w b off n f) := h
  clear h
  go_enter Tryd.func65, Tryd.ntmps65
  go_wp2_with fail
  go_loopw [7] (fun i wr => noughtRel w n f i wr) (fun i _ => n - (intOf i).toNat)
  case atStart => exact ⟨0, by omega, rfl, fun j hj => by omega, rfl⟩
  case round =>
    obtain ⟨k, hk, rfl, hz, rfl⟩ := hrel
    have HZ : Hid (∀ j, j < k → f j = 0) := hz
    clear hz
    by_cases hlt : k < n
    · have gk := LH.out.1 k hlt
      by_cases e : f k = 0
      · rw [e] at gk
        have E : Hid (f k = 0) := e
        clear e
        go_wp2_with fail
        exact ⟨⟨k + 1, by omega, by go_num, fun j hj => by
          by_cases q : j = k
          · rw [q, E.out]
          · exact HZ.out j (by omega), rfl⟩, by simp [intOf]; omega⟩
      · have E : Hid (zeroN n f = false) := Bool.eq_false_iff.2 (fun h => e ((zeroN_iff n f).1 h k hlt))
        generalize f k = v at gk e
        have e' : (v != 0) = true := by simpa using e
        clear e
        go_wp2_with fail
        go_ret
        refine ⟨?_, rfl⟩
        rw [E.out]
        rfl
    · obtain rfl : k = n := by omega
      go_wp2_with fail
      go_ret
      refine ⟨?_, rfl⟩
      rw [(zeroN_iff k f).2 HZ.out]
      rfl
end Go.Proofs.YtijpoipcadhchaaDoor
