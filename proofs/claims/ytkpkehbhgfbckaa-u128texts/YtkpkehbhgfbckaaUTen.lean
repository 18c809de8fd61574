/-
  Walks, not a claim by itself: the reference's tenth. By the verifier.
-/
import Derived.Test.YtkpkehbhgfbckaaUSum
import Derived.Test.YtkpkehbhgfbckaaGateF
namespace Go.Proofs.Ytkpkehbhgfbckaa
open Go.RowKit

theorem ps_upd (z : Nat → Int) (m : Nat) (v : Int) : ∀ n : Nat, ps (upd z m v) n = ps z n + (if m < n then (v - z m) * 256 ^ m else 0)
  | 0 => by simp [ps]
  | n + 1 => by
    rw [ps_succ, ps_succ, ps_upd z m v n]
    unfold upd
    by_cases e : n = m
    · subst e
      rw [if_pos rfl, if_neg (by omega), if_pos (by omega), Int.sub_mul]
      omega
    · rw [if_neg e]
      by_cases h : m < n
      · rw [if_pos h, if_pos (by omega)]; omega
      · rw [if_neg h, if_neg (by omega)]; omega
theorem ten_step (z a : Nat → Int) (m : Nat) (hm : m < 16) (L : Int) (hz : z m = a m) (h : 10 * (ps z 16 - ps a (m + 1)) + L * 256 ^ (m + 1) + ps a (m + 1) = ps a 16) :
    10 * (ps (upd z m ((256 * L + a m) / 10)) 16 - ps a m) + (256 * L + a m) % 10 * 256 ^ m + ps a m = ps a 16 := by
  rw [ps_upd, if_pos hm, hz]
  generalize ps z 16 = PZ at *
  generalize ps a 16 = PA at *
  rw [ps_succ a m, Int.pow_succ] at h
  generalize (256 : Int) ^ m = p at *
  have e : (256 * L + a m) = 10 * ((256 * L + a m) / 10) + (256 * L + a m) % 10 := by omega
  generalize (256 * L + a m) / 10 = q at *
  generalize (256 * L + a m) % 10 = r at *
  have e2 : (256 * L + a m) * p = (10 * q + r) * p := by rw [e]
  rw [Int.add_mul, Int.add_mul, Int.mul_assoc 10 q p, Int.mul_assoc 256 L p] at e2
  have e3 : L * (p * 256) = 256 * (L * p) := by rw [← Int.mul_assoc, Int.mul_comm]
  rw [e3] at h
  rw [Int.sub_mul]
  generalize L * p = x1 at *
  generalize a m * p = x2 at *
  generalize q * p = x3 at *
  generalize r * p = x4 at *
  omega
theorem cells_cl (z : Nat → Int) : cl .u8 16 z = cells16 z := by
  unfold cl
  simp only [List.range, List.range.loop, List.map]
  rfl
theorem rof_cl (z : Nat → Int) (w : World) (hz : ∀ j, j < 16 → 0 ≤ z j ∧ z j < 256) :
    Calls Try.prog 40 #[.agg (cl .u8 16 z).toArray] w fun e w' => e = .returned (U (hiW (ps z 16)) (loW (ps z 16))) ∧ Below w.heap.size w w' := by
  rw [cells_cl]
  refine (rof_row z w hz).mono ?_
  rintro e w' ⟨rfl, hB⟩
  obtain ⟨e1, e2⟩ := words_uniq (le8_word _ (fun j hj => hz (8 + j) (by omega))) (le8_word _ (fun j hj => hz j (by omega))) (ps_16 z).symm
  rw [← e1, ← e2]
  exact ⟨rfl, hB⟩
/-- What holds at the head of tenth's loop: p bytes are still to be divided. -/
def TenRel (w : World) (B : Nat) (a : Nat → Int) (left i : Value) (wr : World) : Prop := ∃ (p : Nat) (z : Nat → Int) (L : Int), p ≤ 16 ∧ ((p = 0 ∧ i = .int .i64 (-1)) ∨ ∃ m : Nat, p = m + 1 ∧ i = .int .i64 m) ∧ left = .int .i64 L ∧ 0 ≤ L ∧ L < 10 ∧
  (∀ j, j < p → z j = a j) ∧ (∀ j, j < 16 → 0 ≤ z j ∧ z j < 256) ∧ 10 * (ps z 16 - ps a p) + L * 256 ^ p + ps a p = ps a 16 ∧ IRow wr B .u8 16 z ∧ AtW wr (w.heap.size + 1) 0 0 ∧ Below w.heap.size w wr
theorem ten_rel1 {w wr : World} {B : Nat} {a z : Nat → Int} {m : Nat} {L : Int} (hm : m < 16) (l0 : 0 ≤ L) (l1 : L < 10) (hz : ∀ j, j < m + 1 → z j = a j) (hb : ∀ j, j < 16 → 0 ≤ z j ∧ z j < 256) (h : 10 * (ps z 16 - ps a (m + 1)) + L * 256 ^ (m + 1) + ps a (m + 1) = ps a 16)
    (hR : IRow wr B .u8 16 z) (hA : AtW wr (w.heap.size + 1) 0 0) (hB : Below w.heap.size w wr) (hne : B ≠ w.heap.size + 1) (hle : w.heap.size ≤ B) (u : Int) (hu : u = z m) :
    TenRel w B a (.int .i64 ((256 * L + u) % 10)) (.int .i64 ((m : Int) - 1)) (wr.setCell ⟨B, m, none⟩ (.int .u8 ((256 * L + u) / 10))) := by
  have e := hz m (by omega)
  have k := hb m hm
  subst hu
  refine ⟨m, upd z m ((256 * L + z m) / 10), (256 * L + z m) % 10, by omega, ?_, rfl, by omega, by omega, ?_, ?_, ?_, hR.set m _, hA.other _ _ _ hne, hB.setCell (p := ⟨B, m, none⟩) hle _⟩
  · match m with
    | 0 => exact .inl ⟨rfl, rfl⟩
    | k + 1 => exact .inr ⟨k, rfl, by go_num⟩
  · intro j hj
    unfold upd
    rw [if_neg (by omega), hz j (by omega)]
  · intro j hj
    unfold upd
    by_cases q : j = m
    · rw [if_pos q]; omega
    · rw [if_neg q]; exact hb j hj
  · rw [e]
    exact ten_step z a m hm L e h

set_option maxRecDepth 100000 in
set_option maxHeartbeats 2000000 in
theorem rten_any (ah al : Int) (w : World) (h1 : Word ah) (h2 : Word al) :
    Calls Try.prog 48 #[U ah al] w fun e w' => e = .returned (.tuple #[U (hiW (V ah al / 10)) (loW (V ah al / 10)), .int .i64 (V ah al % 10)]) ∧ Below w.heap.size w w' := by
  go_enter Try.func48, Try.ntmps48
  go_wp2_with fail
  refine (rbytes_cl ah al _ h1 h2).mono ?_
  rintro e w1 ⟨rfl, hB1⟩
  have A1 := (AtW.new (w.alloc (.cells #[.int .u64 ah, .int .u64 al] 24)) 0 0 24).below hB1
  rw [World.size_alloc] at A1
  have E1 : Below w.heap.size w w1 := (((Below.refl _ _).alloc (Nat.le_refl _) _).alloc (by simp) _).trans (hB1.mono (by simp; omega))
  have AE : Hid (AtW w1 (w.heap.size + 1) 0 0) := A1
  have EE : Hid (Below w.heap.size w w1) := E1
  clear A1 E1 hB1
  go_wp2_with (first
    | (refine wpList_alloc_row rfl 42 rfl .u8 16 w1.heap.size rfl (by kernel_rfl) ?_; intro w2 hR2 hB2 hz2)
    | (refine wpList_store_row rfl 42 (.tmp 4) _ rfl w1.heap.size .u8 16 (bf ah al) (fun _ => 0) rfl rfl hR2 (by kernel_rfl) ?_; intro w3 hR3 hB3 hz3))
  have K3 : Below w1.heap.size w1 w3 := hB2.trans (hB3.below (Nat.le_refl _) (by omega))
  obtain ⟨B, hB⟩ : ∃ B, B = w1.heap.size := ⟨_, rfl⟩
  have hne : B ≠ w.heap.size + 1 := by have := AE.out.2.2.2.2; omega
  have hle : w.heap.size ≤ B := by have := EE.out.size; omega
  rw [← hB] at hR3 ⊢
  have ST : Hid (TenRel w B (bf ah al) (.int .i64 0) (.int .i64 15) w3) :=
    ⟨16, bf ah al, 0, Nat.le_refl _, .inr ⟨15, rfl, rfl⟩, rfl, by omega, by omega, fun _ _ => rfl, bf_byte ah al h1 h2, by omega, hR3, AE.out.below K3, EE.out.trans (K3.mono EE.out.size)⟩
  have SA : Hid (ps (bf ah al) 16 = V ah al) := bf_16 ah al
  clear K3 hR2 hB2 hz2 hR3 hB3 hz3 AE EE hB
  generalize bf ah al = f at ST SA
  go_loopw [5, 6] (fun l i wr => TenRel w B f l i wr) (fun _ i _ => (intOf i + 1).toNat)
  case atStart => exact ST.out
  case round =>
    obtain ⟨p, z, L, hp, hi, rfl, l0, l1, hz, hb, hs, hR, hA, hE⟩ := hrel
    clear ST
    have RR : Hid (IRow wr B .u8 16 z) := hR
    have AE : Hid (AtW wr (w.heap.size + 1) 0 0) := hA
    have EE : Hid (Below w.heap.size w wr) := hE
    have ZE : Hid ((∀ j, j < p → z j = f j) ∧ (∀ j, j < 16 → 0 ≤ z j ∧ z j < 256) ∧ 10 * (ps z 16 - ps f p) + L * 256 ^ p + ps f p = ps f 16) := ⟨hz, hb, hs⟩
    clear hz hs hE
    rcases hi with ⟨rfl, rfl⟩ | ⟨m, rfl, rfl⟩
    · have ZB : Hid (∀ j, j < 16 → 0 ≤ z j ∧ z j < 256) := hb
      clear hb hR
      go_wp2_with (refine wpList_load_irow rfl 42 (.tmp 4) rfl B .u8 16 z rfl _ Try.underlying42 rfl (by kernel_rfl) RR.out ?_)
      refine (rof_cl z _ ZB.out).mono ?_
      rintro e w5 ⟨rfl, hB5⟩
      have E5 : Hid (Below w.heap.size w w5) := EE.out.trans (hB5.mono EE.out.size)
      obtain ⟨r0, r1, r2, r3, r4⟩ := AE.out.below hB5
      have FIN : Hid (ps z 16 = V ah al / 10 ∧ L = V ah al % 10) := by
        have := ZE.out.2.2
        rw [SA.out] at this
        rw [show ps f 0 = 0 from rfl, Int.pow_zero] at this
        exact ⟨by omega, by omega⟩
      clear hB5 AE EE RR ZB ZE hA
      rw [FIN.out.1]
      rw [FIN.out.2] at l0 l1
      rw [FIN.out.2]
      clear FIN
      go_wp2_with fail
      refine bodyPost_ret (v := .tuple #[U (hiW (V ah al / 10)) (loW (V ah al / 10)), .int .i64 (V ah al % 10)]) (by simp [results, Try.results48, go_sem, r0, r1]) rfl ⟨rfl, ?_⟩
      exact sum_below2 E5.out (by omega)
    · have hm : m < 16 := by omega
      have x0 := hR.1 m hm
      have x1 := hR.2.1 m
      obtain ⟨u0, u1⟩ := hb m hm
      obtain ⟨u, hu⟩ : ∃ u, u = z m := ⟨_, rfl⟩
      rw [← hu] at x0 u0 u1
      have UU : Hid (u = z m) := hu
      clear hu hR hA hb
      go_wp2_with fail
      exact ⟨ten_rel1 hm l0 l1 ZE.out.1 ZE.out.2.1 ZE.out.2.2 RR.out AE.out EE.out hne hle u UU.out, by simp [intOf]⟩
end Go.Proofs.Ytkpkehbhgfbckaa
