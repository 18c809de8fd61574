/-
  Walks, not a claim by itself: the cursor's take. By the verifier.
-/
import Derived.Test.YtlcnhmlcmedonaaBArg
import Derived.Test.YtlcnhmlcmedonaaLay
import Derived.Test.YtlcnhmlcmedonaaPlain
import Derived.Deep.RegionHeld3
namespace Go.Proofs.Ytlcnhmlcmedonaa
open Go.RowKit
/-- The number of the first n bytes, the lowest first. -/
def ps (f : Nat → Int) : Nat → Int
  | 0 => 0
  | n + 1 => ps f n + f n * 256 ^ n
theorem ps_succ (f : Nat → Int) (n : Nat) : ps f (n + 1) = ps f n + f n * 256 ^ n := rfl
theorem ps_bound (f : Nat → Int) : ∀ n : Nat, (∀ j, j < n → 0 ≤ f j ∧ f j < 256) → 0 ≤ ps f n ∧ ps f n < 256 ^ n := by
  intro n
  induction n with
  | zero => intro _; exact ⟨Int.le_refl 0, by simp [ps]⟩
  | succ n ih =>
    intro hf
    obtain ⟨i0, i1⟩ := ih (fun j hj => hf j (by omega))
    obtain ⟨h0, h1⟩ := hf n (by omega)
    have hp : (0 : Int) < 256 ^ n := Int.pow_pos (by decide)
    rw [Int.pow_succ, ps_succ]
    generalize (256 : Int) ^ n = p at *
    have m0 : 0 ≤ f n * p := Int.mul_nonneg h0 (Int.le_of_lt hp)
    have m1 : f n * p ≤ 255 * p := Int.mul_le_mul_of_nonneg_right (by omega) (Int.le_of_lt hp)
    exact ⟨by omega, by omega⟩
theorem ps_8 (f : Nat → Int) (n : Nat) (hn : n ≤ 8) (hf : ∀ j, j < n → 0 ≤ f j ∧ f j < 256) : 0 ≤ ps f n ∧ ps f n < 18446744073709551616 := by
  obtain ⟨a, b⟩ := ps_bound f n hf
  refine ⟨a, Int.lt_of_lt_of_le b ?_⟩
  match n, hn with
  | 0, _ | 1, _ | 2, _ | 3, _ | 4, _ | 5, _ | 6, _ | 7, _ | 8, _ => decide
  | n + 9, h => omega
theorem shl_k (f : Nat → Int) (k : Nat) (hk : k < 8) (hf : ∀ j, j < k + 1 → 0 ≤ f j ∧ f j < 256) : IntKind.u64.wrap (f k * 2 ^ (8 * k)) = f k * 256 ^ k := by
  rw [Int.pow_mul, IntKind.wrap_u64]
  show f k * 256 ^ k % 18446744073709551616 = _
  rw [Int.emod_eq_of_lt]
  · exact Int.mul_nonneg (hf k (by omega)).1 (Int.le_of_lt (Int.pow_pos (by decide)))
  · have h1 := (ps_8 f (k + 1) (by omega) hf).2
    have h2 := (ps_8 f k (by omega) (fun j hj => hf j (by omega))).1
    rw [ps_succ] at h1
    omega
theorem or_k (f : Nat → Int) (k : Nat) (hk : k < 8) (hf : ∀ j, j < k + 1 → 0 ≤ f j ∧ f j < 256) : bits .or .u64 (ps f k) (f k * 256 ^ k) = ps f (k + 1) := by
  have h1 := (ps_8 f (k + 1) (by omega) hf).2
  obtain ⟨h2, h3⟩ := ps_bound f k (fun j hj => hf j (by omega))
  have e := hf k (by omega)
  rw [ps_succ] at h1 ⊢
  exact or_lo (f k) (ps f k) (256 ^ k) (8 * k) (by rw [Int.pow_mul]; rfl) e.1 h2 h3 (by omega)
/-- What holds at the head of the loop. -/
def takeRel (W : World) (n : Nat) (f : Nat → Int) (acc i : Value) (wr : World) : Prop := ∃ k : Nat, k ≤ n ∧ i = .int .i64 k ∧ acc = .int .u64 (ps f k) ∧ wr = W
set_option maxRecDepth 100000 in
set_option maxHeartbeats 1000000 in
theorem take_mid (b off L C n : Nat) (f : Nat → Int) (w : World) (h : Lies w b off n f) (hn : n ≤ 8) (hL : n ≤ L) (ho : n < C) :
    Calls Try.prog 57 #[.agg #[.slice (some ⟨b, off, none⟩) L C], .int .i64 n] w fun e w' => e = .returned (.tuple #[.int .u64 (ps f n), .agg #[.slice (some ⟨b, off + n, none⟩) (L - n) (C - n)]]) ∧ Below w.heap.size w w' := by
  have LL : Hid (Lies w b off n f) := h
  have hb := h.2.2
  clear h
  have n0 : (n : Int) ≤ C := by omega
  have n1 : (n : Int) ≤ L := by omega
  have n2 : ¬ C = n := by omega
  go_enter Try.func57, Try.ntmps57
  go_wp2_with fail
  have c0 : ((w.alloc (.cells #[.slice (some ⟨b, off, none⟩) L C] 58)).alloc (.cells #[.slice none 0 0] 58)).cell? ⟨w.heap.size, 0, none⟩ = some (.slice (some ⟨b, off, none⟩) L C) := by simp [go_sem]
  have c1 : ((w.alloc (.cells #[.slice (some ⟨b, off, none⟩) L C] 58)).alloc (.cells #[.slice none 0 0] 58)).cell? ⟨w.heap.size + 1, 0, none⟩ = some (.slice none 0 0) := by simp [go_sem]
  have f1 : ((w.alloc (.cells #[.slice (some ⟨b, off, none⟩) L C] 58)).alloc (.cells #[.slice none 0 0] 58)).frozen? ⟨w.heap.size + 1, 0, none⟩ = false := by simp [go_sem]
  have LW := (LL.out.alloc (.cells #[.slice (some ⟨b, off, none⟩) L C] 58)).alloc (.cells #[.slice none 0 0] 58)
  have BW : Hid (Below w.heap.size w ((w.alloc (.cells #[.slice (some ⟨b, off, none⟩) L C] 58)).alloc (.cells #[.slice none 0 0] 58))) := ((Below.refl _ _).alloc (Nat.le_refl _) _).alloc (by simp) _
  generalize (w.alloc (.cells #[.slice (some ⟨b, off, none⟩) L C] 58)).alloc (.cells #[.slice none 0 0] 58) = W at c0 c1 f1 LW BW ⊢
  have LH : Hid (Lies W b off n f) := LW
  clear LL LW
  go_loopw [6, 14] (fun acc i wr => takeRel W n f acc i wr) (fun _ i _ => n - (intOf i).toNat)
  case atStart => exact ⟨0, by omega, rfl, rfl, rfl⟩
  case round =>
    obtain ⟨k, hk, rfl, rfl, rfl⟩ := hrel
    by_cases hlt : k < n
    · have gk := LH.out.1 k hlt
      obtain ⟨g0, g1⟩ := LH.out.2.1 k hlt
      have w8 := wrap_8 k (by omega)
      go_wp2_with fail
      refine ⟨⟨k + 1, by omega, by go_num, ?_, rfl⟩, by simp [intOf]; omega⟩
      rw [shl_k f k (by omega) (fun j hj => LH.out.2.1 j (by omega)), or_k f k (by omega) (fun j hj => LH.out.2.1 j (by omega))]
    · obtain rfl : k = n := by omega
      go_wp2_with fail
      go_region_held3 (fun w' => w'.cell? ⟨w.heap.size, 0, none⟩ = some (.slice (some ⟨b, off, none⟩) L C)) (go_keep) (fail)
      go_wp2_with fail
      refine bodyPost_ret (v := .tuple #[.int .u64 (ps f k), .agg #[.slice (some ⟨b, off + k, none⟩) (L - k) (C - k)]]) (by simp [results, Try.results57, go_sem, c1]) rfl ⟨rfl, ?_⟩
      exact (BW.out.drew.setCell (p := ⟨w.heap.size + 1, 0, none⟩) (Nat.le_succ _) _)
set_option maxRecDepth 100000 in
set_option maxHeartbeats 1000000 in
theorem take_end (b off L C n : Nat) (f : Nat → Int) (w : World) (h : Lies w b off n f) (hn : n ≤ 8) (hL : n = L) (ho : n = C) :
    Calls Try.prog 57 #[.agg #[.slice (some ⟨b, off, none⟩) L C], .int .i64 n] w fun e w' => e = .returned (.tuple #[.int .u64 (ps f n), .agg #[.slice (some ⟨b, off, none⟩) 0 0]]) ∧ Below w.heap.size w w' := by
  have LL : Hid (Lies w b off n f) := h
  have hb := h.2.2
  subst ho
  subst hL
  clear h
  go_enter Try.func57, Try.ntmps57
  go_wp2_with fail
  have c0 : ((w.alloc (.cells #[.slice (some ⟨b, off, none⟩) n n] 58)).alloc (.cells #[.slice none 0 0] 58)).cell? ⟨w.heap.size, 0, none⟩ = some (.slice (some ⟨b, off, none⟩) n n) := by simp [go_sem]
  have c1 : ((w.alloc (.cells #[.slice (some ⟨b, off, none⟩) n n] 58)).alloc (.cells #[.slice none 0 0] 58)).cell? ⟨w.heap.size + 1, 0, none⟩ = some (.slice none 0 0) := by simp [go_sem]
  have f1 : ((w.alloc (.cells #[.slice (some ⟨b, off, none⟩) n n] 58)).alloc (.cells #[.slice none 0 0] 58)).frozen? ⟨w.heap.size + 1, 0, none⟩ = false := by simp [go_sem]
  have LW := (LL.out.alloc (.cells #[.slice (some ⟨b, off, none⟩) n n] 58)).alloc (.cells #[.slice none 0 0] 58)
  have BW : Hid (Below w.heap.size w ((w.alloc (.cells #[.slice (some ⟨b, off, none⟩) n n] 58)).alloc (.cells #[.slice none 0 0] 58))) := ((Below.refl _ _).alloc (Nat.le_refl _) _).alloc (by simp) _
  generalize (w.alloc (.cells #[.slice (some ⟨b, off, none⟩) n n] 58)).alloc (.cells #[.slice none 0 0] 58) = W at c0 c1 f1 LW BW ⊢
  have LH : Hid (Lies W b off n f) := LW
  clear LL LW
  go_loopw [6, 14] (fun acc i wr => takeRel W n f acc i wr) (fun _ i _ => n - (intOf i).toNat)
  case atStart => exact ⟨0, by omega, rfl, rfl, rfl⟩
  case round =>
    obtain ⟨k, hk, rfl, rfl, rfl⟩ := hrel
    by_cases hlt : k < n
    · have gk := LH.out.1 k hlt
      obtain ⟨g0, g1⟩ := LH.out.2.1 k hlt
      have w8 := wrap_8 k (by omega)
      go_wp2_with fail
      refine ⟨⟨k + 1, by omega, by go_num, ?_, rfl⟩, by simp [intOf]; omega⟩
      rw [shl_k f k (by omega) (fun j hj => LH.out.2.1 j (by omega)), or_k f k (by omega) (fun j hj => LH.out.2.1 j (by omega))]
    · obtain rfl : k = n := by omega
      go_wp2_with fail
      go_region_held3 (fun w' => w'.cell? ⟨w.heap.size, 0, none⟩ = some (.slice (some ⟨b, off, none⟩) k k)) (go_keep) (fail)
      go_wp2_with fail
      refine bodyPost_ret (v := .tuple #[.int .u64 (ps f k), .agg #[.slice (some ⟨b, off, none⟩) 0 0]]) (by simp [results, Try.results57, go_sem, c1]) rfl ⟨rfl, ?_⟩
      exact (BW.out.drew.setCell (p := ⟨w.heap.size + 1, 0, none⟩) (Nat.le_succ _) _)
end Go.Proofs.Ytlcnhmlcmedonaa
