/-
  Walks, not a claim by itself: the reference's at and big. By the verifier.
-/
import Derived.Test.YtlcnhmlcmedonaaQRead
import Derived.Test.YtlcnhmlcmedonaaT128
namespace Go.Proofs.Ytlcnhmlcmedonaa
open Go.RowKit
/-- The number of the last m of n bytes. -/
def hr (g : Nat → Int) (n : Nat) : Nat → Int
  | 0 => 0
  | m + 1 => hr g n m * 256 + g (n - 1 - m)
theorem hr_bound (g : Nat → Int) (n : Nat) (hg : ∀ j, j < n → 0 ≤ g j ∧ g j < 256) : ∀ m, m ≤ n → 0 ≤ hr g n m ∧ hr g n m < 256 ^ m := by
  intro m
  induction m with
  | zero => intro _; exact ⟨Int.le_refl 0, by simp [hr]⟩
  | succ m ih =>
    intro hm
    obtain ⟨i0, i1⟩ := ih (by omega)
    have hb := hg (n - 1 - m) (by omega)
    rw [Int.pow_succ]
    unfold hr
    generalize (256 : Int) ^ m = p at *
    exact ⟨by omega, by omega⟩
theorem hr_ps (g : Nat → Int) (n : Nat) : ∀ m, m ≤ n → hr g n m * 256 ^ (n - m) + ps g (n - m) = ps g n := by
  intro m
  induction m with
  | zero => intro _; simp [hr]
  | succ m ih =>
    intro hm
    have := ih (by omega)
    rw [← this]
    obtain ⟨d, hd⟩ : ∃ d, n - m = d + 1 := ⟨n - m - 1, by omega⟩
    have e1 : n - (m + 1) = d := by omega
    have e2 : n - 1 - m = d := by omega
    rw [e1, hd, ps_succ, Int.pow_succ, show hr g n (m + 1) = hr g n m * 256 + g (n - 1 - m) from rfl, e2]
    generalize (256 : Int) ^ d = p
    rw [Int.add_mul, Int.mul_assoc, Int.mul_comm 256 p]
    omega
theorem hr_all (g : Nat → Int) (n : Nat) : hr g n n = ps g n := by
  have := hr_ps g n n (Nat.le_refl _)
  rw [Nat.sub_self] at this
  simpa [ps] using this
theorem hr_step (g : Nat → Int) (n s : Nat) (hs : s < n) : hr g n (n - (s + 1)) * 256 + g s = hr g n (n - s) := by
  obtain ⟨m, hm⟩ : ∃ m, n - (s + 1) = m := ⟨_, rfl⟩
  have e : n - s = m + 1 := by omega
  rw [hm, e]
  show _ = hr g n m * 256 + g (n - 1 - m)
  rw [show n - 1 - m = s by omega]
theorem hr_small (g : Nat → Int) (n : Nat) (hn : n ≤ 8) (hg : ∀ j, j < n → 0 ≤ g j ∧ g j < 256) (m : Nat) (hm : m < n) : 0 ≤ hr g n m ∧ hr g n m < 72057594037927936 := by
  obtain ⟨h0, h1⟩ := hr_bound g n hg m (by omega)
  refine ⟨h0, Int.lt_of_lt_of_le h1 ?_⟩
  have : m ≤ 7 := by omega
  match m, this with
  | 0, _ | 1, _ | 2, _ | 3, _ | 4, _ | 5, _ | 6, _ | 7, _ => decide
  | k + 8, h => omega
/-- What holds at the head of the loop. -/
def atRel (W : World) (n : Nat) (g : Nat → Int) (acc i : Value) (wr : World) : Prop := ∃ q : Nat, q ≤ n ∧ ((q = 0 ∧ i = .int .i64 (-1)) ∨ ∃ s : Nat, q = s + 1 ∧ i = .int .i64 s) ∧ acc = .int .u64 (hr g n (n - q)) ∧ wr = W
theorem atRel_step (W : World) (n s : Nat) (g : Nat → Int) (v : Int) (hs : s < n) (hv : v = hr g n (n - s)) : atRel W n g (.int .u64 v) (.int .i64 ((s : Int) - 1)) W := by
  subst hv
  refine ⟨s, by omega, ?_, rfl, rfl⟩
  match s with
  | 0 => exact .inl ⟨rfl, rfl⟩
  | k + 1 => exact .inr ⟨k, rfl, by go_num⟩
set_option maxRecDepth 100000 in
set_option maxHeartbeats 1000000 in
theorem qat_any (b off C p n : Nat) (f : Nat → Int) (w : World) (h : Lies w b off 128 f) (hn : n ≤ 8) (h1 : 1 ≤ n) (hp : p + n ≤ 128) :
    Calls Try.prog 54 #[.slice (some ⟨b, off, none⟩) 128 C, .int .i64 p, .int .i64 n] w fun e w' => e = .returned (.int .u64 (ps (fun j => f (p + j)) n)) ∧ w' = w := by
  have LL : Hid (Lies w b off 128 f) := h
  have G : Hid (∀ j, j < n → 0 ≤ f (p + j) ∧ f (p + j) < 256) := fun j hj => h.2.1 (p + j) (by omega)
  have ST : Hid (atRel w n (fun j => f (p + j)) (.int .u64 0) (.int .i64 ((n : Int) - 1)) w) := by
    refine ⟨n, Nat.le_refl _, .inr ⟨n - 1, by omega, by congr 1; omega⟩, ?_, rfl⟩
    rw [Nat.sub_self]; rfl
  clear h
  go_enter Try.func54, Try.ntmps54
  go_wp2_with fail
  go_loopw [7, 8] (fun acc i wr => atRel w n (fun j => f (p + j)) acc i wr) (fun _ i _ => (intOf i + 1).toNat)
  case atStart =>
    have e : wrap64 ((n : Int) - 1) = (n : Int) - 1 := by unfold wrap64; omega
    first
      | exact ST.out
      | (rw [e]; exact ST.out)
  case round =>
    obtain ⟨q, hq, hi, rfl, rfl⟩ := hrel
    clear ST
    rcases hi with ⟨rfl, rfl⟩ | ⟨s, rfl, rfl⟩
    · rw [Nat.sub_zero, hr_all]
      go_wp2_with fail
      go_ret
      exact ⟨rfl, rfl⟩
    · obtain ⟨l0, l1⟩ := hr_small (fun j => f (p + j)) n hn G.out (n - (s + 1)) (by omega)
      obtain ⟨f0, f1⟩ := G.out s (by omega)
      have sl : Hid (hr (fun j => f (p + j)) n (n - (s + 1)) * 256 + f (p + s) = hr (fun j => f (p + j)) n (n - s)) := hr_step (fun j => f (p + j)) n s (by omega)
      generalize hr (fun j => f (p + j)) n (n - (s + 1)) = lo at *
      have e1 : bits BinOp.or IntKind.u64 (lo * 256) (f (p + s)) = lo * 256 + f (p + s) := or_hi lo (f (p + s)) 256 8 (by decide) l0 f0 f1 (by omega)
      have x0 := LL.out.1 (p + s) (by omega)
      have i0 : (p : Int) + s < 128 := by omega
      have i1 : (0 : Int) ≤ (p : Int) + s := by omega
      have i2 : ((p : Int) + s).toNat = p + s := by omega
      generalize f (p + s) = v at *
      go_wp2_with fail
      refine ⟨atRel_step _ n s _ _ (by omega) sl.out, ?_⟩
      simp [intOf]
set_option maxRecDepth 100000 in
set_option maxHeartbeats 1000000 in
theorem qbig_any (b off C k : Nat) (f : Nat → Int) (w : World) (h : Lies w b off 128 f) (hk : k ≤ 5) (hC : 128 ≤ C) :
    Calls Try.prog 53 #[.slice (some ⟨b, off, none⟩) 128 C, .int .i64 k] w fun e w' => e = .returned (U (hi16 fun j => f (16 * k + j)) (lo16 fun j => f (16 * k + j))) ∧ Below w.heap.size w w' := by
  have LL : Hid (Lies w b off 128 f) := h
  clear h
  have a1 : IntKind.i64.wrap (16 * (k : Int)) = 16 * k := by rw [IntKind.wrap_i64]; omega
  have a2 : IntKind.i64.wrap (16 * (k : Int) + 16) = 16 * k + 16 := by rw [IntKind.wrap_i64]; omega
  have a3 : wrap64 (16 * (k : Int)) = 16 * k := by unfold wrap64; omega
  have a4 : wrap64 (16 * (k : Int) + 16) = 16 * k + 16 := by unfold wrap64; omega
  have b1 : (0 : Int) ≤ 16 * k := by omega
  have b2 : 16 * (k : Int) ≤ 16 * k + 16 := by omega
  have b3 : 16 * (k : Int) + 16 ≤ C := by omega
  have b4 : (16 * (k : Int)).toNat = 16 * k := by omega
  have b5 : (16 * (k : Int) + 16).toNat = 16 * k + 16 := by omega
  have b6 : ¬ C = 16 * k := by omega
  have b7 : 16 * k + 16 - 16 * k = 16 := by omega
  go_enter Try.func53, Try.ntmps53
  go_wp2_with fail
  refine (rread_ok b (off + 16 * k) (C - 16 * k) (fun j => f (16 * k + j)) _ ((LL.out.alloc _).part (16 * k) 16 (by omega)).row16).mono ?_
  rintro e w1 ⟨rfl, hB⟩
  have c0 := (hB.cell (p := ⟨w.heap.size, 0, none⟩) (by simp)).trans (by simp [go_sem] : _ = some (.int .u64 0))
  have c1 := (hB.cell (p := ⟨w.heap.size, 1, none⟩) (by simp)).trans (by simp [go_sem] : _ = some (.int .u64 0))
  have f0 := (hB.frozen (p := ⟨w.heap.size, 0, none⟩) (by simp)).trans (by simp [go_sem] : _ = false)
  have f1 := (hB.frozen (p := ⟨w.heap.size, 1, none⟩) (by simp)).trans (by simp [go_sem] : _ = false)
  have z1 : w.heap.size < w1.heap.size := by have := hB.size; simp at this; omega
  have B1 : Hid (Below w.heap.size w w1) := ((Below.refl _ _).alloc (Nat.le_refl _) _).trans (hB.mono (by simp))
  have eh : le8 (fun j => f (16 * k + (8 + j))) = hi16 fun j => f (16 * k + j) := rfl
  have el : le8 (fun j => f (16 * k + j)) = lo16 fun j => f (16 * k + j) := rfl
  clear hB
  rw [eh, el]
  clear eh el a1 a2 a3 a4 b1 b2 b3 b4 b5 b6 b7
  go_wp2_with fail
  refine bodyPost_ret (v := U (hi16 fun j => f (16 * k + j)) (lo16 fun j => f (16 * k + j))) (by simp [results, Try.results53, go_sem, c0, c1, z1]) rfl ⟨rfl, ?_⟩
  exact ((B1.out.setCell (p := ⟨w.heap.size, 0, none⟩) (Nat.le_refl _) _).setCell (p := ⟨w.heap.size, 1, none⟩) (Nat.le_refl _) _).alloc (by simp [World.setCell]; omega) _
end Go.Proofs.Ytlcnhmlcmedonaa
