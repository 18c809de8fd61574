/-
  Walks, not a claim by itself: the reference's of: the number of sixteen bytes. By the verifier.
-/
import Derived.Test.YtlcnhmlcmedonaaQParts
import Derived.Deep.QuietTactic
import Derived.BigQuiet
import Derived.WalkSmall
namespace Go.Proofs.Ytlcnhmlcmedonaa
open Go.RowKit

/-- The number of the last n of eight bytes. -/
def leT (f : Nat → Int) : Nat → Int
  | 0 => 0
  | n + 1 => leT f n * 256 + f (7 - n)
theorem leT_8 (f : Nat → Int) : leT f 8 = le8 f := by
  show ((((((((0 * 256 + f 7) * 256 + f 6) * 256 + f 5) * 256 + f 4) * 256 + f 3) * 256 + f 2) * 256 + f 1) * 256 + f 0) = le8 f
  unfold le8
  omega
theorem leT_step (f : Nat → Int) (m : Nat) (hm : m ≤ 7) : leT f (7 - m) * 256 + f m = leT f (8 - m) := by
  have e : 8 - m = (7 - m) + 1 := by omega
  rw [e]
  show _ = leT f (7 - m) * 256 + f (7 - (7 - m))
  rw [show 7 - (7 - m) = m from by omega]
theorem leT_bound (f : Nat → Int) (hf : ∀ j, j < 8 → 0 ≤ f j ∧ f j < 256) : ∀ n : Nat, n ≤ 8 → 0 ≤ leT f n ∧ leT f n < 256 ^ n := by
  intro n
  induction n with
  | zero => intro _; exact ⟨Int.le_refl 0, by simp [leT]⟩
  | succ n ih =>
    intro hn
    obtain ⟨i0, i1⟩ := ih (by omega)
    have hb := hf (7 - n) (by omega)
    rw [Int.pow_succ]
    unfold leT
    generalize (256 : Int) ^ n = p at *
    exact ⟨by omega, by omega⟩
theorem leT_small (f : Nat → Int) (hf : ∀ j, j < 8 → 0 ≤ f j ∧ f j < 256) (n : Nat) (hn : n ≤ 7) : 0 ≤ leT f n ∧ leT f n < 72057594037927936 := by
  obtain ⟨h0, h1⟩ := leT_bound f hf n (by omega)
  refine ⟨h0, ?_⟩
  have : (256 : Int) ^ n ≤ 256 ^ 7 := by
    match n, hn with
    | 0, _ => decide
    | 1, _ => decide
    | 2, _ => decide
    | 3, _ => decide
    | 4, _ => decide
    | 5, _ => decide
    | 6, _ => decide
    | 7, _ => decide
    | k + 8, h => omega
  have e : (256 : Int) ^ 7 = 72057594037927936 := by decide
  omega

/-- What holds at the head of the loop: p bytes of each word are still to come. -/
def OfRel (w : World) (f : Nat → Int) (i : Value) (wr : World) : Prop := ∃ p : Nat, p ≤ 8 ∧ ((p = 0 ∧ i = .int .i64 (-1)) ∨ ∃ m : Nat, p = m + 1 ∧ i = .int .i64 m) ∧
  AtW wr (w.heap.size + 1 + 1) (leT (fun j => f (8 + j)) (8 - p)) (leT f (8 - p)) ∧ AtW wr (w.heap.size + 1) 0 0 ∧ (∀ j, j < 16 → wr.cell? ⟨w.heap.size, j, none⟩ = some (.int .u8 (f j))) ∧ Below w.heap.size w wr

theorem AtW.set' {u : World} {b : Nat} {h l : Int} (k : AtW u b h l) (p q : Int) : AtW ((u.setCell ⟨b, 1, none⟩ (.int .u64 q)).setCell ⟨b, 0, none⟩ (.int .u64 p)) b p q := by
  obtain ⟨c0, c1, f0, f1, z⟩ := k
  refine ⟨?_, ?_, by simp [f0], by simp [f1], by simp [World.setCell]; omega⟩
  · rw [World.cell?_setCell_same _ _ _ (u := .int .u64 h)]
    rw [World.cell?_setCell_other _ _ _ _ (by simp), c0]
  · rw [World.cell?_setCell_other _ _ _ _ (by simp), World.cell?_setCell_same _ _ _ c1]
theorem of_step (w wr : World) (f : Nat → Int) (m : Nat) (hm : m ≤ 7) (hi lo hi' lo' : Int) (A : AtW wr (w.heap.size + 1 + 1) hi lo) (R : AtW wr (w.heap.size + 1) 0 0) (hc : ∀ j, j < 16 → wr.cell? ⟨w.heap.size, j, none⟩ = some (.int .u8 (f j))) (bel : Below w.heap.size w wr)
    (sl : lo' = leT f (8 - m)) (su : hi' = leT (fun j => f (8 + j)) (8 - m)) :
    OfRel w f (.int .i64 ((m : Int) - 1)) (((wr.setCell ⟨w.heap.size + 1 + 1, 1, none⟩ (.int .u64 lo')).setCell ⟨w.heap.size + 1 + 1, 0, none⟩ (.int .u64 hi')).drew.drew) := by
  subst sl su
  refine ⟨m, by omega, ?_, A.set' _ _, (R.other _ _ _ (by omega)).other _ _ _ (by omega), ?_, ?_⟩
  · match m with
    | 0 => exact .inl ⟨rfl, rfl⟩
    | k + 1 => exact .inr ⟨k, rfl, by go_num⟩
  · intro j hj
    show ((wr.setCell _ _).setCell _ _).cell? _ = _
    rw [World.cell?_setCell_other _ _ _ _ (by intro e; injection e; omega), World.cell?_setCell_other _ _ _ _ (by intro e; injection e; omega), hc j hj]
  · exact ((bel.setCell (p := ⟨w.heap.size + 1 + 1, 1, none⟩) (by simp; omega) _).setCell (p := ⟨w.heap.size + 1 + 1, 0, none⟩) (by simp; omega) _).drew.drew
theorem of_start (w : World) (f : Nat → Int) (C : Array Value) (T : TypeId) (hC : ∀ j, j < 16 → C[j]? = some (.int .u8 (f j))) :
    OfRel w f (.int .i64 7) (((w.alloc (.cells C T)).alloc (.cells #[.int .u64 0, .int .u64 0] 24)).alloc (.cells #[.int .u64 0, .int .u64 0] 24)) := by
  refine ⟨8, by omega, .inr ⟨7, rfl, rfl⟩, ?_, ?_, ?_, ?_⟩
  · have := AtW.new ((w.alloc (.cells C T)).alloc (.cells #[.int .u64 0, .int .u64 0] 24)) 0 0 24
    rw [World.size_alloc, World.size_alloc] at this
    exact this
  · have := (AtW.new (w.alloc (.cells C T)) 0 0 24).alloc (.cells #[.int .u64 0, .int .u64 0] 24)
    rw [World.size_alloc] at this
    exact this
  · intro j hj
    rw [World.cell?_alloc_past _ _ _ (by simp; omega), World.cell?_alloc_past _ _ _ (by simp), World.cell?_alloc_at _ _ _ _ rfl, hC j hj]
  · exact (((Below.refl _ _).alloc (Nat.le_refl _) _).alloc (by simp) _).alloc (by simp; omega) _
set_option maxRecDepth 100000 in
set_option maxHeartbeats 1000000 in
theorem rof_any (b0 b1 b2 b3 b4 b5 b6 b7 b8 b9 b10 b11 b12 b13 b14 b15 : Int) (f : Nat → Int) (w : World) (hf : ∀ j, j < 16 → 0 ≤ f j ∧ f j < 256)
    (hb : ∀ j, j < 16 → [b0, b1, b2, b3, b4, b5, b6, b7, b8, b9, b10, b11, b12, b13, b14, b15].getD j 0 = f j) :
    Calls Try.prog 60 #[.agg #[.int .u8 b0, .int .u8 b1, .int .u8 b2, .int .u8 b3, .int .u8 b4, .int .u8 b5, .int .u8 b6, .int .u8 b7, .int .u8 b8, .int .u8 b9, .int .u8 b10, .int .u8 b11, .int .u8 b12, .int .u8 b13, .int .u8 b14, .int .u8 b15]] w fun e w' =>
      e = .returned (U (le8 fun j => f (8 + j)) (le8 f)) ∧ Below w.heap.size w w' := by
  have HB : Hid (∀ j, j < 16 → [b0, b1, b2, b3, b4, b5, b6, b7, b8, b9, b10, b11, b12, b13, b14, b15].getD j 0 = f j) := hb
  have HF : Hid (∀ j, j < 16 → 0 ≤ f j ∧ f j < 256) := hf
  clear hb hf
  go_enter Try.func60, Try.ntmps60
  go_wp2_with fail
  go_loopw [4] (fun i wr => OfRel w f i wr) (fun i _ => (intOf i + 1).toNat)
  case atStart =>
    refine of_start w f _ _ (fun j hj => ?_)
    have := HB.out j hj
    match j, hj, this with
    | 0, _, h => exact congrArg (fun x => some (Value.int .u8 x)) h
    | 1, _, h => exact congrArg (fun x => some (Value.int .u8 x)) h
    | 2, _, h => exact congrArg (fun x => some (Value.int .u8 x)) h
    | 3, _, h => exact congrArg (fun x => some (Value.int .u8 x)) h
    | 4, _, h => exact congrArg (fun x => some (Value.int .u8 x)) h
    | 5, _, h => exact congrArg (fun x => some (Value.int .u8 x)) h
    | 6, _, h => exact congrArg (fun x => some (Value.int .u8 x)) h
    | 7, _, h => exact congrArg (fun x => some (Value.int .u8 x)) h
    | 8, _, h => exact congrArg (fun x => some (Value.int .u8 x)) h
    | 9, _, h => exact congrArg (fun x => some (Value.int .u8 x)) h
    | 10, _, h => exact congrArg (fun x => some (Value.int .u8 x)) h
    | 11, _, h => exact congrArg (fun x => some (Value.int .u8 x)) h
    | 12, _, h => exact congrArg (fun x => some (Value.int .u8 x)) h
    | 13, _, h => exact congrArg (fun x => some (Value.int .u8 x)) h
    | 14, _, h => exact congrArg (fun x => some (Value.int .u8 x)) h
    | 15, _, h => exact congrArg (fun x => some (Value.int .u8 x)) h
    | j + 16, hj, _ => omega
  case round =>
    obtain ⟨p, hp, hi, A, R, hc, bel⟩ := hrel
    rcases hi with ⟨rfl, rfl⟩ | ⟨m, rfl, rfl⟩
    · rw [Nat.sub_zero, leT_8, leT_8] at A
      have BE : Hid (Below w.heap.size w wr) := bel
      clear bel hc
      obtain ⟨a0, a1, _, _, az⟩ := A
      obtain ⟨r0, r1, r2, r3, rz⟩ := R
      go_wp2_with fail
      refine bodyPost_ret (v := U (le8 fun j => f (8 + j)) (le8 f)) (by simp [results, Try.results60, go_sem, r0, r1]) rfl ⟨rfl, ?_⟩
      exact (BE.out.setCell (p := ⟨w.heap.size + 1, 0, none⟩) (Nat.le_succ _) _).setCell (p := ⟨w.heap.size + 1, 1, none⟩) (Nat.le_succ _) _
    · have hm : m ≤ 7 := by omega
      have em : 8 - (m + 1) = 7 - m := by omega
      rw [em] at A
      obtain ⟨l0, l1⟩ := leT_small f (fun j hj => HF.out j (by omega)) (7 - m) (by omega)
      obtain ⟨u0, u1⟩ := leT_small (fun j => f (8 + j)) (fun j hj => HF.out (8 + j) (by omega)) (7 - m) (by omega)
      have sl : Hid (leT f (7 - m) * 256 + f m = leT f (8 - m)) := leT_step f m hm
      have su : Hid (leT (fun j => f (8 + j)) (7 - m) * 256 + f (8 + m) = leT (fun j => f (8 + j)) (8 - m)) := leT_step (fun j => f (8 + j)) m hm
      generalize leT f (7 - m) = lo at *
      generalize leT (fun j => f (8 + j)) (7 - m) = hi at *
      obtain ⟨f0, f1⟩ := HF.out m (by omega)
      obtain ⟨g0, g1⟩ := HF.out (8 + m) (by omega)
      have e1 : bits BinOp.or IntKind.u64 (lo * 256) (f m) = lo * 256 + f m := or_hi lo (f m) 256 8 (by decide) l0 f0 f1 (by omega)
      have e2 : bits BinOp.or IntKind.u64 (hi * 256) (f (8 + m)) = hi * 256 + f (8 + m) := or_hi hi (f (8 + m)) 256 8 (by decide) u0 g0 g1 (by omega)
      have x0 := hc m (by omega)
      have x1 := hc (8 + m) (by omega)
      have HC : Hid (∀ j, j < 16 → wr.cell? ⟨w.heap.size, j, none⟩ = some (.int .u8 (f j))) := hc
      have BE : Hid (Below w.heap.size w wr) := bel
      clear hc bel
      generalize f m = v at *
      generalize f (8 + m) = u at *
      obtain ⟨a0, a1, a2, a3, az⟩ := id A
      go_wp2_with fail
      go_region
      go_wp2_with fail
      have q1 : (wr.setCell ⟨w.heap.size + 1 + 1, 1, none⟩ (.int .u64 (lo * 256 + v))).cell? ⟨w.heap.size, 8 + m, none⟩ = some (.int .u8 u) := by
        rw [World.cell?_setCell_other _ _ _ _ (by intro e; injection e; omega), x1]
      have q2 : (wr.setCell ⟨w.heap.size + 1 + 1, 1, none⟩ (.int .u64 (lo * 256 + v))).cell? ⟨w.heap.size + 1 + 1, 0, none⟩ = some (.int .u64 hi) := by
        rw [World.cell?_setCell_other _ _ _ _ (by simp), a0]
      go_region
      go_wp2_with fail
      refine ⟨of_step w wr f m hm hi lo _ _ A R HC.out BE.out sl.out su.out, ?_⟩
      simp [intOf]
end Go.Proofs.Ytlcnhmlcmedonaa
