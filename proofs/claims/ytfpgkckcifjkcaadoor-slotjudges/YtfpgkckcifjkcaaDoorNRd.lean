/-
  Walks, not a claim by itself: the reference's at, of and Read. By the verifier.
-/
import Derived.Test.YtfpgkckcifjkcaaDoorMNum
import Derived.Test.YtfpgkckcifjkcaaDoorMU
import Derived.Deep.MidRow
import Derived.Deep.QuietTactic
import Derived.BigQuiet
import Derived.WalkSmall
namespace Go.Proofs.YtfpgkckcifjkcaaDoor
open Go.RowKit
/-- The number of the last m of n bytes. -/
def hrn (n : Nat) (f : Nat → Int) : Nat → Int
  | 0 => 0
  | m + 1 => hrn n f m * 256 + f (n - 1 - m)
theorem hrn_step (n : Nat) (f : Nat → Int) (m : Nat) (hm : m < n) : hrn n f (n - 1 - m) * 256 + f m = hrn n f (n - m) := by
  have e : n - m = (n - 1 - m) + 1 := by omega
  rw [e]
  show _ = hrn n f (n - 1 - m) * 256 + f (n - 1 - (n - 1 - m))
  rw [show n - 1 - (n - 1 - m) = m from by omega]
theorem hrn_bound (n : Nat) (f : Nat → Int) (hf : ∀ j, j < n → 0 ≤ f j ∧ f j < 256) : ∀ m : Nat, m ≤ n → 0 ≤ hrn n f m ∧ hrn n f m < 256 ^ m := by
  intro m
  induction m with
  | zero => intro _; exact ⟨Int.le_refl 0, by simp [hrn]⟩
  | succ m ih =>
    intro hm
    obtain ⟨i0, i1⟩ := ih (by omega)
    have hb := hf (n - 1 - m) (by omega)
    rw [Int.pow_succ]
    unfold hrn
    generalize (256 : Int) ^ m = p at *
    exact ⟨by omega, by omega⟩
theorem hrn_small (n : Nat) (f : Nat → Int) (hf : ∀ j, j < n → 0 ≤ f j ∧ f j < 256) (m : Nat) (hmn : m ≤ n) (hm : m ≤ 7) : 0 ≤ hrn n f m ∧ hrn n f m < 72057594037927936 := by
  obtain ⟨h0, h1⟩ := hrn_bound n f hf m hmn
  refine ⟨h0, ?_⟩
  have : (256 : Int) ^ m ≤ 256 ^ 7 := by
    match m, hm with
    | 0, _ => decide
    | 1, _ => decide
    | 2, _ => decide
    | 3, _ => decide
    | 4, _ => decide
    | 5, _ => decide
    | 6, _ => decide
    | 7, _ => decide
    | k + 8, h => omega
  have e : (256 : Int) ^ 7 = 72057594037927936 := by decide
  omega
theorem hrn_4 (f : Nat → Int) : hrn 4 f 4 = ps f 4 := by
  show ((((0 * 256 + f 3) * 256 + f 2) * 256 + f 1) * 256 + f 0) = ps f 4
  unfold ps ps ps ps ps
  simp
  omega
theorem hrn_8 (f : Nat → Int) : hrn 8 f 8 = ps f 8 := by
  show ((((((((0 * 256 + f 7) * 256 + f 6) * 256 + f 5) * 256 + f 4) * 256 + f 3) * 256 + f 2) * 256 + f 1) * 256 + f 0) = ps f 8
  rw [← le8_ps]
  unfold le8
  omega
/-- What holds at the head of at's loop: p bytes are still to come. -/
def atRel (w : World) (n : Nat) (f : Nat → Int) (acc i : Value) (wr : World) : Prop := ∃ p : Nat, p ≤ n ∧ ((p = 0 ∧ i = .int .i64 (-1)) ∨ ∃ m : Nat, p = m + 1 ∧ i = .int .i64 m) ∧ acc = .int .u64 (hrn n f (n - p)) ∧ wr = w
set_option maxRecDepth 100000 in
set_option maxHeartbeats 1000000 in
theorem mat_hrn (b off N C q n : Nat) (f : Nat → Int) (w : World) (h : Lies w b off N f) (h1 : 1 ≤ n) (h8 : n ≤ 8) (hq : q + n ≤ N) (hN : N ≤ 1000000) :
    Calls Tryd.prog 59 #[.slice (some ⟨b, off, none⟩) N C, .int .i64 q, .int .i64 n] w fun e w' => e = .returned (.int .u64 (hrn n (fun i => f (q + i)) n)) ∧ w' = w := by
  have LH : Hid (Lies w b off N f) := h
  clear h
  have ST : Hid (atRel w n (fun i => f (q + i)) (.int .u64 0) (.int .i64 ((n : Int) - 1)) w) := by
    refine ⟨n, Nat.le_refl _, .inr ⟨n - 1, by omega, ?_⟩, ?_, rfl⟩
    · rw [show ((n : Int) - 1) = ((n - 1 : Nat) : Int) by omega]
    · rw [Nat.sub_self]; rfl
  go_enter Tryd.func59, Tryd.ntmps59
  go_wp2_with fail
  go_loopw [7, 8] (fun acc i wr => atRel w n (fun i => f (q + i)) acc i wr) (fun _ i _ => (intOf i + 1).toNat)
  case atStart => exact ST.out
  case round =>
    obtain ⟨p, hp, hi, rfl, rfl⟩ := hrel
    clear ST
    rcases hi with ⟨rfl, rfl⟩ | ⟨m, rfl, rfl⟩
    · rw [Nat.sub_zero]
      go_wp2_with fail
      go_ret
      exact ⟨rfl, rfl⟩
    · have hm : m < n := by omega
      have em : n - (m + 1) = n - 1 - m := by omega
      rw [em]
      have bb : ∀ j, j < n → 0 ≤ (fun i => f (q + i)) j ∧ (fun i => f (q + i)) j < 256 := fun j hj => LH.out.2.1 (q + j) (by omega)
      obtain ⟨l0, l1⟩ := hrn_small n (fun i => f (q + i)) bb (n - 1 - m) (by omega) (by omega)
      have sl : Hid (hrn n (fun i => f (q + i)) (n - 1 - m) * 256 + f (q + m) = hrn n (fun i => f (q + i)) (n - m)) := hrn_step n (fun i => f (q + i)) m hm
      generalize hrn n (fun i => f (q + i)) (n - 1 - m) = lo at *
      have gk := LH.out.1 (q + m) (by omega)
      obtain ⟨f0, f1⟩ := LH.out.2.1 (q + m) (by omega)
      have e1 : bits BinOp.or IntKind.u64 (lo * 256) (f (q + m)) = lo * 256 + f (q + m) := or_hi lo (f (q + m)) 256 8 (by decide) l0 f0 f1 (by omega)
      have i1 : (q : Int) + m < N := by omega
      clear bb
      generalize f (q + m) = v at *
      go_wp2_with fail
      refine ⟨⟨m, by omega, ?_, congrArg (Value.int IntKind.u64) sl.out, rfl⟩, by simp [intOf]⟩
      match m with
      | 0 => exact .inl ⟨rfl, rfl⟩
      | k + 1 => exact .inr ⟨k, rfl, by go_num⟩
theorem mat4 (b off N C q : Nat) (f : Nat → Int) (w : World) (h : Lies w b off N f) (hq : q + 4 ≤ N) (hN : N ≤ 1000000) :
    Calls Tryd.prog 59 #[.slice (some ⟨b, off, none⟩) N C, .int .i64 q, .int .i64 4] w fun e w' => e = .returned (.int .u64 (ps (fun i => f (q + i)) 4)) ∧ w' = w := by
  have := mat_hrn b off N C q 4 f w h (by omega) (by omega) hq hN
  rw [hrn_4] at this
  exact this
theorem mat8 (b off N C q : Nat) (f : Nat → Int) (w : World) (h : Lies w b off N f) (hq : q + 8 ≤ N) (hN : N ≤ 1000000) :
    Calls Tryd.prog 59 #[.slice (some ⟨b, off, none⟩) N C, .int .i64 q, .int .i64 8] w fun e w' => e = .returned (.int .u64 (ps (fun i => f (q + i)) 8)) ∧ w' = w := by
  have := mat_hrn b off N C q 8 f w h (by omega) (by omega) hq hN
  rw [hrn_8] at this
  exact this
theorem mat4' (b off N C q : Nat) (f : Nat → Int) (w : World) (h : Lies w b off N f) (hq : q + 4 ≤ N) (hN : N ≤ 1000000) (x : Int) (hx : x = (q : Nat)) :
    Calls Tryd.prog 59 #[.slice (some ⟨b, off, none⟩) N C, .int .i64 x, .int .i64 4] w fun e w' => e = .returned (.int .u64 (ps (fun i => f (q + i)) 4)) ∧ w' = w := by
  subst hx
  exact mat4 b off N C q f w h hq hN
def AtW (u : World) (b : Nat) (h l : Int) : Prop := u.cell? ⟨b, 0, none⟩ = some (.int .u64 h) ∧ u.cell? ⟨b, 1, none⟩ = some (.int .u64 l) ∧ u.frozen? ⟨b, 0, none⟩ = false ∧ u.frozen? ⟨b, 1, none⟩ = false ∧ b < u.heap.size
theorem AtW.below {u v : World} {b : Nat} {h l : Int} (k : AtW u b h l) (hb : Below u.heap.size u v) : AtW v b h l := by
  obtain ⟨c0, c1, f0, f1, z⟩ := k
  exact ⟨(hb.cell z).trans c0, (hb.cell z).trans c1, (hb.frozen z).trans f0, (hb.frozen z).trans f1, Nat.lt_of_lt_of_le z hb.size⟩
theorem AtW.alloc {u : World} {b : Nat} {h l : Int} (k : AtW u b h l) (o : Obj) : AtW (u.alloc o) b h l := k.below ((Below.refl _ _).alloc (Nat.le_refl _) _)
theorem AtW.new (u : World) (h l : Int) (t : TypeId) : AtW (u.alloc (.cells #[.int .u64 h, .int .u64 l] t)) u.heap.size h l := ⟨by simp [go_sem], by simp [go_sem], by simp [go_sem], by simp [go_sem], by simp⟩
theorem AtW.other {u : World} {b : Nat} {h l : Int} (k : AtW u b h l) (b' o : Nat) (v : Value) (hne : b' ≠ b) : AtW (u.setCell ⟨b', o, none⟩ v) b h l := by
  obtain ⟨c0, c1, f0, f1, z⟩ := k
  refine ⟨?_, ?_, by simp [f0], by simp [f1], by simp [World.setCell]; omega⟩
  · rw [World.cell?_setCell_other _ _ _ _ (by intro e; injection e; omega), c0]
  · rw [World.cell?_setCell_other _ _ _ _ (by intro e; injection e; omega), c1]
/-- The number of the last n of eight bytes. -/
def leT (f : Nat → Int) : Nat → Int
  | 0 => 0
  | n + 1 => leT f n * 256 + f (7 - n)
theorem leT_8 (f : Nat → Int) : leT f 8 = le8 f := by
  show ((((((((0 * 256 + f 7) * 256 + f 6) * 256 + f 5) * 256 + f 4) * 256 + f 3) * 256 + f 2) * 256 + f 1) * 256 + f 0) = le8 f
  unfold le8
  omega
theorem leT_step (f : Nat → Int) (m : Nat) (hm : m ≤ 7) : leT f (7 - m) * 256 + f m = leT f (8 - m) := by
  have e : 8 - m = (7 - m) + 1 := by omega
  rw [e]
  show _ = leT f (7 - m) * 256 + f (7 - (7 - m))
  rw [show 7 - (7 - m) = m from by omega]
theorem leT_bound (f : Nat → Int) (hf : ∀ j, j < 8 → 0 ≤ f j ∧ f j < 256) : ∀ n : Nat, n ≤ 8 → 0 ≤ leT f n ∧ leT f n < 256 ^ n := by
  intro n
  induction n with
  | zero => intro _; exact ⟨Int.le_refl 0, by simp [leT]⟩
  | succ n ih =>
    intro hn
    obtain ⟨i0, i1⟩ := ih (by omega)
    have hb := hf (7 - n) (by omega)
    rw [Int.pow_succ]
    unfold leT
    generalize (256 : Int) ^ n = p at *
    exact ⟨by omega, by omega⟩
theorem leT_small (f : Nat → Int) (hf : ∀ j, j < 8 → 0 ≤ f j ∧ f j < 256) (n : Nat) (hn : n ≤ 7) : 0 ≤ leT f n ∧ leT f n < 72057594037927936 := by
  obtain ⟨h0, h1⟩ := leT_bound f hf n (by omega)
  refine ⟨h0, ?_⟩
  have : (256 : Int) ^ n ≤ 256 ^ 7 := by
    match n, hn with
    | 0, _ => decide
    | 1, _ => decide
    | 2, _ => decide
    | 3, _ => decide
    | 4, _ => decide
    | 5, _ => decide
    | 6, _ => decide
    | 7, _ => decide
    | k + 8, h => omega
  have e : (256 : Int) ^ 7 = 72057594037927936 := by decide
  omega

/-- What holds at the head of the loop: p bytes of each word are still to come. -/
def OfRel (w : World) (f : Nat → Int) (i : Value) (wr : World) : Prop := ∃ p : Nat, p ≤ 8 ∧ ((p = 0 ∧ i = .int .i64 (-1)) ∨ ∃ m : Nat, p = m + 1 ∧ i = .int .i64 m) ∧
  AtW wr (w.heap.size + 1 + 1) (leT (fun j => f (8 + j)) (8 - p)) (leT f (8 - p)) ∧ AtW wr (w.heap.size + 1) 0 0 ∧ (∀ j, j < 16 → wr.cell? ⟨w.heap.size, j, none⟩ = some (.int .u8 (f j))) ∧ Below w.heap.size w wr

theorem AtW.set' {u : World} {b : Nat} {h l : Int} (k : AtW u b h l) (p q : Int) : AtW ((u.setCell ⟨b, 1, none⟩ (.int .u64 q)).setCell ⟨b, 0, none⟩ (.int .u64 p)) b p q := by
  obtain ⟨c0, c1, f0, f1, z⟩ := k
  refine ⟨?_, ?_, by simp [f0], by simp [f1], by simp [World.setCell]; omega⟩
  · rw [World.cell?_setCell_same _ _ _ (u := .int .u64 h)]
    rw [World.cell?_setCell_other _ _ _ _ (by simp), c0]
  · rw [World.cell?_setCell_other _ _ _ _ (by simp), World.cell?_setCell_same _ _ _ c1]
theorem rof_step (w wr : World) (f : Nat → Int) (m : Nat) (hm : m ≤ 7) (hi lo hi' lo' : Int) (A : AtW wr (w.heap.size + 1 + 1) hi lo) (R : AtW wr (w.heap.size + 1) 0 0) (hc : ∀ j, j < 16 → wr.cell? ⟨w.heap.size, j, none⟩ = some (.int .u8 (f j))) (bel : Below w.heap.size w wr)
    (sl : lo' = leT f (8 - m)) (su : hi' = leT (fun j => f (8 + j)) (8 - m)) :
    OfRel w f (.int .i64 ((m : Int) - 1)) (((wr.setCell ⟨w.heap.size + 1 + 1, 1, none⟩ (.int .u64 lo')).setCell ⟨w.heap.size + 1 + 1, 0, none⟩ (.int .u64 hi')).drew.drew) := by
  subst sl su
  refine ⟨m, by omega, ?_, A.set' _ _, (R.other _ _ _ (by omega)).other _ _ _ (by omega), ?_, ?_⟩
  · match m with
    | 0 => exact .inl ⟨rfl, rfl⟩
    | k + 1 => exact .inr ⟨k, rfl, by go_num⟩
  · intro j hj
    show ((wr.setCell _ _).setCell _ _).cell? _ = _
    rw [World.cell?_setCell_other _ _ _ _ (by intro e; injection e; omega), World.cell?_setCell_other _ _ _ _ (by intro e; injection e; omega), hc j hj]
  · exact ((bel.setCell (p := ⟨w.heap.size + 1 + 1, 1, none⟩) (by simp; omega) _).setCell (p := ⟨w.heap.size + 1 + 1, 0, none⟩) (by simp; omega) _).drew.drew
theorem rof_start (w : World) (f : Nat → Int) (C : Array Value) (T : TypeId) (hC : ∀ j, j < 16 → C[j]? = some (.int .u8 (f j))) :
    OfRel w f (.int .i64 7) (((w.alloc (.cells C T)).alloc (.cells #[.int .u64 0, .int .u64 0] 24)).alloc (.cells #[.int .u64 0, .int .u64 0] 24)) := by
  refine ⟨8, by omega, .inr ⟨7, rfl, rfl⟩, ?_, ?_, ?_, ?_⟩
  · have := AtW.new ((w.alloc (.cells C T)).alloc (.cells #[.int .u64 0, .int .u64 0] 24)) 0 0 24
    rw [World.size_alloc, World.size_alloc] at this
    exact this
  · have := (AtW.new (w.alloc (.cells C T)) 0 0 24).alloc (.cells #[.int .u64 0, .int .u64 0] 24)
    rw [World.size_alloc] at this
    exact this
  · intro j hj
    rw [World.cell?_alloc_past _ _ _ (by simp; omega), World.cell?_alloc_past _ _ _ (by simp), World.cell?_alloc_at _ _ _ _ rfl, hC j hj]
  · exact (((Below.refl _ _).alloc (Nat.le_refl _) _).alloc (by simp) _).alloc (by simp; omega) _
set_option maxRecDepth 100000 in
set_option maxHeartbeats 1000000 in
theorem rof_any (b0 b1 b2 b3 b4 b5 b6 b7 b8 b9 b10 b11 b12 b13 b14 b15 : Int) (f : Nat → Int) (w : World) (hf : ∀ j, j < 16 → 0 ≤ f j ∧ f j < 256)
    (hb : ∀ j, j < 16 → [b0, b1, b2, b3, b4, b5, b6, b7, b8, b9, b10, b11, b12, b13, b14, b15].getD j 0 = f j) :
    Calls Tryd.prog 77 #[.agg #[.int .u8 b0, .int .u8 b1, .int .u8 b2, .int .u8 b3, .int .u8 b4, .int .u8 b5, .int .u8 b6, .int .u8 b7, .int .u8 b8, .int .u8 b9, .int .u8 b10, .int .u8 b11, .int .u8 b12, .int .u8 b13, .int .u8 b14, .int .u8 b15]] w fun e w' =>
      e = .returned (U (le8 fun j => f (8 + j)) (le8 f)) ∧ Below w.heap.size w w' := by
  have HB : Hid (∀ j, j < 16 → [b0, b1, b2, b3, b4, b5, b6, b7, b8, b9, b10, b11, b12, b13, b14, b15].getD j 0 = f j) := hb
  have HF : Hid (∀ j, j < 16 → 0 ≤ f j ∧ f j < 256) := hf
  clear hb hf
  go_enter Tryd.func77, Tryd.ntmps77
  go_wp2_with fail
  go_loopw [4] (fun i wr => OfRel w f i wr) (fun i _ => (intOf i + 1).toNat)
  case atStart =>
    refine rof_start w f _ _ (fun j hj => ?_)
    have := HB.out j hj
    match j, hj, this with
    | 0, _, h => exact congrArg (fun x => some (Value.int .u8 x)) h
    | 1, _, h => exact congrArg (fun x => some (Value.int .u8 x)) h
    | 2, _, h => exact congrArg (fun x => some (Value.int .u8 x)) h
    | 3, _, h => exact congrArg (fun x => some (Value.int .u8 x)) h
    | 4, _, h => exact congrArg (fun x => some (Value.int .u8 x)) h
    | 5, _, h => exact congrArg (fun x => some (Value.int .u8 x)) h
    | 6, _, h => exact congrArg (fun x => some (Value.int .u8 x)) h
    | 7, _, h => exact congrArg (fun x => some (Value.int .u8 x)) h
    | 8, _, h => exact congrArg (fun x => some (Value.int .u8 x)) h
    | 9, _, h => exact congrArg (fun x => some (Value.int .u8 x)) h
    | 10, _, h => exact congrArg (fun x => some (Value.int .u8 x)) h
    | 11, _, h => exact congrArg (fun x => some (Value.int .u8 x)) h
    | 12, _, h => exact congrArg (fun x => some (Value.int .u8 x)) h
    | 13, _, h => exact congrArg (fun x => some (Value.int .u8 x)) h
    | 14, _, h => exact congrArg (fun x => some (Value.int .u8 x)) h
    | 15, _, h => exact congrArg (fun x => some (Value.int .u8 x)) h
    | j + 16, hj, _ => omega
  case round =>
    obtain ⟨p, hp, hi, A, R, hc, bel⟩ := hrel
    rcases hi with ⟨rfl, rfl⟩ | ⟨m, rfl, rfl⟩
    · rw [Nat.sub_zero, leT_8, leT_8] at A
      have BE : Hid (Below w.heap.size w wr) := bel
      clear bel hc
      obtain ⟨a0, a1, _, _, az⟩ := A
      obtain ⟨r0, r1, r2, r3, rz⟩ := R
      go_wp2_with fail
      refine bodyPost_ret (v := U (le8 fun j => f (8 + j)) (le8 f)) (by simp [results, Tryd.results77, go_sem, r0, r1]) rfl ⟨rfl, ?_⟩
      exact (BE.out.setCell (p := ⟨w.heap.size + 1, 0, none⟩) (Nat.le_succ _) _).setCell (p := ⟨w.heap.size + 1, 1, none⟩) (Nat.le_succ _) _
    · have hm : m ≤ 7 := by omega
      have em : 8 - (m + 1) = 7 - m := by omega
      rw [em] at A
      obtain ⟨l0, l1⟩ := leT_small f (fun j hj => HF.out j (by omega)) (7 - m) (by omega)
      obtain ⟨u0, u1⟩ := leT_small (fun j => f (8 + j)) (fun j hj => HF.out (8 + j) (by omega)) (7 - m) (by omega)
      have sl : Hid (leT f (7 - m) * 256 + f m = leT f (8 - m)) := leT_step f m hm
      have su : Hid (leT (fun j => f (8 + j)) (7 - m) * 256 + f (8 + m) = leT (fun j => f (8 + j)) (8 - m)) := leT_step (fun j => f (8 + j)) m hm
      generalize leT f (7 - m) = lo at *
      generalize leT (fun j => f (8 + j)) (7 - m) = hi at *
      obtain ⟨f0, f1⟩ := HF.out m (by omega)
      obtain ⟨g0, g1⟩ := HF.out (8 + m) (by omega)
      have e1 : bits BinOp.or IntKind.u64 (lo * 256) (f m) = lo * 256 + f m := or_hi lo (f m) 256 8 (by decide) l0 f0 f1 (by omega)
      have e2 : bits BinOp.or IntKind.u64 (hi * 256) (f (8 + m)) = hi * 256 + f (8 + m) := or_hi hi (f (8 + m)) 256 8 (by decide) u0 g0 g1 (by omega)
      have x0 := hc m (by omega)
      have x1 := hc (8 + m) (by omega)
      have HC : Hid (∀ j, j < 16 → wr.cell? ⟨w.heap.size, j, none⟩ = some (.int .u8 (f j))) := hc
      have BE : Hid (Below w.heap.size w wr) := bel
      clear hc bel
      generalize f m = v at *
      generalize f (8 + m) = u at *
      obtain ⟨a0, a1, a2, a3, az⟩ := id A
      go_wp2_with fail
      go_region
      go_wp2_with fail
      have q1 : (wr.setCell ⟨w.heap.size + 1 + 1, 1, none⟩ (.int .u64 (lo * 256 + v))).cell? ⟨w.heap.size, 8 + m, none⟩ = some (.int .u8 u) := by
        rw [World.cell?_setCell_other _ _ _ _ (by intro e; injection e; omega), x1]
      have q2 : (wr.setCell ⟨w.heap.size + 1 + 1, 1, none⟩ (.int .u64 (lo * 256 + v))).cell? ⟨w.heap.size + 1 + 1, 0, none⟩ = some (.int .u64 hi) := by
        rw [World.cell?_setCell_other _ _ _ _ (by simp), a0]
      go_region
      go_wp2_with fail
      refine ⟨rof_step w wr f m hm hi lo _ _ A R HC.out BE.out sl.out su.out, ?_⟩
      simp [intOf]
/-- A row of sixteen bytes. -/
def RowF (u : World) (b : Nat) (f : Nat → Int) : Prop := (∀ j, j < 16 → u.cell? ⟨b, j, none⟩ = some (.int .u8 (f j))) ∧ b < u.heap.size
theorem RowF.below {u v : World} {b : Nat} {f : Nat → Int} (k : RowF u b f) (hb : Below u.heap.size u v) : RowF v b f :=
  ⟨fun j hj => (hb.cell (p := ⟨b, j, none⟩) k.2).trans (k.1 j hj), Nat.lt_of_lt_of_le k.2 hb.size⟩
theorem RowF.other {u : World} {b : Nat} {f : Nat → Int} (k : RowF u b f) (b' o : Nat) (v : Value) (hne : b' ≠ b) : RowF (u.setCell ⟨b', o, none⟩ v) b f :=
  ⟨fun j hj => by rw [World.cell?_setCell_other _ _ _ _ (by intro e; injection e; omega), k.1 j hj], by have := k.2; simp [World.setCell]; omega⟩
theorem RowF.set {u : World} {b : Nat} {f : Nat → Int} (k : RowF u b f) (i : Nat) (hi : i < 16) (m : Int) : RowF (u.setCell ⟨b, i, none⟩ (.int .u8 m)) b (fun j => if j = i then m else f j) := by
  refine ⟨fun j hj => ?_, by have := k.2; simp [World.setCell]; omega⟩
  show (u.setCell ⟨b, i, none⟩ (.int .u8 m)).cell? ⟨b, j, none⟩ = some (.int .u8 (if j = i then m else f j))
  by_cases e : j = i
  · subst e; rw [if_pos rfl, World.cell?_setCell_same _ _ _ (k.1 j hj)]
  · rw [if_neg e, World.cell?_setCell_other _ _ _ _ (by intro h; injection h; omega), k.1 j hj]
theorem RowF.zeros (u : World) : RowF (u.alloc (.cells #[.int .u8 0, .int .u8 0, .int .u8 0, .int .u8 0, .int .u8 0, .int .u8 0, .int .u8 0, .int .u8 0, .int .u8 0, .int .u8 0, .int .u8 0, .int .u8 0, .int .u8 0, .int .u8 0, .int .u8 0, .int .u8 0] 75)) u.heap.size (fun _ => 0) := by
  refine ⟨fun j hj => ?_, by simp⟩
  rw [World.cell?_alloc_at _ _ _ _ rfl]
  match j, hj with
  | 0, _ => rfl
  | 1, _ => rfl
  | 2, _ => rfl
  | 3, _ => rfl
  | 4, _ => rfl
  | 5, _ => rfl
  | 6, _ => rfl
  | 7, _ => rfl
  | 8, _ => rfl
  | 9, _ => rfl
  | 10, _ => rfl
  | 11, _ => rfl
  | 12, _ => rfl
  | 13, _ => rfl
  | 14, _ => rfl
  | 15, _ => rfl
  | j + 16, hj => omega
/-- The cells of a row, written out. -/
def cls16 (z : Nat → Int) : List Value := [.int .u8 (z 0), .int .u8 (z 1), .int .u8 (z 2), .int .u8 (z 3), .int .u8 (z 4), .int .u8 (z 5), .int .u8 (z 6), .int .u8 (z 7), .int .u8 (z 8), .int .u8 (z 9), .int .u8 (z 10), .int .u8 (z 11), .int .u8 (z 12), .int .u8 (z 13), .int .u8 (z 14), .int .u8 (z 15)]
theorem RowF.range {u : World} {b : Nat} {z : Nat → Int} (k : RowF u b z) : u.rangeAt b 0 (cls16 z) := by
  intro j v hv
  have hj : j < 16 := by
    have hl : (cls16 z).length = 16 := rfl
    rcases Nat.lt_or_ge j 16 with h | h
    · exact h
    · rw [List.getElem?_eq_none (by omega)] at hv; cases hv
  rw [Nat.zero_add, k.1 j hj]
  match j, hj, hv with
  | 0, _, hv => exact hv
  | 1, _, hv => exact hv
  | 2, _, hv => exact hv
  | 3, _, hv => exact hv
  | 4, _, hv => exact hv
  | 5, _, hv => exact hv
  | 6, _, hv => exact hv
  | 7, _, hv => exact hv
  | 8, _, hv => exact hv
  | 9, _, hv => exact hv
  | 10, _, hv => exact hv
  | 11, _, hv => exact hv
  | 12, _, hv => exact hv
  | 13, _, hv => exact hv
  | 14, _, hv => exact hv
  | 15, _, hv => exact hv
  | j + 16, hj, _ => omega

theorem rof_row (z : Nat → Int) (w : World) (hz : ∀ j, j < 16 → 0 ≤ z j ∧ z j < 256) :
    Calls Tryd.prog 77 #[.agg (cls16 z).toArray] w fun e w' => e = .returned (U (le8 fun j => z (8 + j)) (le8 z)) ∧ Below w.heap.size w w' :=
  rof_any (z 0) (z 1) (z 2) (z 3) (z 4) (z 5) (z 6) (z 7) (z 8) (z 9) (z 10) (z 11) (z 12) (z 13) (z 14) (z 15) z w hz (fun j hj => by
    match j, hj with
    | 0, _ => rfl
    | 1, _ => rfl
    | 2, _ => rfl
    | 3, _ => rfl
    | 4, _ => rfl
    | 5, _ => rfl
    | 6, _ => rfl
    | 7, _ => rfl
    | 8, _ => rfl
    | 9, _ => rfl
    | 10, _ => rfl
    | 11, _ => rfl
    | 12, _ => rfl
    | 13, _ => rfl
    | 14, _ => rfl
    | 15, _ => rfl
    | j + 16, hj => omega)

/-- What holds at the head of the loop. -/
def rreadRel (w : World) (f : Nat → Int) (i : Value) (wr : World) : Prop := ∃ k : Nat, k ≤ 16 ∧ i = .int .i64 k ∧ RowF wr (w.heap.size + 1) (fun j => if j < k then f j else 0) ∧ (∀ j, wr.frozen? ⟨w.heap.size + 1, j, none⟩ = false) ∧ AtW wr w.heap.size 0 0 ∧ Below w.heap.size w wr
theorem rread_no (a : Option Addr) (len cap : Nat) (w : World) (h : len ≠ 16) :
    Calls Tryd.prog 60 #[.slice a len cap] w fun e w' => e = .returned (.tuple #[U 0 0, .int .i64 4]) ∧ Below w.heap.size w w' := by
  have h' : ((len : Int) != 16) = true := by simp; omega
  go_enter Tryd.func60, Tryd.ntmps60
  go_wp2
  exact bodyPost_ret (v := .tuple #[U 0 0, .int .i64 4]) (by simp [results, Tryd.results60, go_sem]) rfl ⟨rfl, (Below.refl _ _).alloc (Nat.le_refl _) _⟩
theorem rread_rel1 (w wr : World) (f : Nat → Int) (k m : Nat) (hk : k < 16) (hm : m = k) (v : Int) (hv : v = f k) (hZ : RowF wr (w.heap.size + 1) (fun j => if j < k then f j else 0)) (hf : ∀ j, wr.frozen? ⟨w.heap.size + 1, j, none⟩ = false) (hR : AtW wr w.heap.size 0 0) (bel : Below w.heap.size w wr) :
    rreadRel w f (.int .i64 ((k : Int) + 1)) (wr.setCell ⟨w.heap.size + 1, m, none⟩ (.int .u8 v)) := by
  subst hv; rw [hm]; clear hm m
  refine ⟨k + 1, by omega, by go_num, ?_, by intro j; simp [hf], hR.other _ _ _ (by omega), bel.setCell (Nat.le_succ _) _⟩
  have := hZ.set (k) (by omega) (f k)
  refine ⟨fun j hj => ?_, this.2⟩
  rw [this.1 j hj]
  congr 2
  show (if j = k then f k else (if j < k then f j else 0)) = (if j < k + 1 then f j else 0)
  by_cases e : j = k
  · rw [if_pos e, if_pos (by omega)]; rw [e]
  · rw [if_neg e]
    by_cases g : j < k
    · rw [if_pos g, if_pos (by omega)]
    · rw [if_neg g, if_neg (by omega)]
set_option maxRecDepth 100000 in
set_option maxHeartbeats 1000000 in
theorem rread_ok (b off cap : Nat) (f : Nat → Int) (w : World) (h : Row16 w b off f) :
    Calls Tryd.prog 60 #[.slice (some ⟨b, off, none⟩) 16 cap] w fun e w' => e = .returned (.tuple #[U (le8 fun j => (f) (8 + j)) (le8 (f)), .int .i64 0]) ∧ Below w.heap.size w w' := by
  have H : Hid (Row16 w b off f) := h
  have ST : Hid (rreadRel w f (.int .i64 0) ((w.alloc (.cells #[.int .u64 0, .int .u64 0] 24)).alloc (.cells #[.int .u8 0, .int .u8 0, .int .u8 0, .int .u8 0, .int .u8 0, .int .u8 0, .int .u8 0, .int .u8 0, .int .u8 0, .int .u8 0, .int .u8 0, .int .u8 0, .int .u8 0, .int .u8 0, .int .u8 0, .int .u8 0] 75))) := by
    refine ⟨0, by omega, rfl, ?_, fun j => by simp [go_sem], (AtW.new w 0 0 _).alloc _, ((Below.refl _ _).alloc (Nat.le_refl _) _).alloc (by simp) _⟩
    have := RowF.zeros (w.alloc (.cells #[.int .u64 0, .int .u64 0] 24))
    rw [World.size_alloc] at this
    exact ⟨fun j hj => by rw [this.1 j hj]; congr 2, this.2⟩
  clear h
  go_enter Tryd.func60, Tryd.ntmps60
  go_wp2_with fail
  go_loopw [5] (fun i wr => rreadRel w f i wr) (fun i _ => 16 - (intOf i).toNat)
  case atStart => exact ST.out
  case round =>
    obtain ⟨k, hk, rfl, hZ, hf, hR, bel⟩ := hrel
    have BE : Hid (Below w.heap.size w wr) := bel
    clear bel ST
    by_cases hlt : k < 16
    · have fk := (H.out.below BE.out).1 k hlt
      have gk := hZ.1 (k) (by omega)
      go_wp2_with fail
      exact ⟨rread_rel1 w wr f k _ hlt rfl _ rfl hZ hf hR BE.out, by simp [intOf]; omega⟩
    · obtain rfl : k = 16 := by omega
      have hZ' : RowF wr (w.heap.size + 1) (f) := ⟨fun j hj => by rw [hZ.1 j hj]; congr 2; exact if_pos (by omega), hZ.2⟩
      have hby : Hid (∀ j, j < 16 → 0 ≤ (f) j ∧ (f) j < 256) := fun j hj => H.out.2.1 j (by omega)
      obtain ⟨r0, r1, r2, r3, rz⟩ := id hR
      clear hZ
      go_wp2_with (refine wpList_load_mid rfl 75 (.tmp 4) rfl (w.heap.size + 1) 0 rfl (cls16 (f)) _ (RowF.range hZ') Tryd.underlying75 rfl (by kernel_rfl) ?_)
      refine (rof_row (f) _ hby.out).mono ?_
      rintro e w5 ⟨rfl, hb5⟩
      obtain ⟨q0, q1, q2, q3, qz⟩ := hR.below hb5
      have E5 : Hid (Below w.heap.size w w5) := BE.out.trans (hb5.mono BE.out.size)
      clear r0 r1 r2 r3 rz hb5
      go_wp2_with fail
      refine bodyPost_ret (v := .tuple #[U (le8 fun j => (f) (8 + j)) (le8 (f)), .int .i64 0]) (by simp [results, Tryd.results60, go_sem, q0, q1]) rfl ⟨rfl, ?_⟩
      exact (E5.out.setCell (p := ⟨w.heap.size, 0, none⟩) (Nat.le_refl _) _).setCell (p := ⟨w.heap.size, 1, none⟩) (Nat.le_refl _) _

end Go.Proofs.YtfpgkckcifjkcaaDoor
