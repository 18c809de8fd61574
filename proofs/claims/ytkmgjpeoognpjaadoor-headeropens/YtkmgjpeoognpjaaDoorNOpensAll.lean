/-
  Proved: HeaderOpens: for all bytes, in whatever memory in which the program's table of fields is as its text lays it, on every schedule, the statement's function returns true: Open and Head answer the reference's message, header and code, in new memory, and leave the bytes and what lies behind them as they were. The table is tied to the program's text (the card).
-/
import Derived.Test.YtkmgjpeoognpjaaDoorMNum
import Derived.Test.YtkmgjpeoognpjaaDoorMU
import Derived.Deep.MidRow
import Derived.Deep.QuietTactic
import Derived.BigQuiet
import Derived.WalkSmall
import Derived.Test.YtkmgjpeoognpjaaDoorNSl
import Derived.Test.YtkmgjpeoognpjaaDoorMLaw
import Derived.Test.YtkmgjpeoognpjaaDoorNGate
import Derived.Test.YtkmgjpeoognpjaaDoorMKn4
import Derived.Test.YtkmgjpeoognpjaaDoorMBk
import Derived.Test.YtkmgjpeoognpjaaDoorBLent
import Derived.Test.YtkmgjpeoognpjaaDoorMFrame
import Derived.Test.YtkmgjpeoognpjaaDoorBFrame
import Derived.Test.YtkmgjpeoognpjaaDoorTie
import Derived.Test.YtkmgjpeoognpjaaDoorCards
namespace Go.Proofs.YtkmgjpeoognpjaaDoor
section
open Go.RowKit
/-- The number of the last m of n bytes. -/
def hrn (n : Nat) (f : Nat → Int) : Nat → Int
  | 0 => 0
  | m + 1 => hrn n f m * 256 + f (n - 1 - m)
theorem hrn_step (n : Nat) (f : Nat → Int) (m : Nat) (hm : m < n) : hrn n f (n - 1 - m) * 256 + f m = hrn n f (n - m) := by
  have e : n - m = (n - 1 - m) + 1 := by omega
  rw [e]
  show _ = hrn n f (n - 1 - m) * 256 + f (n - 1 - (n - 1 - m))
  rw [show n - 1 - (n - 1 - m) = m from by omega]
theorem hrn_bound (n : Nat) (f : Nat → Int) (hf : ∀ j, j < n → 0 ≤ f j ∧ f j < 256) : ∀ m : Nat, m ≤ n → 0 ≤ hrn n f m ∧ hrn n f m < 256 ^ m := by
  intro m
  induction m with
  | zero => intro _; exact ⟨Int.le_refl 0, by simp [hrn]⟩
  | succ m ih =>
    intro hm
    obtain ⟨i0, i1⟩ := ih (by omega)
    have hb := hf (n - 1 - m) (by omega)
    rw [Int.pow_succ]
    unfold hrn
    generalize (256 : Int) ^ m = p at *
    exact ⟨by omega, by omega⟩
theorem hrn_small (n : Nat) (f : Nat → Int) (hf : ∀ j, j < n → 0 ≤ f j ∧ f j < 256) (m : Nat) (hmn : m ≤ n) (hm : m ≤ 7) : 0 ≤ hrn n f m ∧ hrn n f m < 72057594037927936 := by
  obtain ⟨h0, h1⟩ := hrn_bound n f hf m hmn
  refine ⟨h0, ?_⟩
  have : (256 : Int) ^ m ≤ 256 ^ 7 := by
    match m, hm with
    | 0, _ => decide
    | 1, _ => decide
    | 2, _ => decide
    | 3, _ => decide
    | 4, _ => decide
    | 5, _ => decide
    | 6, _ => decide
    | 7, _ => decide
    | k + 8, h => omega
  have e : (256 : Int) ^ 7 = 72057594037927936 := by decide
  omega
theorem hrn_4 (f : Nat → Int) : hrn 4 f 4 = ps f 4 := by
  show ((((0 * 256 + f 3) * 256 + f 2) * 256 + f 1) * 256 + f 0) = ps f 4
  unfold ps ps ps ps ps
  simp
  omega
theorem hrn_8 (f : Nat → Int) : hrn 8 f 8 = ps f 8 := by
  show ((((((((0 * 256 + f 7) * 256 + f 6) * 256 + f 5) * 256 + f 4) * 256 + f 3) * 256 + f 2) * 256 + f 1) * 256 + f 0) = ps f 8
  rw [← le8_ps]
  unfold le8
  omega
/-- What holds at the head of at's loop: p bytes are still to come. -/
def atRel (w : World) (n : Nat) (f : Nat → Int) (acc i : Value) (wr : World) : Prop := ∃ p : Nat, p ≤ n ∧ ((p = 0 ∧ i = .int .i64 (-1)) ∨ ∃ m : Nat, p = m + 1 ∧ i = .int .i64 m) ∧ acc = .int .u64 (hrn n f (n - p)) ∧ wr = w
set_option maxRecDepth 100000 in
set_option maxHeartbeats 1000000 in
theorem mat_hrn (b off N C q n : Nat) (f : Nat → Int) (w : World) (h : Lies w b off N f) (h1 : 1 ≤ n) (h8 : n ≤ 8) (hq : q + n ≤ N) (hN : N ≤ 1000000) :
    Calls Tryd.prog 40 #[.slice (some ⟨b, off, none⟩) N C, .int .i64 q, .int .i64 n] w fun e w' => e = .returned (.int .u64 (hrn n (fun i => f (q + i)) n)) ∧ w' = w := by
  have LH : Hid (Lies w b off N f) := h
  clear h
  have ST : Hid (atRel w n (fun i => f (q + i)) (.int .u64 0) (.int .i64 ((n : Int) - 1)) w) := by
    refine ⟨n, Nat.le_refl _, .inr ⟨n - 1, by omega, ?_⟩, ?_, rfl⟩
    · rw [show ((n : Int) - 1) = ((n - 1 : Nat) : Int) by omega]
    · rw [Nat.sub_self]; rfl
  go_enter Tryd.func40, Tryd.ntmps40
  go_wp2_with fail
  go_loopw [7, 8] (fun acc i wr => atRel w n (fun i => f (q + i)) acc i wr) (fun _ i _ => (intOf i + 1).toNat)
  case atStart => exact ST.out
  case round =>
    obtain ⟨p, hp, hi, rfl, rfl⟩ := hrel
    clear ST
    rcases hi with ⟨rfl, rfl⟩ | ⟨m, rfl, rfl⟩
    · rw [Nat.sub_zero]
      go_wp2_with fail
      go_ret
      exact ⟨rfl, rfl⟩
    · have hm : m < n := by omega
      have em : n - (m + 1) = n - 1 - m := by omega
      rw [em]
      have bb : ∀ j, j < n → 0 ≤ (fun i => f (q + i)) j ∧ (fun i => f (q + i)) j < 256 := fun j hj => LH.out.2.1 (q + j) (by omega)
      obtain ⟨l0, l1⟩ := hrn_small n (fun i => f (q + i)) bb (n - 1 - m) (by omega) (by omega)
      have sl : Hid (hrn n (fun i => f (q + i)) (n - 1 - m) * 256 + f (q + m) = hrn n (fun i => f (q + i)) (n - m)) := hrn_step n (fun i => f (q + i)) m hm
      generalize hrn n (fun i => f (q + i)) (n - 1 - m) = lo at *
      have gk := LH.out.1 (q + m) (by omega)
      obtain ⟨f0, f1⟩ := LH.out.2.1 (q + m) (by omega)
      have e1 : bits BinOp.or IntKind.u64 (lo * 256) (f (q + m)) = lo * 256 + f (q + m) := or_hi lo (f (q + m)) 256 8 (by decide) l0 f0 f1 (by omega)
      have i1 : (q : Int) + m < N := by omega
      clear bb
      generalize f (q + m) = v at *
      go_wp2_with fail
      refine ⟨⟨m, by omega, ?_, congrArg (Value.int IntKind.u64) sl.out, rfl⟩, by simp [intOf]⟩
      match m with
      | 0 => exact .inl ⟨rfl, rfl⟩
      | k + 1 => exact .inr ⟨k, rfl, by go_num⟩
theorem mat4 (b off N C q : Nat) (f : Nat → Int) (w : World) (h : Lies w b off N f) (hq : q + 4 ≤ N) (hN : N ≤ 1000000) :
    Calls Tryd.prog 40 #[.slice (some ⟨b, off, none⟩) N C, .int .i64 q, .int .i64 4] w fun e w' => e = .returned (.int .u64 (ps (fun i => f (q + i)) 4)) ∧ w' = w := by
  have := mat_hrn b off N C q 4 f w h (by omega) (by omega) hq hN
  rw [hrn_4] at this
  exact this
theorem mat8 (b off N C q : Nat) (f : Nat → Int) (w : World) (h : Lies w b off N f) (hq : q + 8 ≤ N) (hN : N ≤ 1000000) :
    Calls Tryd.prog 40 #[.slice (some ⟨b, off, none⟩) N C, .int .i64 q, .int .i64 8] w fun e w' => e = .returned (.int .u64 (ps (fun i => f (q + i)) 8)) ∧ w' = w := by
  have := mat_hrn b off N C q 8 f w h (by omega) (by omega) hq hN
  rw [hrn_8] at this
  exact this
theorem mat4' (b off N C q : Nat) (f : Nat → Int) (w : World) (h : Lies w b off N f) (hq : q + 4 ≤ N) (hN : N ≤ 1000000) (x : Int) (hx : x = (q : Nat)) :
    Calls Tryd.prog 40 #[.slice (some ⟨b, off, none⟩) N C, .int .i64 x, .int .i64 4] w fun e w' => e = .returned (.int .u64 (ps (fun i => f (q + i)) 4)) ∧ w' = w := by
  subst hx
  exact mat4 b off N C q f w h hq hN
def AtW (u : World) (b : Nat) (h l : Int) : Prop := u.cell? ⟨b, 0, none⟩ = some (.int .u64 h) ∧ u.cell? ⟨b, 1, none⟩ = some (.int .u64 l) ∧ u.frozen? ⟨b, 0, none⟩ = false ∧ u.frozen? ⟨b, 1, none⟩ = false ∧ b < u.heap.size
theorem AtW.below {u v : World} {b : Nat} {h l : Int} (k : AtW u b h l) (hb : Below u.heap.size u v) : AtW v b h l := by
  obtain ⟨c0, c1, f0, f1, z⟩ := k
  exact ⟨(hb.cell z).trans c0, (hb.cell z).trans c1, (hb.frozen z).trans f0, (hb.frozen z).trans f1, Nat.lt_of_lt_of_le z hb.size⟩
theorem AtW.alloc {u : World} {b : Nat} {h l : Int} (k : AtW u b h l) (o : Obj) : AtW (u.alloc o) b h l := k.below ((Below.refl _ _).alloc (Nat.le_refl _) _)
theorem AtW.new (u : World) (h l : Int) (t : TypeId) : AtW (u.alloc (.cells #[.int .u64 h, .int .u64 l] t)) u.heap.size h l := ⟨by simp [go_sem], by simp [go_sem], by simp [go_sem], by simp [go_sem], by simp⟩
theorem AtW.other {u : World} {b : Nat} {h l : Int} (k : AtW u b h l) (b' o : Nat) (v : Value) (hne : b' ≠ b) : AtW (u.setCell ⟨b', o, none⟩ v) b h l := by
  obtain ⟨c0, c1, f0, f1, z⟩ := k
  refine ⟨?_, ?_, by simp [f0], by simp [f1], by simp [World.setCell]; omega⟩
  · rw [World.cell?_setCell_other _ _ _ _ (by intro e; injection e; omega), c0]
  · rw [World.cell?_setCell_other _ _ _ _ (by intro e; injection e; omega), c1]
/-- The number of the last n of eight bytes. -/
def leT (f : Nat → Int) : Nat → Int
  | 0 => 0
  | n + 1 => leT f n * 256 + f (7 - n)
theorem leT_8 (f : Nat → Int) : leT f 8 = le8 f := by
  show ((((((((0 * 256 + f 7) * 256 + f 6) * 256 + f 5) * 256 + f 4) * 256 + f 3) * 256 + f 2) * 256 + f 1) * 256 + f 0) = le8 f
  unfold le8
  omega
theorem leT_step (f : Nat → Int) (m : Nat) (hm : m ≤ 7) : leT f (7 - m) * 256 + f m = leT f (8 - m) := by
  have e : 8 - m = (7 - m) + 1 := by omega
  rw [e]
  show _ = leT f (7 - m) * 256 + f (7 - (7 - m))
  rw [show 7 - (7 - m) = m from by omega]
theorem leT_bound (f : Nat → Int) (hf : ∀ j, j < 8 → 0 ≤ f j ∧ f j < 256) : ∀ n : Nat, n ≤ 8 → 0 ≤ leT f n ∧ leT f n < 256 ^ n := by
  intro n
  induction n with
  | zero => intro _; exact ⟨Int.le_refl 0, by simp [leT]⟩
  | succ n ih =>
    intro hn
    obtain ⟨i0, i1⟩ := ih (by omega)
    have hb := hf (7 - n) (by omega)
    rw [Int.pow_succ]
    unfold leT
    generalize (256 : Int) ^ n = p at *
    exact ⟨by omega, by omega⟩
theorem leT_small (f : Nat → Int) (hf : ∀ j, j < 8 → 0 ≤ f j ∧ f j < 256) (n : Nat) (hn : n ≤ 7) : 0 ≤ leT f n ∧ leT f n < 72057594037927936 := by
  obtain ⟨h0, h1⟩ := leT_bound f hf n (by omega)
  refine ⟨h0, ?_⟩
  have : (256 : Int) ^ n ≤ 256 ^ 7 := by
    match n, hn with
    | 0, _ => decide
    | 1, _ => decide
    | 2, _ => decide
    | 3, _ => decide
    | 4, _ => decide
    | 5, _ => decide
    | 6, _ => decide
    | 7, _ => decide
    | k + 8, h => omega
  have e : (256 : Int) ^ 7 = 72057594037927936 := by decide
  omega

/-- What holds at the head of the loop: p bytes of each word are still to come. -/
def OfRel (w : World) (f : Nat → Int) (i : Value) (wr : World) : Prop := ∃ p : Nat, p ≤ 8 ∧ ((p = 0 ∧ i = .int .i64 (-1)) ∨ ∃ m : Nat, p = m + 1 ∧ i = .int .i64 m) ∧
  AtW wr (w.heap.size + 1 + 1) (leT (fun j => f (8 + j)) (8 - p)) (leT f (8 - p)) ∧ AtW wr (w.heap.size + 1) 0 0 ∧ (∀ j, j < 16 → wr.cell? ⟨w.heap.size, j, none⟩ = some (.int .u8 (f j))) ∧ Below w.heap.size w wr

theorem AtW.set' {u : World} {b : Nat} {h l : Int} (k : AtW u b h l) (p q : Int) : AtW ((u.setCell ⟨b, 1, none⟩ (.int .u64 q)).setCell ⟨b, 0, none⟩ (.int .u64 p)) b p q := by
  obtain ⟨c0, c1, f0, f1, z⟩ := k
  refine ⟨?_, ?_, by simp [f0], by simp [f1], by simp [World.setCell]; omega⟩
  · rw [World.cell?_setCell_same _ _ _ (u := .int .u64 h)]
    rw [World.cell?_setCell_other _ _ _ _ (by simp), c0]
  · rw [World.cell?_setCell_other _ _ _ _ (by simp), World.cell?_setCell_same _ _ _ c1]
theorem rof_step (w wr : World) (f : Nat → Int) (m : Nat) (hm : m ≤ 7) (hi lo hi' lo' : Int) (A : AtW wr (w.heap.size + 1 + 1) hi lo) (R : AtW wr (w.heap.size + 1) 0 0) (hc : ∀ j, j < 16 → wr.cell? ⟨w.heap.size, j, none⟩ = some (.int .u8 (f j))) (bel : Below w.heap.size w wr)
    (sl : lo' = leT f (8 - m)) (su : hi' = leT (fun j => f (8 + j)) (8 - m)) :
    OfRel w f (.int .i64 ((m : Int) - 1)) (((wr.setCell ⟨w.heap.size + 1 + 1, 1, none⟩ (.int .u64 lo')).setCell ⟨w.heap.size + 1 + 1, 0, none⟩ (.int .u64 hi')).drew.drew) := by
  subst sl su
  refine ⟨m, by omega, ?_, A.set' _ _, (R.other _ _ _ (by omega)).other _ _ _ (by omega), ?_, ?_⟩
  · match m with
    | 0 => exact .inl ⟨rfl, rfl⟩
    | k + 1 => exact .inr ⟨k, rfl, by go_num⟩
  · intro j hj
    show ((wr.setCell _ _).setCell _ _).cell? _ = _
    rw [World.cell?_setCell_other _ _ _ _ (by intro e; injection e; omega), World.cell?_setCell_other _ _ _ _ (by intro e; injection e; omega), hc j hj]
  · exact ((bel.setCell (p := ⟨w.heap.size + 1 + 1, 1, none⟩) (by simp; omega) _).setCell (p := ⟨w.heap.size + 1 + 1, 0, none⟩) (by simp; omega) _).drew.drew
theorem rof_start (w : World) (f : Nat → Int) (C : Array Value) (T : TypeId) (hC : ∀ j, j < 16 → C[j]? = some (.int .u8 (f j))) :
    OfRel w f (.int .i64 7) (((w.alloc (.cells C T)).alloc (.cells #[.int .u64 0, .int .u64 0] 24)).alloc (.cells #[.int .u64 0, .int .u64 0] 24)) := by
  refine ⟨8, by omega, .inr ⟨7, rfl, rfl⟩, ?_, ?_, ?_, ?_⟩
  · have := AtW.new ((w.alloc (.cells C T)).alloc (.cells #[.int .u64 0, .int .u64 0] 24)) 0 0 24
    rw [World.size_alloc, World.size_alloc] at this
    exact this
  · have := (AtW.new (w.alloc (.cells C T)) 0 0 24).alloc (.cells #[.int .u64 0, .int .u64 0] 24)
    rw [World.size_alloc] at this
    exact this
  · intro j hj
    rw [World.cell?_alloc_past _ _ _ (by simp; omega), World.cell?_alloc_past _ _ _ (by simp), World.cell?_alloc_at _ _ _ _ rfl, hC j hj]
  · exact (((Below.refl _ _).alloc (Nat.le_refl _) _).alloc (by simp) _).alloc (by simp; omega) _
set_option maxRecDepth 100000 in
set_option maxHeartbeats 1000000 in
theorem rof_any (b0 b1 b2 b3 b4 b5 b6 b7 b8 b9 b10 b11 b12 b13 b14 b15 : Int) (f : Nat → Int) (w : World) (hf : ∀ j, j < 16 → 0 ≤ f j ∧ f j < 256)
    (hb : ∀ j, j < 16 → [b0, b1, b2, b3, b4, b5, b6, b7, b8, b9, b10, b11, b12, b13, b14, b15].getD j 0 = f j) :
    Calls Tryd.prog 53 #[.agg #[.int .u8 b0, .int .u8 b1, .int .u8 b2, .int .u8 b3, .int .u8 b4, .int .u8 b5, .int .u8 b6, .int .u8 b7, .int .u8 b8, .int .u8 b9, .int .u8 b10, .int .u8 b11, .int .u8 b12, .int .u8 b13, .int .u8 b14, .int .u8 b15]] w fun e w' =>
      e = .returned (U (le8 fun j => f (8 + j)) (le8 f)) ∧ Below w.heap.size w w' := by
  have HB : Hid (∀ j, j < 16 → [b0, b1, b2, b3, b4, b5, b6, b7, b8, b9, b10, b11, b12, b13, b14, b15].getD j 0 = f j) := hb
  have HF : Hid (∀ j, j < 16 → 0 ≤ f j ∧ f j < 256) := hf
  clear hb hf
  go_enter Tryd.func53, Tryd.ntmps53
  go_wp2_with fail
  go_loopw [4] (fun i wr => OfRel w f i wr) (fun i _ => (intOf i + 1).toNat)
  case atStart =>
    refine rof_start w f _ _ (fun j hj => ?_)
    have := HB.out j hj
    match j, hj, this with
    | 0, _, h => exact congrArg (fun x => some (Value.int .u8 x)) h
    | 1, _, h => exact congrArg (fun x => some (Value.int .u8 x)) h
    | 2, _, h => exact congrArg (fun x => some (Value.int .u8 x)) h
    | 3, _, h => exact congrArg (fun x => some (Value.int .u8 x)) h
    | 4, _, h => exact congrArg (fun x => some (Value.int .u8 x)) h
    | 5, _, h => exact congrArg (fun x => some (Value.int .u8 x)) h
    | 6, _, h => exact congrArg (fun x => some (Value.int .u8 x)) h
    | 7, _, h => exact congrArg (fun x => some (Value.int .u8 x)) h
    | 8, _, h => exact congrArg (fun x => some (Value.int .u8 x)) h
    | 9, _, h => exact congrArg (fun x => some (Value.int .u8 x)) h
    | 10, _, h => exact congrArg (fun x => some (Value.int .u8 x)) h
    | 11, _, h => exact congrArg (fun x => some (Value.int .u8 x)) h
    | 12, _, h => exact congrArg (fun x => some (Value.int .u8 x)) h
    | 13, _, h => exact congrArg (fun x => some (Value.int .u8 x)) h
    | 14, _, h => exact congrArg (fun x => some (Value.int .u8 x)) h
    | 15, _, h => exact congrArg (fun x => some (Value.int .u8 x)) h
    | j + 16, hj, _ => omega
  case round =>
    obtain ⟨p, hp, hi, A, R, hc, bel⟩ := hrel
    rcases hi with ⟨rfl, rfl⟩ | ⟨m, rfl, rfl⟩
    · rw [Nat.sub_zero, leT_8, leT_8] at A
      have BE : Hid (Below w.heap.size w wr) := bel
      clear bel hc
      obtain ⟨a0, a1, _, _, az⟩ := A
      obtain ⟨r0, r1, r2, r3, rz⟩ := R
      go_wp2_with fail
      refine bodyPost_ret (v := U (le8 fun j => f (8 + j)) (le8 f)) (by simp [results, Tryd.results53, go_sem, r0, r1]) rfl ⟨rfl, ?_⟩
      exact (BE.out.setCell (p := ⟨w.heap.size + 1, 0, none⟩) (Nat.le_succ _) _).setCell (p := ⟨w.heap.size + 1, 1, none⟩) (Nat.le_succ _) _
    · have hm : m ≤ 7 := by omega
      have em : 8 - (m + 1) = 7 - m := by omega
      rw [em] at A
      obtain ⟨l0, l1⟩ := leT_small f (fun j hj => HF.out j (by omega)) (7 - m) (by omega)
      obtain ⟨u0, u1⟩ := leT_small (fun j => f (8 + j)) (fun j hj => HF.out (8 + j) (by omega)) (7 - m) (by omega)
      have sl : Hid (leT f (7 - m) * 256 + f m = leT f (8 - m)) := leT_step f m hm
      have su : Hid (leT (fun j => f (8 + j)) (7 - m) * 256 + f (8 + m) = leT (fun j => f (8 + j)) (8 - m)) := leT_step (fun j => f (8 + j)) m hm
      generalize leT f (7 - m) = lo at *
      generalize leT (fun j => f (8 + j)) (7 - m) = hi at *
      obtain ⟨f0, f1⟩ := HF.out m (by omega)
      obtain ⟨g0, g1⟩ := HF.out (8 + m) (by omega)
      have e1 : bits BinOp.or IntKind.u64 (lo * 256) (f m) = lo * 256 + f m := or_hi lo (f m) 256 8 (by decide) l0 f0 f1 (by omega)
      have e2 : bits BinOp.or IntKind.u64 (hi * 256) (f (8 + m)) = hi * 256 + f (8 + m) := or_hi hi (f (8 + m)) 256 8 (by decide) u0 g0 g1 (by omega)
      have x0 := hc m (by omega)
      have x1 := hc (8 + m) (by omega)
      have HC : Hid (∀ j, j < 16 → wr.cell? ⟨w.heap.size, j, none⟩ = some (.int .u8 (f j))) := hc
      have BE : Hid (Below w.heap.size w wr) := bel
      clear hc bel
      generalize f m = v at *
      generalize f (8 + m) = u at *
      obtain ⟨a0, a1, a2, a3, az⟩ := id A
      go_wp2_with fail
      go_region
      go_wp2_with fail
      have q1 : (wr.setCell ⟨w.heap.size + 1 + 1, 1, none⟩ (.int .u64 (lo * 256 + v))).cell? ⟨w.heap.size, 8 + m, none⟩ = some (.int .u8 u) := by
        rw [World.cell?_setCell_other _ _ _ _ (by intro e; injection e; omega), x1]
      have q2 : (wr.setCell ⟨w.heap.size + 1 + 1, 1, none⟩ (.int .u64 (lo * 256 + v))).cell? ⟨w.heap.size + 1 + 1, 0, none⟩ = some (.int .u64 hi) := by
        rw [World.cell?_setCell_other _ _ _ _ (by simp), a0]
      go_region
      go_wp2_with fail
      refine ⟨rof_step w wr f m hm hi lo _ _ A R HC.out BE.out sl.out su.out, ?_⟩
      simp [intOf]
/-- A row of sixteen bytes. -/
def RowF (u : World) (b : Nat) (f : Nat → Int) : Prop := (∀ j, j < 16 → u.cell? ⟨b, j, none⟩ = some (.int .u8 (f j))) ∧ b < u.heap.size
theorem RowF.below {u v : World} {b : Nat} {f : Nat → Int} (k : RowF u b f) (hb : Below u.heap.size u v) : RowF v b f :=
  ⟨fun j hj => (hb.cell (p := ⟨b, j, none⟩) k.2).trans (k.1 j hj), Nat.lt_of_lt_of_le k.2 hb.size⟩
theorem RowF.other {u : World} {b : Nat} {f : Nat → Int} (k : RowF u b f) (b' o : Nat) (v : Value) (hne : b' ≠ b) : RowF (u.setCell ⟨b', o, none⟩ v) b f :=
  ⟨fun j hj => by rw [World.cell?_setCell_other _ _ _ _ (by intro e; injection e; omega), k.1 j hj], by have := k.2; simp [World.setCell]; omega⟩
theorem RowF.set {u : World} {b : Nat} {f : Nat → Int} (k : RowF u b f) (i : Nat) (hi : i < 16) (m : Int) : RowF (u.setCell ⟨b, i, none⟩ (.int .u8 m)) b (fun j => if j = i then m else f j) := by
  refine ⟨fun j hj => ?_, by have := k.2; simp [World.setCell]; omega⟩
  show (u.setCell ⟨b, i, none⟩ (.int .u8 m)).cell? ⟨b, j, none⟩ = some (.int .u8 (if j = i then m else f j))
  by_cases e : j = i
  · subst e; rw [if_pos rfl, World.cell?_setCell_same _ _ _ (k.1 j hj)]
  · rw [if_neg e, World.cell?_setCell_other _ _ _ _ (by intro h; injection h; omega), k.1 j hj]
theorem RowF.zeros (u : World) : RowF (u.alloc (.cells #[.int .u8 0, .int .u8 0, .int .u8 0, .int .u8 0, .int .u8 0, .int .u8 0, .int .u8 0, .int .u8 0, .int .u8 0, .int .u8 0, .int .u8 0, .int .u8 0, .int .u8 0, .int .u8 0, .int .u8 0, .int .u8 0] 58)) u.heap.size (fun _ => 0) := by
  refine ⟨fun j hj => ?_, by simp⟩
  rw [World.cell?_alloc_at _ _ _ _ rfl]
  match j, hj with
  | 0, _ => rfl
  | 1, _ => rfl
  | 2, _ => rfl
  | 3, _ => rfl
  | 4, _ => rfl
  | 5, _ => rfl
  | 6, _ => rfl
  | 7, _ => rfl
  | 8, _ => rfl
  | 9, _ => rfl
  | 10, _ => rfl
  | 11, _ => rfl
  | 12, _ => rfl
  | 13, _ => rfl
  | 14, _ => rfl
  | 15, _ => rfl
  | j + 16, hj => omega
/-- The cells of a row, written out. -/
def cls16 (z : Nat → Int) : List Value := [.int .u8 (z 0), .int .u8 (z 1), .int .u8 (z 2), .int .u8 (z 3), .int .u8 (z 4), .int .u8 (z 5), .int .u8 (z 6), .int .u8 (z 7), .int .u8 (z 8), .int .u8 (z 9), .int .u8 (z 10), .int .u8 (z 11), .int .u8 (z 12), .int .u8 (z 13), .int .u8 (z 14), .int .u8 (z 15)]
theorem RowF.range {u : World} {b : Nat} {z : Nat → Int} (k : RowF u b z) : u.rangeAt b 0 (cls16 z) := by
  intro j v hv
  have hj : j < 16 := by
    have hl : (cls16 z).length = 16 := rfl
    rcases Nat.lt_or_ge j 16 with h | h
    · exact h
    · rw [List.getElem?_eq_none (by omega)] at hv; cases hv
  rw [Nat.zero_add, k.1 j hj]
  match j, hj, hv with
  | 0, _, hv => exact hv
  | 1, _, hv => exact hv
  | 2, _, hv => exact hv
  | 3, _, hv => exact hv
  | 4, _, hv => exact hv
  | 5, _, hv => exact hv
  | 6, _, hv => exact hv
  | 7, _, hv => exact hv
  | 8, _, hv => exact hv
  | 9, _, hv => exact hv
  | 10, _, hv => exact hv
  | 11, _, hv => exact hv
  | 12, _, hv => exact hv
  | 13, _, hv => exact hv
  | 14, _, hv => exact hv
  | 15, _, hv => exact hv
  | j + 16, hj, _ => omega

theorem rof_row (z : Nat → Int) (w : World) (hz : ∀ j, j < 16 → 0 ≤ z j ∧ z j < 256) :
    Calls Tryd.prog 53 #[.agg (cls16 z).toArray] w fun e w' => e = .returned (U (le8 fun j => z (8 + j)) (le8 z)) ∧ Below w.heap.size w w' :=
  rof_any (z 0) (z 1) (z 2) (z 3) (z 4) (z 5) (z 6) (z 7) (z 8) (z 9) (z 10) (z 11) (z 12) (z 13) (z 14) (z 15) z w hz (fun j hj => by
    match j, hj with
    | 0, _ => rfl
    | 1, _ => rfl
    | 2, _ => rfl
    | 3, _ => rfl
    | 4, _ => rfl
    | 5, _ => rfl
    | 6, _ => rfl
    | 7, _ => rfl
    | 8, _ => rfl
    | 9, _ => rfl
    | 10, _ => rfl
    | 11, _ => rfl
    | 12, _ => rfl
    | 13, _ => rfl
    | 14, _ => rfl
    | 15, _ => rfl
    | j + 16, hj => omega)

/-- What holds at the head of the loop. -/
def rreadRel (w : World) (f : Nat → Int) (i : Value) (wr : World) : Prop := ∃ k : Nat, k ≤ 16 ∧ i = .int .i64 k ∧ RowF wr (w.heap.size + 1) (fun j => if j < k then f j else 0) ∧ (∀ j, wr.frozen? ⟨w.heap.size + 1, j, none⟩ = false) ∧ AtW wr w.heap.size 0 0 ∧ Below w.heap.size w wr
theorem rread_no (a : Option Addr) (len cap : Nat) (w : World) (h : len ≠ 16) :
    Calls Tryd.prog 41 #[.slice a len cap] w fun e w' => e = .returned (.tuple #[U 0 0, .int .i64 4]) ∧ Below w.heap.size w w' := by
  have h' : ((len : Int) != 16) = true := by simp; omega
  go_enter Tryd.func41, Tryd.ntmps41
  go_wp2
  exact bodyPost_ret (v := .tuple #[U 0 0, .int .i64 4]) (by simp [results, Tryd.results41, go_sem]) rfl ⟨rfl, (Below.refl _ _).alloc (Nat.le_refl _) _⟩
theorem rread_rel1 (w wr : World) (f : Nat → Int) (k m : Nat) (hk : k < 16) (hm : m = k) (v : Int) (hv : v = f k) (hZ : RowF wr (w.heap.size + 1) (fun j => if j < k then f j else 0)) (hf : ∀ j, wr.frozen? ⟨w.heap.size + 1, j, none⟩ = false) (hR : AtW wr w.heap.size 0 0) (bel : Below w.heap.size w wr) :
    rreadRel w f (.int .i64 ((k : Int) + 1)) (wr.setCell ⟨w.heap.size + 1, m, none⟩ (.int .u8 v)) := by
  subst hv; rw [hm]; clear hm m
  refine ⟨k + 1, by omega, by go_num, ?_, by intro j; simp [hf], hR.other _ _ _ (by omega), bel.setCell (Nat.le_succ _) _⟩
  have := hZ.set (k) (by omega) (f k)
  refine ⟨fun j hj => ?_, this.2⟩
  rw [this.1 j hj]
  congr 2
  show (if j = k then f k else (if j < k then f j else 0)) = (if j < k + 1 then f j else 0)
  by_cases e : j = k
  · rw [if_pos e, if_pos (by omega)]; rw [e]
  · rw [if_neg e]
    by_cases g : j < k
    · rw [if_pos g, if_pos (by omega)]
    · rw [if_neg g, if_neg (by omega)]
set_option maxRecDepth 100000 in
set_option maxHeartbeats 1000000 in
theorem rread_ok (b off cap : Nat) (f : Nat → Int) (w : World) (h : Row16 w b off f) :
    Calls Tryd.prog 41 #[.slice (some ⟨b, off, none⟩) 16 cap] w fun e w' => e = .returned (.tuple #[U (le8 fun j => (f) (8 + j)) (le8 (f)), .int .i64 0]) ∧ Below w.heap.size w w' := by
  have H : Hid (Row16 w b off f) := h
  have ST : Hid (rreadRel w f (.int .i64 0) ((w.alloc (.cells #[.int .u64 0, .int .u64 0] 24)).alloc (.cells #[.int .u8 0, .int .u8 0, .int .u8 0, .int .u8 0, .int .u8 0, .int .u8 0, .int .u8 0, .int .u8 0, .int .u8 0, .int .u8 0, .int .u8 0, .int .u8 0, .int .u8 0, .int .u8 0, .int .u8 0, .int .u8 0] 58))) := by
    refine ⟨0, by omega, rfl, ?_, fun j => by simp [go_sem], (AtW.new w 0 0 _).alloc _, ((Below.refl _ _).alloc (Nat.le_refl _) _).alloc (by simp) _⟩
    have := RowF.zeros (w.alloc (.cells #[.int .u64 0, .int .u64 0] 24))
    rw [World.size_alloc] at this
    exact ⟨fun j hj => by rw [this.1 j hj]; congr 2, this.2⟩
  clear h
  go_enter Tryd.func41, Tryd.ntmps41
  go_wp2_with fail
  go_loopw [5] (fun i wr => rreadRel w f i wr) (fun i _ => 16 - (intOf i).toNat)
  case atStart => exact ST.out
  case round =>
    obtain ⟨k, hk, rfl, hZ, hf, hR, bel⟩ := hrel
    have BE : Hid (Below w.heap.size w wr) := bel
    clear bel ST
    by_cases hlt : k < 16
    · have fk := (H.out.below BE.out).1 k hlt
      have gk := hZ.1 (k) (by omega)
      go_wp2_with fail
      exact ⟨rread_rel1 w wr f k _ hlt rfl _ rfl hZ hf hR BE.out, by simp [intOf]; omega⟩
    · obtain rfl : k = 16 := by omega
      have hZ' : RowF wr (w.heap.size + 1) (f) := ⟨fun j hj => by rw [hZ.1 j hj]; congr 2; exact if_pos (by omega), hZ.2⟩
      have hby : Hid (∀ j, j < 16 → 0 ≤ (f) j ∧ (f) j < 256) := fun j hj => H.out.2.1 j (by omega)
      obtain ⟨r0, r1, r2, r3, rz⟩ := id hR
      clear hZ
      go_wp2_with (refine wpList_load_mid rfl 58 (.tmp 4) rfl (w.heap.size + 1) 0 rfl (cls16 (f)) _ (RowF.range hZ') Tryd.underlying58 rfl (by kernel_rfl) ?_)
      refine (rof_row (f) _ hby.out).mono ?_
      rintro e w5 ⟨rfl, hb5⟩
      obtain ⟨q0, q1, q2, q3, qz⟩ := hR.below hb5
      have E5 : Hid (Below w.heap.size w w5) := BE.out.trans (hb5.mono BE.out.size)
      clear r0 r1 r2 r3 rz hb5
      go_wp2_with fail
      refine bodyPost_ret (v := .tuple #[U (le8 fun j => (f) (8 + j)) (le8 (f)), .int .i64 0]) (by simp [results, Tryd.results41, go_sem, q0, q1]) rfl ⟨rfl, ?_⟩
      exact (E5.out.setCell (p := ⟨w.heap.size, 0, none⟩) (Nat.le_refl _) _).setCell (p := ⟨w.heap.size, 1, none⟩) (Nat.le_refl _) _

/-! What the header's bytes tell. -/
theorem words_hdr (f : Nat → Int) (hf : ∀ j, j < 256 → 0 ≤ f j ∧ f j < 256) : Words (hdrF f) := by
  refine ⟨?_, ?_, ?_⟩
  · rw [hdrF_9]; exact ps_8 _ 8 (by omega) (fun j hj => hf _ (by omega))
  · rw [hdrF_10]; exact ps_8 _ 8 (by omega) (fun j hj => hf _ (by omega))
  · rw [hdrF_13]; exact ps_8 _ 8 (by omega) (fun j hj => hf _ (by omega))
theorem rest_low (f : Nat → Int) (hf : ∀ j, j < 256 → 0 ≤ f j ∧ f j < 256) (j : Nat) (hj : j < 92) : restF (hdrF f) (fun j => f (16 + j)) j = f (16 + j) := by
  unfold restF
  by_cases a : j < 16
  · rw [innerF_seal _ _ j a]
  by_cases c : 52 ≤ j ∧ j < 68
  · obtain ⟨i, rfl⟩ : ∃ i, j = 52 + i := ⟨j - 52, by omega⟩
    rw [show 16 + (52 + i) = 68 + i by omega, innerF_client _ _ i (by omega), wide, hdrF_9, hdrF_10]
    by_cases e : i < 8
    · rw [if_pos e, byt_ps _ 8 i (fun j hj => hf _ (by omega)) e]
    · rw [if_neg e, byt_ps _ 8 (i - 8) (fun j hj => hf _ (by omega)) (by omega), show 76 + (i - 8) = 68 + i by omega]
  by_cases d : 76 ≤ j ∧ j < 84
  · obtain ⟨i, rfl⟩ : ∃ i, j = 76 + i := ⟨j - 76, by omega⟩
    rw [show 16 + (76 + i) = 92 + i by omega, innerF_time _ _ i (by omega), hdrF_13, byt_ps _ 8 i (fun j hj => hf _ (by omega)) (by omega)]
  obtain ⟨k, i, hk, hi, e⟩ := fat_cover (16 + j) (by omega) (by omega) (by omega) (by omega)
  rw [e]
  have := fat_le k hk
  rw [innerF_num _ _ k i hk hi, hdrF_num _ k hk, byt_ps _ 4 i (fun j hj => hf _ (by omega)) hi]
theorem rest_high (f : Nat → Int) (j : Nat) (hj : 92 ≤ j) : restF (hdrF f) (fun j => f (16 + j)) j = 0 := by
  unfold restF
  rw [innerF_none _ _ _ (by omega)]
theorem rest_same (f : Nat → Int) (hf : ∀ j, j < 256 → 0 ≤ f j ∧ f j < 256) (h : headNone f = true) (j : Nat) (hj : j < 240) : restF (hdrF f) (fun j => f (16 + j)) j = f (16 + j) := by
  by_cases e : j < 92
  · exact rest_low f hf j e
  · rw [rest_high f j (by omega)]
    have := (zeroN_iff _ _).1 h (j - 92) (by omega)
    rw [show 16 + j = 108 + (j - 92) by omega]
    exact this.symm
theorem rest_other (f : Nat → Int) (h : headNone f = false) (hs : ∀ j, j < 240 → restF (hdrF f) (fun j => f (16 + j)) j = f (16 + j)) : False := by
  have : headNone f = true := by
    unfold headNone
    rw [zeroN_iff]
    intro j hj
    have := hs (92 + j) (by omega)
    rw [rest_high f _ (by omega)] at this
    rw [show 108 + j = 16 + (92 + j) by omega]
    exact this.symm
  rw [h] at this
  cases this
theorem fin_eq (g h9 : Nat → Int) (a9 a10 a11 a12 a13 a14 a15 : Int) (H : ∀ j, j < 9 → h9 j = g j) (e9 : a9 = g 9) (e10 : a10 = g 10) (e11 : a11 = g 11) (e12 : a12 = g 12) (e13 : a13 = g 13) (e14 : a14 = g 14) (e15 : a15 = g 15) :
    hcs (upd (upd (upd (upd (upd (upd (upd h9 9 a9) 10 a10) 11 a11) 12 a12) 13 a13) 14 a14) 15 a15) = hcs g := by
  refine hcs_congr _ _ (fun j hj => ?_)
  unfold upd
  by_cases q15 : j = 15
  · rw [if_pos q15, e15, q15]
  rw [if_neg q15]
  by_cases q14 : j = 14
  · rw [if_pos q14, e14, q14]
  rw [if_neg q14]
  by_cases q13 : j = 13
  · rw [if_pos q13, e13, q13]
  rw [if_neg q13]
  by_cases q12 : j = 12
  · rw [if_pos q12, e12, q12]
  rw [if_neg q12]
  by_cases q11 : j = 11
  · rw [if_pos q11, e11, q11]
  rw [if_neg q11]
  by_cases q10 : j = 10
  · rw [if_pos q10, e10, q10]
  rw [if_neg q10]
  by_cases q9 : j = 9
  · rw [if_pos q9, e9, q9]
  rw [if_neg q9]
  exact H j (by omega)
theorem hcs_set11 (h : Nat → Int) (v : Int) : (hcs h).set 11 (.int .i64 v) = hcs (upd h 11 v) := rfl
theorem hcs_set12 (h : Nat → Int) (v : Int) : (hcs h).set 12 (.int .i64 v) = hcs (upd h 12 v) := rfl
theorem hcs_set14 (h : Nat → Int) (v : Int) : (hcs h).set 14 (.int .i64 v) = hcs (upd h 14 v) := rfl
theorem hcs_set15 (h : Nat → Int) (v : Int) : (hcs h).set 15 (.int .i64 v) = hcs (upd h 15 v) := rfl
theorem zeroI9 : (Tryd.prog.info? 74).bind (·.zero) = some (.agg (cl .i64 9 fun _ => 0).toArray) := by kernel_rfl
theorem hopen256 (b off C : Nat) (f : Nat → Int) (w : World) (h : Lies w b off 256 f) (hC : 256 ≤ C) (ho : headSeal f = true) :
    Calls Tryd.prog 39 #[.slice (some ⟨b, off, none⟩) 256 C] w fun e w' => ∃ a' cap, e = .returned (.tuple #[.slice a' 240 cap, .int .i64 0]) ∧ Arg w' a' 240 (fun j => f (16 + j)) ∧ Below w.heap.size w w' :=
  hopen_ok (some ⟨b, off, none⟩) 256 C f w (Arg.of h) (by omega) hC (by omega) ho
theorem hopen256_no (b off C : Nat) (f : Nat → Int) (w : World) (h : Lies w b off 256 f) (hC : 256 ≤ C) (ho : headSeal f = false) :
    Calls Tryd.prog 39 #[.slice (some ⟨b, off, none⟩) 256 C] w fun e w' => e = .returned (.tuple #[.slice none 0 0, .int .i64 12]) ∧ Below w.heap.size w w' :=
  hopen_no (some ⟨b, off, none⟩) 256 C f w (Arg.of h) (by omega) hC (by omega) ho
/-- A conversion's run. -/
theorem conv_run {P : Program} {a : Act} {w : World} {o : Oper} (x : Operand) (T1 T2 : TypeId) (hop : o.op = .convert T1 T2 x) (u v : Value) (hx : a.eval x = u) (hr : (convert T1 T2 u).run P w = .ok v w) : (execOp a.eval o).run P w = .ok (.value v) w := by
  simp [execOp, hop, hx, hr, Result.andThen]
set_option maxRecDepth 100000 in
set_option maxHeartbeats 400000 in
theorem nhead_len (a : Option Addr) (n C : Nat) (w : World) (hn : n ≠ 256) :
    Calls Tryd.prog 20 #[.slice a n C] w fun e w' => e = .returned (HE (fun _ => 0) 4) ∧ Below w.heap.size w w' := by
  have e1 : ((n : Int) != 256) = true := by simp; omega
  go_enter Tryd.func20, Tryd.ntmps20
  go_wp2_with (first
    | (refine wpList_alloc_rec rfl 26 rfl (hcs fun _ => 0) w.heap.size rfl zeroHdr ?_; intro W1 hR1 hB1 hz1)
    | (refine wpList_build_to rfl 26 _ rfl (hcs fun _ => 0).toArray (by kernel_rfl) ?_)
    | (refine wpList_store_rec rfl 26 (.tmp 2) (.tmp 14) rfl w.heap.size 0 _ (hcs fun _ => 0) rfl rfl hR1 rfl (by kernel_rfl) (hcs_one _) ?_; intro W2 hR2 hB2))
  have hl := hR2.run_load 26 _ Tryd.underlying26 rfl (by kernel_rfl)
  refine bodyPost_ret (v := HE (fun _ => 0) 4) (by simp [results, Tryd.results20, asAddr, hl]) rfl ⟨rfl, ?_⟩
  exact hB1.trans (hB2.below (Nat.le_refl _) (by omega))
set_option maxRecDepth 100000 in
set_option maxHeartbeats 400000 in
theorem nhead_seal (b off C : Nat) (f : Nat → Int) (w : World) (hL : Lies w b off 256 f) (hC : 256 ≤ C) (hs : headSeal f = false) :
    Calls Tryd.prog 20 #[.slice (some ⟨b, off, none⟩) 256 C] w fun e w' => e = .returned (HE (fun _ => 0) 12) ∧ Below w.heap.size w w' := by
  have LL : Hid (Lies w b off 256 f) := hL
  have HS : Hid (headSeal f = false) := hs
  clear hL hs
  go_enter Tryd.func20, Tryd.ntmps20
  go_wp2_with (first
    | (refine wpList_alloc_rec rfl 26 rfl (hcs fun _ => 0) w.heap.size rfl zeroHdr ?_; intro W1 hR1 hB1 hz1)
    | (go_at_call 39; refine (hopen256_no b off C f _ (LL.out.below hB1) hC HS.out).mono ?_; rintro e V ⟨rfl, hB2⟩
       have RV : Hid (Rec19 V w.heap.size 0 (hcs fun _ => 0)) := hR1.below hB2
       have BV : Hid (Below w.heap.size w V) := hB1.trans (hB2.mono hB1.size)
       clear hR1 hB1 hz1 hB2)
    | (refine wpList_build_to rfl 26 _ rfl (hcs fun _ => 0).toArray (by kernel_rfl) ?_)
    | (refine wpList_store_rec rfl 26 (.tmp 2) (.tmp 22) rfl w.heap.size 0 _ (hcs fun _ => 0) rfl rfl RV.out rfl (by kernel_rfl) (hcs_one _) ?_; intro W9 hR9 hB9))
  have hl := hR9.run_load 26 _ Tryd.underlying26 rfl (by kernel_rfl)
  refine bodyPost_ret (v := HE (fun _ => 0) 12) (by simp [results, Tryd.results20, asAddr, hl]) rfl ⟨rfl, ?_⟩
  exact BV.out.trans (hB9.below (Nat.le_refl _) BV.out.size)
/-- What holds at the head of the first loop; of the second. -/
def n1Rel (V : World) (g : Nat → Int) (i : Value) (wr : World) : Prop := ∃ k : Nat, k ≤ 9 ∧ i = .int .i64 k ∧ IRow wr V.heap.size .i64 9 (fun j => if j < k then g j else 0) ∧ Below V.heap.size V wr
def n2Rel (V : World) (s : Nat → Int) (i : Value) (wr : World) : Prop := ∃ k : Nat, k ≤ 16 ∧ i = .int .i64 k ∧ IRow wr V.heap.size .u8 16 (fun j => if j < k then s j else 0) ∧ Below V.heap.size V wr
theorem till_step (k : Nat) (g : Nat → Int) (j : Nat) : upd (fun j => if j < k then g j else 0) k (g k) j = if j < k + 1 then g j else 0 := by
  unfold upd
  by_cases e : j = k
  · rw [if_pos e, if_pos (by omega), e]
  · rw [if_neg e]
    show (if j < k then g j else 0) = _
    by_cases h : j < k
    · rw [if_pos h, if_pos (by omega)]
    · rw [if_neg h, if_neg (by omega)]
theorem n1_step (V wr : World) (g : Nat → Int) (k : Nat) (v : Int) (hk : k < 9) (hv : v = g k) (hR : IRow wr V.heap.size .i64 9 (fun j => if j < k then g j else 0)) (hB : Below V.heap.size V wr) :
    n1Rel V g (.int .i64 ((k : Int) + 1)) (wr.setCell ⟨V.heap.size, k, none⟩ (.int .i64 v)) := by
  subst hv
  exact ⟨k + 1, by omega, by go_num, (hR.set k (g k)).congr (fun j _ => till_step k g j), hB.setCell (Nat.le_refl _) _⟩
theorem n2_step (V wr : World) (g : Nat → Int) (k : Nat) (v : Int) (hk : k < 16) (hv : v = g k) (hR : IRow wr V.heap.size .u8 16 (fun j => if j < k then g j else 0)) (hB : Below V.heap.size V wr) :
    n2Rel V g (.int .i64 ((k : Int) + 1)) (wr.setCell ⟨V.heap.size, k, none⟩ (.int .u8 v)) := by
  subst hv
  exact ⟨k + 1, by omega, by go_num, (hR.set k (g k)).congr (fun j _ => till_step k g j), hB.setCell (Nat.le_refl _) _⟩
/-- What the last region must keep. -/
def nhS (w : World) (c q : Nat) (g s : Nat → Int) (a' : Option Addr) (W : World) : Prop := Rec19 W c 0 (hcs g) ∧ IRow W q .u8 16 s ∧ Arg W a' 240 s ∧ Rec19 W w.heap.size 0 (hcs fun _ => 0) ∧ Below w.heap.size w W
theorem nhS.below {w : World} {c q : Nat} {g s : Nat → Int} {a' : Option Addr} {W W' : World} (h : nhS w c q g s a' W) (hB : Below W.heap.size W W') : nhS w c q g s a' W' :=
  ⟨h.1.below hB, h.2.1.below hB, h.2.2.1.below hB, h.2.2.2.1.below hB, h.2.2.2.2.trans (hB.mono h.2.2.2.2.size)⟩
theorem nhS.held {w : World} {c q : Nat} {g s : Nat → Int} {a' : Option Addr} {W : World} (h : nhS w c q g s a' W) (cap : Nat) : W.rangeAt c 0 (hcs g) ∧ W.rangeAt q 0 (cl .u8 16 s) ∧ (convert 27 9 (.slice a' 240 cap)).run Tryd.prog W = .ok (.string (txtN 240 s)) W ∧ Hid (nhS w c q g s a' W) :=
  ⟨h.1.1, h.2.1.rec.1, conv_arg W a' 240 cap s h.2.2.1, h⟩
set_option maxRecDepth 100000 in
set_option maxHeartbeats 1000000 in
theorem nhead_full (b off C : Nat) (f : Nat → Int) (w : World) (hL : Lies w b off 256 f) (hC : 256 ≤ C) (hs : headSeal f = true) :
    Calls Tryd.prog 20 #[.slice (some ⟨b, off, none⟩) 256 C] w fun e w' => e = .returned (HE (headVal f) (headCode f)) ∧ Below w.heap.size w w' := by
  have LL : Hid (Lies w b off 256 f) := hL
  have HS : Hid (headSeal f = true) := hs
  obtain ⟨g, hg⟩ : ∃ g, hdrF f = g := ⟨_, rfl⟩
  have HG : Hid (hdrF f = g) := hg
  clear hL hs hg
  have k1 : (68 : Int) ≤ C := by omega
  have k2 : (84 : Int) ≤ C := by omega
  have k3 : ¬ C = 68 := by omega
  go_enter Tryd.func20, Tryd.ntmps20
  go_wp2_with (first
    | (refine wpList_alloc_rec rfl 26 rfl (hcs fun _ => 0) w.heap.size rfl zeroHdr ?_; intro W1 hR1 hB1 hz1)
    | (go_at_call 39; refine (hopen256 b off C f _ (LL.out.below hB1) hC HS.out).mono ?_; rintro e V ⟨a', cap, rfl, hA, hB2⟩
       have RV : Hid (Rec19 V w.heap.size 0 (hcs fun _ => 0)) := hR1.below hB2
       have LV : Hid (Lies V b off 256 f) := (LL.out.below hB1).below hB2
       have AV : Hid (Arg V a' 240 (fun j => f (16 + j))) := hA
       have BV : Hid (Below w.heap.size w V) := hB1.trans (hB2.mono hB1.size)
       clear hR1 hB1 hz1 hB2 hA)
    | (refine wpList_alloc_row rfl 74 rfl .i64 9 V.heap.size rfl zeroI9 ?_; intro W2 R2 B2 z2))
  have ST : Hid (n1Rel V g (.int .i64 0) W2) := ⟨0, by omega, rfl, R2.congr (fun j _ => (if_neg (by omega)).symm), B2⟩
  clear R2 B2 z2
  go_loopw [7] (fun i wr => n1Rel V g i wr) (fun i _ => 9 - (intOf i).toNat)
  case atStart => exact ST.out
  case round =>
    obtain ⟨k, hk, rfl, hR, hB⟩ := hrel
    clear ST
    have LW : Hid (Lies wr b off 256 f) := LV.out.below hB
    by_cases hlt : k < 9
    · have gk := hR.1 k hlt
      have fk := hR.2.1 k
      have e0 : (k : Int) < 9 := by omega
      have SS : Hid (∀ v, v = g k → n1Rel V g (.int .i64 ((k : Int) + 1)) (wr.setCell ⟨V.heap.size, k, none⟩ (.int .i64 v))) := fun v hv => n1_step V wr g k v hlt hv hR hB
      have hv : ps (fun i => f (32 + 4 * k + i)) 4 = g k := by
        have := hdrF_num f k (by omega)
        rw [HG.out] at this
        unfold pos fat at this
        rw [if_pos hlt, if_pos hlt] at this
        exact this.symm
      obtain ⟨v0, v1⟩ := ps_4 (fun i => f (32 + 4 * k + i)) (fun j hj => LW.out.2.1 _ (by omega))
      rw [hv] at v0 v1
      have HV : Hid (ps (fun i => f (32 + 4 * k + i)) 4 = g k) := hv
      clear hv hR hB
      generalize g k = v at v0 v1 SS HV
      have wv : IntKind.i64.wrap v = v := by rw [IntKind.wrap_i64]; omega
      go_wp2_with (go_at_call 40; refine (mat4' b off 256 C (32 + 4 * k) f _ LW.out (by omega) (by omega) _ (by omega)).mono ?_; rintro e w' ⟨rfl, hw'⟩; rw [hw', HV.out]; clear hw')
      exact ⟨SS.out v rfl, by simp [intOf]; omega⟩
    · obtain rfl : k = 9 := by omega
      rw [show ((9 : Nat) : Int) = 9 from rfl]
      have R9 : IRow wr V.heap.size .i64 9 g := hR.congr (fun j hj => if_pos hj)
      have c0 := R9.1 0 (by omega)
      have c1 := R9.1 1 (by omega)
      have c2 := R9.1 2 (by omega)
      have c3 := R9.1 3 (by omega)
      have c4 := R9.1 4 (by omega)
      have c5 := R9.1 5 (by omega)
      have c6 := R9.1 6 (by omega)
      have c7 := R9.1 7 (by omega)
      have c8 := R9.1 8 (by omega)
      have BE : Hid (Below V.heap.size V wr) := hB
      clear R9 hR hB hlt hk
      obtain ⟨h9, hh9⟩ : ∃ h9 : Nat → Int, h9 = fun j => if j < 9 then g j else 0 := ⟨_, rfl⟩
      have H9 : Hid (∀ j, j < 9 → h9 j = g j) := fun j hj => by rw [hh9]; exact if_pos hj
      have e9 : hcs (fun j => if j < 9 then g j else 0) = hcs h9 := by rw [hh9]
      clear hh9
      go_wp2_with (first
        | (refine wpList_build_to rfl 26 _ rfl (hcs fun j => if j < 9 then g j else 0).toArray (by kernel_rfl) ?_; rw [e9])
        | (refine wpList_alloc_rec rfl 26 rfl (hcs fun _ => 0) wr.heap.size rfl zeroHdr ?_; intro W3 R3 B3 z3)
        | (refine wpList_store_rec rfl 26 (.tmp 8) (.tmp 54) rfl wr.heap.size 0 _ (hcs h9) rfl rfl R3 rfl (by kernel_rfl) (hcs_one _) ?_; intro W4 R4 B4
           have F4 : Hid (Below wr.heap.size wr W4) := B3.trans (B4.below (Nat.le_refl _) (by omega))
           have L4 : Hid (Lies W4 b off 256 f) := LW.out.below F4.out
           have S4 : Hid (Rec19 W4 wr.heap.size 0 (hcs h9)) := R4
           have hcV : Hid (V.heap.size ≤ wr.heap.size) := BE.out.size
           have E4 : Hid (Below V.heap.size V W4) := BE.out.trans (F4.out.mono hcV.out)
           clear F4 R3 B3 z3 R4 B4 c0 c1 c2 c3 c4 c5 c6 c7 c8 e9 LW BE)
        | (go_at_call 41; refine (rread_ok b (off + 68) _ (fun i => f (68 + i)) _ (L4.out.part 68 16 (by omega))).mono ?_; rintro e W5 ⟨rfl, hB5⟩
           have S5 : Hid (Rec19 W5 wr.heap.size 0 (hcs h9)) := S4.out.below hB5
           have L5 : Hid (Lies W5 b off 256 f) := L4.out.below hB5
           have E5 : Hid (Below V.heap.size V W5) := E4.out.trans (hB5.mono E4.out.size)
           clear hB5 S4 L4 E4
           obtain ⟨c9, f9⟩ := S5.out.at 9 _ rfl
           obtain ⟨c10, f10⟩ := S5.out.at 10 _ rfl
           rw [le8_ps, le8_ps]
           generalize h9' : ps (fun j => f (68 + (8 + j))) 8 = a9
           generalize h10' : ps (fun i => f (68 + i)) 8 = a10
           have H10 : Hid (a9 = g 9 ∧ a10 = g 10) := ⟨by rw [← HG.out, hdrF_9, ← h9', ps_congr _ (fun i => f (76 + i)) 8 (fun j _ => by show f (68 + (8 + j)) = f (76 + j); rw [← Nat.add_assoc])], by rw [← HG.out, hdrF_10, h10']⟩
           clear h9' h10'))
      have S6 : Hid (Rec19 ((W5.setCell ⟨wr.heap.size, 9, none⟩ (.int .u64 a9)).setCell ⟨wr.heap.size, 10, none⟩ (.int .u64 a10)) wr.heap.size 0 (hcs (upd (upd h9 9 a9) 10 a10))) := by
        have q := (S5.out.set 9 (.int .u64 a9) (by rw [hcs_len]; omega)).set 10 (.int .u64 a10) (by rw [List.length_set, hcs_len]; omega)
        rw [hcs_set9, hcs_set10] at q
        exact q
      have nb : b ≠ wr.heap.size := by have := LV.out.2.2; have := hcV.out; omega
      have L6 : Hid (Lies ((W5.setCell ⟨wr.heap.size, 9, none⟩ (.int .u64 a9)).setCell ⟨wr.heap.size, 10, none⟩ (.int .u64 a10)) b off 256 f) := (L5.out.but (But.set _ _ _) (by omega)).but (But.set _ _ _) (by omega)
      have E6 : Hid (Below V.heap.size V ((W5.setCell ⟨wr.heap.size, 9, none⟩ (.int .u64 a9)).setCell ⟨wr.heap.size, 10, none⟩ (.int .u64 a10))) := (E5.out.setCell (by exact hcV.out) _).setCell (by exact hcV.out) _
      generalize ((W5.setCell ⟨wr.heap.size, 9, none⟩ (.int .u64 a9)).setCell ⟨wr.heap.size, 10, none⟩ (.int .u64 a10)) = X6 at S6 L6 E6 ⊢
      clear c9 f9 c10 f10 S5 L5 E5
      refine (mat4' b off 256 C 84 f _ L6.out (by omega) (by omega) _ (by omega)).mono ?_
      rintro e w' ⟨rfl, hw'⟩
      rw [hw']
      clear hw' w'
      obtain ⟨v0, v1⟩ := ps_4 (fun i => f (84 + i)) (fun j hj => L6.out.2.1 _ (by omega))
      generalize hv : ps (fun i => f (84 + i)) 4 = a11 at v0 v1 ⊢
      have H11 : Hid (a11 = g 11) := by
        have := hdrF_num f 9 (by omega)
        rw [HG.out] at this
        exact hv.symm.trans this.symm
      clear hv
      have wv : IntKind.i64.wrap a11 = a11 := by rw [IntKind.wrap_i64]; omega
      have S7 : Hid (Rec19 (X6.setCell ⟨wr.heap.size, 11, none⟩ (.int .i64 a11)) wr.heap.size 0 (hcs (upd (upd (upd h9 9 a9) 10 a10) 11 a11))) := by
        have q := S6.out.set 11 (.int .i64 a11) (by rw [hcs_len]; omega)
        rw [hcs_set11] at q
        exact q
      have L7 : Hid (Lies (X6.setCell ⟨wr.heap.size, 11, none⟩ (.int .i64 a11)) b off 256 f) := L6.out.but (But.set _ _ _) (by omega)
      have E7 : Hid (Below V.heap.size V (X6.setCell ⟨wr.heap.size, 11, none⟩ (.int .i64 a11))) := E6.out.setCell (by exact hcV.out) _
      obtain ⟨cc, ff⟩ := S6.out.at 11 _ rfl
      generalize (upd (upd h9 9 a9) 10 a10) 11 = y at cc
      clear S6 L6 E6
      go_wp2_with fail
      generalize (X6.setCell ⟨wr.heap.size, 11, none⟩ (.int .i64 a11)) = X7 at S7 L7 E7 ⊢
      clear cc ff v0 v1 wv
      refine (mat4' b off 256 C 88 f _ L7.out (by omega) (by omega) _ (by omega)).mono ?_
      rintro e w' ⟨rfl, hw'⟩
      rw [hw']
      clear hw' w'
      obtain ⟨v0, v1⟩ := ps_4 (fun i => f (88 + i)) (fun j hj => L7.out.2.1 _ (by omega))
      generalize hv : ps (fun i => f (88 + i)) 4 = a12 at v0 v1 ⊢
      have H12 : Hid (a12 = g 12) := by
        have := hdrF_num f 10 (by omega)
        rw [HG.out] at this
        exact hv.symm.trans this.symm
      clear hv
      have wv : IntKind.i64.wrap a12 = a12 := by rw [IntKind.wrap_i64]; omega
      have S8 : Hid (Rec19 (X7.setCell ⟨wr.heap.size, 12, none⟩ (.int .i64 a12)) wr.heap.size 0 (hcs (upd (upd (upd (upd h9 9 a9) 10 a10) 11 a11) 12 a12))) := by
        have q := S7.out.set 12 (.int .i64 a12) (by rw [hcs_len]; omega)
        rw [hcs_set12] at q
        exact q
      have L8 : Hid (Lies (X7.setCell ⟨wr.heap.size, 12, none⟩ (.int .i64 a12)) b off 256 f) := L7.out.but (But.set _ _ _) (by omega)
      have E8 : Hid (Below V.heap.size V (X7.setCell ⟨wr.heap.size, 12, none⟩ (.int .i64 a12))) := E7.out.setCell (by exact hcV.out) _
      obtain ⟨cc, ff⟩ := S7.out.at 12 _ rfl
      generalize (upd (upd (upd h9 9 a9) 10 a10) 11 a11) 12 = y at cc
      clear S7 L7 E7
      go_wp2_with fail
      generalize (X7.setCell ⟨wr.heap.size, 12, none⟩ (.int .i64 a12)) = X8 at S8 L8 E8 ⊢
      clear cc ff v0 v1 wv
      refine (mat8 b off 256 C 92 f _ L8.out (by omega) (by omega)).mono ?_
      rintro e w' ⟨rfl, hw'⟩
      rw [hw']
      clear hw' w'
      generalize hv : ps (fun i => f (92 + i)) 8 = a13
      have H13 : Hid (a13 = g 13) := by
        have := hdrF_13 f
        rw [HG.out] at this
        exact hv.symm.trans this.symm
      clear hv
      have S9 : Hid (Rec19 (X8.setCell ⟨wr.heap.size, 13, none⟩ (.int .u64 a13)) wr.heap.size 0 (hcs (upd (upd (upd (upd (upd h9 9 a9) 10 a10) 11 a11) 12 a12) 13 a13))) := by
        have q := S8.out.set 13 (.int .u64 a13) (by rw [hcs_len]; omega)
        rw [hcs_set13] at q
        exact q
      have L9 : Hid (Lies (X8.setCell ⟨wr.heap.size, 13, none⟩ (.int .u64 a13)) b off 256 f) := L8.out.but (But.set _ _ _) (by omega)
      have E9 : Hid (Below V.heap.size V (X8.setCell ⟨wr.heap.size, 13, none⟩ (.int .u64 a13))) := E8.out.setCell (by exact hcV.out) _
      obtain ⟨cc, ff⟩ := S8.out.at 13 _ rfl
      generalize (upd (upd (upd (upd h9 9 a9) 10 a10) 11 a11) 12 a12) 13 = y at cc
      clear S8 L8 E8
      go_wp2_with fail
      generalize (X8.setCell ⟨wr.heap.size, 13, none⟩ (.int .u64 a13)) = X9 at S9 L9 E9 ⊢
      clear cc ff
      refine (mat4' b off 256 C 100 f _ L9.out (by omega) (by omega) _ (by omega)).mono ?_
      rintro e w' ⟨rfl, hw'⟩
      rw [hw']
      clear hw' w'
      obtain ⟨v0, v1⟩ := ps_4 (fun i => f (100 + i)) (fun j hj => L9.out.2.1 _ (by omega))
      generalize hv : ps (fun i => f (100 + i)) 4 = a14 at v0 v1 ⊢
      have H14 : Hid (a14 = g 14) := by
        have := hdrF_num f 11 (by omega)
        rw [HG.out] at this
        exact hv.symm.trans this.symm
      clear hv
      have wv : IntKind.i64.wrap a14 = a14 := by rw [IntKind.wrap_i64]; omega
      have SA : Hid (Rec19 (X9.setCell ⟨wr.heap.size, 14, none⟩ (.int .i64 a14)) wr.heap.size 0 (hcs (upd (upd (upd (upd (upd (upd h9 9 a9) 10 a10) 11 a11) 12 a12) 13 a13) 14 a14))) := by
        have q := S9.out.set 14 (.int .i64 a14) (by rw [hcs_len]; omega)
        rw [hcs_set14] at q
        exact q
      have LA : Hid (Lies (X9.setCell ⟨wr.heap.size, 14, none⟩ (.int .i64 a14)) b off 256 f) := L9.out.but (But.set _ _ _) (by omega)
      have EA : Hid (Below V.heap.size V (X9.setCell ⟨wr.heap.size, 14, none⟩ (.int .i64 a14))) := E9.out.setCell (by exact hcV.out) _
      obtain ⟨cc, ff⟩ := S9.out.at 14 _ rfl
      generalize (upd (upd (upd (upd (upd h9 9 a9) 10 a10) 11 a11) 12 a12) 13 a13) 14 = y at cc
      clear S9 L9 E9
      go_wp2_with fail
      generalize (X9.setCell ⟨wr.heap.size, 14, none⟩ (.int .i64 a14)) = XA at SA LA EA ⊢
      clear cc ff v0 v1 wv
      refine (mat4' b off 256 C 104 f _ LA.out (by omega) (by omega) _ (by omega)).mono ?_
      rintro e w' ⟨rfl, hw'⟩
      rw [hw']
      clear hw' w'
      obtain ⟨v0, v1⟩ := ps_4 (fun i => f (104 + i)) (fun j hj => LA.out.2.1 _ (by omega))
      generalize hv : ps (fun i => f (104 + i)) 4 = a15 at v0 v1 ⊢
      have H15 : Hid (a15 = g 15) := by
        have := hdrF_num f 12 (by omega)
        rw [HG.out] at this
        exact hv.symm.trans this.symm
      clear hv
      have wv : IntKind.i64.wrap a15 = a15 := by rw [IntKind.wrap_i64]; omega
      have SB : Hid (Rec19 (XA.setCell ⟨wr.heap.size, 15, none⟩ (.int .i64 a15)) wr.heap.size 0 (hcs (upd (upd (upd (upd (upd (upd (upd h9 9 a9) 10 a10) 11 a11) 12 a12) 13 a13) 14 a14) 15 a15))) := by
        have q := SA.out.set 15 (.int .i64 a15) (by rw [hcs_len]; omega)
        rw [hcs_set15] at q
        exact q
      have LB : Hid (Lies (XA.setCell ⟨wr.heap.size, 15, none⟩ (.int .i64 a15)) b off 256 f) := LA.out.but (But.set _ _ _) (by omega)
      have EB : Hid (Below V.heap.size V (XA.setCell ⟨wr.heap.size, 15, none⟩ (.int .i64 a15))) := EA.out.setCell (by exact hcV.out) _
      obtain ⟨cc, ff⟩ := SA.out.at 15 _ rfl
      generalize (upd (upd (upd (upd (upd (upd h9 9 a9) 10 a10) 11 a11) 12 a12) 13 a13) 14 a14) 15 = y at cc
      clear SA LA EA
      have SB : Hid (Rec19 (XA.setCell ⟨wr.heap.size, 15, none⟩ (.int .i64 a15)) wr.heap.size 0 (hcs g)) := by
        have := SB.out
        rw [fin_eq g h9 a9 a10 a11 a12 a13 a14 a15 H9.out H10.out.1 H10.out.2 H11.out H12.out H13.out H14.out H15.out] at this
        exact this
      obtain ⟨Y, hY⟩ : ∃ Y, (XA.setCell ⟨wr.heap.size, 15, none⟩ (.int .i64 a15)) = Y := ⟨_, rfl⟩
      rw [hY] at SB LB EB
      go_wp2_with (refine wpList_alloc_row rfl 58 rfl .u8 16 Y.heap.size (by first | rfl | rw [hY]) zero8_16 ?_; intro W6 R6 B6 z6)
      try rw [hY] at B6
      clear H9 H10 H11 H12 H13 H14 H15 cc ff v0 v1 wv hY
      have ST : Hid (n2Rel Y (fun j => f (16 + j)) (.int .i64 0) W6) := ⟨0, by omega, rfl, R6.congr (fun j _ => (if_neg (by omega)).symm), B6⟩
      clear R6 B6 z6
      generalize wr.heap.size = c at SB nb hcV ⊢
      go_loopw [10] (fun i wr => n2Rel Y (fun j => f (16 + j)) i wr) (fun i _ => 16 - (intOf i).toNat)
      case atStart => exact ST.out
      case round =>
        obtain ⟨k, hk, rfl, hR, hB⟩ := hrel
        clear ST
        by_cases hlt : k < 16
        · have gk := hR.1 k hlt
          have fk := hR.2.1 k
          have e0 : (k : Int) < 16 := by omega
          have lk := (LB.out.below hB).1 (16 + k) (by omega)
          have SS : Hid (∀ v, v = f (16 + k) → n2Rel Y (fun j => f (16 + j)) (.int .i64 ((k : Int) + 1)) (wr.setCell ⟨Y.heap.size, k, none⟩ (.int .u8 v))) := fun v hv => n2_step Y wr (fun j => f (16 + j)) k v hlt hv hR hB
          clear hR hB
          generalize f (16 + k) = v at lk SS
          go_wp2_with fail
          exact ⟨SS.out v rfl, by simp [intOf]; omega⟩
        · obtain rfl : k = 16 := by omega
          rw [show ((16 : Nat) : Int) = 16 from rfl]
          have S0 : nhS w c Y.heap.size g (fun j => f (16 + j)) a' wr.drew := by
            have e := EB.out.trans (hB.drew.mono EB.out.size)
            exact ⟨SB.out.below hB.drew, hR.drew.congr (fun j hj => if_pos hj), AV.out.below e, RV.out.below e, BV.out.trans (e.mono BV.out.size)⟩
          have h5 := S0.held cap
          have sb : ∀ j, j < 240 → 0 ≤ f (16 + j) ∧ f (16 + j) < 256 := fun j hj => LV.out.2.1 _ (by omega)
          have SBY : Hid (∀ j, j < 240 → 0 ≤ f (16 + j) ∧ f (16 + j) < 256) := sb
          have HW : Hid (Words g) := by rw [← HG.out]; exact words_hdr f (fun j hj => LV.out.2.1 j hj)
          have FB : Hid (∀ j, j < 256 → 0 ≤ f j ∧ f j < 256) := LV.out.2.1
          have HC : Hid (headCode f = if headNone f = false ∨ okH g = false then 4 else 0) := by
            show headCode f = _
            unfold headCode
            rw [if_neg (by rw [HS.out]; simp), HG.out]
          clear S0 hR hB SB LB EB LV AV RV BV LL sb hlt hk nb hcV
          obtain ⟨s, hs⟩ : ∃ s, (fun j => f (16 + j)) = s := ⟨_, rfl⟩
          have HSS : Hid ((fun j => f (16 + j)) = s) := hs
          rw [hs] at h5
          clear hs
          go_wp2_with fail
          by_cases ok : okH g = true
          · have CK : chk g = 0 := by unfold chk; rw [ok]; rfl
            have OK : Hid (okH g = true) := ok
            have ss : ∀ j, j < 240 → 0 ≤ s j ∧ s j < 256 := by rw [← HSS.out]; exact SBY.out
            have RB : Hid (∀ j, 0 ≤ restF g s j ∧ restF g s j < 256) := fun j => restF_byte g s (fun j hj => ss j (by omega)) j
            have SSB : Hid (∀ j, j < 240 → 0 ≤ s j ∧ s j < 256) := ss
            clear ss ok
            by_cases no : headNone f = true
            · have e1 : headCode f = 0 := by rw [HC.out, if_neg (by rw [no, OK.out]; simp)]
              have e2 : headVal f = g := by unfold headVal; rw [if_pos e1, HG.out]
              have EE : Hid (HE g 0 = HE (headVal f) (headCode f)) := (by show HE _ _ = HE _ _; rw [e1, e2])
              have htx : ((txtN 240 (restF g s)).toList == (txtN 240 s).toList) = true := by
                rw [bytes_beq]
                refine decide_eq_true (txtN_congr 240 _ _ (fun j hj => ?_))
                rw [← HSS.out, ← HG.out]
                exact rest_same f FB.out no j hj
              clear no e1 e2
              refine wp_region_noPanic ?_
              refine wp_region_held_drew (S := fun W => W.rangeAt c 0 (hcs g) ∧ W.rangeAt Y.heap.size 0 (cl .u8 16 s) ∧ (convert 27 9 (.slice a' 240 cap)).run Tryd.prog W = .ok (.string (txtN 240 s)) W ∧ Hid (nhS w c Y.heap.size g s a' W)) (by kernel_rfl) ?_ (fun hHeld => ?_)
              · exact h5
              refine take_at (i := 0) (v := _) (some 92) rfl rfl (by kernel_rfl) (by kernel_rfl) (by kernel_rfl) (fun _ _ _ h => h) (yieldsIf_load_mid (by rfl) _ _ rfl _ _ rfl _ _ (fun _ h => h.1) Tryd.underlying26 rfl (by kernel_rfl)) (by assumption) ?_
              simp only [Act.put, List.setIfInBounds_toArray, List.set_cons_zero, List.set_cons_succ]
              refine call_at (i := 1) (some 93) 13 _ _ rfl rfl rfl (by rfl) (by kernel_rfl) #[.agg (hcs g).toArray] rfl Tryd.func13 (by kernel_rfl) (by kernel_rfl) ?_
              refine (ncheck_any g _).mono ?_; rintro e W8 ⟨rfl, hB8⟩; rw [CK]; have h6 := (h5.2.2.2.out.below hB8).held cap
              refine ⟨_, rfl, h6, fun hHeld => ?_⟩
              simp only [Act.put, List.setIfInBounds_toArray, List.set_cons_zero, List.set_cons_succ]
              refine take_at (i := 2) (v := ?_) (some 94) rfl rfl (by kernel_rfl) (by kernel_rfl) (by kernel_rfl) (fun _ _ _ h => h) (Or.inl ⟨by rfl, ?_⟩) (by assumption) ?_
              rotate_left
              · (intro w hSw; (try dsimp only at hSw); go_simp; try with_reducible rfl)
              simp only [Act.put, List.setIfInBounds_toArray, List.set_cons_zero, List.set_cons_succ]
              refine take_at (i := 3) (v := ?_) (some 95) rfl rfl (by kernel_rfl) (by kernel_rfl) (by kernel_rfl) (fun _ _ _ h => h) (Or.inl ⟨by rfl, ?_⟩) (by assumption) ?_
              rotate_left
              · (intro w hSw; (try dsimp only at hSw); go_simp; try with_reducible rfl)
              simp only [Act.put, List.setIfInBounds_toArray, List.set_cons_zero, List.set_cons_succ]
              refine take_at (i := 4) (v := _) (some 96) rfl rfl (by kernel_rfl) (by kernel_rfl) (by kernel_rfl) (fun _ _ _ h => h) (yieldsIf_load_mid (by rfl) _ _ rfl _ _ rfl _ _ (fun _ h => h.1) Tryd.underlying26 rfl (by kernel_rfl)) (by assumption) ?_
              simp only [Act.put, List.setIfInBounds_toArray, List.set_cons_zero, List.set_cons_succ]
              refine take_at (i := 5) (v := _) (some 97) rfl rfl (by kernel_rfl) (by kernel_rfl) (by kernel_rfl) (fun _ _ _ h => h) (yieldsIf_load_mid (by rfl) _ _ rfl _ _ rfl _ _ (fun _ h => h.2.1) Tryd.underlying58 rfl (by kernel_rfl)) (by assumption) ?_
              simp only [Act.put, List.setIfInBounds_toArray, List.set_cons_zero, List.set_cons_succ]
              refine take_at (i := 8) (v := ?_) (some 100) rfl rfl (by kernel_rfl) (by kernel_rfl) (by kernel_rfl) (fun _ _ _ h => h) (Or.inl ⟨by rfl, ?_⟩) (by assumption) ?_
              rotate_left
              · (intro w hSw; (try dsimp only at hSw); go_simp; try with_reducible rfl)
              simp only [Act.put, List.setIfInBounds_toArray, List.set_cons_zero, List.set_cons_succ]
              refine take_at (i := 9) (v := ?_) (some 101) rfl rfl (by kernel_rfl) (by kernel_rfl) (by kernel_rfl) (fun _ _ _ h => h) (Or.inl ⟨by rfl, ?_⟩) (by assumption) ?_
              rotate_left
              · (intro w hSw; (try dsimp only at hSw); go_simp; try with_reducible rfl)
              simp only [Act.put, List.setIfInBounds_toArray, List.set_cons_zero, List.set_cons_succ]
              refine call_at (i := 6) (some 98) 30 _ _ rfl rfl rfl (by rfl) (by kernel_rfl) #[.agg (hcs g).toArray, .agg (cl .u8 16 s).toArray] rfl Tryd.func30 (by kernel_rfl) (by kernel_rfl) ?_
              refine (nbehind_any g s _ OK.out HW.out (fun j hj => SSB.out j (by omega))).mono ?_; rintro e W9 ⟨g9, cap9, rfl, hO9, hg9, hB9⟩; have h7 := (h6.2.2.2.out.below hB9).held cap; have q1 := conv_arg W9 _ 240 cap9 (restF g s) (hO9.arg (by omega) (fun j _ => RB.out j)).1
              refine ⟨_, rfl, h7, fun hHeld => ?_⟩
              simp only [Act.put, List.setIfInBounds_toArray, List.set_cons_zero, List.set_cons_succ]
              refine step_at (i := 7) (some 99) rfl rfl (by rfl) (by kernel_rfl) (.string (txtN 240 (restF g s))) W9 (conv_run (.tmp 98) _ _ rfl _ _ rfl q1) h7 (fun hHeld => ?_)
              simp only [Act.put, List.setIfInBounds_toArray, List.set_cons_zero, List.set_cons_succ]
              refine take_at (i := 10) (v := ?_) (some 102) rfl rfl (by kernel_rfl) (by kernel_rfl) (by kernel_rfl) (fun _ _ _ h => h) (Or.inl ⟨by rfl, ?_⟩) (by assumption) ?_
              rotate_left
              · (intro w hSw; (try dsimp only at hSw); go_simp; try with_reducible rfl)
              simp only [Act.put, List.setIfInBounds_toArray, List.set_cons_zero, List.set_cons_succ]
              refine take_at (i := 11) (v := ?_) (some 103) rfl rfl (by kernel_rfl) (by kernel_rfl) (by kernel_rfl) (fun _ _ _ h => h) (Or.inl ⟨by rfl, ?_⟩) (by assumption) ?_
              rotate_left
              · (intro w hSw; (try dsimp only at hSw); go_simp; try with_reducible rfl)
              simp only [Act.put, List.setIfInBounds_toArray, List.set_cons_zero, List.set_cons_succ]
              refine wpAnyH_done (by kernel_rfl) ?_ _
              refine NoPanic.normal ?_
              go_wp2_with (first
                | (refine wpList_load_rec rfl 26 (.tmp 8) rfl c 0 (hcs g) rfl _ Tryd.underlying26 rfl (by kernel_rfl) h7.2.2.2.out.1 ?_)
                | (refine wpList_store_rec rfl 26 (.tmp 2) (.tmp 105) rfl w.heap.size 0 _ (hcs g) rfl rfl h7.2.2.2.out.2.2.2.1 rfl (by kernel_rfl) (hcs_one _) ?_; intro WA hRA hBA))
              have hl := hRA.run_load 26 _ Tryd.underlying26 rfl (by kernel_rfl)
              refine bodyPost_ret (v := HE g 0) (by simp [results, Tryd.results20, asAddr, hl]) rfl ⟨congrArg Ending.returned EE.out, ?_⟩
              exact h7.2.2.2.out.2.2.2.2.trans (hBA.below (Nat.le_refl _) h7.2.2.2.out.2.2.2.2.size)
            · have e1 : headCode f = 4 := by rw [HC.out, if_pos (.inl (by simpa using no))]
              have e2 : headVal f = fun _ => 0 := by unfold headVal; rw [if_neg (by rw [e1]; decide)]
              have EE : Hid (HE (fun _ => 0) 4 = HE (headVal f) (headCode f)) := (by show HE _ _ = HE _ _; rw [e1, e2])
              have htx : ((txtN 240 (restF g s)).toList == (txtN 240 s).toList) = false := by
                rw [bytes_beq]
                refine decide_eq_false (fun q => ?_)
                have := (txtN_inj (fun j _ => RB.out j) SSB.out q).2
                rw [← HSS.out, ← HG.out] at this
                exact rest_other f (by simpa using no) this
              clear no e1 e2
              refine wp_region_noPanic ?_
              refine wp_region_held_drew (S := fun W => W.rangeAt c 0 (hcs g) ∧ W.rangeAt Y.heap.size 0 (cl .u8 16 s) ∧ (convert 27 9 (.slice a' 240 cap)).run Tryd.prog W = .ok (.string (txtN 240 s)) W ∧ Hid (nhS w c Y.heap.size g s a' W)) (by kernel_rfl) ?_ (fun hHeld => ?_)
              · exact h5
              refine take_at (i := 0) (v := _) (some 92) rfl rfl (by kernel_rfl) (by kernel_rfl) (by kernel_rfl) (fun _ _ _ h => h) (yieldsIf_load_mid (by rfl) _ _ rfl _ _ rfl _ _ (fun _ h => h.1) Tryd.underlying26 rfl (by kernel_rfl)) (by assumption) ?_
              simp only [Act.put, List.setIfInBounds_toArray, List.set_cons_zero, List.set_cons_succ]
              refine call_at (i := 1) (some 93) 13 _ _ rfl rfl rfl (by rfl) (by kernel_rfl) #[.agg (hcs g).toArray] rfl Tryd.func13 (by kernel_rfl) (by kernel_rfl) ?_
              refine (ncheck_any g _).mono ?_; rintro e W8 ⟨rfl, hB8⟩; rw [CK]; have h6 := (h5.2.2.2.out.below hB8).held cap
              refine ⟨_, rfl, h6, fun hHeld => ?_⟩
              simp only [Act.put, List.setIfInBounds_toArray, List.set_cons_zero, List.set_cons_succ]
              refine take_at (i := 2) (v := ?_) (some 94) rfl rfl (by kernel_rfl) (by kernel_rfl) (by kernel_rfl) (fun _ _ _ h => h) (Or.inl ⟨by rfl, ?_⟩) (by assumption) ?_
              rotate_left
              · (intro w hSw; (try dsimp only at hSw); go_simp; try with_reducible rfl)
              simp only [Act.put, List.setIfInBounds_toArray, List.set_cons_zero, List.set_cons_succ]
              refine take_at (i := 3) (v := ?_) (some 95) rfl rfl (by kernel_rfl) (by kernel_rfl) (by kernel_rfl) (fun _ _ _ h => h) (Or.inl ⟨by rfl, ?_⟩) (by assumption) ?_
              rotate_left
              · (intro w hSw; (try dsimp only at hSw); go_simp; try with_reducible rfl)
              simp only [Act.put, List.setIfInBounds_toArray, List.set_cons_zero, List.set_cons_succ]
              refine take_at (i := 4) (v := _) (some 96) rfl rfl (by kernel_rfl) (by kernel_rfl) (by kernel_rfl) (fun _ _ _ h => h) (yieldsIf_load_mid (by rfl) _ _ rfl _ _ rfl _ _ (fun _ h => h.1) Tryd.underlying26 rfl (by kernel_rfl)) (by assumption) ?_
              simp only [Act.put, List.setIfInBounds_toArray, List.set_cons_zero, List.set_cons_succ]
              refine take_at (i := 5) (v := _) (some 97) rfl rfl (by kernel_rfl) (by kernel_rfl) (by kernel_rfl) (fun _ _ _ h => h) (yieldsIf_load_mid (by rfl) _ _ rfl _ _ rfl _ _ (fun _ h => h.2.1) Tryd.underlying58 rfl (by kernel_rfl)) (by assumption) ?_
              simp only [Act.put, List.setIfInBounds_toArray, List.set_cons_zero, List.set_cons_succ]
              refine take_at (i := 8) (v := ?_) (some 100) rfl rfl (by kernel_rfl) (by kernel_rfl) (by kernel_rfl) (fun _ _ _ h => h) (Or.inl ⟨by rfl, ?_⟩) (by assumption) ?_
              rotate_left
              · (intro w hSw; (try dsimp only at hSw); go_simp; try with_reducible rfl)
              simp only [Act.put, List.setIfInBounds_toArray, List.set_cons_zero, List.set_cons_succ]
              refine take_at (i := 9) (v := ?_) (some 101) rfl rfl (by kernel_rfl) (by kernel_rfl) (by kernel_rfl) (fun _ _ _ h => h) (Or.inl ⟨by rfl, ?_⟩) (by assumption) ?_
              rotate_left
              · (intro w hSw; (try dsimp only at hSw); go_simp; try with_reducible rfl)
              simp only [Act.put, List.setIfInBounds_toArray, List.set_cons_zero, List.set_cons_succ]
              refine call_at (i := 6) (some 98) 30 _ _ rfl rfl rfl (by rfl) (by kernel_rfl) #[.agg (hcs g).toArray, .agg (cl .u8 16 s).toArray] rfl Tryd.func30 (by kernel_rfl) (by kernel_rfl) ?_
              refine (nbehind_any g s _ OK.out HW.out (fun j hj => SSB.out j (by omega))).mono ?_; rintro e W9 ⟨g9, cap9, rfl, hO9, hg9, hB9⟩; have h7 := (h6.2.2.2.out.below hB9).held cap; have q1 := conv_arg W9 _ 240 cap9 (restF g s) (hO9.arg (by omega) (fun j _ => RB.out j)).1
              refine ⟨_, rfl, h7, fun hHeld => ?_⟩
              simp only [Act.put, List.setIfInBounds_toArray, List.set_cons_zero, List.set_cons_succ]
              refine step_at (i := 7) (some 99) rfl rfl (by rfl) (by kernel_rfl) (.string (txtN 240 (restF g s))) W9 (conv_run (.tmp 98) _ _ rfl _ _ rfl q1) h7 (fun hHeld => ?_)
              simp only [Act.put, List.setIfInBounds_toArray, List.set_cons_zero, List.set_cons_succ]
              refine take_at (i := 10) (v := ?_) (some 102) rfl rfl (by kernel_rfl) (by kernel_rfl) (by kernel_rfl) (fun _ _ _ h => h) (Or.inl ⟨by rfl, ?_⟩) (by assumption) ?_
              rotate_left
              · (intro w hSw; (try dsimp only at hSw); go_simp; try with_reducible rfl)
              simp only [Act.put, List.setIfInBounds_toArray, List.set_cons_zero, List.set_cons_succ]
              refine take_at (i := 11) (v := ?_) (some 103) rfl rfl (by kernel_rfl) (by kernel_rfl) (by kernel_rfl) (fun _ _ _ h => h) (Or.inl ⟨by rfl, ?_⟩) (by assumption) ?_
              rotate_left
              · (intro w hSw; (try dsimp only at hSw); go_simp; try with_reducible rfl)
              simp only [Act.put, List.setIfInBounds_toArray, List.set_cons_zero, List.set_cons_succ]
              refine wpAnyH_done (by kernel_rfl) ?_ _
              refine NoPanic.normal ?_
              go_wp2_with (first
                | (refine wpList_build_to rfl 26 _ rfl (hcs fun _ => 0).toArray (by kernel_rfl) ?_)
                | (refine wpList_store_rec rfl 26 (.tmp 2) (.tmp 104) rfl w.heap.size 0 _ (hcs fun _ => 0) rfl rfl h7.2.2.2.out.2.2.2.1 rfl (by kernel_rfl) (hcs_one _) ?_; intro WA hRA hBA))
              have hl := hRA.run_load 26 _ Tryd.underlying26 rfl (by kernel_rfl)
              refine bodyPost_ret (v := HE (fun _ => 0) 4) (by simp [results, Tryd.results20, asAddr, hl]) rfl ⟨congrArg Ending.returned EE.out, ?_⟩
              exact (h7.2.2.2.out.2.2.2.2).trans (hBA.below (Nat.le_refl _) (h7.2.2.2.out.2.2.2.2).size)
          · have e1 : headCode f = 4 := by rw [HC.out, if_pos (.inr (by simpa using ok))]
            have e2 : headVal f = fun _ => 0 := by unfold headVal; rw [if_neg (by rw [e1]; decide)]
            have EE : Hid (HE (fun _ => 0) 4 = HE (headVal f) (headCode f)) := (by show HE _ _ = HE _ _; rw [e1, e2])
            have CK : chk g = 2 := by unfold chk; rw [show okH g = false by simpa using ok]; rfl
            clear ok e1 e2
            refine wp_region_noPanic ?_
            refine wp_region_held_drew (S := fun W => W.rangeAt c 0 (hcs g) ∧ W.rangeAt Y.heap.size 0 (cl .u8 16 s) ∧ (convert 27 9 (.slice a' 240 cap)).run Tryd.prog W = .ok (.string (txtN 240 s)) W ∧ Hid (nhS w c Y.heap.size g s a' W)) (by kernel_rfl) ?_ (fun hHeld => ?_)
            · exact h5
            refine take_at (i := 0) (v := _) (some 92) rfl rfl (by kernel_rfl) (by kernel_rfl) (by kernel_rfl) (fun _ _ _ h => h) (yieldsIf_load_mid (by rfl) _ _ rfl _ _ rfl _ _ (fun _ h => h.1) Tryd.underlying26 rfl (by kernel_rfl)) (by assumption) ?_
            simp only [Act.put, List.setIfInBounds_toArray, List.set_cons_zero, List.set_cons_succ]
            refine call_at (i := 1) (some 93) 13 _ _ rfl rfl rfl (by rfl) (by kernel_rfl) #[.agg (hcs g).toArray] rfl Tryd.func13 (by kernel_rfl) (by kernel_rfl) ?_
            refine (ncheck_any g _).mono ?_; rintro e W8 ⟨rfl, hB8⟩; rw [CK]; have h6 := (h5.2.2.2.out.below hB8).held cap
            refine ⟨_, rfl, h6, fun hHeld => ?_⟩
            simp only [Act.put, List.setIfInBounds_toArray, List.set_cons_zero, List.set_cons_succ]
            refine take_at (i := 2) (v := ?_) (some 94) rfl rfl (by kernel_rfl) (by kernel_rfl) (by kernel_rfl) (fun _ _ _ h => h) (Or.inl ⟨by rfl, ?_⟩) (by assumption) ?_
            rotate_left
            · (intro w hSw; (try dsimp only at hSw); go_simp; try with_reducible rfl)
            simp only [Act.put, List.setIfInBounds_toArray, List.set_cons_zero, List.set_cons_succ]
            refine take_at (i := 3) (v := ?_) (some 95) rfl rfl (by kernel_rfl) (by kernel_rfl) (by kernel_rfl) (fun _ _ _ h => h) (Or.inl ⟨by rfl, ?_⟩) (by assumption) ?_
            rotate_left
            · (intro w hSw; (try dsimp only at hSw); go_simp; try with_reducible rfl)
            simp only [Act.put, List.setIfInBounds_toArray, List.set_cons_zero, List.set_cons_succ]
            refine take_at (i := 4) (v := undef) (some 96) rfl rfl (by kernel_rfl) (by kernel_rfl) (by kernel_rfl) (fun _ _ _ h => h) (Or.inr ⟨by rfl, rfl⟩) (by assumption) ?_
            simp only [Act.put, List.setIfInBounds_toArray, List.set_cons_zero, List.set_cons_succ]
            refine take_at (i := 5) (v := undef) (some 97) rfl rfl (by kernel_rfl) (by kernel_rfl) (by kernel_rfl) (fun _ _ _ h => h) (Or.inr ⟨by rfl, rfl⟩) (by assumption) ?_
            simp only [Act.put, List.setIfInBounds_toArray, List.set_cons_zero, List.set_cons_succ]
            refine take_at (i := 6) (v := undef) (some 98) rfl rfl (by kernel_rfl) (by kernel_rfl) (by kernel_rfl) (fun _ _ _ h => h) (Or.inr ⟨by rfl, rfl⟩) (by assumption) ?_
            simp only [Act.put, List.setIfInBounds_toArray, List.set_cons_zero, List.set_cons_succ]
            refine take_at (i := 7) (v := undef) (some 99) rfl rfl (by kernel_rfl) (by kernel_rfl) (by kernel_rfl) (fun _ _ _ h => h) (Or.inr ⟨by rfl, rfl⟩) (by assumption) ?_
            simp only [Act.put, List.setIfInBounds_toArray, List.set_cons_zero, List.set_cons_succ]
            refine take_at (i := 8) (v := undef) (some 100) rfl rfl (by kernel_rfl) (by kernel_rfl) (by kernel_rfl) (fun _ _ _ h => h) (Or.inr ⟨by rfl, rfl⟩) (by assumption) ?_
            simp only [Act.put, List.setIfInBounds_toArray, List.set_cons_zero, List.set_cons_succ]
            refine take_at (i := 9) (v := undef) (some 101) rfl rfl (by kernel_rfl) (by kernel_rfl) (by kernel_rfl) (fun _ _ _ h => h) (Or.inr ⟨by rfl, rfl⟩) (by assumption) ?_
            simp only [Act.put, List.setIfInBounds_toArray, List.set_cons_zero, List.set_cons_succ]
            refine take_at (i := 10) (v := undef) (some 102) rfl rfl (by kernel_rfl) (by kernel_rfl) (by kernel_rfl) (fun _ _ _ h => h) (Or.inr ⟨by rfl, rfl⟩) (by assumption) ?_
            simp only [Act.put, List.setIfInBounds_toArray, List.set_cons_zero, List.set_cons_succ]
            refine take_at (i := 11) (v := ?_) (some 103) rfl rfl (by kernel_rfl) (by kernel_rfl) (by kernel_rfl) (fun _ _ _ h => h) (Or.inl ⟨by rfl, ?_⟩) (by assumption) ?_
            rotate_left
            · (intro w hSw; (try dsimp only at hSw); go_simp; try with_reducible rfl)
            simp only [Act.put, List.setIfInBounds_toArray, List.set_cons_zero, List.set_cons_succ]
            refine wpAnyH_done (by kernel_rfl) ?_ _
            refine NoPanic.normal ?_
            go_wp2_with (first
              | (refine wpList_build_to rfl 26 _ rfl (hcs fun _ => 0).toArray (by kernel_rfl) ?_)
              | (refine wpList_store_rec rfl 26 (.tmp 2) (.tmp 104) rfl w.heap.size 0 _ (hcs fun _ => 0) rfl rfl h6.2.2.2.out.2.2.2.1 rfl (by kernel_rfl) (hcs_one _) ?_; intro W9 hR9 hB9))
            have hl := hR9.run_load 26 _ Tryd.underlying26 rfl (by kernel_rfl)
            refine bodyPost_ret (v := HE (fun _ => 0) 4) (by simp [results, Tryd.results20, asAddr, hl]) rfl ⟨congrArg Ending.returned EE.out, ?_⟩
            exact (h6.2.2.2.out.2.2.2.2).trans (hB9.below (Nat.le_refl _) (h6.2.2.2.out.2.2.2.2).size)
theorem nhead_any (b off C : Nat) (f : Nat → Int) (w : World) (hL : Lies w b off 256 f) (hC : 256 ≤ C) :
    Calls Tryd.prog 20 #[.slice (some ⟨b, off, none⟩) 256 C] w fun e w' => e = .returned (HE (headVal f) (headCode f)) ∧ Below w.heap.size w w' := by
  by_cases hs : headSeal f = true
  · exact nhead_full b off C f w hL hC hs
  · have e : headCode f = 12 := by unfold headCode; rw [if_pos (by simpa using hs)]
    rw [show headVal f = fun _ => 0 from by unfold headVal; rw [e, if_neg (by decide)], e]
    exact nhead_seal b off C f w hL hC (by simpa using hs)
end
section
open Go.RowKit
/-- An empty slice's run. -/
theorem bslice_run {a : Act} {w : World} {o : Oper} (hop : o.op = .buildSlice 27 0 #[]) : (execOp a.eval o).run Tryd.prog w = .ok (.value (.slice (some ⟨w.heap.size, 0, none⟩) 0 0)) (w.alloc (.cells #[] 5)) := by
  obtain ⟨ie, hie, _, _, _⟩ := info_parts info_u8
  have hu : Tryd.prog.underlying 27 = some (.slice 5) := Tryd.underlying27
  unfold execOp
  simp [hop, Instr.buildSlice, run_underlying hu, sizeOf, typeInfo, hie, newRow, Instr.fill, Result.andThen]
  congr 2
  exact Array.eq_empty_of_size_eq_zero (by simp)
/-- What the last region must keep. -/
def noS (w : World) (q : Nat) (h : Nat → Int) (a : Option Addr) (L : Nat) (F : Nat → Int) (W : World) : Prop := Rec19 W q 0 (hcs h) ∧ Rec19 W w.heap.size 0 (msg (fun _ => 0) none 0 0) ∧ Arg W a L F ∧ Below w.heap.size w W
theorem noS.below {w : World} {q : Nat} {h : Nat → Int} {a : Option Addr} {L : Nat} {F : Nat → Int} {W W' : World} (s : noS w q h a L F W) (hB : Below W.heap.size W W') : noS w q h a L F W' :=
  ⟨s.1.below hB, s.2.1.below hB, s.2.2.1.below hB, s.2.2.2.trans (hB.mono s.2.2.2.size)⟩
/-- The reference's answer: a message and a number. -/
abbrev MC (h : Nat → Int) (a : Option Addr) (n cap : Nat) (e : Int) : Value := .tuple #[.agg (msg h a n cap).toArray, .int .i64 e]
set_option maxRecDepth 100000 in
set_option maxHeartbeats 400000 in
theorem nopen_few (a : Option Addr) (n C : Nat) (w : World) (hn : n < 256) :
    Calls Tryd.prog 18 #[.slice a n C] w fun e w' => e = .returned (MC (fun _ => 0) none 0 0 4) ∧ Below w.heap.size w w' := by
  have e1 : (n : Int) < 256 := by omega
  go_enter Tryd.func18, Tryd.ntmps18
  go_wp2_with (first
    | (refine wpList_alloc_rec rfl 29 rfl (msg (fun _ => 0) none 0 0) w.heap.size rfl zeroMsg ?_; intro W1 hR1 hB1 hz1)
    | (refine wpList_build_to rfl 29 _ rfl (msg (fun _ => 0) none 0 0).toArray (by kernel_rfl) ?_)
    | (refine wpList_store_rec rfl 29 (.tmp 2) (.tmp 11) rfl w.heap.size 0 _ (msg (fun _ => 0) none 0 0) rfl rfl hR1 rfl (by kernel_rfl) (msg_one _ _ _ _) ?_; intro W2 hR2 hB2))
  have hl := hR2.run_load 29 _ Tryd.underlying29 rfl (by kernel_rfl)
  refine bodyPost_ret (v := MC (fun _ => 0) none 0 0 4) (by simp [results, Tryd.results18, asAddr, hl]) rfl ⟨rfl, ?_⟩
  exact hB1.trans (hB2.below (Nat.le_refl _) (by omega))
set_option maxRecDepth 100000 in
set_option maxHeartbeats 400000 in
theorem nopen_head (b off n C : Nat) (f : Nat → Int) (w : World) (hL : Lies w b off n f) (hn : 256 ≤ n) (hC : n ≤ C) (c : Int) (hc : headCode f = c) (h0 : c ≠ 0) :
    Calls Tryd.prog 18 #[.slice (some ⟨b, off, none⟩) n C] w fun e w' => e = .returned (MC (fun _ => 0) none 0 0 c) ∧ Below w.heap.size w w' := by
  have LL : Hid (Lies w b off n f) := hL
  have HC : Hid (headCode f = c) := hc
  obtain ⟨h, hh⟩ : ∃ h, headVal f = h := ⟨_, rfl⟩
  have HV : Hid (headVal f = h) := hh
  have c0 : (c != 0) = true := by simpa using h0
  clear hc hh h0
  clear hL
  have k1 : ¬ (n : Int) < 256 := by omega
  have k2 : (256 : Int) ≤ n := by omega
  have k3 : (256 : Int) ≤ C := by omega
  have k4 : (16 : Int) ≤ C := by omega
  have k5 : (32 : Int) ≤ C := by omega
  have k6 : ¬ C = 16 := by omega
  go_enter Tryd.func18, Tryd.ntmps18
  go_wp2_with (first
    | (refine wpList_alloc_rec rfl 29 rfl (msg (fun _ => 0) none 0 0) w.heap.size rfl zeroMsg ?_; intro W1 hR1 hB1 hz1
       have L1 : Hid (Lies W1 b off n f) := LL.out.below hB1
       have L1' : Hid (Lies W1 b off 256 f) := (L1.out.part 0 256 (by omega)).zero
       have R1 : Hid (Rec19 W1 w.heap.size 0 (msg (fun _ => 0) none 0 0)) := hR1
       have B1 : Hid (Below w.heap.size w W1) := hB1
       clear hR1 hB1 hz1)
    | (go_at_call 20; refine (nhead_any b off C f _ L1'.out (by omega)).mono ?_; rintro e W2 ⟨rfl, hB2⟩; rw [HV.out, HC.out]
       have R2 : Hid (Rec19 W2 w.heap.size 0 (msg (fun _ => 0) none 0 0)) := R1.out.below hB2
       have L2 : Hid (Lies W2 b off n f) := L1.out.below hB2
       have B2 : Hid (Below w.heap.size w W2) := B1.out.trans (hB2.mono B1.out.size)
       clear hB2)
    | (refine wpList_alloc_rec rfl 26 rfl (hcs fun _ => 0) W2.heap.size rfl zeroHdr ?_; intro W3 hR3 hB3 hz3)
    | (refine wpList_store_rec rfl 26 (.tmp 4) (.tmp 16) rfl W2.heap.size 0 _ (hcs h) rfl rfl hR3 rfl (by kernel_rfl) (hcs_one _) ?_; intro W4 hR4 hB4
       have F4 : Below W2.heap.size W2 W4 := hB3.trans (hB4.below (Nat.le_refl _) (by omega))
       have R4 : Hid (Rec19 W4 w.heap.size 0 (msg (fun _ => 0) none 0 0)) := R2.out.below F4
       have L4 : Hid (Lies W4 b off n f) := L2.out.below F4
       have B4 : Hid (Below w.heap.size w W4) := B2.out.trans (F4.mono B2.out.size)
       have H4 : Hid (Rec19 W4 W2.heap.size 0 (hcs h)) := hR4
       have c2 : W4.cell? ⟨W2.heap.size, 2, none⟩ = some (.int .i64 (h 2)) := (hR4.at 2 _ rfl).1
       have N4 : Hid (w.heap.size < W2.heap.size) := R2.out.2.2
       clear F4 hR3 hB3 hz3 hB4 hR4 R2 L2 B2)
    | (refine wpList_build_to rfl 29 _ rfl (msg (fun _ => 0) none 0 0).toArray (by kernel_rfl) ?_)
    | (refine wpList_store_rec rfl 29 (.tmp 2) (.tmp 20) rfl w.heap.size 0 _ (msg (fun _ => 0) none 0 0) rfl rfl R4.out rfl (by kernel_rfl) (msg_one _ _ _ _) ?_; intro W9 hR9 hB9))
  have hl := hR9.run_load 29 _ Tryd.underlying29 rfl (by kernel_rfl)
  refine bodyPost_ret (v := MC (fun _ => 0) none 0 0 c) (by simp [results, Tryd.results18, asAddr, hl]) rfl ⟨rfl, ?_⟩
  exact B4.out.trans (hB9.below (Nat.le_refl _) B4.out.size)
set_option maxRecDepth 100000 in
set_option maxHeartbeats 400000 in
theorem nopen_size_mid (b off n C : Nat) (f : Nat → Int) (w : World) (hL : Lies w b off n f) (hn : 256 ≤ n) (hC : n ≤ C) (hC2 : ¬ C = 256) (hm : n ≤ 900000) (hc : headCode f = 0) (hs : hdrF f 2 ≠ ((n - 256 : Nat) : Int)) :
    Calls Tryd.prog 18 #[.slice (some ⟨b, off, none⟩) n C] w fun e w' => e = .returned (MC (fun _ => 0) none 0 0 4) ∧ Below w.heap.size w w' := by
  have LL : Hid (Lies w b off n f) := hL
  have HC : Hid (headCode f = 0) := hc
  have hv : headVal f = hdrF f := by unfold headVal; rw [if_pos hc]
  generalize hdrF f = h at hv hs
  have HV : Hid (headVal f = h) := hv
  clear hc hv
  have s0 : (((n - 256 : Nat) : Int) != h 2) = true := by simp; intro e; exact hs (by rw [← e])
  clear hs
  clear hL
  have k1 : ¬ (n : Int) < 256 := by omega
  have k2 : (256 : Int) ≤ n := by omega
  have k3 : (256 : Int) ≤ C := by omega
  have k4 : (16 : Int) ≤ C := by omega
  have k5 : (32 : Int) ≤ C := by omega
  have k6 : ¬ C = 16 := by omega
  go_enter Tryd.func18, Tryd.ntmps18
  go_wp2_with (first
    | (refine wpList_alloc_rec rfl 29 rfl (msg (fun _ => 0) none 0 0) w.heap.size rfl zeroMsg ?_; intro W1 hR1 hB1 hz1
       have L1 : Hid (Lies W1 b off n f) := LL.out.below hB1
       have L1' : Hid (Lies W1 b off 256 f) := (L1.out.part 0 256 (by omega)).zero
       have R1 : Hid (Rec19 W1 w.heap.size 0 (msg (fun _ => 0) none 0 0)) := hR1
       have B1 : Hid (Below w.heap.size w W1) := hB1
       clear hR1 hB1 hz1)
    | (go_at_call 20; refine (nhead_any b off C f _ L1'.out (by omega)).mono ?_; rintro e W2 ⟨rfl, hB2⟩; rw [HV.out, HC.out]
       have R2 : Hid (Rec19 W2 w.heap.size 0 (msg (fun _ => 0) none 0 0)) := R1.out.below hB2
       have L2 : Hid (Lies W2 b off n f) := L1.out.below hB2
       have B2 : Hid (Below w.heap.size w W2) := B1.out.trans (hB2.mono B1.out.size)
       clear hB2)
    | (refine wpList_alloc_rec rfl 26 rfl (hcs fun _ => 0) W2.heap.size rfl zeroHdr ?_; intro W3 hR3 hB3 hz3)
    | (refine wpList_store_rec rfl 26 (.tmp 4) (.tmp 16) rfl W2.heap.size 0 _ (hcs h) rfl rfl hR3 rfl (by kernel_rfl) (hcs_one _) ?_; intro W4 hR4 hB4
       have F4 : Below W2.heap.size W2 W4 := hB3.trans (hB4.below (Nat.le_refl _) (by omega))
       have R4 : Hid (Rec19 W4 w.heap.size 0 (msg (fun _ => 0) none 0 0)) := R2.out.below F4
       have L4 : Hid (Lies W4 b off n f) := L2.out.below F4
       have B4 : Hid (Below w.heap.size w W4) := B2.out.trans (F4.mono B2.out.size)
       have H4 : Hid (Rec19 W4 W2.heap.size 0 (hcs h)) := hR4
       have c2 : W4.cell? ⟨W2.heap.size, 2, none⟩ = some (.int .i64 (h 2)) := (hR4.at 2 _ rfl).1
       have N4 : Hid (w.heap.size < W2.heap.size) := R2.out.2.2
       clear F4 hR3 hB3 hz3 hB4 hR4 R2 L2 B2)
    | (refine wpList_build_to rfl 29 _ rfl (msg (fun _ => 0) none 0 0).toArray (by kernel_rfl) ?_)
    | (refine wpList_store_rec rfl 29 (.tmp 2) (.tmp 29) rfl w.heap.size 0 _ (msg (fun _ => 0) none 0 0) rfl rfl R4.out rfl (by kernel_rfl) (msg_one _ _ _ _) ?_; intro W9 hR9 hB9))
  have hl := hR9.run_load 29 _ Tryd.underlying29 rfl (by kernel_rfl)
  refine bodyPost_ret (v := MC (fun _ => 0) none 0 0 4) (by simp [results, Tryd.results18, asAddr, hl]) rfl ⟨rfl, ?_⟩
  exact B4.out.trans (hB9.below (Nat.le_refl _) B4.out.size)
set_option maxRecDepth 100000 in
set_option maxHeartbeats 400000 in
theorem nopen_seal_mid (b off n C : Nat) (f : Nat → Int) (w : World) (hL : Lies w b off n f) (hn : 256 ≤ n) (hC : n ≤ C) (hC2 : ¬ C = 256) (hm : n ≤ 900000) (hc : headCode f = 0) (hs : hdrF f 2 = ((n - 256 : Nat) : Int)) (hb : bodySeal n f = false) :
    Calls Tryd.prog 18 #[.slice (some ⟨b, off, none⟩) n C] w fun e w' => e = .returned (MC (fun _ => 0) none 0 0 12) ∧ Below w.heap.size w w' := by
  have LL : Hid (Lies w b off n f) := hL
  have HC : Hid (headCode f = 0) := hc
  have hv : headVal f = hdrF f := by unfold headVal; rw [if_pos hc]
  generalize hdrF f = h at hv hs
  have HV : Hid (headVal f = h) := hv
  clear hc hv
  have s0 : h 2 = ((n - 256 : Nat) : Int) := by rw [hs]
  clear hs
  have HTX : Hid (((txtN 16 (sealF (n - 256) (fun j => f (256 + j)))).toList == (txtN 16 (fun j => f (16 + j))).toList) = false) := by
    show _ = false
    rw [bytes_beq]
    exact txt_ne (fun j hj => LL.out.2.1 (16 + j) (by omega)) hb
  clear hb
  clear hL
  have k1 : ¬ (n : Int) < 256 := by omega
  have k2 : (256 : Int) ≤ n := by omega
  have k3 : (256 : Int) ≤ C := by omega
  have k4 : (16 : Int) ≤ C := by omega
  have k5 : (32 : Int) ≤ C := by omega
  have k6 : ¬ C = 16 := by omega
  go_enter Tryd.func18, Tryd.ntmps18
  go_wp2_with (first
    | (refine wpList_alloc_rec rfl 29 rfl (msg (fun _ => 0) none 0 0) w.heap.size rfl zeroMsg ?_; intro W1 hR1 hB1 hz1
       have L1 : Hid (Lies W1 b off n f) := LL.out.below hB1
       have L1' : Hid (Lies W1 b off 256 f) := (L1.out.part 0 256 (by omega)).zero
       have R1 : Hid (Rec19 W1 w.heap.size 0 (msg (fun _ => 0) none 0 0)) := hR1
       have B1 : Hid (Below w.heap.size w W1) := hB1
       clear hR1 hB1 hz1)
    | (go_at_call 20; refine (nhead_any b off C f _ L1'.out (by omega)).mono ?_; rintro e W2 ⟨rfl, hB2⟩; rw [HV.out, HC.out]
       have R2 : Hid (Rec19 W2 w.heap.size 0 (msg (fun _ => 0) none 0 0)) := R1.out.below hB2
       have L2 : Hid (Lies W2 b off n f) := L1.out.below hB2
       have B2 : Hid (Below w.heap.size w W2) := B1.out.trans (hB2.mono B1.out.size)
       clear hB2)
    | (refine wpList_alloc_rec rfl 26 rfl (hcs fun _ => 0) W2.heap.size rfl zeroHdr ?_; intro W3 hR3 hB3 hz3)
    | (refine wpList_store_rec rfl 26 (.tmp 4) (.tmp 16) rfl W2.heap.size 0 _ (hcs h) rfl rfl hR3 rfl (by kernel_rfl) (hcs_one _) ?_; intro W4 hR4 hB4
       have F4 : Below W2.heap.size W2 W4 := hB3.trans (hB4.below (Nat.le_refl _) (by omega))
       have R4 : Hid (Rec19 W4 w.heap.size 0 (msg (fun _ => 0) none 0 0)) := R2.out.below F4
       have L4 : Hid (Lies W4 b off n f) := L2.out.below F4
       have B4 : Hid (Below w.heap.size w W4) := B2.out.trans (F4.mono B2.out.size)
       have H4 : Hid (Rec19 W4 W2.heap.size 0 (hcs h)) := hR4
       have c2 : W4.cell? ⟨W2.heap.size, 2, none⟩ = some (.int .i64 (h 2)) := (hR4.at 2 _ rfl).1
       have N4 : Hid (w.heap.size < W2.heap.size) := R2.out.2.2
       clear F4 hR3 hB3 hz3 hB4 hR4 R2 L2 B2)
    | (go_at_call 31; refine (hsum_any (some ⟨b, off + 256, none⟩) (n - 256) (C - 256) (fun j => f (256 + j)) _ (Arg.part L4.out 256 (n - 256) (by omega)) (by omega)).mono ?_; rintro e W5 ⟨rfl, hB5⟩
       have R5 : Hid (Rec19 W5 w.heap.size 0 (msg (fun _ => 0) none 0 0)) := R4.out.below hB5
       have L5 : Hid (Lies W5 b off n f) := L4.out.below hB5
       have B5 : Hid (Below w.heap.size w W5) := B4.out.trans (hB5.mono B4.out.size)
       have H5 : Hid (Rec19 W5 W2.heap.size 0 (hcs h)) := H4.out.below hB5
       clear hB5 R4 L4 B4 H4 c2)
    | (refine wpList_alloc_row rfl 58 rfl .u8 16 W5.heap.size rfl zero8_16 ?_; intro X1 QX BX zX)
    | (refine wpList_store_row rfl 58 (.tmp 7) (.tmp 31) rfl W5.heap.size .u8 16 (sealF (n - 256) (fun j => f (256 + j))) (fun _ => 0) rfl rfl QX (by kernel_rfl) ?_; intro X2 QY BY zY))
  have K2 : Below W5.heap.size W5 X2 := BX.trans (BY.below (Nat.le_refl _) (by omega))
  have R6 : Hid (Rec19 X2.drew w.heap.size 0 (msg (fun _ => 0) none 0 0)) := R5.out.below K2.drew
  have L6 : Hid (Lies X2.drew b off n f) := L5.out.below K2.drew
  have B6 : Hid (Below w.heap.size w X2.drew) := B5.out.trans (K2.drew.mono B5.out.size)
  have H6 : Hid (Rec19 X2.drew W2.heap.size 0 (hcs h)) := H5.out.below K2.drew
  obtain ⟨S, hS⟩ : ∃ S, sealF (n - 256) (fun j => f (256 + j)) = S := ⟨_, rfl⟩
  have SB : ∀ j, j < 16 → 0 ≤ S j ∧ S j < 256 := fun j _ => by rw [← hS]; exact sealF_byte _ _ j
  rw [hS] at QY
  have htx : ((txtN 16 S).toList == (txtN 16 (fun j => f (16 + j))).toList) = false := by
    rw [← hS]
    exact HTX.out
  have hh' : (convert 27 9 (.slice (some ⟨W5.heap.size, 0, none⟩) 16 16)).run Tryd.prog X2.drew = .ok (.string (txtN 16 S)) X2.drew ∧ (convert 27 9 (.slice (some ⟨b, off + 16, none⟩) 16 (C - 16))).run Tryd.prog X2.drew = .ok (.string (txtN 16 (fun j => f (16 + j)))) X2.drew :=
    ⟨conv_arg _ _ 16 16 S (Arg.of (QY.drew.lies SB)), conv_arg _ _ 16 (C - 16) _ (Arg.part L6.out 16 16 (by omega))⟩
  clear QX BX zX QY BY zY K2 SB R5 L5 B5 H5
  rw [hS]
  clear hS
  refine wp_region_noPanic ?_
  refine wp_region_held_drew (S := fun W' => (convert 27 9 (.slice (some ⟨W5.heap.size, 0, none⟩) 16 16)).run Tryd.prog W' = .ok (.string (txtN 16 S)) W' ∧ (convert 27 9 (.slice (some ⟨b, off + 16, none⟩) 16 (C - 16))).run Tryd.prog W' = .ok (.string (txtN 16 (fun j => f (16 + j)))) W') (by kernel_rfl) ?_ (fun hHeld => ?_)
  · exact hh'
  refine take_at (i := 0) (v := ?_) (some 32) rfl rfl (by kernel_rfl) (by kernel_rfl) (by kernel_rfl) (fun _ _ _ h => h) (Or.inl ⟨by rfl, ?_⟩) (by assumption) ?_
  rotate_left
  · (intro w hSw; (try dsimp only at hSw); go_simp; try with_reducible rfl)
  simp only [Act.put, List.setIfInBounds_toArray, List.set_cons_zero, List.set_cons_succ]
  refine take_at (i := 1) (v := ?_) (some 33) rfl rfl (by kernel_rfl) (by kernel_rfl) (by kernel_rfl) (fun _ _ _ h => h) (Or.inl ⟨by rfl, ?_⟩) (by assumption) ?_
  rotate_left
  · (intro w hSw; (try dsimp only at hSw); go_simp; try with_reducible rfl)
  simp only [Act.put, List.setIfInBounds_toArray, List.set_cons_zero, List.set_cons_succ]
  refine take_at (i := 2) (v := ?_) (some 34) rfl rfl (by kernel_rfl) (by kernel_rfl) (by kernel_rfl) (fun _ _ _ h => h) (Or.inl ⟨by rfl, ?_⟩) (by assumption) ?_
  rotate_left
  · (intro w hSw; (try dsimp only at hSw); go_simp; try with_reducible rfl)
  simp only [Act.put, List.setIfInBounds_toArray, List.set_cons_zero, List.set_cons_succ]
  refine take_at (i := 3) (v := ?_) (some 35) rfl rfl (by kernel_rfl) (by kernel_rfl) (by kernel_rfl) (fun _ _ _ h => h) (Or.inl ⟨by rfl, ?_⟩) (by assumption) ?_
  rotate_left
  · (intro w hSw; (try dsimp only at hSw); go_simp; try with_reducible rfl)
  simp only [Act.put, List.setIfInBounds_toArray, List.set_cons_zero, List.set_cons_succ]
  refine take_at (i := 4) (v := ?_) (some 36) rfl rfl (by kernel_rfl) (by kernel_rfl) (by kernel_rfl) (fun _ _ _ h => h) (Or.inl ⟨by rfl, ?_⟩) (by assumption) ?_
  rotate_left
  · (intro w hSw; (try dsimp only at hSw); go_simp; try with_reducible rfl)
  simp only [Act.put, List.setIfInBounds_toArray, List.set_cons_zero, List.set_cons_succ]
  refine take_at (i := 5) (v := ?_) (some 37) rfl rfl (by kernel_rfl) (by kernel_rfl) (by kernel_rfl) (fun _ _ _ h => h) (Or.inl ⟨by rfl, ?_⟩) (by assumption) ?_
  rotate_left
  · (intro w hSw; (try dsimp only at hSw); go_simp; try with_reducible rfl)
  simp only [Act.put, List.setIfInBounds_toArray, List.set_cons_zero, List.set_cons_succ]
  refine wpAnyH_done (by kernel_rfl) ?_ _
  refine NoPanic.normal ?_
  clear hHeld hh'
  generalize X2.drew = X3 at R6 L6 B6 H6 ⊢
  go_wp2_with (first
    | (refine wpList_build_to rfl 29 _ rfl (msg (fun _ => 0) none 0 0).toArray (by kernel_rfl) ?_)
    | (refine wpList_store_rec rfl 29 (.tmp 2) (.tmp 38) rfl w.heap.size 0 _ (msg (fun _ => 0) none 0 0) rfl rfl R6.out rfl (by kernel_rfl) (msg_one _ _ _ _) ?_; intro W9 hR9 hB9))
  have hl := hR9.run_load 29 _ Tryd.underlying29 rfl (by kernel_rfl)
  refine bodyPost_ret (v := MC (fun _ => 0) none 0 0 12) (by simp [results, Tryd.results18, asAddr, hl]) rfl ⟨rfl, ?_⟩
  exact B6.out.trans (hB9.below (Nat.le_refl _) B6.out.size)
set_option maxRecDepth 100000 in
set_option maxHeartbeats 400000 in
theorem nopen_ok_mid (b off n C : Nat) (f : Nat → Int) (w : World) (hL : Lies w b off n f) (hn : 256 ≤ n) (hC : n ≤ C) (hC2 : ¬ C = 256) (hm : n ≤ 900000) (hc : headCode f = 0) (hs : hdrF f 2 = ((n - 256 : Nat) : Int)) (hb : bodySeal n f = true) :
    Calls Tryd.prog 18 #[.slice (some ⟨b, off, none⟩) n C] w fun e w' => ∃ a' cap, e = .returned (MC (hdrF f) a' (n - 256) cap 0) ∧ Arg w' a' (n - 256) (fun j => f (256 + j)) ∧ Below w.heap.size w w' := by
  have LL : Hid (Lies w b off n f) := hL
  have HC : Hid (headCode f = 0) := hc
  have hv : headVal f = hdrF f := by unfold headVal; rw [if_pos hc]
  generalize hdrF f = h at hv hs ⊢
  have HV : Hid (headVal f = h) := hv
  clear hc hv
  have s0 : h 2 = ((n - 256 : Nat) : Int) := by rw [hs]
  clear hs
  have HTX : Hid (((txtN 16 (sealF (n - 256) (fun j => f (256 + j)))).toList == (txtN 16 (fun j => f (16 + j))).toList) = true) := by
    show _ = true
    rw [bytes_beq]
    exact decide_eq_true (txtN_congr 16 _ _ ((eqN_iff _ _ _).1 hb))
  clear hb
  clear hL
  have k1 : ¬ (n : Int) < 256 := by omega
  have k2 : (256 : Int) ≤ n := by omega
  have k3 : (256 : Int) ≤ C := by omega
  have k4 : (16 : Int) ≤ C := by omega
  have k5 : (32 : Int) ≤ C := by omega
  have k6 : ¬ C = 16 := by omega
  go_enter Tryd.func18, Tryd.ntmps18
  go_wp2_with (first
    | (refine wpList_alloc_rec rfl 29 rfl (msg (fun _ => 0) none 0 0) w.heap.size rfl zeroMsg ?_; intro W1 hR1 hB1 hz1
       have L1 : Hid (Lies W1 b off n f) := LL.out.below hB1
       have L1' : Hid (Lies W1 b off 256 f) := (L1.out.part 0 256 (by omega)).zero
       have R1 : Hid (Rec19 W1 w.heap.size 0 (msg (fun _ => 0) none 0 0)) := hR1
       have B1 : Hid (Below w.heap.size w W1) := hB1
       clear hR1 hB1 hz1)
    | (go_at_call 20; refine (nhead_any b off C f _ L1'.out (by omega)).mono ?_; rintro e W2 ⟨rfl, hB2⟩; rw [HV.out, HC.out]
       have R2 : Hid (Rec19 W2 w.heap.size 0 (msg (fun _ => 0) none 0 0)) := R1.out.below hB2
       have L2 : Hid (Lies W2 b off n f) := L1.out.below hB2
       have B2 : Hid (Below w.heap.size w W2) := B1.out.trans (hB2.mono B1.out.size)
       clear hB2)
    | (refine wpList_alloc_rec rfl 26 rfl (hcs fun _ => 0) W2.heap.size rfl zeroHdr ?_; intro W3 hR3 hB3 hz3)
    | (refine wpList_store_rec rfl 26 (.tmp 4) (.tmp 16) rfl W2.heap.size 0 _ (hcs h) rfl rfl hR3 rfl (by kernel_rfl) (hcs_one _) ?_; intro W4 hR4 hB4
       have F4 : Below W2.heap.size W2 W4 := hB3.trans (hB4.below (Nat.le_refl _) (by omega))
       have R4 : Hid (Rec19 W4 w.heap.size 0 (msg (fun _ => 0) none 0 0)) := R2.out.below F4
       have L4 : Hid (Lies W4 b off n f) := L2.out.below F4
       have B4 : Hid (Below w.heap.size w W4) := B2.out.trans (F4.mono B2.out.size)
       have H4 : Hid (Rec19 W4 W2.heap.size 0 (hcs h)) := hR4
       have c2 : W4.cell? ⟨W2.heap.size, 2, none⟩ = some (.int .i64 (h 2)) := (hR4.at 2 _ rfl).1
       have N4 : Hid (w.heap.size < W2.heap.size) := R2.out.2.2
       clear F4 hR3 hB3 hz3 hB4 hR4 R2 L2 B2)
    | (go_at_call 31; refine (hsum_any (some ⟨b, off + 256, none⟩) (n - 256) (C - 256) (fun j => f (256 + j)) _ (Arg.part L4.out 256 (n - 256) (by omega)) (by omega)).mono ?_; rintro e W5 ⟨rfl, hB5⟩
       have R5 : Hid (Rec19 W5 w.heap.size 0 (msg (fun _ => 0) none 0 0)) := R4.out.below hB5
       have L5 : Hid (Lies W5 b off n f) := L4.out.below hB5
       have B5 : Hid (Below w.heap.size w W5) := B4.out.trans (hB5.mono B4.out.size)
       have H5 : Hid (Rec19 W5 W2.heap.size 0 (hcs h)) := H4.out.below hB5
       clear hB5 R4 L4 B4 H4 c2)
    | (refine wpList_alloc_row rfl 58 rfl .u8 16 W5.heap.size rfl zero8_16 ?_; intro X1 QX BX zX)
    | (refine wpList_store_row rfl 58 (.tmp 7) (.tmp 31) rfl W5.heap.size .u8 16 (sealF (n - 256) (fun j => f (256 + j))) (fun _ => 0) rfl rfl QX (by kernel_rfl) ?_; intro X2 QY BY zY))
  have K2 : Below W5.heap.size W5 X2 := BX.trans (BY.below (Nat.le_refl _) (by omega))
  have R6 : Hid (Rec19 X2.drew w.heap.size 0 (msg (fun _ => 0) none 0 0)) := R5.out.below K2.drew
  have L6 : Hid (Lies X2.drew b off n f) := L5.out.below K2.drew
  have B6 : Hid (Below w.heap.size w X2.drew) := B5.out.trans (K2.drew.mono B5.out.size)
  have H6 : Hid (Rec19 X2.drew W2.heap.size 0 (hcs h)) := H5.out.below K2.drew
  obtain ⟨S, hS⟩ : ∃ S, sealF (n - 256) (fun j => f (256 + j)) = S := ⟨_, rfl⟩
  have SB : ∀ j, j < 16 → 0 ≤ S j ∧ S j < 256 := fun j _ => by rw [← hS]; exact sealF_byte _ _ j
  rw [hS] at QY
  have htx : ((txtN 16 S).toList == (txtN 16 (fun j => f (16 + j))).toList) = true := by
    rw [← hS]
    exact HTX.out
  have hh' : (convert 27 9 (.slice (some ⟨W5.heap.size, 0, none⟩) 16 16)).run Tryd.prog X2.drew = .ok (.string (txtN 16 S)) X2.drew ∧ (convert 27 9 (.slice (some ⟨b, off + 16, none⟩) 16 (C - 16))).run Tryd.prog X2.drew = .ok (.string (txtN 16 (fun j => f (16 + j)))) X2.drew :=
    ⟨conv_arg _ _ 16 16 S (Arg.of (QY.drew.lies SB)), conv_arg _ _ 16 (C - 16) _ (Arg.part L6.out 16 16 (by omega))⟩
  clear QX BX zX QY BY zY K2 SB R5 L5 B5 H5
  rw [hS]
  clear hS
  refine wp_region_noPanic ?_
  refine wp_region_held_drew (S := fun W' => (convert 27 9 (.slice (some ⟨W5.heap.size, 0, none⟩) 16 16)).run Tryd.prog W' = .ok (.string (txtN 16 S)) W' ∧ (convert 27 9 (.slice (some ⟨b, off + 16, none⟩) 16 (C - 16))).run Tryd.prog W' = .ok (.string (txtN 16 (fun j => f (16 + j)))) W') (by kernel_rfl) ?_ (fun hHeld => ?_)
  · exact hh'
  refine take_at (i := 0) (v := ?_) (some 32) rfl rfl (by kernel_rfl) (by kernel_rfl) (by kernel_rfl) (fun _ _ _ h => h) (Or.inl ⟨by rfl, ?_⟩) (by assumption) ?_
  rotate_left
  · (intro w hSw; (try dsimp only at hSw); go_simp; try with_reducible rfl)
  simp only [Act.put, List.setIfInBounds_toArray, List.set_cons_zero, List.set_cons_succ]
  refine take_at (i := 1) (v := ?_) (some 33) rfl rfl (by kernel_rfl) (by kernel_rfl) (by kernel_rfl) (fun _ _ _ h => h) (Or.inl ⟨by rfl, ?_⟩) (by assumption) ?_
  rotate_left
  · (intro w hSw; (try dsimp only at hSw); go_simp; try with_reducible rfl)
  simp only [Act.put, List.setIfInBounds_toArray, List.set_cons_zero, List.set_cons_succ]
  refine take_at (i := 2) (v := ?_) (some 34) rfl rfl (by kernel_rfl) (by kernel_rfl) (by kernel_rfl) (fun _ _ _ h => h) (Or.inl ⟨by rfl, ?_⟩) (by assumption) ?_
  rotate_left
  · (intro w hSw; (try dsimp only at hSw); go_simp; try with_reducible rfl)
  simp only [Act.put, List.setIfInBounds_toArray, List.set_cons_zero, List.set_cons_succ]
  refine take_at (i := 3) (v := ?_) (some 35) rfl rfl (by kernel_rfl) (by kernel_rfl) (by kernel_rfl) (fun _ _ _ h => h) (Or.inl ⟨by rfl, ?_⟩) (by assumption) ?_
  rotate_left
  · (intro w hSw; (try dsimp only at hSw); go_simp; try with_reducible rfl)
  simp only [Act.put, List.setIfInBounds_toArray, List.set_cons_zero, List.set_cons_succ]
  refine take_at (i := 4) (v := ?_) (some 36) rfl rfl (by kernel_rfl) (by kernel_rfl) (by kernel_rfl) (fun _ _ _ h => h) (Or.inl ⟨by rfl, ?_⟩) (by assumption) ?_
  rotate_left
  · (intro w hSw; (try dsimp only at hSw); go_simp; try with_reducible rfl)
  simp only [Act.put, List.setIfInBounds_toArray, List.set_cons_zero, List.set_cons_succ]
  refine take_at (i := 5) (v := ?_) (some 37) rfl rfl (by kernel_rfl) (by kernel_rfl) (by kernel_rfl) (fun _ _ _ h => h) (Or.inl ⟨by rfl, ?_⟩) (by assumption) ?_
  rotate_left
  · (intro w hSw; (try dsimp only at hSw); go_simp; try with_reducible rfl)
  simp only [Act.put, List.setIfInBounds_toArray, List.set_cons_zero, List.set_cons_succ]
  refine wpAnyH_done (by kernel_rfl) ?_ _
  refine NoPanic.normal ?_
  clear hHeld hh'
  generalize X2.drew = X3 at R6 L6 B6 H6 ⊢
  go_wp2_with fail
  have S3 : noS w W2.heap.size h (some ⟨b, off + 256, none⟩) (n - 256) (fun j => f (256 + j)) X3.drew := ⟨H6.out, R6.out, (Arg.part (L6.out.below (Below.refl _ _).drew) 256 (n - 256) (by omega)), B6.out.drew⟩
  refine wp_region_noPanic ?_
  refine wp_region_held_drew (S := fun W => W.rangeAt W2.heap.size 0 (hcs h) ∧ True) (by kernel_rfl) ?_ (fun hHeld => ?_)
  · exact ⟨S3.1.1, trivial⟩
  refine take_at (i := 0) (v := _) (some 39) rfl rfl (by kernel_rfl) (by kernel_rfl) (by kernel_rfl) (fun _ _ _ h => h) (yieldsIf_load_mid (by rfl) _ _ rfl _ _ rfl _ _ (fun _ h => h.1) Tryd.underlying26 rfl (by kernel_rfl)) (by assumption) ?_
  simp only [Act.put, List.setIfInBounds_toArray, List.set_cons_zero, List.set_cons_succ]
  refine take_at (i := 2) (v := ?_) (some 41) rfl rfl (by kernel_rfl) (by kernel_rfl) (by kernel_rfl) (fun _ _ _ h => h) (Or.inl ⟨by rfl, ?_⟩) (by assumption) ?_
  rotate_left
  · (intro w hSw; (try dsimp only at hSw); go_simp; try with_reducible rfl)
  simp only [Act.put, List.setIfInBounds_toArray, List.set_cons_zero, List.set_cons_succ]
  have S4 := S3.below ((Below.refl X3.drew.heap.size X3.drew).alloc (Nat.le_refl _) (.cells #[] 5))
  refine step_at (i := 1) (some 40) rfl rfl (by rfl) (by kernel_rfl) _ _ (bslice_run rfl) ⟨S4.1.1, trivial⟩ (fun hHeld => ?_)
  simp only [Act.put, List.setIfInBounds_toArray, List.set_cons_zero, List.set_cons_succ]
  obtain ⟨v8, W8, hr8, hO8, hB8⟩ := app_arg 27 (X3.drew.alloc (.cells #[] 5)) X3.drew.heap.size 0 (n - 256) (C - 256) _ (some ⟨b, off + 256, none⟩) (fun _ => 0) (fun j => f (256 + j)) (own0 X3.drew _ (Nat.le_refl _)) S4.2.2.1 (by omega) (by simp)
  rw [Nat.zero_add] at hO8
  obtain ⟨a8, cap8, rfl, hA8, hP8⟩ := (hO8.congr (G := fun j => f (256 + j)) (fun j _ => by unfold cat; rw [if_neg (by omega), Nat.sub_zero])).slice S4.2.2.1.bytes
  have S8 := S3.below (((Below.refl X3.drew.heap.size X3.drew).alloc (Nat.le_refl _) _).trans hB8)
  refine step_at (i := 3) (some 42) rfl rfl (by rfl) (by kernel_rfl) (.slice a8 (n - 256) cap8) W8 (append_run (.tmp 40) (.tmp 41) 27 27 rfl _ _ rfl rfl hr8) ⟨S8.1.1, trivial⟩ (fun hHeld => ?_)
  simp only [Act.put, List.setIfInBounds_toArray, List.set_cons_zero, List.set_cons_succ]
  refine take_at (i := 4) (v := (.agg (msg h a8 (n - 256) cap8).toArray)) (some 43) rfl rfl (by kernel_rfl) (by kernel_rfl) (by kernel_rfl) (fun _ _ _ h => h) (Or.inl ⟨by rfl, fun w _ => (build_run 29 _ rfl (msg h a8 (n - 256) cap8).toArray (by kernel_rfl))⟩) (by assumption) ?_
  simp only [Act.put, List.setIfInBounds_toArray, List.set_cons_zero, List.set_cons_succ]
  refine wpAnyH_ready (rs := [5]) (by kernel_rfl) (by simp) ?_
  refine all_store_rec (i := 5) none 29 (.tmp 2) (.tmp 43) rfl rfl rfl (by rfl) w.heap.size (msg (fun _ => 0) none 0 0) (msg h a8 (n - 256) cap8) rfl rfl S8.2.1 rfl (by kernel_rfl) (msg_one _ _ _ _) ?_ AllReadyH.nil
  intro W9 R9 B9
  have A9 : Arg W9 a8 (n - 256) (fun j => f (256 + j)) := hA8.but B9 (fun p hp => by have := hP8 p hp; have := S3.2.1.2.2; omega)
  have E9 : Below w.heap.size w W9 := S8.2.2.2.trans (B9.below (Nat.le_refl _) S8.2.2.2.size)
  refine ⟨?_, fun hHeld => ?_⟩
  · exact ⟨(S8.1.but B9 (by have := N4.out; omega)).1, trivial⟩
  simp only [Act.put]
  refine take_at (i := 6) (v := ?_) (some 3) rfl rfl (by kernel_rfl) (by kernel_rfl) (by kernel_rfl) (fun _ _ _ h => h) (Or.inl ⟨by rfl, ?_⟩) (by assumption) ?_
  rotate_left
  · (intro w hSw; (try dsimp only at hSw); go_simp; try with_reducible rfl)
  simp only [Act.put, List.setIfInBounds_toArray, List.set_cons_zero, List.set_cons_succ]
  refine wpAnyH_done (by kernel_rfl) ?_ _
  refine NoPanic.normal ?_
  go_wp2_with fail
  have hl := R9.run_load 29 _ Tryd.underlying29 rfl (by kernel_rfl)
  refine bodyPost_ret (v := MC h a8 (n - 256) cap8 0) (by simp [results, Tryd.results18, asAddr, hl]) rfl ⟨a8, cap8, rfl, A9, E9⟩
set_option maxRecDepth 100000 in
set_option maxHeartbeats 400000 in
theorem nopen_size_end (b off : Nat) (f : Nat → Int) (w : World) (hL : Lies w b off 256 f) (hc : headCode f = 0) (hs : hdrF f 2 ≠ ((256 - 256 : Nat) : Int)) :
    Calls Tryd.prog 18 #[.slice (some ⟨b, off, none⟩) 256 256] w fun e w' => e = .returned (MC (fun _ => 0) none 0 0 4) ∧ Below w.heap.size w w' := by
  have LL : Hid (Lies w b off 256 f) := hL
  have HC : Hid (headCode f = 0) := hc
  have hv : headVal f = hdrF f := by unfold headVal; rw [if_pos hc]
  generalize hdrF f = h at hv hs
  have HV : Hid (headVal f = h) := hv
  clear hc hv
  have s0 : ((0 : Int) != h 2) = true := by simp; intro e; exact hs (by rw [← e]; rfl)
  clear hs
  clear hL
  go_enter Tryd.func18, Tryd.ntmps18
  go_wp2_with (first
    | (refine wpList_alloc_rec rfl 29 rfl (msg (fun _ => 0) none 0 0) w.heap.size rfl zeroMsg ?_; intro W1 hR1 hB1 hz1
       have L1 : Hid (Lies W1 b off 256 f) := LL.out.below hB1
       have L1' : Hid (Lies W1 b off 256 f) := (L1.out.part 0 256 (by omega)).zero
       have R1 : Hid (Rec19 W1 w.heap.size 0 (msg (fun _ => 0) none 0 0)) := hR1
       have B1 : Hid (Below w.heap.size w W1) := hB1
       clear hR1 hB1 hz1)
    | (go_at_call 20; refine (nhead_any b off 256 f _ L1'.out (by omega)).mono ?_; rintro e W2 ⟨rfl, hB2⟩; rw [HV.out, HC.out]
       have R2 : Hid (Rec19 W2 w.heap.size 0 (msg (fun _ => 0) none 0 0)) := R1.out.below hB2
       have L2 : Hid (Lies W2 b off 256 f) := L1.out.below hB2
       have B2 : Hid (Below w.heap.size w W2) := B1.out.trans (hB2.mono B1.out.size)
       clear hB2)
    | (refine wpList_alloc_rec rfl 26 rfl (hcs fun _ => 0) W2.heap.size rfl zeroHdr ?_; intro W3 hR3 hB3 hz3)
    | (refine wpList_store_rec rfl 26 (.tmp 4) (.tmp 16) rfl W2.heap.size 0 _ (hcs h) rfl rfl hR3 rfl (by kernel_rfl) (hcs_one _) ?_; intro W4 hR4 hB4
       have F4 : Below W2.heap.size W2 W4 := hB3.trans (hB4.below (Nat.le_refl _) (by omega))
       have R4 : Hid (Rec19 W4 w.heap.size 0 (msg (fun _ => 0) none 0 0)) := R2.out.below F4
       have L4 : Hid (Lies W4 b off 256 f) := L2.out.below F4
       have B4 : Hid (Below w.heap.size w W4) := B2.out.trans (F4.mono B2.out.size)
       have H4 : Hid (Rec19 W4 W2.heap.size 0 (hcs h)) := hR4
       have c2 : W4.cell? ⟨W2.heap.size, 2, none⟩ = some (.int .i64 (h 2)) := (hR4.at 2 _ rfl).1
       have N4 : Hid (w.heap.size < W2.heap.size) := R2.out.2.2
       clear F4 hR3 hB3 hz3 hB4 hR4 R2 L2 B2)
    | (refine wpList_build_to rfl 29 _ rfl (msg (fun _ => 0) none 0 0).toArray (by kernel_rfl) ?_)
    | (refine wpList_store_rec rfl 29 (.tmp 2) (.tmp 29) rfl w.heap.size 0 _ (msg (fun _ => 0) none 0 0) rfl rfl R4.out rfl (by kernel_rfl) (msg_one _ _ _ _) ?_; intro W9 hR9 hB9))
  have hl := hR9.run_load 29 _ Tryd.underlying29 rfl (by kernel_rfl)
  refine bodyPost_ret (v := MC (fun _ => 0) none 0 0 4) (by simp [results, Tryd.results18, asAddr, hl]) rfl ⟨rfl, ?_⟩
  exact B4.out.trans (hB9.below (Nat.le_refl _) B4.out.size)
set_option maxRecDepth 100000 in
set_option maxHeartbeats 400000 in
theorem nopen_seal_end (b off : Nat) (f : Nat → Int) (w : World) (hL : Lies w b off 256 f) (hc : headCode f = 0) (hs : hdrF f 2 = ((256 - 256 : Nat) : Int)) (hb : bodySeal 256 f = false) :
    Calls Tryd.prog 18 #[.slice (some ⟨b, off, none⟩) 256 256] w fun e w' => e = .returned (MC (fun _ => 0) none 0 0 12) ∧ Below w.heap.size w w' := by
  have LL : Hid (Lies w b off 256 f) := hL
  have HC : Hid (headCode f = 0) := hc
  have hv : headVal f = hdrF f := by unfold headVal; rw [if_pos hc]
  generalize hdrF f = h at hv hs
  have HV : Hid (headVal f = h) := hv
  clear hc hv
  have s0 : h 2 = 0 := by rw [hs]; rfl
  clear hs
  have HTX : Hid (((txtN 16 (sealF 0 (fun j => f (256 + j)))).toList == (txtN 16 (fun j => f (16 + j))).toList) = false) := by
    show _ = false
    rw [bytes_beq]
    exact txt_ne (fun j hj => LL.out.2.1 (16 + j) (by omega)) hb
  clear hb
  clear hL
  go_enter Tryd.func18, Tryd.ntmps18
  go_wp2_with (first
    | (refine wpList_alloc_rec rfl 29 rfl (msg (fun _ => 0) none 0 0) w.heap.size rfl zeroMsg ?_; intro W1 hR1 hB1 hz1
       have L1 : Hid (Lies W1 b off 256 f) := LL.out.below hB1
       have L1' : Hid (Lies W1 b off 256 f) := (L1.out.part 0 256 (by omega)).zero
       have R1 : Hid (Rec19 W1 w.heap.size 0 (msg (fun _ => 0) none 0 0)) := hR1
       have B1 : Hid (Below w.heap.size w W1) := hB1
       clear hR1 hB1 hz1)
    | (go_at_call 20; refine (nhead_any b off 256 f _ L1'.out (by omega)).mono ?_; rintro e W2 ⟨rfl, hB2⟩; rw [HV.out, HC.out]
       have R2 : Hid (Rec19 W2 w.heap.size 0 (msg (fun _ => 0) none 0 0)) := R1.out.below hB2
       have L2 : Hid (Lies W2 b off 256 f) := L1.out.below hB2
       have B2 : Hid (Below w.heap.size w W2) := B1.out.trans (hB2.mono B1.out.size)
       clear hB2)
    | (refine wpList_alloc_rec rfl 26 rfl (hcs fun _ => 0) W2.heap.size rfl zeroHdr ?_; intro W3 hR3 hB3 hz3)
    | (refine wpList_store_rec rfl 26 (.tmp 4) (.tmp 16) rfl W2.heap.size 0 _ (hcs h) rfl rfl hR3 rfl (by kernel_rfl) (hcs_one _) ?_; intro W4 hR4 hB4
       have F4 : Below W2.heap.size W2 W4 := hB3.trans (hB4.below (Nat.le_refl _) (by omega))
       have R4 : Hid (Rec19 W4 w.heap.size 0 (msg (fun _ => 0) none 0 0)) := R2.out.below F4
       have L4 : Hid (Lies W4 b off 256 f) := L2.out.below F4
       have B4 : Hid (Below w.heap.size w W4) := B2.out.trans (F4.mono B2.out.size)
       have H4 : Hid (Rec19 W4 W2.heap.size 0 (hcs h)) := hR4
       have c2 : W4.cell? ⟨W2.heap.size, 2, none⟩ = some (.int .i64 (h 2)) := (hR4.at 2 _ rfl).1
       have N4 : Hid (w.heap.size < W2.heap.size) := R2.out.2.2
       clear F4 hR3 hB3 hz3 hB4 hR4 R2 L2 B2)
    | (go_at_call 31; refine (hsum_any (some ⟨b, off, none⟩) 0 0 (fun j => f (256 + j)) _ (.inl ⟨rfl, .inr ⟨_, rfl⟩⟩ : Arg _ _ 0 _) (by omega)).mono ?_; rintro e W5 ⟨rfl, hB5⟩
       have R5 : Hid (Rec19 W5 w.heap.size 0 (msg (fun _ => 0) none 0 0)) := R4.out.below hB5
       have L5 : Hid (Lies W5 b off 256 f) := L4.out.below hB5
       have B5 : Hid (Below w.heap.size w W5) := B4.out.trans (hB5.mono B4.out.size)
       have H5 : Hid (Rec19 W5 W2.heap.size 0 (hcs h)) := H4.out.below hB5
       clear hB5 R4 L4 B4 H4 c2)
    | (refine wpList_alloc_row rfl 58 rfl .u8 16 W5.heap.size rfl zero8_16 ?_; intro X1 QX BX zX)
    | (refine wpList_store_row rfl 58 (.tmp 7) (.tmp 31) rfl W5.heap.size .u8 16 (sealF 0 (fun j => f (256 + j))) (fun _ => 0) rfl rfl QX (by kernel_rfl) ?_; intro X2 QY BY zY))
  have K2 : Below W5.heap.size W5 X2 := BX.trans (BY.below (Nat.le_refl _) (by omega))
  have R6 : Hid (Rec19 X2.drew w.heap.size 0 (msg (fun _ => 0) none 0 0)) := R5.out.below K2.drew
  have L6 : Hid (Lies X2.drew b off 256 f) := L5.out.below K2.drew
  have B6 : Hid (Below w.heap.size w X2.drew) := B5.out.trans (K2.drew.mono B5.out.size)
  have H6 : Hid (Rec19 X2.drew W2.heap.size 0 (hcs h)) := H5.out.below K2.drew
  obtain ⟨S, hS⟩ : ∃ S, sealF 0 (fun j => f (256 + j)) = S := ⟨_, rfl⟩
  have SB : ∀ j, j < 16 → 0 ≤ S j ∧ S j < 256 := fun j _ => by rw [← hS]; exact sealF_byte _ _ j
  rw [hS] at QY
  have htx : ((txtN 16 S).toList == (txtN 16 (fun j => f (16 + j))).toList) = false := by
    rw [← hS]
    exact HTX.out
  have hh' : (convert 27 9 (.slice (some ⟨W5.heap.size, 0, none⟩) 16 16)).run Tryd.prog X2.drew = .ok (.string (txtN 16 S)) X2.drew ∧ (convert 27 9 (.slice (some ⟨b, off + 16, none⟩) 16 240)).run Tryd.prog X2.drew = .ok (.string (txtN 16 (fun j => f (16 + j)))) X2.drew :=
    ⟨conv_arg _ _ 16 16 S (Arg.of (QY.drew.lies SB)), conv_arg _ _ 16 240 _ (Arg.part L6.out 16 16 (by omega))⟩
  clear QX BX zX QY BY zY K2 SB R5 L5 B5 H5
  rw [hS]
  clear hS
  refine wp_region_noPanic ?_
  refine wp_region_held_drew (S := fun W' => (convert 27 9 (.slice (some ⟨W5.heap.size, 0, none⟩) 16 16)).run Tryd.prog W' = .ok (.string (txtN 16 S)) W' ∧ (convert 27 9 (.slice (some ⟨b, off + 16, none⟩) 16 240)).run Tryd.prog W' = .ok (.string (txtN 16 (fun j => f (16 + j)))) W') (by kernel_rfl) ?_ (fun hHeld => ?_)
  · exact hh'
  refine take_at (i := 0) (v := ?_) (some 32) rfl rfl (by kernel_rfl) (by kernel_rfl) (by kernel_rfl) (fun _ _ _ h => h) (Or.inl ⟨by rfl, ?_⟩) (by assumption) ?_
  rotate_left
  · (intro w hSw; (try dsimp only at hSw); go_simp; try with_reducible rfl)
  simp only [Act.put, List.setIfInBounds_toArray, List.set_cons_zero, List.set_cons_succ]
  refine take_at (i := 1) (v := ?_) (some 33) rfl rfl (by kernel_rfl) (by kernel_rfl) (by kernel_rfl) (fun _ _ _ h => h) (Or.inl ⟨by rfl, ?_⟩) (by assumption) ?_
  rotate_left
  · (intro w hSw; (try dsimp only at hSw); go_simp; try with_reducible rfl)
  simp only [Act.put, List.setIfInBounds_toArray, List.set_cons_zero, List.set_cons_succ]
  refine take_at (i := 2) (v := ?_) (some 34) rfl rfl (by kernel_rfl) (by kernel_rfl) (by kernel_rfl) (fun _ _ _ h => h) (Or.inl ⟨by rfl, ?_⟩) (by assumption) ?_
  rotate_left
  · (intro w hSw; (try dsimp only at hSw); go_simp; try with_reducible rfl)
  simp only [Act.put, List.setIfInBounds_toArray, List.set_cons_zero, List.set_cons_succ]
  refine take_at (i := 3) (v := ?_) (some 35) rfl rfl (by kernel_rfl) (by kernel_rfl) (by kernel_rfl) (fun _ _ _ h => h) (Or.inl ⟨by rfl, ?_⟩) (by assumption) ?_
  rotate_left
  · (intro w hSw; (try dsimp only at hSw); go_simp; try with_reducible rfl)
  simp only [Act.put, List.setIfInBounds_toArray, List.set_cons_zero, List.set_cons_succ]
  refine take_at (i := 4) (v := ?_) (some 36) rfl rfl (by kernel_rfl) (by kernel_rfl) (by kernel_rfl) (fun _ _ _ h => h) (Or.inl ⟨by rfl, ?_⟩) (by assumption) ?_
  rotate_left
  · (intro w hSw; (try dsimp only at hSw); go_simp; try with_reducible rfl)
  simp only [Act.put, List.setIfInBounds_toArray, List.set_cons_zero, List.set_cons_succ]
  refine take_at (i := 5) (v := ?_) (some 37) rfl rfl (by kernel_rfl) (by kernel_rfl) (by kernel_rfl) (fun _ _ _ h => h) (Or.inl ⟨by rfl, ?_⟩) (by assumption) ?_
  rotate_left
  · (intro w hSw; (try dsimp only at hSw); go_simp; try with_reducible rfl)
  simp only [Act.put, List.setIfInBounds_toArray, List.set_cons_zero, List.set_cons_succ]
  refine wpAnyH_done (by kernel_rfl) ?_ _
  refine NoPanic.normal ?_
  clear hHeld hh'
  generalize X2.drew = X3 at R6 L6 B6 H6 ⊢
  go_wp2_with (first
    | (refine wpList_build_to rfl 29 _ rfl (msg (fun _ => 0) none 0 0).toArray (by kernel_rfl) ?_)
    | (refine wpList_store_rec rfl 29 (.tmp 2) (.tmp 38) rfl w.heap.size 0 _ (msg (fun _ => 0) none 0 0) rfl rfl R6.out rfl (by kernel_rfl) (msg_one _ _ _ _) ?_; intro W9 hR9 hB9))
  have hl := hR9.run_load 29 _ Tryd.underlying29 rfl (by kernel_rfl)
  refine bodyPost_ret (v := MC (fun _ => 0) none 0 0 12) (by simp [results, Tryd.results18, asAddr, hl]) rfl ⟨rfl, ?_⟩
  exact B6.out.trans (hB9.below (Nat.le_refl _) B6.out.size)
set_option maxRecDepth 100000 in
set_option maxHeartbeats 400000 in
theorem nopen_ok_end (b off : Nat) (f : Nat → Int) (w : World) (hL : Lies w b off 256 f) (hc : headCode f = 0) (hs : hdrF f 2 = ((256 - 256 : Nat) : Int)) (hb : bodySeal 256 f = true) :
    Calls Tryd.prog 18 #[.slice (some ⟨b, off, none⟩) 256 256] w fun e w' => ∃ a' cap, e = .returned (MC (hdrF f) a' (256 - 256) cap 0) ∧ Arg w' a' (256 - 256) (fun j => f (256 + j)) ∧ Below w.heap.size w w' := by
  have LL : Hid (Lies w b off 256 f) := hL
  have HC : Hid (headCode f = 0) := hc
  have hv : headVal f = hdrF f := by unfold headVal; rw [if_pos hc]
  generalize hdrF f = h at hv hs ⊢
  have HV : Hid (headVal f = h) := hv
  clear hc hv
  have s0 : h 2 = 0 := by rw [hs]; rfl
  clear hs
  have HTX : Hid (((txtN 16 (sealF 0 (fun j => f (256 + j)))).toList == (txtN 16 (fun j => f (16 + j))).toList) = true) := by
    show _ = true
    rw [bytes_beq]
    exact decide_eq_true (txtN_congr 16 _ _ ((eqN_iff _ _ _).1 hb))
  clear hb
  clear hL
  go_enter Tryd.func18, Tryd.ntmps18
  go_wp2_with (first
    | (refine wpList_alloc_rec rfl 29 rfl (msg (fun _ => 0) none 0 0) w.heap.size rfl zeroMsg ?_; intro W1 hR1 hB1 hz1
       have L1 : Hid (Lies W1 b off 256 f) := LL.out.below hB1
       have L1' : Hid (Lies W1 b off 256 f) := (L1.out.part 0 256 (by omega)).zero
       have R1 : Hid (Rec19 W1 w.heap.size 0 (msg (fun _ => 0) none 0 0)) := hR1
       have B1 : Hid (Below w.heap.size w W1) := hB1
       clear hR1 hB1 hz1)
    | (go_at_call 20; refine (nhead_any b off 256 f _ L1'.out (by omega)).mono ?_; rintro e W2 ⟨rfl, hB2⟩; rw [HV.out, HC.out]
       have R2 : Hid (Rec19 W2 w.heap.size 0 (msg (fun _ => 0) none 0 0)) := R1.out.below hB2
       have L2 : Hid (Lies W2 b off 256 f) := L1.out.below hB2
       have B2 : Hid (Below w.heap.size w W2) := B1.out.trans (hB2.mono B1.out.size)
       clear hB2)
    | (refine wpList_alloc_rec rfl 26 rfl (hcs fun _ => 0) W2.heap.size rfl zeroHdr ?_; intro W3 hR3 hB3 hz3)
    | (refine wpList_store_rec rfl 26 (.tmp 4) (.tmp 16) rfl W2.heap.size 0 _ (hcs h) rfl rfl hR3 rfl (by kernel_rfl) (hcs_one _) ?_; intro W4 hR4 hB4
       have F4 : Below W2.heap.size W2 W4 := hB3.trans (hB4.below (Nat.le_refl _) (by omega))
       have R4 : Hid (Rec19 W4 w.heap.size 0 (msg (fun _ => 0) none 0 0)) := R2.out.below F4
       have L4 : Hid (Lies W4 b off 256 f) := L2.out.below F4
       have B4 : Hid (Below w.heap.size w W4) := B2.out.trans (F4.mono B2.out.size)
       have H4 : Hid (Rec19 W4 W2.heap.size 0 (hcs h)) := hR4
       have c2 : W4.cell? ⟨W2.heap.size, 2, none⟩ = some (.int .i64 (h 2)) := (hR4.at 2 _ rfl).1
       have N4 : Hid (w.heap.size < W2.heap.size) := R2.out.2.2
       clear F4 hR3 hB3 hz3 hB4 hR4 R2 L2 B2)
    | (go_at_call 31; refine (hsum_any (some ⟨b, off, none⟩) 0 0 (fun j => f (256 + j)) _ (.inl ⟨rfl, .inr ⟨_, rfl⟩⟩ : Arg _ _ 0 _) (by omega)).mono ?_; rintro e W5 ⟨rfl, hB5⟩
       have R5 : Hid (Rec19 W5 w.heap.size 0 (msg (fun _ => 0) none 0 0)) := R4.out.below hB5
       have L5 : Hid (Lies W5 b off 256 f) := L4.out.below hB5
       have B5 : Hid (Below w.heap.size w W5) := B4.out.trans (hB5.mono B4.out.size)
       have H5 : Hid (Rec19 W5 W2.heap.size 0 (hcs h)) := H4.out.below hB5
       clear hB5 R4 L4 B4 H4 c2)
    | (refine wpList_alloc_row rfl 58 rfl .u8 16 W5.heap.size rfl zero8_16 ?_; intro X1 QX BX zX)
    | (refine wpList_store_row rfl 58 (.tmp 7) (.tmp 31) rfl W5.heap.size .u8 16 (sealF 0 (fun j => f (256 + j))) (fun _ => 0) rfl rfl QX (by kernel_rfl) ?_; intro X2 QY BY zY))
  have K2 : Below W5.heap.size W5 X2 := BX.trans (BY.below (Nat.le_refl _) (by omega))
  have R6 : Hid (Rec19 X2.drew w.heap.size 0 (msg (fun _ => 0) none 0 0)) := R5.out.below K2.drew
  have L6 : Hid (Lies X2.drew b off 256 f) := L5.out.below K2.drew
  have B6 : Hid (Below w.heap.size w X2.drew) := B5.out.trans (K2.drew.mono B5.out.size)
  have H6 : Hid (Rec19 X2.drew W2.heap.size 0 (hcs h)) := H5.out.below K2.drew
  obtain ⟨S, hS⟩ : ∃ S, sealF 0 (fun j => f (256 + j)) = S := ⟨_, rfl⟩
  have SB : ∀ j, j < 16 → 0 ≤ S j ∧ S j < 256 := fun j _ => by rw [← hS]; exact sealF_byte _ _ j
  rw [hS] at QY
  have htx : ((txtN 16 S).toList == (txtN 16 (fun j => f (16 + j))).toList) = true := by
    rw [← hS]
    exact HTX.out
  have hh' : (convert 27 9 (.slice (some ⟨W5.heap.size, 0, none⟩) 16 16)).run Tryd.prog X2.drew = .ok (.string (txtN 16 S)) X2.drew ∧ (convert 27 9 (.slice (some ⟨b, off + 16, none⟩) 16 240)).run Tryd.prog X2.drew = .ok (.string (txtN 16 (fun j => f (16 + j)))) X2.drew :=
    ⟨conv_arg _ _ 16 16 S (Arg.of (QY.drew.lies SB)), conv_arg _ _ 16 240 _ (Arg.part L6.out 16 16 (by omega))⟩
  clear QX BX zX QY BY zY K2 SB R5 L5 B5 H5
  rw [hS]
  clear hS
  refine wp_region_noPanic ?_
  refine wp_region_held_drew (S := fun W' => (convert 27 9 (.slice (some ⟨W5.heap.size, 0, none⟩) 16 16)).run Tryd.prog W' = .ok (.string (txtN 16 S)) W' ∧ (convert 27 9 (.slice (some ⟨b, off + 16, none⟩) 16 240)).run Tryd.prog W' = .ok (.string (txtN 16 (fun j => f (16 + j)))) W') (by kernel_rfl) ?_ (fun hHeld => ?_)
  · exact hh'
  refine take_at (i := 0) (v := ?_) (some 32) rfl rfl (by kernel_rfl) (by kernel_rfl) (by kernel_rfl) (fun _ _ _ h => h) (Or.inl ⟨by rfl, ?_⟩) (by assumption) ?_
  rotate_left
  · (intro w hSw; (try dsimp only at hSw); go_simp; try with_reducible rfl)
  simp only [Act.put, List.setIfInBounds_toArray, List.set_cons_zero, List.set_cons_succ]
  refine take_at (i := 1) (v := ?_) (some 33) rfl rfl (by kernel_rfl) (by kernel_rfl) (by kernel_rfl) (fun _ _ _ h => h) (Or.inl ⟨by rfl, ?_⟩) (by assumption) ?_
  rotate_left
  · (intro w hSw; (try dsimp only at hSw); go_simp; try with_reducible rfl)
  simp only [Act.put, List.setIfInBounds_toArray, List.set_cons_zero, List.set_cons_succ]
  refine take_at (i := 2) (v := ?_) (some 34) rfl rfl (by kernel_rfl) (by kernel_rfl) (by kernel_rfl) (fun _ _ _ h => h) (Or.inl ⟨by rfl, ?_⟩) (by assumption) ?_
  rotate_left
  · (intro w hSw; (try dsimp only at hSw); go_simp; try with_reducible rfl)
  simp only [Act.put, List.setIfInBounds_toArray, List.set_cons_zero, List.set_cons_succ]
  refine take_at (i := 3) (v := ?_) (some 35) rfl rfl (by kernel_rfl) (by kernel_rfl) (by kernel_rfl) (fun _ _ _ h => h) (Or.inl ⟨by rfl, ?_⟩) (by assumption) ?_
  rotate_left
  · (intro w hSw; (try dsimp only at hSw); go_simp; try with_reducible rfl)
  simp only [Act.put, List.setIfInBounds_toArray, List.set_cons_zero, List.set_cons_succ]
  refine take_at (i := 4) (v := ?_) (some 36) rfl rfl (by kernel_rfl) (by kernel_rfl) (by kernel_rfl) (fun _ _ _ h => h) (Or.inl ⟨by rfl, ?_⟩) (by assumption) ?_
  rotate_left
  · (intro w hSw; (try dsimp only at hSw); go_simp; try with_reducible rfl)
  simp only [Act.put, List.setIfInBounds_toArray, List.set_cons_zero, List.set_cons_succ]
  refine take_at (i := 5) (v := ?_) (some 37) rfl rfl (by kernel_rfl) (by kernel_rfl) (by kernel_rfl) (fun _ _ _ h => h) (Or.inl ⟨by rfl, ?_⟩) (by assumption) ?_
  rotate_left
  · (intro w hSw; (try dsimp only at hSw); go_simp; try with_reducible rfl)
  simp only [Act.put, List.setIfInBounds_toArray, List.set_cons_zero, List.set_cons_succ]
  refine wpAnyH_done (by kernel_rfl) ?_ _
  refine NoPanic.normal ?_
  clear hHeld hh'
  generalize X2.drew = X3 at R6 L6 B6 H6 ⊢
  go_wp2_with fail
  have S3 : noS w W2.heap.size h (some ⟨b, off, none⟩) 0 (fun j => f (256 + j)) X3.drew := ⟨H6.out, R6.out, (.inl ⟨rfl, .inr ⟨_, rfl⟩⟩ : Arg _ _ 0 _), B6.out.drew⟩
  refine wp_region_noPanic ?_
  refine wp_region_held_drew (S := fun W => W.rangeAt W2.heap.size 0 (hcs h) ∧ True) (by kernel_rfl) ?_ (fun hHeld => ?_)
  · exact ⟨S3.1.1, trivial⟩
  refine take_at (i := 0) (v := _) (some 39) rfl rfl (by kernel_rfl) (by kernel_rfl) (by kernel_rfl) (fun _ _ _ h => h) (yieldsIf_load_mid (by rfl) _ _ rfl _ _ rfl _ _ (fun _ h => h.1) Tryd.underlying26 rfl (by kernel_rfl)) (by assumption) ?_
  simp only [Act.put, List.setIfInBounds_toArray, List.set_cons_zero, List.set_cons_succ]
  refine take_at (i := 2) (v := ?_) (some 41) rfl rfl (by kernel_rfl) (by kernel_rfl) (by kernel_rfl) (fun _ _ _ h => h) (Or.inl ⟨by rfl, ?_⟩) (by assumption) ?_
  rotate_left
  · (intro w hSw; (try dsimp only at hSw); go_simp; try with_reducible rfl)
  simp only [Act.put, List.setIfInBounds_toArray, List.set_cons_zero, List.set_cons_succ]
  have S4 := S3.below ((Below.refl X3.drew.heap.size X3.drew).alloc (Nat.le_refl _) (.cells #[] 5))
  refine step_at (i := 1) (some 40) rfl rfl (by rfl) (by kernel_rfl) _ _ (bslice_run rfl) ⟨S4.1.1, trivial⟩ (fun hHeld => ?_)
  simp only [Act.put, List.setIfInBounds_toArray, List.set_cons_zero, List.set_cons_succ]
  obtain ⟨v8, W8, hr8, hO8, hB8⟩ := app_arg 27 (X3.drew.alloc (.cells #[] 5)) X3.drew.heap.size 0 0 0 _ (some ⟨b, off, none⟩) (fun _ => 0) (fun j => f (256 + j)) (own0 X3.drew _ (Nat.le_refl _)) S4.2.2.1 (by omega) (by simp)
  rw [Nat.zero_add] at hO8
  obtain ⟨a8, cap8, rfl, hA8, hP8⟩ := (hO8.congr (G := fun j => f (256 + j)) (fun j _ => by unfold cat; rw [if_neg (by omega), Nat.sub_zero])).slice S4.2.2.1.bytes
  have S8 := S3.below (((Below.refl X3.drew.heap.size X3.drew).alloc (Nat.le_refl _) _).trans hB8)
  refine step_at (i := 3) (some 42) rfl rfl (by rfl) (by kernel_rfl) (.slice a8 0 cap8) W8 (append_run (.tmp 40) (.tmp 41) 27 27 rfl _ _ rfl rfl hr8) ⟨S8.1.1, trivial⟩ (fun hHeld => ?_)
  simp only [Act.put, List.setIfInBounds_toArray, List.set_cons_zero, List.set_cons_succ]
  refine take_at (i := 4) (v := (.agg (msg h a8 0 cap8).toArray)) (some 43) rfl rfl (by kernel_rfl) (by kernel_rfl) (by kernel_rfl) (fun _ _ _ h => h) (Or.inl ⟨by rfl, fun w _ => (build_run 29 _ rfl (msg h a8 0 cap8).toArray (by kernel_rfl))⟩) (by assumption) ?_
  simp only [Act.put, List.setIfInBounds_toArray, List.set_cons_zero, List.set_cons_succ]
  refine wpAnyH_ready (rs := [5]) (by kernel_rfl) (by simp) ?_
  refine all_store_rec (i := 5) none 29 (.tmp 2) (.tmp 43) rfl rfl rfl (by rfl) w.heap.size (msg (fun _ => 0) none 0 0) (msg h a8 0 cap8) rfl rfl S8.2.1 rfl (by kernel_rfl) (msg_one _ _ _ _) ?_ AllReadyH.nil
  intro W9 R9 B9
  have A9 : Arg W9 a8 0 (fun j => f (256 + j)) := hA8.but B9 (fun p hp => by have := hP8 p hp; have := S3.2.1.2.2; omega)
  have E9 : Below w.heap.size w W9 := S8.2.2.2.trans (B9.below (Nat.le_refl _) S8.2.2.2.size)
  refine ⟨?_, fun hHeld => ?_⟩
  · exact ⟨(S8.1.but B9 (by have := N4.out; omega)).1, trivial⟩
  simp only [Act.put]
  refine take_at (i := 6) (v := ?_) (some 3) rfl rfl (by kernel_rfl) (by kernel_rfl) (by kernel_rfl) (fun _ _ _ h => h) (Or.inl ⟨by rfl, ?_⟩) (by assumption) ?_
  rotate_left
  · (intro w hSw; (try dsimp only at hSw); go_simp; try with_reducible rfl)
  simp only [Act.put, List.setIfInBounds_toArray, List.set_cons_zero, List.set_cons_succ]
  refine wpAnyH_done (by kernel_rfl) ?_ _
  refine NoPanic.normal ?_
  go_wp2_with fail
  have hl := R9.run_load 29 _ Tryd.underlying29 rfl (by kernel_rfl)
  refine bodyPost_ret (v := MC h a8 0 cap8 0) (by simp [results, Tryd.results18, asAddr, hl]) rfl ⟨a8, cap8, rfl, A9, E9⟩
theorem nopen_ok (a : Option Addr) (n C : Nat) (f : Nat → Int) (w : World) (hA : Arg w a n f) (hC : n ≤ C) (hm : n ≤ 900000) (hc : openCode n f = 0) :
    Calls Tryd.prog 18 #[.slice a n C] w fun e w' => ∃ a' cap, e = .returned (MC (hdrF f) a' (n - 256) cap 0) ∧ Arg w' a' (n - 256) (fun j => f (256 + j)) ∧ Below w.heap.size w w' := by
  obtain ⟨hn, h1, h2, h3⟩ := openCode_zero hc
  rcases hA with ⟨h, _⟩ | ⟨_, b, off, rfl, hl⟩
  · omega
  by_cases e : C = 256
  · subst e
    obtain rfl : n = 256 := by omega
    exact nopen_ok_end b off f w hl h1 h2 h3
  · exact nopen_ok_mid b off n C f w hl hn hC e hm h1 h2 h3
theorem nopen_no (a : Option Addr) (n C : Nat) (f : Nat → Int) (w : World) (hA : Arg w a n f) (hC : n ≤ C) (hm : n ≤ 900000) (hc : openCode n f ≠ 0) :
    Calls Tryd.prog 18 #[.slice a n C] w fun e w' => e = .returned (MC (fun _ => 0) none 0 0 (openCode n f)) ∧ Below w.heap.size w w' := by
  by_cases hn : n < 256
  · rw [show openCode n f = 4 from by unfold openCode; rw [if_pos hn]]
    exact nopen_few a n C w hn
  rcases hA with ⟨h, _⟩ | ⟨_, b, off, rfl, hl⟩
  · omega
  by_cases h1 : headCode f = 0
  · by_cases h2 : hdrF f 2 = ((n - 256 : Nat) : Int)
    · have h3 : bodySeal n f = false := by
        cases h3 : bodySeal n f with
        | false => rfl
        | true => exact absurd (by unfold openCode; rw [if_neg hn, if_neg (by rw [h1]; simp), if_neg (by rw [h2]; simp), h3]; rfl) hc
      rw [show openCode n f = 12 from by unfold openCode; rw [if_neg hn, if_neg (by rw [h1]; simp), if_neg (by rw [h2]; simp), if_pos h3]]
      by_cases e : C = 256
      · subst e
        obtain rfl : n = 256 := by omega
        exact nopen_seal_end b off f w hl h1 h2 h3
      · exact nopen_seal_mid b off n C f w hl (by omega) hC e hm h1 h2 h3
    · rw [show openCode n f = 4 from by unfold openCode; rw [if_neg hn, if_neg (by rw [h1]; simp), if_pos h2]]
      by_cases e : C = 256
      · subst e
        obtain rfl : n = 256 := by omega
        exact nopen_size_end b off f w hl h1 h2
      · exact nopen_size_mid b off n C f w hl (by omega) hC e hm h1 h2
  · rw [show openCode n f = headCode f from by unfold openCode; rw [if_neg hn, if_pos h1]]
    exact nopen_head b off n C f w hl (by omega) hC (headCode f) rfl h1
theorem lent_arg {w : World} {g n : Nat} {f : Nat → Int} (h : IRow w g .u8 (n + 3) (lentF n f 3)) (hf : ∀ j, j < n → 0 ≤ f j ∧ f j < 256) : Arg w (some ⟨g, 0, none⟩) n f :=
  Arg.of ⟨fun j hj => by rw [Nat.zero_add, h.1 j (by omega), lentF_low _ _ _ _ hj], hf, h.2.2⟩
/-- What stays while the law goes on. -/
def opS (w : World) (g : Nat) (a : Option Addr) (n : Nat) (f : Nat → Int) (W : World) : Prop := IRow W g .u8 (n + 3) (lentF n f 3) ∧ Arg W a n f ∧ Tab W ∧ Below w.heap.size w W
theorem opS.below {w : World} {g : Nat} {a : Option Addr} {n : Nat} {f : Nat → Int} {W W' : World} (s : opS w g a n f W) (hB : Below W.heap.size W W') : opS w g a n f W' :=
  ⟨s.1.below hB, s.2.1.below hB, s.2.2.1.below hB s.2.2.1.2, s.2.2.2.trans (hB.mono s.2.2.2.size)⟩
/-- The program's Head and the reference's answer the same. -/
theorem head_both (a : Option Addr) (n C : Nat) (f : Nat → Int) (hC : n ≤ C) : ∃ (hv : Nat → Int) (hc : Int),
    (∀ (g : Nat) (W : World), Tab W → Arg W (some ⟨g, 0, none⟩) n f → Calls Tryd.prog 19 #[.slice (some ⟨g, 0, none⟩) n (n + 3)] W fun e w' => e = .returned (HE hv hc) ∧ Below W.heap.size W w') ∧
    (∀ W : World, Arg W a n f → Calls Tryd.prog 20 #[.slice a n C] W fun e w' => e = .returned (HE hv hc) ∧ Below W.heap.size W w') := by
  by_cases e : n = 256
  · subst e
    refine ⟨headVal f, headCode f, fun g W hT hA => ?_, fun W hA => ?_⟩
    · rcases hA with ⟨h, _⟩ | ⟨_, b, off, hb, hl⟩
      · omega
      · injection hb with hb
        injection hb with h1 h2
        subst h1 h2
        exact head_any _ _ (256 + 3) f W hT hl (by omega)
    · rcases hA with ⟨h, _⟩ | ⟨_, b, off, rfl, hl⟩
      · omega
      · exact nhead_any b off C f W hl hC
  · exact ⟨fun _ => 0, 4, fun g W _ _ => head_len _ n _ W e, fun W _ => nhead_len a n C W e⟩
set_option maxRecDepth 100000 in
set_option maxHeartbeats 1000000 in
theorem opens_far (a : Option Addr) (n C : Nat) (w : World) (hn : 3000 < n) : Calls Tryd.prog 4 #[.slice a n C] w fun e w' => e = .returned (.bool true) ∧ Below w.heap.size w w' := by
  have e1 : (3000 : Int) < n := by omega
  go_enter Tryd.func4, Tryd.ntmps4
  go_wp2
  go_ret
  exact ⟨rfl, Below.refl _ _⟩
set_option maxRecDepth 100000 in
set_option maxHeartbeats 1000000 in
theorem opens_ok (a : Option Addr) (n C : Nat) (f : Nat → Int) (w : World) (hT : Tab w) (hA : Arg w a n f) (hC : n ≤ C) (hn : n ≤ 3000) (hc : openCode n f = 0) : Calls Tryd.prog 4 #[.slice a n C] w fun e w' => e = .returned (.bool true) ∧ Below w.heap.size w w' := by
  have hT0 := hT.2
  have TT : Hid (Tab w) := hT
  have HA : Hid (Arg w a n f) := hA
  have HC : Hid (openCode n f = 0) := hc
  obtain ⟨hh, hhe⟩ : ∃ x, hdrF f = x := ⟨_, rfl⟩
  have HH : Hid (hdrF f = hh) := hhe
  have LN : Hid (256 ≤ n) := (openCode_zero hc).1
  clear hc hhe
  clear hT hA
  obtain ⟨hv, hc, PH, RH⟩ := head_both a n C f hC
  have PH' : Hid (∀ (g : Nat) (W : World), Tab W → Arg W (some ⟨g, 0, none⟩) n f → Calls Tryd.prog 19 #[.slice (some ⟨g, 0, none⟩) n (n + 3)] W fun e w' => e = .returned (HE hv hc) ∧ Below W.heap.size W w') := PH
  have RH' : Hid (∀ W : World, Arg W a n f → Calls Tryd.prog 20 #[.slice a n C] W fun e w' => e = .returned (HE hv hc) ∧ Below W.heap.size W w') := RH
  clear PH RH
  have e1 : ¬ (3000 : Int) < n := by omega
  go_enter Tryd.func4, Tryd.ntmps4
  go_wp2_with (first
    | (go_at_call 8; refine (lent_any a n C f _ HA.out (by omega)).mono ?_; rintro e W1 ⟨g, rfl, hg, G1, hB1⟩
       have S1 : Hid (opS w g a n f W1) := ⟨G1, HA.out.below hB1, TT.out.below hB1 hT0, hB1⟩
       have HG : Hid (w.heap.size ≤ g) := hg
       clear hg G1 hB1)
    | (go_at_call 17; refine (mopen_ok (some ⟨g, 0, none⟩) n (n + 3) f _ S1.out.2.2.1 (lent_arg S1.out.1 HA.out.bytes) (by omega) (by omega) HC.out).mono ?_; rintro e W2 ⟨gx, rfl, hgx, hX, hB2⟩; rw [HH.out]
       have X2 : Hid (Lst.ok w.heap.size W2 ⟨some ⟨gx, 0, none⟩, (n - 256), (n - 256)⟩ (fun j => f (256 + j))) := ⟨Nat.le_refl _, by show n - 256 ≤ 1000000; omega, fun j hj => HA.out.bytes _ (by have : j < n - 256 := hj; omega), .inr ⟨gx, rfl, by have := S1.out.2.2.2.size; omega, hX⟩⟩
       have D2 : Hid (g ≠ gx) := by have := S1.out.1.2.2; show g ≠ gx; omega
       have S2 : Hid (opS w g a n f W2) := S1.out.below hB2
       clear hB2 S1 hgx hX)
    | (have _q := X2; clear _q; refine wpList_alloc_rec rfl 29 rfl (msg (fun _ => 0) none 0 0) W2.heap.size rfl zeroMsg ?_; intro W3 R3 B3 z3)
    | (have _q := X2; clear _q; refine wpList_store_rec rfl 29 (.tmp 4) (.tmp 20) rfl W2.heap.size 0 _ (msg hh (some ⟨gx, 0, none⟩) (n - 256) (n - 256)) rfl rfl R3 rfl (by kernel_rfl) (msg_one _ _ _ _) ?_; intro W4 R4 B4
       have F4 : Below W2.heap.size W2 W4 := B3.trans (B4.below (Nat.le_refl _) (by omega))
       have S4 : Hid (opS w g a n f W4) := S2.out.below F4
       have X4 : Hid (Lst.ok w.heap.size W4 ⟨some ⟨gx, 0, none⟩, (n - 256), (n - 256)⟩ (fun j => f (256 + j))) := X2.out.below F4
       obtain ⟨X, hX⟩ : ∃ X, W2.heap.size = X := ⟨_, rfl⟩
       rw [hX] at R4 ⊢
       have P4 : Hid (Rec19 W4 X 0 (msg hh (some ⟨gx, 0, none⟩) (n - 256) (n - 256))) := R4
       clear F4 R3 B3 z3 R4 B4 S2 X2 hX)
    | (go_at_call 18; refine (nopen_ok a n C f _ S4.out.2.1 hC (by omega) HC.out).mono ?_; rintro e W5 ⟨ay, capy, rfl, hY, hB5⟩; rw [HH.out]
       have Y5 : Hid (Arg W5 ay (n - 256) (fun j => f (256 + j))) := hY
       clear hY
       have S5 : Hid (opS w g a n f W5) := S4.out.below hB5
       have X5 : Hid (Lst.ok w.heap.size W5 ⟨some ⟨gx, 0, none⟩, (n - 256), (n - 256)⟩ (fun j => f (256 + j))) := X4.out.below hB5
       have P5 : Hid (Rec19 W5 X 0 (msg hh (some ⟨gx, 0, none⟩) (n - 256) (n - 256))) := P4.out.below hB5
       clear hB5 S4 X4 P4)
    | (have _q := X5; clear _q; refine wpList_alloc_rec rfl 29 rfl (msg (fun _ => 0) none 0 0) W5.heap.size rfl zeroMsg ?_; intro W6 R6 B6 z6)
    | (have _q := X5; clear _q; refine wpList_store_rec rfl 29 (.tmp 6) (.tmp 25) rfl W5.heap.size 0 _ (msg hh ay (n - 256) capy) rfl rfl R6 rfl (by kernel_rfl) (msg_one _ _ _ _) ?_; intro W7 R7 B7
       have F7 : Below W5.heap.size W5 W7 := B6.trans (B7.below (Nat.le_refl _) (by omega))
       have S7 : Hid (opS w g a n f W7) := S5.out.below F7
       have X7 : Hid (Lst.ok w.heap.size W7 ⟨some ⟨gx, 0, none⟩, (n - 256), (n - 256)⟩ (fun j => f (256 + j))) := X5.out.below F7
       have P7 : Hid (Rec19 W7 X 0 (msg hh (some ⟨gx, 0, none⟩) (n - 256) (n - 256))) := P5.out.below F7
       have Y7 : Hid (Arg W7 ay (n - 256) (fun j => f (256 + j))) := Y5.out.below F7
       obtain ⟨Y, hY⟩ : ∃ Y, W5.heap.size = Y := ⟨_, rfl⟩
       rw [hY] at R7 ⊢
       have Q7 : Hid (Rec19 W7 Y 0 (msg hh ay (n - 256) capy)) := R7
       clear F7 R6 B6 z6 R7 B7 S5 X5 P5 Y5 hY)
    | (go_at_call 19; refine (PH'.out g _ S7.out.2.2.1 (lent_arg S7.out.1 HA.out.bytes)).mono ?_; rintro e W8 ⟨rfl, hB8⟩
       have S8 : Hid (opS w g a n f W8) := S7.out.below hB8
       have X8 : Hid (Lst.ok w.heap.size W8 ⟨some ⟨gx, 0, none⟩, (n - 256), (n - 256)⟩ (fun j => f (256 + j))) := X7.out.below hB8
       have P8 : Hid (Rec19 W8 X 0 (msg hh (some ⟨gx, 0, none⟩) (n - 256) (n - 256))) := P7.out.below hB8
       have Y8 : Hid (Arg W8 ay (n - 256) (fun j => f (256 + j))) := Y7.out.below hB8
       have Q8 : Hid (Rec19 W8 Y 0 (msg hh ay (n - 256) capy)) := Q7.out.below hB8
       clear hB8 S7 X7 P7 Y7 Q7)
    | (have _q := X8; clear _q; refine wpList_alloc_rec rfl 26 rfl (hcs fun _ => 0) W8.heap.size rfl zeroHdr ?_; intro W9 R9 B9 z9)
    | (have _q := X8; clear _q; refine wpList_store_rec rfl 26 (.tmp 8) (.tmp 30) rfl W8.heap.size 0 _ (hcs hv) rfl rfl R9 rfl (by kernel_rfl) (hcs_one _) ?_; intro V0 R0 B0
       have F0 : Below W8.heap.size W8 V0 := B9.trans (B0.below (Nat.le_refl _) (by omega))
       have SA : Hid (opS w g a n f V0) := S8.out.below F0
       have XA : Hid (Lst.ok w.heap.size V0 ⟨some ⟨gx, 0, none⟩, (n - 256), (n - 256)⟩ (fun j => f (256 + j))) := X8.out.below F0
       have PA : Hid (Rec19 V0 X 0 (msg hh (some ⟨gx, 0, none⟩) (n - 256) (n - 256))) := P8.out.below F0
       have YA : Hid (Arg V0 ay (n - 256) (fun j => f (256 + j))) := Y8.out.below F0
       have QA : Hid (Rec19 V0 Y 0 (msg hh ay (n - 256) capy)) := Q8.out.below F0
       obtain ⟨Z, hZ⟩ : ∃ Z, W8.heap.size = Z := ⟨_, rfl⟩
       rw [hZ] at R0 ⊢
       have ZA : Hid (Rec19 V0 Z 0 (hcs hv)) := R0
       clear F0 R9 B9 z9 R0 B0 S8 X8 P8 Y8 Q8 hZ)
    | (go_at_call 20; refine (RH'.out _ SA.out.2.1).mono ?_; rintro e V1 ⟨rfl, hB1⟩
       have SB : Hid (opS w g a n f V1) := SA.out.below hB1
       have XB : Hid (Lst.ok w.heap.size V1 ⟨some ⟨gx, 0, none⟩, (n - 256), (n - 256)⟩ (fun j => f (256 + j))) := XA.out.below hB1
       have PB : Hid (Rec19 V1 X 0 (msg hh (some ⟨gx, 0, none⟩) (n - 256) (n - 256))) := PA.out.below hB1
       have YB : Hid (Arg V1 ay (n - 256) (fun j => f (256 + j))) := YA.out.below hB1
       have QB : Hid (Rec19 V1 Y 0 (msg hh ay (n - 256) capy)) := QA.out.below hB1
       have ZB : Hid (Rec19 V1 Z 0 (hcs hv)) := ZA.out.below hB1
       clear hB1 SA XA PA YA QA ZA)
    | (have _q := XB; clear _q; refine wpList_alloc_rec rfl 26 rfl (hcs fun _ => 0) V1.heap.size rfl zeroHdr ?_; intro V2 R2 B2 z2)
    | (have _q := XB; clear _q; refine wpList_store_rec rfl 26 (.tmp 10) (.tmp 35) rfl V1.heap.size 0 _ (hcs hv) rfl rfl R2 rfl (by kernel_rfl) (hcs_one _) ?_; intro V3 R3 B3
       have F3 : Below V1.heap.size V1 V3 := B2.trans (B3.below (Nat.le_refl _) (by omega))
       have SC : Hid (opS w g a n f V3) := SB.out.below F3
       have XC : Hid (Lst.ok w.heap.size V3 ⟨some ⟨gx, 0, none⟩, (n - 256), (n - 256)⟩ (fun j => f (256 + j))) := XB.out.below F3
       have PC : Hid (Rec19 V3 X 0 (msg hh (some ⟨gx, 0, none⟩) (n - 256) (n - 256))) := PB.out.below F3
       have YC : Hid (Arg V3 ay (n - 256) (fun j => f (256 + j))) := YB.out.below F3
       have QC : Hid (Rec19 V3 Y 0 (msg hh ay (n - 256) capy)) := QB.out.below F3
       have ZC : Hid (Rec19 V3 Z 0 (hcs hv)) := ZB.out.below F3
       obtain ⟨K, hK⟩ : ∃ K, V1.heap.size = K := ⟨_, rfl⟩
       rw [hK] at R3 ⊢
       have KC : Hid (Rec19 V3 K 0 (hcs hv)) := R3
       clear F3 R2 B2 z2 R3 B3 SB XB PB YB QB ZB hK)
    | (have _q := PC; clear _q; refine wpList_load_rec rfl 29 (.tmp 4) rfl X 0 (msg hh (some ⟨gx, 0, none⟩) (n - 256) (n - 256)) rfl _ Tryd.underlying29 rfl (by kernel_rfl) PC.out ?_)
    | (have _q := QC; clear _q; refine wpList_load_rec rfl 29 (.tmp 6) rfl Y 0 (msg hh ay (n - 256) capy) rfl _ Tryd.underlying29 rfl (by kernel_rfl) QC.out ?_)
    | (go_at_call 21; refine (sameMsg_any hh (some ⟨gx, 0, none⟩) ay (n - 256) (n - 256) (n - 256) capy (fun j => f (256 + j)) (fun j => f (256 + j)) _ XC.out.arg YC.out rfl (fun _ _ => rfl)).mono ?_; rintro e V4 ⟨rfl, hB4⟩
       have SD : Hid (opS w g a n f V4) := SC.out.below hB4
       have XD : Hid (Lst.ok w.heap.size V4 ⟨some ⟨gx, 0, none⟩, (n - 256), (n - 256)⟩ (fun j => f (256 + j))) := XC.out.below hB4
       have PD : Hid (Rec19 V4 X 0 (msg hh (some ⟨gx, 0, none⟩) (n - 256) (n - 256))) := PC.out.below hB4
       have ZD : Hid (Rec19 V4 Z 0 (hcs hv)) := ZC.out.below hB4
       have KD : Hid (Rec19 V4 K 0 (hcs hv)) := KC.out.below hB4
       clear hB4 SC XC PC YC QC ZC KC)
    | (have _q := ZD; clear _q; refine wpList_load_w (by rfl) 26 (.tmp 8) rfl Z 0 (hcs hv) rfl _ Tryd.underlying26 rfl (by kernel_rfl) ZD.out ?_)
    | (have _q := KD; clear _q; refine wpList_load_w (by rfl) 26 (.tmp 10) rfl K 0 (hcs hv) rfl _ Tryd.underlying26 rfl (by kernel_rfl) KD.out ?_)
    | (refine wpList_neq_w (by rfl) 26 26 (.tmp 47) (.tmp 48) rfl (hcs hv).toArray rfl rfl (neq_hdr hv) guard_hdr ?_)
    | (go_at_call 14; refine (kept_any g a n C f _ SD.out.2.1 (by omega) SD.out.1).mono ?_; rintro e VA ⟨rfl, hB5⟩
       have SE : Hid (opS w g a n f VA) := SD.out.below hB5
       have XB : Hid (Lst.ok w.heap.size VA ⟨some ⟨gx, 0, none⟩, (n - 256), (n - 256)⟩ (fun j => f (256 + j))) := XD.out.below hB5
       have PE := PD.out.below hB5
       obtain ⟨c16, _⟩ := PE.at 16 _ (msg_body _ _ _ _)
       have XL : gx < VA.heap.size := (by obtain ⟨_, _, _, q⟩ := XB.out; rcases q with q | ⟨g', q1, _, q3⟩; (· cases q.1); (· injection q1 with q1; injection q1 with q1; subst q1; exact q3.2.2) : gx < VA.heap.size)
       have GL : g < VA.heap.size := SE.out.1.2.2
       have AP := two_apart w.heap.size VA ⟨some ⟨gx, 0, none⟩, (n - 256), (n - 256)⟩ ⟨some ⟨g, 0, none⟩, n, n + 3⟩ (fun j => f (256 + j)) (lentF n f 3) XB.out ⟨Nat.le_add_right _ _, Nat.le_trans (Nat.add_le_add_right hn 3) (by decide), fun j _ => lentF_byte n f 3 HA.out.bytes j, .inr ⟨g, rfl, HG.out, SE.out.1⟩⟩ SE.out.2.2.2.size (fun p hp => by injection hp with hp; subst hp; exact XL) (fun p hp => by injection hp with hp; subst hp; exact GL) (fun p q hp hq => by injection hp with hp; injection hq with hq; subst hp hq; exact Ne.symm D2.out)
       have AP' : Hid (Calls Tryd.prog 15 #[.slice (some ⟨VA.heap.size, 0, none⟩) 2 2] (VA.alloc (.cells #[.slice (some ⟨gx, 0, none⟩) (n - 256) (n - 256), .slice (some ⟨g, 0, none⟩) n (n + 3)] 27)) fun e w' => e = .returned (.bool true) ∧ Below w.heap.size VA w') := AP
       clear AP PE hB5 SD XD PD ZD KD)
    | (go_at_call 15; refine AP'.out.mono ?_; rintro e Z1 ⟨rfl, hZ1⟩)
    | (go_at_call 16; refine (awake_any _ (SE.out.2.2.1.below hZ1 hT0)).mono ?_; rintro e Z2 ⟨rfl, hZ2⟩))
  go_ret
  have EZ := SE.out.2.2.2.trans hZ1
  exact ⟨rfl, EZ.trans (hZ2.mono EZ.size)⟩
set_option maxRecDepth 100000 in
set_option maxHeartbeats 1000000 in
theorem opens_no (a : Option Addr) (n C : Nat) (f : Nat → Int) (w : World) (hT : Tab w) (hA : Arg w a n f) (hC : n ≤ C) (hn : n ≤ 3000) (hc : openCode n f ≠ 0) : Calls Tryd.prog 4 #[.slice a n C] w fun e w' => e = .returned (.bool true) ∧ Below w.heap.size w w' := by
  have hT0 := hT.2
  have TT : Hid (Tab w) := hT
  have HA : Hid (Arg w a n f) := hA
  obtain ⟨c, hcc⟩ : ∃ c, openCode n f = c := ⟨_, rfl⟩
  have HC : Hid (openCode n f = c ∧ openCode n f ≠ 0) := ⟨hcc, hc⟩
  clear hc hcc
  clear hT hA
  obtain ⟨hv, hc, PH, RH⟩ := head_both a n C f hC
  have PH' : Hid (∀ (g : Nat) (W : World), Tab W → Arg W (some ⟨g, 0, none⟩) n f → Calls Tryd.prog 19 #[.slice (some ⟨g, 0, none⟩) n (n + 3)] W fun e w' => e = .returned (HE hv hc) ∧ Below W.heap.size W w') := PH
  have RH' : Hid (∀ W : World, Arg W a n f → Calls Tryd.prog 20 #[.slice a n C] W fun e w' => e = .returned (HE hv hc) ∧ Below W.heap.size W w') := RH
  clear PH RH
  have e1 : ¬ (3000 : Int) < n := by omega
  go_enter Tryd.func4, Tryd.ntmps4
  go_wp2_with (first
    | (go_at_call 8; refine (lent_any a n C f _ HA.out (by omega)).mono ?_; rintro e W1 ⟨g, rfl, hg, G1, hB1⟩
       have S1 : Hid (opS w g a n f W1) := ⟨G1, HA.out.below hB1, TT.out.below hB1 hT0, hB1⟩
       have HG : Hid (w.heap.size ≤ g) := hg
       clear hg G1 hB1)
    | (go_at_call 17; refine (mopen_no (some ⟨g, 0, none⟩) n (n + 3) f _ S1.out.2.2.1 (lent_arg S1.out.1 HA.out.bytes) (by omega) (by omega) HC.out.2).mono ?_; rintro e W2 ⟨rfl, hB2⟩; rw [HC.out.1]
       have X2 : Hid (Lst.ok w.heap.size W2 ⟨none, 0, 0⟩ (fun _ => 0)) := ⟨Nat.le_refl _, by show 0 ≤ 1000000; omega, fun j hj => absurd (show j < 0 from hj) (by omega), .inl ⟨rfl, rfl⟩⟩
       have S2 : Hid (opS w g a n f W2) := S1.out.below hB2
       clear hB2 S1)
    | (have _q := X2; clear _q; refine wpList_alloc_rec rfl 29 rfl (msg (fun _ => 0) none 0 0) W2.heap.size rfl zeroMsg ?_; intro W3 R3 B3 z3)
    | (have _q := X2; clear _q; refine wpList_store_rec rfl 29 (.tmp 4) (.tmp 20) rfl W2.heap.size 0 _ (msg (fun _ => 0) none 0 0) rfl rfl R3 rfl (by kernel_rfl) (msg_one _ _ _ _) ?_; intro W4 R4 B4
       have F4 : Below W2.heap.size W2 W4 := B3.trans (B4.below (Nat.le_refl _) (by omega))
       have S4 : Hid (opS w g a n f W4) := S2.out.below F4
       have X4 : Hid (Lst.ok w.heap.size W4 ⟨none, 0, 0⟩ (fun _ => 0)) := X2.out.below F4
       obtain ⟨X, hX⟩ : ∃ X, W2.heap.size = X := ⟨_, rfl⟩
       rw [hX] at R4 ⊢
       have P4 : Hid (Rec19 W4 X 0 (msg (fun _ => 0) none 0 0)) := R4
       clear F4 R3 B3 z3 R4 B4 S2 X2 hX)
    | (go_at_call 18; refine (nopen_no a n C f _ S4.out.2.1 hC (by omega) HC.out.2).mono ?_; rintro e W5 ⟨rfl, hB5⟩; rw [HC.out.1]
       have Y5 : Hid (Arg W5 none 0 (fun _ => 0)) := .inl ⟨rfl, .inl rfl⟩
       have S5 : Hid (opS w g a n f W5) := S4.out.below hB5
       have X5 : Hid (Lst.ok w.heap.size W5 ⟨none, 0, 0⟩ (fun _ => 0)) := X4.out.below hB5
       have P5 : Hid (Rec19 W5 X 0 (msg (fun _ => 0) none 0 0)) := P4.out.below hB5
       clear hB5 S4 X4 P4)
    | (have _q := X5; clear _q; refine wpList_alloc_rec rfl 29 rfl (msg (fun _ => 0) none 0 0) W5.heap.size rfl zeroMsg ?_; intro W6 R6 B6 z6)
    | (have _q := X5; clear _q; refine wpList_store_rec rfl 29 (.tmp 6) (.tmp 25) rfl W5.heap.size 0 _ (msg (fun _ => 0) none 0 0) rfl rfl R6 rfl (by kernel_rfl) (msg_one _ _ _ _) ?_; intro W7 R7 B7
       have F7 : Below W5.heap.size W5 W7 := B6.trans (B7.below (Nat.le_refl _) (by omega))
       have S7 : Hid (opS w g a n f W7) := S5.out.below F7
       have X7 : Hid (Lst.ok w.heap.size W7 ⟨none, 0, 0⟩ (fun _ => 0)) := X5.out.below F7
       have P7 : Hid (Rec19 W7 X 0 (msg (fun _ => 0) none 0 0)) := P5.out.below F7
       have Y7 : Hid (Arg W7 none 0 (fun _ => 0)) := Y5.out.below F7
       obtain ⟨Y, hY⟩ : ∃ Y, W5.heap.size = Y := ⟨_, rfl⟩
       rw [hY] at R7 ⊢
       have Q7 : Hid (Rec19 W7 Y 0 (msg (fun _ => 0) none 0 0)) := R7
       clear F7 R6 B6 z6 R7 B7 S5 X5 P5 Y5 hY)
    | (go_at_call 19; refine (PH'.out g _ S7.out.2.2.1 (lent_arg S7.out.1 HA.out.bytes)).mono ?_; rintro e W8 ⟨rfl, hB8⟩
       have S8 : Hid (opS w g a n f W8) := S7.out.below hB8
       have X8 : Hid (Lst.ok w.heap.size W8 ⟨none, 0, 0⟩ (fun _ => 0)) := X7.out.below hB8
       have P8 : Hid (Rec19 W8 X 0 (msg (fun _ => 0) none 0 0)) := P7.out.below hB8
       have Y8 : Hid (Arg W8 none 0 (fun _ => 0)) := Y7.out.below hB8
       have Q8 : Hid (Rec19 W8 Y 0 (msg (fun _ => 0) none 0 0)) := Q7.out.below hB8
       clear hB8 S7 X7 P7 Y7 Q7)
    | (have _q := X8; clear _q; refine wpList_alloc_rec rfl 26 rfl (hcs fun _ => 0) W8.heap.size rfl zeroHdr ?_; intro W9 R9 B9 z9)
    | (have _q := X8; clear _q; refine wpList_store_rec rfl 26 (.tmp 8) (.tmp 30) rfl W8.heap.size 0 _ (hcs hv) rfl rfl R9 rfl (by kernel_rfl) (hcs_one _) ?_; intro V0 R0 B0
       have F0 : Below W8.heap.size W8 V0 := B9.trans (B0.below (Nat.le_refl _) (by omega))
       have SA : Hid (opS w g a n f V0) := S8.out.below F0
       have XA : Hid (Lst.ok w.heap.size V0 ⟨none, 0, 0⟩ (fun _ => 0)) := X8.out.below F0
       have PA : Hid (Rec19 V0 X 0 (msg (fun _ => 0) none 0 0)) := P8.out.below F0
       have YA : Hid (Arg V0 none 0 (fun _ => 0)) := Y8.out.below F0
       have QA : Hid (Rec19 V0 Y 0 (msg (fun _ => 0) none 0 0)) := Q8.out.below F0
       obtain ⟨Z, hZ⟩ : ∃ Z, W8.heap.size = Z := ⟨_, rfl⟩
       rw [hZ] at R0 ⊢
       have ZA : Hid (Rec19 V0 Z 0 (hcs hv)) := R0
       clear F0 R9 B9 z9 R0 B0 S8 X8 P8 Y8 Q8 hZ)
    | (go_at_call 20; refine (RH'.out _ SA.out.2.1).mono ?_; rintro e V1 ⟨rfl, hB1⟩
       have SB : Hid (opS w g a n f V1) := SA.out.below hB1
       have XB : Hid (Lst.ok w.heap.size V1 ⟨none, 0, 0⟩ (fun _ => 0)) := XA.out.below hB1
       have PB : Hid (Rec19 V1 X 0 (msg (fun _ => 0) none 0 0)) := PA.out.below hB1
       have YB : Hid (Arg V1 none 0 (fun _ => 0)) := YA.out.below hB1
       have QB : Hid (Rec19 V1 Y 0 (msg (fun _ => 0) none 0 0)) := QA.out.below hB1
       have ZB : Hid (Rec19 V1 Z 0 (hcs hv)) := ZA.out.below hB1
       clear hB1 SA XA PA YA QA ZA)
    | (have _q := XB; clear _q; refine wpList_alloc_rec rfl 26 rfl (hcs fun _ => 0) V1.heap.size rfl zeroHdr ?_; intro V2 R2 B2 z2)
    | (have _q := XB; clear _q; refine wpList_store_rec rfl 26 (.tmp 10) (.tmp 35) rfl V1.heap.size 0 _ (hcs hv) rfl rfl R2 rfl (by kernel_rfl) (hcs_one _) ?_; intro V3 R3 B3
       have F3 : Below V1.heap.size V1 V3 := B2.trans (B3.below (Nat.le_refl _) (by omega))
       have SC : Hid (opS w g a n f V3) := SB.out.below F3
       have XC : Hid (Lst.ok w.heap.size V3 ⟨none, 0, 0⟩ (fun _ => 0)) := XB.out.below F3
       have PC : Hid (Rec19 V3 X 0 (msg (fun _ => 0) none 0 0)) := PB.out.below F3
       have YC : Hid (Arg V3 none 0 (fun _ => 0)) := YB.out.below F3
       have QC : Hid (Rec19 V3 Y 0 (msg (fun _ => 0) none 0 0)) := QB.out.below F3
       have ZC : Hid (Rec19 V3 Z 0 (hcs hv)) := ZB.out.below F3
       obtain ⟨K, hK⟩ : ∃ K, V1.heap.size = K := ⟨_, rfl⟩
       rw [hK] at R3 ⊢
       have KC : Hid (Rec19 V3 K 0 (hcs hv)) := R3
       clear F3 R2 B2 z2 R3 B3 SB XB PB YB QB ZB hK)
    | (have _q := PC; clear _q; refine wpList_load_rec rfl 29 (.tmp 4) rfl X 0 (msg (fun _ => 0) none 0 0) rfl _ Tryd.underlying29 rfl (by kernel_rfl) PC.out ?_)
    | (have _q := QC; clear _q; refine wpList_load_rec rfl 29 (.tmp 6) rfl Y 0 (msg (fun _ => 0) none 0 0) rfl _ Tryd.underlying29 rfl (by kernel_rfl) QC.out ?_)
    | (go_at_call 21; refine (sameMsg_any (fun _ => 0) none none 0 0 0 0 (fun _ => 0) (fun _ => 0) _ XC.out.arg YC.out rfl (fun _ _ => rfl)).mono ?_; rintro e V4 ⟨rfl, hB4⟩
       have SD : Hid (opS w g a n f V4) := SC.out.below hB4
       have XD : Hid (Lst.ok w.heap.size V4 ⟨none, 0, 0⟩ (fun _ => 0)) := XC.out.below hB4
       have PD : Hid (Rec19 V4 X 0 (msg (fun _ => 0) none 0 0)) := PC.out.below hB4
       have ZD : Hid (Rec19 V4 Z 0 (hcs hv)) := ZC.out.below hB4
       have KD : Hid (Rec19 V4 K 0 (hcs hv)) := KC.out.below hB4
       clear hB4 SC XC PC YC QC ZC KC)
    | (have _q := ZD; clear _q; refine wpList_load_w (by rfl) 26 (.tmp 8) rfl Z 0 (hcs hv) rfl _ Tryd.underlying26 rfl (by kernel_rfl) ZD.out ?_)
    | (have _q := KD; clear _q; refine wpList_load_w (by rfl) 26 (.tmp 10) rfl K 0 (hcs hv) rfl _ Tryd.underlying26 rfl (by kernel_rfl) KD.out ?_)
    | (refine wpList_neq_w (by rfl) 26 26 (.tmp 47) (.tmp 48) rfl (hcs hv).toArray rfl rfl (neq_hdr hv) guard_hdr ?_)
    | (go_at_call 14; refine (kept_any g a n C f _ SD.out.2.1 (by omega) SD.out.1).mono ?_; rintro e VA ⟨rfl, hB5⟩
       have SE : Hid (opS w g a n f VA) := SD.out.below hB5
       have XB : Hid (Lst.ok w.heap.size VA ⟨none, 0, 0⟩ (fun _ => 0)) := XD.out.below hB5
       have PE := PD.out.below hB5
       obtain ⟨c16, _⟩ := PE.at 16 _ (msg_body _ _ _ _)
       have GL : g < VA.heap.size := SE.out.1.2.2
       have AP := two_apart w.heap.size VA ⟨none, 0, 0⟩ ⟨some ⟨g, 0, none⟩, n, n + 3⟩ (fun _ => 0) (lentF n f 3) XB.out ⟨Nat.le_add_right _ _, Nat.le_trans (Nat.add_le_add_right hn 3) (by decide), fun j _ => lentF_byte n f 3 HA.out.bytes j, .inr ⟨g, rfl, HG.out, SE.out.1⟩⟩ SE.out.2.2.2.size (fun p hp => by cases hp) (fun p hp => by injection hp with hp; subst hp; exact GL) (fun p q hp _ => by cases hp)
       have AP' : Hid (Calls Tryd.prog 15 #[.slice (some ⟨VA.heap.size, 0, none⟩) 2 2] (VA.alloc (.cells #[.slice none 0 0, .slice (some ⟨g, 0, none⟩) n (n + 3)] 27)) fun e w' => e = .returned (.bool true) ∧ Below w.heap.size VA w') := AP
       clear AP PE hB5 SD XD PD ZD KD)
    | (go_at_call 15; refine AP'.out.mono ?_; rintro e Z1 ⟨rfl, hZ1⟩)
    | (go_at_call 16; refine (awake_any _ (SE.out.2.2.1.below hZ1 hT0)).mono ?_; rintro e Z2 ⟨rfl, hZ2⟩))
  go_ret
  have EZ := SE.out.2.2.2.trans hZ1
  exact ⟨rfl, EZ.trans (hZ2.mono EZ.size)⟩
theorem opens_any (a : Option Addr) (n C : Nat) (f : Nat → Int) (w : World) (hT : Tab w) (hA : Arg w a n f) (hC : n ≤ C) :
    Calls Tryd.prog 4 #[.slice a n C] w fun e w' => e = .returned (.bool true) ∧ Below w.heap.size w w' := by
  by_cases l : 3000 < n
  · exact opens_far a n C w l
  · by_cases hc : openCode n f = 0
    · exact opens_ok a n C f w hT hA hC (by omega) hc
    · exact opens_no a n C f w hT hA hC (by omega) hc
end
section
open Go.ChangeShapes Go.WideShapes Go.ChangeAt Go.WideMaps Go.WideElems Go.RowKit Go.Joins

set_option maxRecDepth 100000 in
theorem opens_lifted (os : Os) (started : os.Started) (H : Type) (enc : TypeId × Value → H) :
    ReturnsInHanded {} Tryd.checked os 4 .any (fun w args => (Rows.headerOpensSpec.pre enc Tryd.prog Tryd.f4 [] false w args ∧ laidMetH Tryd.prog laidL w) ∧ sizedMet enc Tryd.prog Tryd.f4 (OpenSpec.ofChange Rows.headerOpensSpec) false w args)
      (Rows.headerOpensSpec.post enc Tryd.prog Tryd.f4 false true false false) := by
  refine returnsInHanded_of_change_and (C := Tryd.checked) (X := fun w _ => laidMetH Tryd.prog laidL w) (fun _ _ _ hh h => h.of_heap hh) own_knob started (by kernel_rfl) Tryd.func4
    (ChangeSpec.witness_shaped (enc := enc) (C := Tryd.checked) (os := os) (X := fun w _ => laidMetH Tryd.prog laidL w) false (World.doorLaid Tryd.prog 400 os) #[.slice none 0 0] 8 rfl (World.shaped_of_RefB (by kernel_rfl) (by kernel_rfl)) (by kernel_rfl) (by kernel_rfl) (by kernel_rfl) (door_met os _)) ?_
  intro W base args ds gs before hval0 hW _ _ hL _
  have hval : ∀ (j : Nat) t v, Tryd.f4.params[j]? = some t → args[j]? = some v → Value.okWide Tryd.prog W .any base t v := hval0
  have hW' := hW
  obtain ⟨p, q, hA0, hV, rfl, hfz, hnd⟩ := hW
  have hA : DataW.TrodAll enc Tryd.prog W 0 (fun _ => true) true Tryd.f4.params.toList args.toList ds p := hA0
  rw [Tryd.params4] at hA hval
  obtain ⟨v0, d0, rfl, rfl, h0⟩ := trodAll_one hA
  obtain ⟨rfl, rfl⟩ := trodVars_none hV
  have k0 := h0
  have lt0 : ∀ x ∈ p, x.block < W.heap.size := by obtain ⟨m, hm⟩ := k0; exact DataW.trod_lt m _ _ _ hm
  obtain ⟨a0, len0, cap0, rfl⟩ := okWide_slice Tryd.underlying27 (hval 0 27 v0 rfl rfl)
  obtain ⟨z0, r0⟩ := open_row h0
  clear hA0 hval0
  refine (opens_any a0 len0 cap0 _ W (of_laid hL) r0.arg r0.cap).mono fun e W' ⟨he, bel⟩ => ?_
  subst he
  exact ⟨_, rfl, _, _, _, [], _, [], hW', trodAll_mk1 (shut_bool Tryd.underlying4 _), trodAll_mk1 (Below.trod laid_out (by kernel_rfl) (of_decide_eq_true (by kernel_rfl)) k0 bel lt0), rfl, bel.frame _, fun h => by cases h⟩
theorem opens_holds : Rows.HeaderOpensSaid :=
  OpenClaim.holds_of_wide 4 Tryd.f4 rfl rfl rfl rfl rfl rfl rfl ⟨rfl, rfl, rfl, rfl, rfl⟩ rfl rfl rfl rfl rfl (by kernel_rfl) Tryd.func4 (by kernel_rfl)
    (of_decide_eq_true (by kernel_rfl)) (by unfold Func.isWrapper; first | (rw [if_pos (by decide +kernel)]; kernel_rfl) | (rw [if_neg (by decide +kernel)]; exact ⟨rfl, rfl⟩))
    (fun os started H enc _ => opens_lifted os started H enc)
theorem opens_card : Rows.HeaderOpensCardSaid :=
  Claim7.holds_tied_plain_at .later [] [.data] true (true, "cc3ed1c7d1dbcebd47f7302bbe530830782934dc8c687881450630bfe9d439d2") false
    opens_holds (fun _ h => by cases h) (by kernel_rfl) (fun _ h => by cases h) headerOpens_row_tie rfl ⟨rfl, rfl⟩ (by kernel_rfl) rfl
    (fun f fn hf hfn => by
      obtain rfl : f = 4 := Option.some.inj ((show Tryd.prog.funcNamed "exchequer/exchequerlaw04.HeaderOpens" = some 4 by kernel_rfl).symm.trans hf) |>.symm
      obtain rfl : fn = Tryd.f4 := (Option.some.inj (Tryd.func4.symm.trans hfn)).symm
      exact ⟨by kernel_rfl, fun j t ht => by
        rw [Tryd.params4] at ht
        have hm : t ∈ [27] := by simpa using Array.mem_of_getElem? ht
        have hall : ([27].all fun u => !Tryd.prog.wantsStandIn u) = true := by kernel_rfl
        exact (show Tryd.prog.wantsStandIn t = false by simpa using List.all_eq_true.1 hall t hm)⟩)
    (by kernel_rfl)
#print axioms opens_card
end
end Go.Proofs.YtkmgjpeoognpjaaDoor
