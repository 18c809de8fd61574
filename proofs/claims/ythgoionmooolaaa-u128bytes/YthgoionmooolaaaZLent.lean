/-
  Walks, not a claim by itself: the kit's SameBytes, LentBytes and KeptBytes. By the verifier.
-/
import Derived.Test.YthgoionmooolaaaAwake
import Derived.RowKit3
import Derived.Below
import Derived.Laws.IdiomCopy
import Derived.Deep.Light
import Derived.Deep.QuietTactic
import Derived.BigQuiet
import Derived.WalkSmall
import Derived.Deep.OwnRows
import Derived.Laws.BytesArg
import Derived.Deep.MidRow
import Derived.Deep.RegionHeld3
import Derived.Deep.DeepFit
namespace Go.Proofs.Ythgoionmooolaaa
open Go.RowKit
/-- A row of N bytes that may be written. -/
def RowZ (u : World) (b N : Nat) (f : Nat → Int) : Prop := (∀ j, j < N → u.cell? ⟨b, j, none⟩ = some (.int .u8 (f j))) ∧ (∀ j, u.frozen? ⟨b, j, none⟩ = false) ∧ b < u.heap.size
/-- The worlds are the same but for block b and new ones. -/
structure ButZ (b : Nat) (w w' : World) : Prop where
  os : w'.os = w.os
  tape : w'.tape = w.tape
  output : w'.output = w.output
  size : w.heap.size ≤ w'.heap.size
  block : ∀ k, k < w.heap.size → k ≠ b → w'.heap[k]? = w.heap[k]?
theorem ButZ.refl (b : Nat) (w : World) : ButZ b w w := ⟨rfl, rfl, rfl, Nat.le_refl _, fun _ _ _ => rfl⟩
theorem ButZ.trans {b : Nat} {u v w : World} (h : ButZ b u v) (k : ButZ b v w) : ButZ b u w :=
  ⟨k.os.trans h.os, k.tape.trans h.tape, k.output.trans h.output, Nat.le_trans h.size k.size, fun i hi hn => (k.block i (Nat.lt_of_lt_of_le hi h.size) hn).trans (h.block i hi hn)⟩
theorem ButZ.of {b : Nat} {w w' : World} (h : Below w.heap.size w w') : ButZ b w w' := ⟨h.os, h.tape, h.output, h.size, fun k hk _ => h.block k hk⟩
theorem ButZ.below {b B : Nat} {w w' : World} (h : ButZ b w w') (h1 : B ≤ b) (h2 : B ≤ w.heap.size) : Below B w w' := ⟨h.os, h.tape, h.output, h.size, fun k hk => h.block k (by omega) (by omega)⟩
theorem ButZ.alloc {b : Nat} {w w' : World} (h : ButZ b w w') (o : Obj) : ButZ b w (w'.alloc o) := h.trans (ButZ.of ((Below.refl _ _).alloc (Nat.le_refl _) _))
theorem ButZ.drew {b : Nat} {w w' : World} (h : ButZ b w w') : ButZ b w w'.drew := h.trans (ButZ.of (Below.refl _ _).drew)
theorem ButZ.cell {b : Nat} {w w' : World} (h : ButZ b w w') {p : Addr} (h1 : p.block < w.heap.size) (h2 : p.block ≠ b) : w'.cell? p = w.cell? p := World.cell?_of_block (w := w) (h.block p.block h1 h2)
theorem ButZ.frozen {b : Nat} {w w' : World} (h : ButZ b w w') {p : Addr} (h1 : p.block < w.heap.size) (h2 : p.block ≠ b) : w'.frozen? p = w.frozen? p := World.frozen?_of_block (w := w) (h.block p.block h1 h2)
theorem ButZ.set {b : Nat} (w : World) (o : Nat) (v : Value) : ButZ b w (w.setCell ⟨b, o, none⟩ v) :=
  ⟨rfl, rfl, rfl, by simp [World.setCell], fun k _ hn => Below.heap_setCell w ⟨b, o, none⟩ v k hn⟩
theorem ButZ.put {b : Nat} {w w' : World} (h : ButZ b w w') {p : Addr} (hp : p.block = b ∨ w.heap.size ≤ p.block) (v : Value) : ButZ b w (w'.setCell p v) :=
  ⟨h.os, h.tape, h.output, by simp [World.setCell]; exact h.size, fun k hk hn => (Below.heap_setCell w' p v k (by rcases hp with rfl | hp <;> omega)).trans (h.block k hk hn)⟩
theorem ButZ.cells {b : Nat} : ∀ (vs : List Value) (o : Nat) (w : World), ButZ b w (w.setCells b o vs)
  | [], _, w => ButZ.refl b w
  | v :: vs, o, w => (ButZ.set w o v).trans (ButZ.cells vs (o + 1) _)

theorem RowZ.but {u v : World} {b c N : Nat} {f : Nat → Int} (h : RowZ u b N f) (hb : ButZ c u v) (hn : b ≠ c) : RowZ v b N f :=
  ⟨fun j hj => (hb.cell (p := ⟨b, j, none⟩) h.2.2 hn).trans (h.1 j hj), fun j => (hb.frozen (p := ⟨b, j, none⟩) h.2.2 hn).trans (h.2.1 j), Nat.lt_of_lt_of_le h.2.2 hb.size⟩
theorem RowZ.below {u v : World} {b N : Nat} {f : Nat → Int} (h : RowZ u b N f) (hb : Below u.heap.size u v) : RowZ v b N f :=
  ⟨fun j hj => (hb.cell (p := ⟨b, j, none⟩) h.2.2).trans (h.1 j hj), fun j => (hb.frozen (p := ⟨b, j, none⟩) h.2.2).trans (h.2.1 j), Nat.lt_of_lt_of_le h.2.2 hb.size⟩
theorem RowZ.alloc {u : World} {b N : Nat} {f : Nat → Int} (h : RowZ u b N f) (o : Obj) : RowZ (u.alloc o) b N f := h.below ((Below.refl _ _).alloc (Nat.le_refl _) _)
theorem RowZ.drew {u : World} {b N : Nat} {f : Nat → Int} (h : RowZ u b N f) : RowZ u.drew b N f := h
/-- g laid over f from off on, n places. -/
def layZ (f : Nat → Int) (off n : Nat) (g : Nat → Int) (j : Nat) : Int := if j < off then f j else if j < off + n then g (j - off) else f j
theorem lay_zero (f : Nat → Int) (off : Nat) (g : Nat → Int) : layZ f off 0 g = f := by
  funext j
  unfold layZ
  by_cases h : j < off
  · rw [if_pos h]
  · rw [if_neg h, if_neg (by omega)]
theorem RowZ.set {u : World} {b N off k : Nat} {f g : Nat → Int} (h : RowZ u b N (layZ f off k g)) (v : Int) (hv : v = g k) : RowZ (u.setCell ⟨b, off + k, none⟩ (.int .u8 v)) b N (layZ f off (k + 1) g) := by
  refine ⟨fun j hj => ?_, fun j => by simp [h.2.1], by simp [World.setCell]; exact h.2.2⟩
  by_cases e : j = off + k
  · subst e
    rw [World.cell?_setCell_same' _ _ _ (by rw [h.1 _ hj]; rfl)]
    unfold layZ
    rw [if_neg (by omega), if_pos (by omega), hv, show off + k - off = k by omega]
  · have := h.1 j hj
    unfold layZ at this ⊢
    rw [World.cell?_setCell_other _ (a := ⟨b, off + k, none⟩) (b := ⟨b, j, none⟩) _ (fun q => e (by injection q with _ q; exact q.symm)), this]
    by_cases h1 : j < off
    · rw [if_pos h1, if_pos h1]
    · by_cases h2 : j < off + k
      · rw [if_neg h1, if_pos h2, if_neg h1, if_pos (by omega)]
      · rw [if_neg h1, if_neg h2, if_neg h1, if_neg (by omega)]
/-- The cells of n bytes that are made. -/
def zeros (n : Nat) : Array Value := madeCells #[.int .u8 0] n
theorem make_bytes (n : Nat) (h : n ≤ 281474976710656) (w : World) : (Instr.makeSlice 25 (.int .i64 (n : Int)) (.int .i64 (n : Int))).run Try.prog w = .ok (.slice (some ⟨w.heap.size, 0, none⟩) n n) (w.alloc (.cells (zeros n) 5)) :=
  run_make_row' 25 5 (.int .u8 0) 1 Try.underlying25 (by kernel_rfl) rfl .i64 .i64 n (by omega) (by omega) w
theorem zeros_at (n j : Nat) (h : j < n) : (zeros n)[j]? = some (.int .u8 0) := by
  unfold zeros
  simp [madeCells, h, Nat.mod_one]
theorem RowZ.made (w : World) (n : Nat) (T : TypeId) : RowZ (w.alloc (.cells (zeros n) T)) w.heap.size n (fun _ => 0) := by
  refine ⟨fun j hj => ?_, fun j => by simp [go_sem], by simp⟩
  rw [World.cell?_alloc_at _ _ _ _ rfl]
  simpa using zeros_at n j hj
/-- Bytes that lie in a block. -/
def LiesZ (u : World) (b off n : Nat) (f : Nat → Int) : Prop := (∀ j, j < n → u.cell? ⟨b, off + j, none⟩ = some (.int .u8 (f j))) ∧ (∀ j, j < n → 0 ≤ f j ∧ f j < 256) ∧ b < u.heap.size
theorem LiesZ.below {u v : World} {b off n : Nat} {f : Nat → Int} (h : LiesZ u b off n f) (hb : Below u.heap.size u v) : LiesZ v b off n f :=
  ⟨fun j hj => (hb.cell (p := ⟨b, off + j, none⟩) h.2.2).trans (h.1 j hj), h.2.1, Nat.lt_of_lt_of_le h.2.2 hb.size⟩
theorem LiesZ.but {u v : World} {b c off n : Nat} {f : Nat → Int} (h : LiesZ u b off n f) (hb : ButZ c u v) (hn : b ≠ c) : LiesZ v b off n f :=
  ⟨fun j hj => (hb.cell (p := ⟨b, off + j, none⟩) h.2.2 hn).trans (h.1 j hj), h.2.1, Nat.lt_of_lt_of_le h.2.2 hb.size⟩
theorem LiesZ.alloc {u : World} {b off n : Nat} {f : Nat → Int} (h : LiesZ u b off n f) (o : Obj) : LiesZ (u.alloc o) b off n f := h.below ((Below.refl _ _).alloc (Nat.le_refl _) _)
theorem LiesZ.part {u : World} {b off n : Nat} {f : Nat → Int} (h : LiesZ u b off n f) (i k : Nat) (hk : i + k ≤ n) : LiesZ u b (off + i) k (fun j => f (i + j)) :=
  ⟨fun j hj => by rw [Nat.add_assoc]; exact h.1 (i + j) (by omega), fun j hj => h.2.1 (i + j) (by omega), h.2.2⟩
/-- Bytes as a text. -/
def txtN (n : Nat) (f : Nat → Int) : ByteArray := strOfNums ((List.range n).map f)
theorem conv_rowN (u : World) (b off n cap : Nat) (f : Nat → Int) (h : ∀ j, j < n → u.cell? ⟨b, off + j, none⟩ = some (.int .u8 (f j))) :
    (convert 25 9 (.slice (some ⟨b, off, none⟩) n cap)).run Try.prog u = .ok (.string (txtN n f)) u :=
  run_convert_bytes_arg (P := Try.prog) u 25 5 Try.underlying25 Try.underlying5 b off n cap ((List.range n).map f) (by simp) (fun i hi => by
    rw [h i hi, List.getD_eq_getElem?_getD, List.getElem?_map, List.getElem?_range hi]; rfl) 9 Try.underlying9
theorem same_trueN (b b' off off' n cap cap' : Nat) (f : Nat → Int) (w : World) (hf : ∀ j, j < n → w.cell? ⟨b, off + j, none⟩ = some (.int .u8 (f j))) (hg : ∀ j, j < n → w.cell? ⟨b', off' + j, none⟩ = some (.int .u8 (f j))) :
    Calls Try.prog 12 #[.slice (some ⟨b, off, none⟩) n cap, .slice (some ⟨b', off', none⟩) n cap'] w fun e w' => e = .returned (.bool true) ∧ w' = w := by
  have c1 := conv_rowN w b off n cap f hf
  have c2 := conv_rowN w b' off' n cap' f hg
  clear hf hg
  go_enter Try.func12, Try.ntmps12
  go_wp2
  go_ret
  exact ⟨rfl, rfl⟩
/-- A copy at the list of a plain region's operations, its run known. -/
theorem wpList_copy_go {P : Program} {ops : Array Oper} {rest : List Oper} {o : Oper} {a : Act} {w : World} {Q : Exit → Act → World → Prop} (hgd : o.guard = none) (d s : Operand) (dT sT : TypeId)
    (ho : o.op = .call { callee := .builtin .copy, args := #[d, s], argTypes := #[dT, sT] }) (v u : Value) (hd : a.eval d = v) (hs : a.eval s = u) {v' : Value} {w' : World}
    (hr : ∀ ty, (Builtin.copy_ #[dT, sT] ty #[v, u]).run P w = .ok v' w') (h : wpList P ops Q rest (a.put o.dst v') w') : wpList P ops Q (o :: rest) a w := by
  refine wpList_plain hgd fun K hK => ?_
  unfold Oper.wp
  simp [execOp, ho, resolve, invoke, builtin, hd, hs, hr, Result.andThen]
  exact hK _ _ h
/-- A slice of n bytes that may be nil where n is 0. -/
def Arg (w : World) (a : Option Addr) (n : Nat) (f : Nat → Int) : Prop := (n = 0 ∧ (a = none ∨ ∃ p, a = some p)) ∨ (0 < n ∧ ∃ b off, a = some ⟨b, off, none⟩ ∧ LiesZ w b off n f)
theorem Arg.below {w w' : World} {a : Option Addr} {n : Nat} {f : Nat → Int} (h : Arg w a n f) (hB : Below w.heap.size w w') : Arg w' a n f := by
  rcases h with h | ⟨h0, b, off, rfl, hl⟩
  · exact .inl h
  · exact .inr ⟨h0, b, off, rfl, hl.below hB⟩
theorem RowZ.cells {u : World} {b N n : Nat} {f g : Nat → Int} (r : RowZ u b N g) (hn : n ≤ N) : RowZ (u.setCells b 0 ((List.range n).map fun j => .int .u8 (f j))) b N (fun j => if j < n then f j else g j) := by
  have hl : ((List.range n).map fun j => Value.int .u8 (f j)).length = n := by simp
  refine ⟨fun j hj => ?_, fun j => by rw [World.frozen?_setCells]; exact r.2.1 j, by exact Nat.lt_of_lt_of_le r.2.2 (ButZ.cells _ _ _).size⟩
  show _ = some (Value.int .u8 (if j < n then f j else g j))
  by_cases h : j < n
  · rw [if_pos h]
    have := World.cell?_setCells_in b ((List.range n).map fun j => .int .u8 (f j)) 0 u (fun i hi => by rw [Nat.zero_add, r.1 i (by rw [hl] at hi; omega)]; rfl) j (by rw [hl]; exact h)
    rw [Nat.zero_add] at this
    rw [this]
    simp
  · rw [if_neg h, World.cell?_setCells_out b _ _ _ _ (fun _ _ => .inr (by rw [hl]; show 0 + n ≤ j; omega))]
    exact r.1 j hj
theorem copy_arg (W : World) (g N n C : Nat) (a : Option Addr) (f h0 : Nat → Int) (hR : RowZ W g N h0) (hn : n ≤ N) (hA : Arg W a n f) :
    ∃ W2, (∀ ty, (Builtin.copy_ #[25, 25] ty #[.slice (some ⟨g, 0, none⟩) N N, .slice a n C]).run Try.prog W = .ok (goInt n) W2) ∧ RowZ W2 g N (fun j => if j < n then f j else h0 j) ∧ ButZ g W W2 := by
  rcases hA with ⟨rfl, _⟩ | ⟨hp, b, off, rfl, hl⟩
  · refine ⟨W, fun ty => run_copy_none (P := Try.prog) W 25 25 ty 5 _ _ N N 0 C Try.underlying25 (by kernel_rfl) (Nat.min_eq_left (Nat.zero_le _)), ?_, ButZ.refl _ _⟩
    exact ⟨fun j hj => by rw [hR.1 j hj]; rfl, hR.2⟩
  · have len : ((List.range n).map fun j => Value.int .u8 (f j)).length = n := by simp
    refine ⟨W.setCells g 0 ((List.range n).map fun j => .int .u8 (f j)), fun ty => ?_, hR.cells hn, ButZ.cells _ _ _⟩
    have := run_copy_cells (P := Try.prog) W 25 25 ty 5 g 0 N N ⟨b, off, none⟩ n C ((List.range n).map fun j => .int .u8 (f j)) Try.underlying25 (by kernel_rfl) (by rw [len]; exact (Nat.min_eq_left hn).symm)
      (fun j v hj => by
        rw [Addr.add_mid]
        rw [List.getElem?_map] at hj
        by_cases k : j < n
        · rw [List.getElem?_range k] at hj
          rw [hl.1 j k]
          exact hj
        · rw [List.getElem?_eq_none (by simp; omega)] at hj
          cases hj)
      (fun j hj => by rw [len] at hj; rw [Nat.zero_add, hR.1 j (by omega)]; rfl) (fun j _ => hR.2.1 _) (fun v hv => by rw [List.mem_map] at hv; obtain ⟨j, _, rfl⟩ := hv; rfl)
    rw [len] at this
    exact this
/-- The marks behind a list that is lent. -/
def mark (n m : Nat) : Int := 160 + ((n + m : Nat) : Int) % 90
/-- The bytes of a list that is lent, its room too. -/
def lentF (n : Nat) (f : Nat → Int) (m : Nat) : Nat → Int := layZ (fun j => if j < n then f j else 0) n m (mark n)
/-- What holds at the head of the loop. -/
def lentRel (w : World) (g n : Nat) (f : Nat → Int) (i : Value) (wr : World) : Prop := ∃ m : Nat, m ≤ 3 ∧ i = .int .i64 ((n + m : Nat) : Int) ∧ RowZ wr g (n + 3) (lentF n f m) ∧ Below w.heap.size w wr
theorem lent_step (w wr : World) (g n m k : Nat) (f : Nat → Int) (v : Int) (hg : w.heap.size ≤ g) (hm : m < 3) (hk : k = n + m) (hv : v = mark n m) (hR : RowZ wr g (n + 3) (lentF n f m)) (hB : Below w.heap.size w wr) :
    lentRel w g n f (.int .i64 ((n : Int) + m + 1)) (wr.setCell ⟨g, k, none⟩ (.int .u8 v)) := by
  subst hk hv
  exact ⟨m + 1, by omega, by go_num, hR.set _ rfl, hB.setCell hg _⟩
set_option maxRecDepth 100000 in
set_option maxHeartbeats 1000000 in
theorem lent_any (a : Option Addr) (n C : Nat) (f : Nat → Int) (w : World) (h : Arg w a n f) (hn : n ≤ 1000000) :
    Calls Try.prog 6 #[.slice a n C] w fun e w' => ∃ g, e = .returned (.slice (some ⟨g, 0, none⟩) n (n + 3)) ∧ w.heap.size ≤ g ∧ RowZ w' g (n + 3) (lentF n f 3) ∧ Below w.heap.size w w' := by
  have hmk : ∀ w, (Instr.makeSlice 25 (.int .i64 ((n : Int) + 3)) (.int .i64 ((n : Int) + 3))).run Try.prog w = .ok (.slice (some ⟨w.heap.size, 0, none⟩) (n + 3) (n + 3)) (w.alloc (.cells (zeros (n + 3)) 5)) := by
    have := make_bytes (n + 3) (by omega)
    rw [show ((n + 3 : Nat) : Int) = (n : Int) + 3 from by omega] at this
    exact this
  obtain ⟨W2, hcopy, hR2, hB2⟩ := copy_arg (w.alloc (.cells (zeros (n + 3)) 5)) w.heap.size (n + 3) n C a f (fun _ => 0) (RowZ.made w (n + 3) 5) (by omega) (h.below ((Below.refl _ _).alloc (Nat.le_refl _) _))
  have ST : Hid (lentRel w w.heap.size n f (.int .i64 n) W2) := by
    refine ⟨0, by omega, rfl, ?_, ((Below.refl _ _).alloc (Nat.le_refl _) _).trans (hB2.below (Nat.le_refl _) (by simp))⟩
    unfold lentF
    rw [lay_zero]
    exact hR2
  clear hR2 hB2 h
  have wr1 : wrap64 ((n : Int) + 3) = (n : Int) + 3 := by unfold wrap64; omega
  go_enter Try.func6, Try.ntmps6
  go_wp2_with (at_builtin; refine wpList_copy_go rfl (.tmp 9) (.tmp 10) 25 25 rfl _ _ rfl rfl hcopy ?_)
  clear hmk hcopy
  go_loopw [4] (fun i wr => lentRel w w.heap.size n f i wr) (fun i _ => n + 3 - (intOf i).toNat)
  case atStart => exact ST.out
  case round =>
    obtain ⟨m, hm, rfl, hR, hB⟩ := hrel
    clear ST
    have BE : Hid (Below w.heap.size w wr) := hB
    have RR : Hid (RowZ wr w.heap.size (n + 3) (lentF n f m)) := hR
    clear hB
    by_cases hlt : m < 3
    · have gk := hR.1 (n + m) (by omega)
      have fk := hR.2.1 (n + m)
      clear hR
      have e0 : ((n + m : Nat) : Int) = (n : Int) + m := by omega
      have e1 : (n : Int) + m < (n : Int) + 3 := by omega
      have e2 : (0 : Int) ≤ (n : Int) + m := by omega
      have e3 : ((n : Int) + m).toNat = n + m := by omega
      have e4 : IntKind.u8.wrap (160 + ((n : Int) + m) % 90) = 160 + ((n : Int) + m) % 90 := by rw [IntKind.wrap_u8]; omega
      have e5 : wrap64 (160 + ((n : Int) + m) % 90) = 160 + ((n : Int) + m) % 90 := by unfold wrap64; omega
      have e6 : wrap64 ((n : Int) + m + 1) = (n : Int) + m + 1 := by unfold wrap64; omega
      go_wp2_with fail
      refine ⟨lent_step w wr w.heap.size n m _ f _ (Nat.le_refl _) hlt rfl ?_ RR.out BE.out, by simp [intOf]; omega⟩
      unfold mark
      rw [e0]
    · obtain rfl : m = 3 := by omega
      clear hR
      have e0 : ((n + 3 : Nat) : Int) = (n : Int) + 3 := by omega
      go_wp2_with fail
      go_ret
      exact ⟨_, rfl, Nat.le_refl _, RR.out, BE.out⟩
set_option maxRecDepth 100000 in
set_option maxHeartbeats 1000000 in
theorem kept_any (g : Nat) (a : Option Addr) (n C : Nat) (f : Nat → Int) (w : World) (h : Arg w a n f) (hn : n ≤ 1000000) (hR : RowZ w g (n + 3) (lentF n f 3)) :
    Calls Try.prog 17 #[.slice (some ⟨g, 0, none⟩) n (n + 3), .slice a n C] w fun e w' => e = .returned (.bool true) ∧ Below w.heap.size w w' := by
  have HA : Hid (Arg w.drew a n f) := h
  have HR : Hid (RowZ w g (n + 3) (lentF n f 3)) := hR
  clear h hR
  have wr1 : wrap64 ((n : Int) + 3) = (n : Int) + 3 := by unfold wrap64; omega
  have wr2 : IntKind.i64.wrap ((n : Int) + 3) = (n : Int) + 3 := by rw [IntKind.wrap_i64]; omega
  have e1 : ((n + 3 : Nat) : Int) = (n : Int) + 3 := by omega
  have e2 : ((n : Int) + 3).toNat = n + 3 := by omega
  have e3 : (0 : Int) ≤ (n : Int) + 3 := by omega
  go_enter Try.func17, Try.ntmps17
  go_wp2_with fail
  go_region_held3 (fun w' => True) (trivial)
    (first
      | (go_at_call 6; refine (lent_any a n C f _ HA.out hn).mono ?_; rintro e w1 ⟨g1, rfl, hg1, hR1, hB1⟩)
      | (go_at_call 12; refine (same_trueN g _ 0 0 (n + 3) _ _ (lentF n f 3) _ (fun j hj => by rw [Nat.zero_add]; exact ((HR.out.drew.below (by assumption)).1 j hj)) (fun j hj => by rw [Nat.zero_add]; exact ((by assumption : RowZ _ _ (n + 3) (lentF n f 3)).1 j hj))).mono ?_; rintro e w2 ⟨rfl, hw⟩; rw [hw]; clear hw))
  go_wp2_with fail
  go_ret
  exact ⟨rfl, (Below.refl _ _).drew.trans (by assumption)⟩
end Go.Proofs.Ythgoionmooolaaa
