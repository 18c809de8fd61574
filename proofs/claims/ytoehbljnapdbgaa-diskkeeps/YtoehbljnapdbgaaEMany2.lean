/-
  Laws, not a claim by itself: writes on disks at one fuse. By the verifier.
-/
import Derived.Test.YtoehbljnapdbgaaEMany
namespace Go.Proofs.Ytoehbljnapdbgaa
open Go.RowKit Go.Maps
/-- How many changes the first disks have told. -/
def psum (Ds : Nat → Dsk) : Nat → Int
  | 0 => 0
  | n + 1 => psum Ds n + (Ds n).ops
theorem psum_put (Ds : Nat → Dsk) (j : Nat) (D : Dsk) : ∀ k, psum (putN Ds j D) k = psum Ds k + if j < k then D.ops - (Ds j).ops else 0
  | 0 => by rw [if_neg (by omega)]; rfl
  | k + 1 => by
    show psum (putN Ds j D) k + (putN Ds j D k).ops = psum Ds k + (Ds k).ops + _
    rw [psum_put Ds j D k]
    by_cases e : k = j
    · subst e
      rw [putN_same, if_neg (by omega), if_pos (by omega)]
      omega
    · rw [putN_other _ _ _ _ e]
      by_cases g : j < k
      · rw [if_pos g, if_pos (by omega)]
        omega
      · rw [if_neg g, if_neg (by omega)]
        omega
theorem psum_mono (Ds : Nat → Dsk) (k : Nat) (h : ∀ i, i < k → 0 ≤ (Ds i).ops) : ∀ n j, j + n = k → psum Ds j ≤ psum Ds k
  | 0, j, e => by subst e; exact Int.le_refl _
  | n + 1, j, e => by
    have h1 := psum_mono Ds k h n (j + 1) (by omega)
    have h2 := h j (by omega)
    have h3 : psum Ds (j + 1) = psum Ds j + (Ds j).ops := rfl
    omega
theorem psum_nonneg (Ds : Nat → Dsk) : ∀ k, (∀ i, i < k → 0 ≤ (Ds i).ops) → 0 ≤ psum Ds k
  | 0, _ => Int.le_refl _
  | k + 1, h => by
    have h1 := psum_nonneg Ds k (fun i hi => h i (by omega))
    have h2 := h k (by omega)
    show 0 ≤ psum Ds k + (Ds k).ops
    omega
theorem psum_one (Ds : Nat → Dsk) (k j : Nat) (hj : j < k) (h : ∀ i, i < k → 0 ≤ (Ds i).ops) : (Ds j).ops ≤ psum Ds k := by
  have h1 := psum_nonneg Ds j (fun i hi => h i (by omega))
  have h2 := psum_mono Ds k h (k - (j + 1)) (j + 1) (by omega)
  have h3 : psum Ds (j + 1) = psum Ds j + (Ds j).ops := rfl
  omega
/-- k disks of two sectors at one fuse, and their list. -/
structure Many (w0 W : World) (b k : Nat) (ds ss ms : Nat → Nat) (q : Nat) (Ds : Nat → Dsk) (l : Int) (u : Bool) (c : Int) : Prop where
  made : Mk w0 W k ds ss ms Ds
  lst : DList W b k ds
  lb : ∀ i, i < k → b ∉ blk ds ss ms i
  fz : FuseIs W (some q) l u
  of : ∀ i, i < k → (Ds i).fz = some q ∧ (Ds i).out = false ∧ (Ds i).N = 2 ∧ 0 ≤ (Ds i).ops
  qb : ∀ i, i < k → q ∉ blk ds ss ms i
  qn : b ≠ q
  ql : q < W.heap.size
  qg : w0.heap.size ≤ q
  sum : psum Ds k = c
  cs : c ≤ 1000
theorem Many.below {w0 W W' : World} {b k q : Nat} {ds ss ms : Nat → Nat} {Ds : Nat → Dsk} {l c : Int} {u : Bool} (h : Many w0 W b k ds ss ms q Ds l u c) (hB : Below W.heap.size W W') : Many w0 W' b k ds ss ms q Ds l u c :=
  { h with made := h.made.below hB, lst := h.lst.off (bs := []) (Off.of hB) (by simp), fz := h.fz.below hB, ql := Nat.lt_of_lt_of_le h.ql hB.size }
theorem Many.ok {w0 W : World} {b k q : Nat} {ds ss ms : Nat → Nat} {Ds : Nat → Dsk} {l c : Int} {u : Bool} (h : Many w0 W b k ds ss ms q Ds l u c) (j : Nat) (hj : j < k) : FzOk (Ds j) (ds j) (ss j) (ms j) := fun r e => by
  rw [(h.of j hj).1] at e
  injection e with e
  subst e
  have := h.qb j hj
  simp [blk] at this
  exact ⟨this.1, this.2.1, this.2.2⟩
theorem Many.step {w0 W W' : World} {b k q j : Nat} {ds ss ms : Nat → Nat} {Ds : Nat → Dsk} {l c l' c' : Int} {u u' : Bool} {D : Dsk} (h : Many w0 W b k ds ss ms q Ds l u c) (hj : j < k) (hO : Off (blk ds ss ms j ++ [q]) W W') (hD : DiskAt W' (ds j) (ss j) (ms j) D) (hF : FuseIs W' (some q) l' u') (hd : D.fz = some q ∧ D.out = false ∧ D.N = 2 ∧ 0 ≤ D.ops) (hc : psum Ds k + (D.ops - (Ds j).ops) = c') (hcs : c' ≤ 1000) :
    Many w0 W' b k ds ss ms q (putN Ds j D) l' u' c' := by
  have notin : ∀ i, i < k → i ≠ j → ∀ x, x ∈ blk ds ss ms i → x ∉ blk ds ss ms j ++ [q] := fun i hi hij x hx hy => by
    rcases List.mem_append.1 hy with g | g
    · exact h.made.apart i j hi hj hij x hx g
    · have : x = q := by simpa using g
      exact h.qb i hi (this ▸ hx)
  have bel : Below w0.heap.size W W' := hO.below (fun x hx => by
    rcases List.mem_append.1 hx with g | g
    · exact h.made.ge j hj x g
    · have : x = q := by simpa using g
      rw [this]
      exact h.qg) h.made.bel.size
  refine { h with made := ⟨fun i hi => ?_, h.made.apart, h.made.ge, h.made.bel.trans bel⟩, lst := h.lst.off hO (fun hy => ?_), fz := hF, of := fun i hi => ?_, ql := Nat.lt_of_lt_of_le h.ql hO.size, sum := ?_, cs := hcs }
  · by_cases e : i = j
    · subst e
      rw [putN_same]
      exact hD
    · rw [putN_other _ _ _ _ e]
      exact (h.made.at' i hi).off hO (notin i hi e _ (by simp [blk])) (notin i hi e _ (by simp [blk])) (notin i hi e _ (by simp [blk]))
  · rcases List.mem_append.1 hy with g | g
    · exact h.lb j hj g
    · exact h.qn (by simpa using g)
  · by_cases e : i = j
    · subst e
      rw [putN_same]
      exact hd
    · rw [putN_other _ _ _ _ e]
      exact h.of i hi
  · rw [psum_put, if_pos hj]
    exact hc
theorem many_pass (w0 W : World) (b k q j p off C : Nat) (ds ss ms : Nat → Nat) (Ds : Nat → Dsk) (l c : Int) (f : Nat → Int) (h : Many w0 W b k ds ss ms q Ds l false c) (hj : j < k) (hl : 0 < l) (hc : c < 1000) (hL : Lies W p off 256 f) (hC : 256 ≤ C) (hp : p ∉ blk ds ss ms j ∧ p ≠ q) :
    Calls Try.prog 13 #[.pointer (some ⟨ds j, 0, none⟩), .int .i64 0, .slice (some ⟨p, off, none⟩) 256 C] W fun e w' => e = .returned (.int .i64 0) ∧ ∃ Ds', Many w0 w' b k ds ss ms q Ds' (l - 1) false (c + 1) := by
  have hz := h.of j hj
  have h1 := psum_one Ds k j hj (fun i hi => (h.of i hi).2.2.2)
  have h2 := h.sum
  have hp1 := hp.1
  simp [blk] at hp1
  refine (write_ok W (ds j) (ss j) (ms j) 0 p off 1 C (Ds j) f l false (h.made.at' j hj) (by rw [hz.1]; exact h.fz) (h.ok j hj) (by unfold Dsk.up; rw [hz.2.1]; rfl) (by rw [hz.1]; unfold fzPass; simp; omega) hL (by omega) (by omega) hC (by rw [hz.2.2.1]; omega) ⟨hp1.2.1, hp1.2.2⟩ (fun r e => by rw [hz.1] at e; injection e with e; subst e; exact ⟨h.ql, fun g => hp.2 g.symm⟩) ⟨hz.2.2.2, by omega⟩).mono ?_
  rintro e w' ⟨rfl, hD, hF, hO⟩
  rw [hz.1] at hF hO
  have hF' : FuseIs w' (some q) (l - 1) false := by
    unfold fzLeft at hF
    rw [if_pos ⟨rfl, by omega⟩] at hF
    exact hF
  have e1 : (((Ds j).wrote 0 f 1).more).ops = (Ds j).ops + 1 := by show ((Ds j).wrote 0 f 1).ops + 1 = _; rw [Dsk.wrote_ops]
  exact ⟨rfl, _, h.step hj hO hD hF' ⟨((Ds j).wrote_fz 0 f 1).trans hz.1, ((Ds j).wrote_out 0 f 1).trans hz.2.1, ((Ds j).wrote_N 0 f 1).trans hz.2.2.1, by rw [e1]; omega⟩ (by rw [e1]; omega) (by omega)⟩
theorem many_same {Ds : Nat → Dsk} {j : Nat} : putN Ds j (Ds j) = Ds := by
  funext i
  unfold putN
  split
  · rename_i e; rw [e]
  · rfl
theorem many_stop (w0 W : World) (b k q j C : Nat) (p : Option Addr) (ds ss ms : Nat → Nat) (Ds : Nat → Dsk) (c : Int) (h : Many w0 W b k ds ss ms q Ds 0 false c) (hj : j < k) :
    Calls Try.prog 13 #[.pointer (some ⟨ds j, 0, none⟩), .int .i64 0, .slice p 256 C] W fun e w' => e = .returned (.int .i64 11) ∧ Many w0 w' b k ds ss ms q Ds 0 true c := by
  have hz := h.of j hj
  refine (write_blow W (ds j) (ss j) (ms j) (Ds j) 0 false 0 p 1 C (h.made.at' j hj) (by rw [hz.1]; exact h.fz) (h.ok j hj) (by unfold Dsk.up; rw [hz.2.1]; rfl) (by rw [hz.1]; rfl) (by omega) (by omega) (by omega) (by rw [hz.2.2.1]; decide)).mono ?_
  rintro e w' ⟨rfl, hD, hF, hO⟩
  rw [hz.1] at hF hO
  have := h.step hj (hO.mono (fun x hx => List.mem_append.2 (.inr (by simpa using hx)))) hD hF hz (by rw [Int.sub_self, Int.add_zero]; exact h.sum) h.cs
  rw [many_same] at this
  exact ⟨rfl, this⟩
theorem many_down (w0 W : World) (b k q j C : Nat) (p : Option Addr) (ds ss ms : Nat → Nat) (Ds : Nat → Dsk) (l c : Int) (h : Many w0 W b k ds ss ms q Ds l true c) (hj : j < k) :
    Calls Try.prog 13 #[.pointer (some ⟨ds j, 0, none⟩), .int .i64 0, .slice p 256 C] W fun e w' => e = .returned (.int .i64 11) ∧ Many w0 w' b k ds ss ms q Ds l true c := by
  have hz := h.of j hj
  refine (write_down W (ds j) (ss j) (ms j) (Ds j) l true 0 p 256 C (h.made.at' j hj) (by rw [hz.1]; exact h.fz) (by unfold Dsk.up; simp)).mono ?_
  rintro e w' ⟨rfl, hB⟩
  exact ⟨rfl, h.below hB⟩
/-- What is left of a fuse of x after i tries; whether it is out; how many went through. -/
def lOf (x : Int) (i : Nat) : Int := if (i : Int) ≤ x then x - i else 0
def uOf (x : Int) (i : Nat) : Bool := decide (x < (i : Int))
def cOf (x : Int) (i : Nat) : Int := if (i : Int) ≤ x then i else x
/-- What a try answers. -/
def codeOf (x : Int) (i : Nat) : Int := if (i : Int) < x then 0 else 11
theorem many_write (w0 W : World) (b k q j p off C i : Nat) (ds ss ms : Nat → Nat) (Ds : Nat → Dsk) (x : Int) (f : Nat → Int) (h : Many w0 W b k ds ss ms q Ds (lOf x i) (uOf x i) (cOf x i)) (hj : j < k) (hi : i < 60) (hL : Lies W p off 256 f) (hC : 256 ≤ C) (hp : p ∉ blk ds ss ms j ∧ p ≠ q) :
    Calls Try.prog 13 #[.pointer (some ⟨ds j, 0, none⟩), .int .i64 0, .slice (some ⟨p, off, none⟩) 256 C] W fun e w' => e = .returned (.int .i64 (codeOf x i)) ∧ ∃ Ds', Many w0 w' b k ds ss ms q Ds' (lOf x (i + 1)) (uOf x (i + 1)) (cOf x (i + 1)) := by
  by_cases c1 : (i : Int) < x
  · have e1 : lOf x i = x - i := if_pos (by omega)
    have e2 : uOf x i = false := decide_eq_false (by omega)
    have e3 : cOf x i = i := if_pos (by omega)
    have e4 : lOf x (i + 1) = x - i - 1 := by unfold lOf; rw [if_pos (by omega)]; omega
    have e5 : uOf x (i + 1) = false := decide_eq_false (by omega)
    have e6 : cOf x (i + 1) = (i : Int) + 1 := by unfold cOf; rw [if_pos (by omega)]; omega
    have e7 : codeOf x i = 0 := if_pos c1
    rw [e1, e2, e3] at h
    rw [e4, e5, e6, e7]
    exact many_pass w0 W b k q j p off C ds ss ms Ds (x - i) i f h hj (by omega) (by omega) hL hC hp
  · have e7 : codeOf x i = 11 := if_neg c1
    have e4 : lOf x (i + 1) = 0 := if_neg (by omega)
    have e5 : uOf x (i + 1) = true := decide_eq_true (by omega)
    have e6 : cOf x (i + 1) = x := if_neg (by omega)
    have e1 : lOf x i = 0 := by unfold lOf; split <;> omega
    have e3 : cOf x i = x := by unfold cOf; split <;> omega
    rw [e4, e5, e6, e7]
    rw [e1, e3] at h
    by_cases c2 : (i : Int) = x
    · have e2 : uOf x i = false := decide_eq_false (by omega)
      rw [e2] at h
      exact (many_stop w0 W b k q j C _ ds ss ms Ds x h hj).mono fun e w' h => ⟨h.1, Ds, h.2⟩
    · have e2 : uOf x i = true := decide_eq_true (by omega)
      rw [e2] at h
      exact (many_down w0 W b k q j C _ ds ss ms Ds 0 x h hj).mono fun e w' h => ⟨h.1, Ds, h.2⟩
/-- What Fuse of disks of two sectors answers. -/
def FuMany (w0 : World) (b k : Nat) (ds ss ms : Nat → Nat) (x : Int) (e : Ending) (w' : World) : Prop := e = .returned (.int .i64 0) ∧ ∃ q Ds, Many w0 w' b k ds ss ms q Ds x false 0
theorem psum_zero (Ds : Nat → Dsk) : ∀ k, (∀ i, i < k → (Ds i).ops = 0) → psum Ds k = 0
  | 0, _ => rfl
  | k + 1, h => by
    show psum Ds k + (Ds k).ops = 0
    rw [psum_zero Ds k (fun i hi => h i (by omega)), h k (by omega)]
    rfl
theorem many_fuse (w0 W : World) (b k C : Nat) (ds ss ms : Nat → Nat) (Ds : Nat → Dsk) (x : Int) (h : Mk w0 W k ds ss ms Ds) (hD : ∀ i, i < k → Ds i = dsk0 2) (hL : DList W b k ds) (hb : ∀ i, i < k → b ∉ blk ds ss ms i) (hk : k ≤ 64) (hx : 0 ≤ x) (hx2 : x < 9223372036854775808) :
    Calls Try.prog 22 #[.slice (some ⟨b, 0, none⟩) k C, .int .i64 x] W (FuMany w0 b k ds ss ms x) := by
  refine (fuse_ok W b k C x ds ss ms Ds ⟨h.at', fun i j hi hj hij => ?_⟩ hL (fun i hi e => hb i hi (by simp [blk, e])) hk hx hx2 (fun i hi => by rw [hD i hi]; exact ⟨rfl, rfl⟩)).mono ?_
  · have := h.apart i j hi hj hij (ds i) (by simp [blk])
    simp [blk] at this
    exact ⟨this.1, this.2.1, this.2.2⟩
  · rintro e w' ⟨rfl, q, hq, hDs, hF, hO⟩
    have one : ∀ i, i < k → fusedK Ds q k i = { dsk0 2 with out := false, fz := some q } := fun i hi => by
      unfold fusedK
      rw [if_pos hi, hD i hi]
    have bel : Below w0.heap.size W w' := hO.below (fun y hy => by
      obtain ⟨i, hi, rfl⟩ := List.mem_map.1 hy
      exact h.ge i (List.mem_range.1 hi) _ (by simp [blk])) h.bel.size
    refine ⟨rfl, q, fusedK Ds q k, ⟨fun i hi => hDs.at' i hi, h.apart, h.ge, h.bel.trans bel⟩, hL.off hO (fun hy => ?_), hb, hF, fun i hi => by rw [one i hi]; exact ⟨rfl, rfl, rfl, Int.le_refl 0⟩, fun i hi hy => ?_, fun e => ?_, hF.1.2.2, Nat.le_trans h.bel.size hq, psum_zero _ _ (fun i hi => by rw [one i hi]; rfl), by omega⟩
    · obtain ⟨i, hi, e⟩ := List.mem_map.1 hy
      exact hb i (List.mem_range.1 hi) (by simp [blk, e])
    · have := (h.at' i hi).lt q hy
      omega
    · have := hL.2
      omega
end Go.Proofs.Ytoehbljnapdbgaa
