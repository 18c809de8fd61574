/-
  Walks, not a claim by itself: DiskKnown. By the verifier.
-/
import Derived.Test.YtoehbljnapdbgaaEAwake
import Derived.Test.YtoehbljnapdbgaaDFuse
namespace Go.Proofs.Ytoehbljnapdbgaa
open Go.RowKit Go.Maps
/-- The disk after its crash. -/
def knW (D : Dsk) : Dsk := (D.wrote 0 (fun _ => 2) 1).more
def knD (D : Dsk) : Dsk := (knW D).crash 1 (fun i => [true].getD i false) 0
theorem knD_N {D : Dsk} (h : FourIs D) : (knD D).N = 4 := h.N
theorem knD_free {D : Dsk} (h : FourIs D) : (knD D).free := by
  refine ⟨rfl, rfl, ?_, ?_⟩
  · show 0 ≤ (D.wrote 0 (fun _ => 2) 1).ops + 1
    rw [D.wrote_ops, h.ops]; omega
  · show (D.wrote 0 (fun _ => 2) 1).ops + 1 ≤ 1000000
    rw [D.wrote_ops, h.ops]; omega
theorem knW_L {D : Dsk} (h : FourIs D) : looseN (knW D).N (knW D).lo = [0] := by
  have e : (knW D).lo = fun n => decide (n = 0) := funext fun n => by
    show (D.wrote 0 (fun _ => 2) 1).lo n = _
    rw [Dsk.wrote_lo, h.lo, Bool.or_false, decide_eq_decide]
    omega
  have e2 : (knW D).N = 4 := h.N
  rw [e2, e]
  decide
/-- The bytes of a torn sector. -/
def tornF (j : Nat) : Int := if j < 128 then 2 else 1
theorem tornF_byte (j : Nat) : 0 ≤ tornF j ∧ tornF j < 256 := by unfold tornF; split <;> omega
theorem knD_sec {D : Dsk} (h : FourIs D) (j : Nat) (hj : j < 256) : (knD D).sec (0 * 256 + j) = tornF j := by
  show at256 (crashK (looseN (knW D).N (knW D).lo) (knW D).sec (knW D).ob 1 _ 0 (looseN (knW D).N (knW D).lo).length).1 0 j = _
  rw [knW_L h]
  have e : (crashK [0] (knW D).sec (knW D).ob 1 (fun i => [true].getD i false) 0 [0].length).1 = putF (knW D).sec 0 (halfF (at256 (knW D).sec 0) (at256 (knW D).ob 0)) := rfl
  rw [e, putF_same _ _ _ _ hj]
  unfold halfF tornF
  have s1 : at256 (knW D).sec 0 j = 2 := by
    show at256 (D.wrote 0 (fun _ => 2) 1).sec 0 j = 2
    rw [Dsk.wrote_sec _ _ _ _ _ hj, if_pos (by omega)]
  have s2 : at256 (knW D).ob 0 j = 1 := by
    show at256 (D.wrote 0 (fun _ => 2) 1).ob 0 j = 1
    rw [Dsk.wrote_ob _ _ _ _ _ hj, if_pos ⟨by omega, h.lo 0⟩, h.sec 0 j (by omega) hj]
    rfl
  rw [s1, s2]
theorem half1_run (W w2 : World) (h2 : FullPost (W.alloc (.cells #[] 5)) 1 2 (.returned (.slice (some ⟨(W.alloc (.cells #[] 5)).heap.size, 0, none⟩) (1 * 256) (1 * 256))) w2) :
    ∃ v w3, (Builtin.append_ #[26, 26] 26 #[.slice (some ⟨W.heap.size, 0, none⟩) 0 0, .slice (some ⟨W.heap.size + 1, 0, none⟩) 128 256]).run Try.prog w2 = .ok v w3 ∧ Own w3 W.heap.size v 128 (fun _ => 2) ∧ Below W.heap.size W w3 := by
  obtain ⟨_, o2, b2⟩ := h2
  have z : (W.alloc (.cells #[] 5)).heap.size = W.heap.size + 1 := by simp
  have bb : Below W.heap.size W w2 := ((Below.refl _ _).alloc (Nat.le_refl _) _).trans (b2.mono (by omega))
  have o1 : Own w2 W.heap.size (.slice (some ⟨W.heap.size, 0, none⟩) 0 0) 0 (fun _ => 2) := (Own.lit W W.heap.size 0 (fun _ => 2) (Nat.le_refl _) (by omega)).below b2
  have l2 := o2.irow.lies (fun _ _ => (by omega : (0 : Int) ≤ 2 ∧ (2 : Int) < 256))
  rw [z] at l2
  have a2 : Arg w2 (some ⟨W.heap.size + 1, 0, none⟩) 128 (fun _ => 2) := Arg.of ⟨fun j hj => l2.1 j (by omega), fun _ _ => by show (0 : Int) ≤ 2 ∧ (2 : Int) < 256; omega, l2.2.2⟩
  obtain ⟨v, w3, hr, ho, hb⟩ := app_arg 26 w2 W.heap.size 0 128 256 _ _ _ _ o1 a2 (by omega) bb.size
  rw [Nat.zero_add] at ho
  exact ⟨v, w3, hr, ho.congr (fun j _ => by unfold cat; split <;> rfl), bb.trans hb⟩
theorem half2_run (W w3 w4 : World) (v : Value) (o3 : Own w3 W.heap.size v 128 (fun _ => 2)) (b3 : Below W.heap.size W w3) (h4 : FullPost w3 1 1 (.returned (.slice (some ⟨w3.heap.size, 0, none⟩) (1 * 256) (1 * 256))) w4) :
    ∃ v' w5, (Builtin.append_ #[26, 26] 26 #[v, .slice (some ⟨w3.heap.size, 128, none⟩) 128 128]).run Try.prog w4 = .ok v' w5 ∧ (∃ g cap, v' = .slice (some ⟨g, 0, none⟩) 256 cap ∧ W.heap.size ≤ g ∧ Lies w5 g 0 256 tornF) ∧ Below W.heap.size W w5 := by
  obtain ⟨_, o4, b4⟩ := h4
  have bb : Below W.heap.size W w4 := b3.trans (b4.mono b3.size)
  have l4 := o4.irow.lies (fun _ _ => (by omega : (0 : Int) ≤ 1 ∧ (1 : Int) < 256))
  have a4 : Arg w4 (some ⟨w3.heap.size, 128, none⟩) 128 (fun _ => 1) := Arg.of ⟨fun j hj => by have := l4.1 (128 + j) (by omega); rwa [Nat.zero_add] at this, fun _ _ => by show (0 : Int) ≤ 1 ∧ (1 : Int) < 256; omega, l4.2.2⟩
  obtain ⟨v', w5, hr, ho, hb⟩ := app_arg 26 w4 W.heap.size 128 128 128 _ _ _ _ (o3.below b4) a4 (by omega) bb.size
  obtain ⟨g, cap, rfl, hg, _, hl⟩ := (ho.congr (G := tornF) (fun j _ => rfl)).form (by omega) (fun j _ => tornF_byte j)
  exact ⟨_, w5, hr, ⟨g, cap, rfl, hg, hl⟩, bb.trans hb⟩
/-- One of two. -/
def pk {α : Type} (a b : α) (i : Nat) : α := if i = 0 then a else b
theorem two_lt {i : Nat} (h : i < 2) : i = 0 ∨ i = 1 := by omega
theorem two_disks {W : World} {d s m o t n : Nat} {D O : Dsk} (h1 : DiskAt W d s m D) (h2 : DiskAt W o t n O) (ha : ∀ x, x ∈ [d, s, m] → x ∉ [o, t, n]) : Disks W 2 (pk d o) (pk s t) (pk m n) (pk D O) := by
  have a1 := ha d (by simp)
  have a2 := ha s (by simp)
  have a3 := ha m (by simp)
  simp at a1 a2 a3
  refine ⟨fun i hi => ?_, fun i j hi hj hij => ?_⟩
  · rcases two_lt hi with rfl | rfl
    · exact h1
    · exact h2
  · rcases two_lt hi with rfl | rfl <;> rcases two_lt hj with rfl | rfl
    · exact absurd rfl hij
    · exact ⟨a1.1, a1.2.1, a1.2.2⟩
    · exact ⟨fun e => a1.1 e.symm, fun e => a2.1 e.symm, fun e => a3.1 e.symm⟩
    · exact absurd rfl hij
theorem two_list (W : World) (d o : Nat) : DList (W.alloc (.cells #[.pointer (some ⟨d, 0, none⟩), .pointer (some ⟨o, 0, none⟩)] 33)) W.heap.size 2 (pk d o) := by
  refine ⟨fun i hi => ?_, by simp⟩
  rw [cell_of_row _ _ _ _ _ _ (heap_alloc_new W _)]
  rcases two_lt hi with rfl | rfl <;> rfl
/-- Two disks at one fuse. -/
structure Two (w0 W : World) (d s m o t n q : Nat) (D O : Dsk) (l : Int) (u : Bool) : Prop where
  d1 : DiskAt W d s m D
  d2 : DiskAt W o t n O
  fz : FuseIs W (some q) l u
  e1 : D.fz = some q
  e2 : O.fz = some q
  apart : ∀ x, x ∈ [d, s, m] → x ∉ [o, t, n]
  q1 : q ∉ [d, s, m]
  q2 : q ∉ [o, t, n]
  ql : q < W.heap.size
  bel : Below w0.heap.size w0 W
  hg : ∀ x, x ∈ [d, s, m, o, t, n, q] → w0.heap.size ≤ x
theorem Two.below {w0 W W' : World} {d s m o t n q : Nat} {D O : Dsk} {l : Int} {u : Bool} (h : Two w0 W d s m o t n q D O l u) (hB : Below W.heap.size W W') : Two w0 W' d s m o t n q D O l u :=
  { h with d1 := h.d1.below hB, d2 := h.d2.below hB, fz := h.fz.below hB, ql := Nat.lt_of_lt_of_le h.ql hB.size, bel := h.bel.trans (hB.mono h.bel.size) }
/-- What a change of the first of two disks at one fuse answers. -/
def TwoPostC (w0 : World) (d s m o t n q : Nat) (D O : Dsk) (l : Int) (u : Bool) (c : Int) (e : Ending) (w' : World) : Prop := e = .returned (.int .i64 c) ∧ Two w0 w' d s m o t n q D O l u
theorem two_ok {w0 W : World} {d s m o t n q : Nat} {D O : Dsk} {l : Int} {u : Bool} (h : Two w0 W d s m o t n q D O l u) : FzOk D d s m := fun r e => by
  have : r = q := by rw [h.e1] at e; injection e with e; exact e.symm
  subst this
  have := h.q1
  simp at this
  exact ⟨this.1, this.2.1, this.2.2⟩
theorem two_off {w0 W W' : World} {d s m o t n q : Nat} {D O D' : Dsk} {l l' : Int} {u u' : Bool} (h : Two w0 W d s m o t n q D O l u) (h1 : DiskAt W' d s m D') (h2 : FuseIs W' (some q) l' u') (he : D'.fz = some q) (hO : Off ([d, s, m] ++ [q]) W W') : Two w0 W' d s m o t n q D' O l' u' := by
  have ap : ∀ x, x ∈ [o, t, n] → x ∉ [d, s, m] ++ [q] := fun x hx hy => by
    rcases List.mem_append.1 hy with g | g
    · exact h.apart x g hx
    · have : x = q := by simpa using g
      exact h.q2 (this ▸ hx)
  exact { h with d1 := h1, d2 := h.d2.off hO (ap o (by simp)) (ap t (by simp)) (ap n (by simp)), fz := h2, e1 := he, ql := Nat.lt_of_lt_of_le h.ql hO.size, bel := h.bel.trans (hO.below (fun b hb => h.hg b (by simp at hb ⊢; omega)) h.bel.size) }
theorem two_write (w0 W : World) (d s m o t n q a b off c N C : Nat) (i : Int) (D O : Dsk) (l : Int) (f : Nat → Int) (h : Two w0 W d s m o t n q D O l false) (hu : D.out = false) (hl : 0 < l) (ho : 0 ≤ D.ops ∧ D.ops ≤ 1000000) (hi : i = a) (hn : N = c * 256) (hL : Lies W b off (c * 256) f) (hc1 : 1 ≤ c) (hc : c ≤ 8) (hC : c * 256 ≤ C) (ha : a + c ≤ D.N) (hb : b ≠ s ∧ b ≠ m ∧ b ≠ q) :
    Calls Try.prog 13 #[.pointer (some ⟨d, 0, none⟩), .int .i64 i, .slice (some ⟨b, off, none⟩) N C] W (TwoPostC w0 d s m o t n q (D.wrote a f c).more O (l - 1) false 0) := by
  subst hi hn
  refine (write_ok W d s m a b off c C D f l false h.d1 (by rw [h.e1]; exact h.fz) (two_ok h) (by unfold Dsk.up; rw [hu]; rfl) (by rw [h.e1]; unfold fzPass; simp; omega) hL hc1 hc hC ha ⟨hb.1, hb.2.1⟩ (fun r e => by rw [h.e1] at e; injection e with e; subst e; exact ⟨h.ql, fun g => hb.2.2 g.symm⟩) ho).mono ?_
  rintro e w' ⟨rfl, hD, hF, hO⟩
  rw [h.e1] at hF hO
  have hF' : FuseIs w' (some q) (l - 1) false := by
    unfold fzLeft at hF
    rw [if_pos ⟨rfl, by omega⟩] at hF
    exact hF
  exact ⟨rfl, two_off h hD hF' ((D.wrote_fz a f c).trans h.e1) hO⟩
theorem two_blow (w0 W : World) (d s m o t n q : Nat) (D O : Dsk) (h : Two w0 W d s m o t n q D O 0 false) (hu : D.out = false) :
    Calls Try.prog 14 #[.pointer (some ⟨d, 0, none⟩)] W (TwoPostC w0 d s m o t n q D O 0 true 11) := by
  refine (flush_blow W d s m D 0 false h.d1 (by rw [h.e1]; exact h.fz) (two_ok h) (by unfold Dsk.up; rw [hu]; rfl) (by rw [h.e1]; rfl)).mono ?_
  rintro e w' ⟨rfl, hD, hF, hO⟩
  rw [h.e1] at hF hO
  exact ⟨rfl, two_off h hD hF h.e1 (hO.mono (fun b hb => by simp at hb; simp [hb]))⟩
theorem two_up1 (w0 W : World) (d s m o t n q : Nat) (D O : Dsk) (l : Int) (u : Bool) (h : Two w0 W d s m o t n q D O l u) (hu : D.out = false) : Calls Try.prog 20 #[.pointer (some ⟨d, 0, none⟩)] W fun e w' => e = .returned (.bool (!u)) ∧ w' = W := by
  have := up_ok W d s m D l u h.d1 (by rw [h.e1]; exact h.fz)
  unfold Dsk.up at this
  rw [hu] at this
  exact this
theorem two_up2 (w0 W : World) (d s m o t n q : Nat) (D O : Dsk) (l : Int) (u : Bool) (h : Two w0 W d s m o t n q D O l u) (hu : O.out = false) : Calls Try.prog 20 #[.pointer (some ⟨o, 0, none⟩)] W fun e w' => e = .returned (.bool (!u)) ∧ w' = W := by
  have := up_ok W o t n O l u h.d2 (by rw [h.e2]; exact h.fz)
  unfold Dsk.up at this
  rw [hu] at this
  exact this
theorem two_down2 (w0 W : World) (d s m o t n q : Nat) (D O : Dsk) (l : Int) (h : Two w0 W d s m o t n q D O l true) : Calls Try.prog 14 #[.pointer (some ⟨o, 0, none⟩)] W (TwoPostC w0 d s m o t n q D O l true 11) := by
  refine (flush_down W o t n O l true h.d2 (by rw [h.e2]; exact h.fz) (by unfold Dsk.up; simp)).mono ?_
  rintro e w' ⟨rfl, hB⟩
  exact ⟨rfl, h.below hB⟩
/-- What Fuse of two disks answers. -/
def FuTwo (w0 : World) (d s m o t n : Nat) (D O : Dsk) (x : Int) (e : Ending) (w' : World) : Prop := e = .returned (.int .i64 0) ∧ ∃ q, Two w0 w' d s m o t n q { D with out := false, fz := some q } { O with out := false, fz := some q } x false
theorem two_fuse (w0 W : World) (d s m o t n C : Nat) (D O : Dsk) (x : Int) (h1 : St w0 W d s m D) (h2 : St w0 W o t n O) (ha : ∀ x, x ∈ [d, s, m] → x ∉ [o, t, n]) (hx : 0 ≤ x) (hx2 : x < 9223372036854775808) (f1 : D.fz = none ∧ D.out = false) (f2 : O.fz = none ∧ O.out = false) :
    Calls Try.prog 22 #[.slice (some ⟨W.heap.size, 0, none⟩) 2 C, .int .i64 x] (W.alloc (.cells #[.pointer (some ⟨d, 0, none⟩), .pointer (some ⟨o, 0, none⟩)] 33)) (FuTwo w0 d s m o t n D O x) := by
  have B0 : Below W.heap.size W (W.alloc (.cells #[.pointer (some ⟨d, 0, none⟩), .pointer (some ⟨o, 0, none⟩)] 33)) := (Below.refl _ _).alloc (Nat.le_refl _) _
  have dl := h1.at'.dl
  have ol := h2.at'.dl
  refine (fuse_ok _ W.heap.size 2 C x (pk d o) (pk s t) (pk m n) (pk D O) (two_disks (h1.at'.below B0) (h2.at'.below B0) ha) (two_list W d o) (fun i hi => ?_) (by omega) hx hx2 (fun i hi => ?_)).mono ?_
  · rcases two_lt hi with rfl | rfl
    · show W.heap.size ≠ d; omega
    · show W.heap.size ≠ o; omega
  · rcases two_lt hi with rfl | rfl
    · exact f1
    · exact f2
  · rintro e w' ⟨rfl, q, hq, hD, hF, hO⟩
    have hq' : W.heap.size ≤ q := Nat.le_trans B0.size hq
    have s1 := h1.at'.sl
    have m1 := h1.at'.ml
    have s2 := h2.at'.sl
    have m2 := h2.at'.ml
    have g1 := h1.hd
    have g2 := h1.hs
    have g3 := h1.hm
    have g4 := h2.hd
    have g5 := h2.hs
    have g6 := h2.hm
    have g7 := h1.bel.size
    have ql : q < w'.heap.size := hF.1.2.2
    refine ⟨rfl, q, hD.at' 0 (by omega), hD.at' 1 (by omega), hF, rfl, rfl, ha, by simp; omega, by simp; omega, ql, (h1.bel.trans (B0.mono g7)).trans (hO.below (fun b hb => ?_) (Nat.le_trans g7 B0.size)), fun y hy => ?_⟩
    · obtain ⟨i, hi, rfl⟩ := List.mem_map.1 hb
      rcases two_lt (List.mem_range.1 hi) with rfl | rfl
      · exact g1
      · exact g4
    · simp at hy
      omega
end Go.Proofs.Ytoehbljnapdbgaa
