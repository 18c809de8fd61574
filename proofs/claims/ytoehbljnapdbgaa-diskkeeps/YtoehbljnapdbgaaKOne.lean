/-
  Laws, not a claim by itself: one disk, with a fuse or without, step by step. By the verifier.
-/
import Derived.Test.YtoehbljnapdbgaaKCr
import Derived.Test.YtoehbljnapdbgaaEMany2
namespace Go.Proofs.Ytoehbljnapdbgaa
open Go.RowKit Go.Maps
/-- Whether try i goes through. -/
def goes (x : Int) (i : Nat) : Prop := x < 0 ∨ (i : Int) < x
/-- How the disk's fuse stands at try i. -/
def FuSt (w0 W : World) (d s m : Nat) (x : Int) (i : Nat) (fz : Option Nat) : Prop := (x < 0 ∧ fz = none) ∨ (0 ≤ x ∧ ∃ q, fz = some q ∧ FuseIs W (some q) (lOf x i) (uOf x i) ∧ q ∉ [d, s, m] ∧ w0.heap.size ≤ q ∧ q < W.heap.size)
/-- One disk behind w0 at try i. -/
structure One (w0 W : World) (d s m : Nat) (D : Dsk) (fz : Option Nat) (x : Int) (i : Nat) : Prop where
  at' : DiskAt W d s m D
  ge : ∀ y, y ∈ [d, s, m] → w0.heap.size ≤ y
  bel : Below w0.heap.size w0 W
  out : D.out = false
  ops : 0 ≤ D.ops ∧ D.ops ≤ i
  ef : D.fz = fz
  fu : FuSt w0 W d s m x i fz
theorem One.below {w0 W W' : World} {d s m : Nat} {D : Dsk} {fz : Option Nat} {x : Int} {i : Nat} (h : One w0 W d s m D fz x i) (hB : Below W.heap.size W W') : One w0 W' d s m D fz x i := by
  refine { h with at' := h.at'.below hB, bel := h.bel.trans (hB.mono h.bel.size), fu := ?_ }
  rcases h.fu with g | ⟨h0, q, e, g1, g2, g3, g4⟩
  · exact .inl g
  · exact .inr ⟨h0, q, e, g1.below hB, g2, g3, Nat.lt_of_lt_of_le g4 hB.size⟩
/-- What a try answers, and leaves. -/
def TryPost (w0 W : World) (d s m : Nat) (D D' : Dsk) (fz : Option Nat) (x : Int) (i : Nat) (e : Ending) (w' : World) : Prop :=
  (goes x i ∧ e = .returned (.int .i64 0) ∧ ∃ m', (m' = m ∨ W.heap.size ≤ m') ∧ One w0 w' d s m' D' fz x (i + 1) ∧ Off ([d, s, m] ++ fz.toList) W w') ∨
  (¬ goes x i ∧ e = .returned (.int .i64 11) ∧ One w0 w' d s m D fz x (i + 1) ∧ Off ([d, s, m] ++ fz.toList) W w')
theorem One.fuse {w0 W : World} {d s m : Nat} {D : Dsk} {fz : Option Nat} {x : Int} {i : Nat} (h : One w0 W d s m D fz x i) : FuseIs W D.fz (lOf x i) (if x < 0 then false else uOf x i) := by
  rw [h.ef]
  rcases h.fu with ⟨h0, e⟩ | ⟨h0, q, e, g1, _⟩
  · rw [e, if_pos h0]
    rfl
  · rw [e, if_neg (by omega)]
    exact g1
theorem One.ok {w0 W : World} {d s m : Nat} {D : Dsk} {fz : Option Nat} {x : Int} {i : Nat} (h : One w0 W d s m D fz x i) : FzOk D d s m := fun r e => by
  rw [h.ef] at e
  rcases h.fu with ⟨_, e'⟩ | ⟨_, q, e', _, g2, _⟩
  · rw [e'] at e; cases e
  · rw [e'] at e
    injection e with e
    subst e
    simp at g2
    exact ⟨g2.1, g2.2.1, g2.2.2⟩
theorem One.lt {w0 W : World} {d s m : Nat} {D : Dsk} {fz : Option Nat} {x : Int} {i : Nat} (h : One w0 W d s m D fz x i) : ∀ q, D.fz = some q → q < W.heap.size := fun r e => by
  rw [h.ef] at e
  rcases h.fu with ⟨_, e'⟩ | ⟨_, q, e', _, _, _, g4⟩
  · rw [e'] at e; cases e
  · rw [e'] at e
    injection e with e
    exact e ▸ g4
theorem One.off {w0 W W' : World} {d s m : Nat} {D : Dsk} {fz : Option Nat} {x : Int} {i : Nat} (h : One w0 W d s m D fz x i) (hO : Off ([d, s, m] ++ fz.toList) W W') : Below w0.heap.size W W' :=
  hO.below (fun y hy => by
    rcases List.mem_append.1 hy with g | g
    · exact h.ge y g
    · have e := fz_mem g
      rcases h.fu with ⟨_, e'⟩ | ⟨_, q, e', _, _, g3, _⟩
      · rw [e'] at e; cases e
      · rw [e'] at e
        injection e with e
        exact e ▸ g3) h.bel.size
/-- How the fuse stands behind a try. -/
theorem One.next {w0 W W' : World} {d s m m' : Nat} {D D' : Dsk} {fz : Option Nat} {x : Int} {i : Nat} (h : One w0 W d s m D fz x i) (hO : Off ([d, s, m] ++ fz.toList) W W') (hm : m' = m ∨ W.heap.size ≤ m') (hD : DiskAt W' d s m' D') (hf : D'.fz = fz ∧ D'.out = false ∧ 0 ≤ D'.ops ∧ D'.ops ≤ i + 1) (hF : 0 ≤ x → FuseIs W' fz (lOf x (i + 1)) (uOf x (i + 1))) : One w0 W' d s m' D' fz x (i + 1) := by
  have mm : w0.heap.size ≤ m' := by
    rcases hm with rfl | g
    · exact h.ge m' (by simp)
    · exact Nat.le_trans h.bel.size g
  refine ⟨hD, fun y hy => ?_, h.bel.trans (h.off hO), hf.2.1, ⟨hf.2.2.1, by have := hf.2.2.2; omega⟩, hf.1, ?_⟩
  · simp at hy
    rcases hy with rfl | rfl | rfl
    · exact h.ge _ (by simp)
    · exact h.ge _ (by simp)
    · exact mm
  · rcases h.fu with g | ⟨h0, q, e, g1, g2, g3, g4⟩
    · exact .inl g
    · refine .inr ⟨h0, q, e, e ▸ hF h0, ?_, g3, Nat.lt_of_lt_of_le g4 hO.size⟩
      simp at g2 ⊢
      refine ⟨g2.1, g2.2.1, ?_⟩
      rcases hm with rfl | g
      · exact g2.2.2
      · omega
theorem l_pass {x : Int} {i : Nat} (h : (i : Int) < x) : lOf x i = x - i ∧ uOf x i = false ∧ lOf x (i + 1) = x - i - 1 ∧ uOf x (i + 1) = false :=
  ⟨if_pos (by omega), decide_eq_false (by omega), by unfold lOf; rw [if_pos (by omega)]; omega, decide_eq_false (by omega)⟩
theorem fz_left (q : Nat) (l : Int) (h : ¬ l = 0) : fzLeft (some q) l = l - 1 := by unfold fzLeft; rw [if_pos ⟨rfl, h⟩]
theorem One.upT {w0 W : World} {d s m : Nat} {D : Dsk} {fz : Option Nat} {x : Int} {i : Nat} (h : One w0 W d s m D fz x i) (hg : goes x i) : D.up (if x < 0 then false else uOf x i) = true ∧ fzPass D.fz (lOf x i) = true := by
  unfold Dsk.up
  rw [h.out, h.ef]
  rcases h.fu with ⟨h0, e⟩ | ⟨h0, q, e, _⟩
  · rw [if_pos h0, e]
    exact ⟨rfl, rfl⟩
  · have hx : (i : Int) < x := by rcases hg with g | g; (· omega); (· exact g)
    obtain ⟨e1, e2, _⟩ := l_pass hx
    rw [if_neg (by omega), e2, e1, e]
    exact ⟨rfl, by unfold fzPass; simp; omega⟩
theorem One.left {w0 W : World} {d s m : Nat} {D : Dsk} {fz : Option Nat} {x : Int} {i : Nat} (h : One w0 W d s m D fz x i) (hg : goes x i) {w' : World} (hF : FuseIs w' D.fz (fzLeft D.fz (lOf x i)) (if x < 0 then false else uOf x i)) : 0 ≤ x → FuseIs w' fz (lOf x (i + 1)) (uOf x (i + 1)) := fun h0 => by
  have hx : (i : Int) < x := by rcases hg with g | g; (· omega); (· exact g)
  obtain ⟨e1, e2, e3, e4⟩ := l_pass hx
  rw [h.ef, if_neg (by omega), e2] at hF
  rw [e3, e4]
  rcases h.fu with ⟨g, _⟩ | ⟨_, q, e, _⟩
  · omega
  · rw [e] at hF ⊢
    rw [fz_left q _ (by omega), e1] at hF
    exact hF
/-- The cases of a try that does not go through. -/
theorem One.stuck {w0 W : World} {d s m : Nat} {D : Dsk} {fz : Option Nat} {x : Int} {i : Nat} (h : One w0 W d s m D fz x i) (hg : ¬ goes x i) : 0 ≤ x ∧ (∃ q, fz = some q) ∧ lOf x i = 0 ∧ lOf x (i + 1) = 0 ∧ uOf x (i + 1) = true := by
  have h0 : 0 ≤ x := by by_cases q : x < 0; (· exact absurd (.inl q) hg); (· omega)
  have h1 : ¬ (i : Int) < x := fun q => hg (.inr q)
  rcases h.fu with ⟨g, _⟩ | ⟨_, q, e, _⟩
  · omega
  · exact ⟨h0, ⟨q, e⟩, by unfold lOf; split <;> omega, if_neg (by omega), decide_eq_true (by omega)⟩
theorem one_write (w0 W : World) (d s m a p off C i : Nat) (ai : Int) (D : Dsk) (fz : Option Nat) (x : Int) (f : Nat → Int) (h : One w0 W d s m D fz x i) (hai : ai = a) (hi : i < 60) (hL : Lies W p off 256 f) (hC : 256 ≤ C) (ha : a < D.N) (hp : p ∉ [d, s, m]) (hpq : ∀ q, fz = some q → q ≠ p) :
    Calls Try.prog 13 #[.pointer (some ⟨d, 0, none⟩), .int .i64 ai, .slice (some ⟨p, off, none⟩) 256 C] W (TryPost w0 W d s m D (D.wrote a f 1).more fz x i) := by
  subst hai
  have hp' := hp
  simp at hp'
  have n2 := h.at'.n2
  by_cases hg : goes x i
  · obtain ⟨hu, hps⟩ := h.upT hg
    refine (write_ok W d s m a p off 1 C D f _ _ h.at' h.fuse h.ok hu hps hL (by omega) (by omega) hC (by omega) ⟨hp'.2.1, hp'.2.2⟩ (fun q e => ⟨h.lt q e, hpq q (h.ef ▸ e)⟩) ⟨h.ops.1, by have := h.ops.2; omega⟩).mono ?_
    rintro e w' ⟨rfl, hD, hF, hO⟩
    rw [h.ef] at hO
    refine .inl ⟨hg, rfl, m, .inl rfl, h.next hO (.inl rfl) hD ⟨(D.wrote_fz a f 1).trans h.ef, (D.wrote_out a f 1).trans h.out, ?_, ?_⟩ (h.left hg hF), hO⟩
    · show 0 ≤ (D.wrote a f 1).ops + 1
      rw [Dsk.wrote_ops]; have := h.ops.1; omega
    · show (D.wrote a f 1).ops + 1 ≤ _
      rw [Dsk.wrote_ops]; have := h.ops.2; omega
  · obtain ⟨h0, ⟨q, eq⟩, e1, e2, e3⟩ := h.stuck hg
    have hF0 := h.fuse
    rw [if_neg (by omega)] at hF0
    by_cases hu : uOf x i = true
    · rw [hu] at hF0
      refine (write_down W d s m D _ true a _ 256 C h.at' hF0 (by unfold Dsk.up; simp)).mono ?_
      rintro e w' ⟨rfl, hB⟩
      refine .inr ⟨hg, rfl, h.next (Off.of hB) (.inl rfl) (h.at'.below hB) ⟨h.ef, h.out, h.ops.1, by have := h.ops.2; omega⟩ (fun _ => ?_), Off.of hB⟩
      rw [e2, e3, ← h.ef]
      rw [e1] at hF0
      exact hF0.below hB
    · have hu' : uOf x i = false := by simpa using hu
      rw [hu'] at hF0
      refine (write_blow W d s m D _ false a _ 1 C h.at' hF0 h.ok (by unfold Dsk.up; rw [h.out]; rfl) (by rw [h.ef, eq, e1]; rfl) (by omega) (by omega) (by omega) (by unfold hasB; simp; omega)).mono ?_
      rintro e w' ⟨rfl, hD, hF, hO⟩
      rw [h.ef] at hO
      have hO' : Off ([d, s, m] ++ fz.toList) W w' := hO.mono (fun y hy => List.mem_append.2 (.inr hy))
      refine .inr ⟨hg, rfl, h.next hO' (.inl rfl) hD ⟨h.ef, h.out, h.ops.1, by have := h.ops.2; omega⟩ (fun _ => ?_), hO'⟩
      rw [e2, e3, ← h.ef]
      rw [e1] at hF
      exact hF
theorem one_flush (w0 W : World) (d s m i : Nat) (D : Dsk) (fz : Option Nat) (x : Int) (h : One w0 W d s m D fz x i) (hi : i < 60) :
    Calls Try.prog 14 #[.pointer (some ⟨d, 0, none⟩)] W (TryPost w0 W d s m D D.safe.more fz x i) := by
  by_cases hg : goes x i
  · obtain ⟨hu, hps⟩ := h.upT hg
    refine (flush_ok W d s m D _ _ h.at' h.fuse h.ok hu hps h.lt ⟨h.ops.1, by have := h.ops.2; omega⟩).mono ?_
    rintro e w' ⟨rfl, m', hm', hD, hF, hO⟩
    rw [h.ef] at hO
    have hm3 : W.heap.size ≤ m' := by rcases hm' with g | g; (· exact absurd (by simpa using g : m' = d).symm hD.dm); (· exact g)
    have hO' : Off ([d, s, m] ++ fz.toList) W w' := hO.mono (fun y hy => by rcases List.mem_append.1 hy with g | g; (· simp at g; exact List.mem_append.2 (.inl (by simp [g]))); (· exact List.mem_append.2 (.inr g)))
    refine .inl ⟨hg, rfl, m', .inr hm3, h.next hO' (.inr hm3) hD ⟨h.ef, h.out, ?_, ?_⟩ (h.left hg hF), hO'⟩
    · show 0 ≤ D.ops + 1
      have := h.ops.1; omega
    · show D.ops + 1 ≤ _
      have := h.ops.2; omega
  · obtain ⟨h0, ⟨q, eq⟩, e1, e2, e3⟩ := h.stuck hg
    have hF0 := h.fuse
    rw [if_neg (by omega)] at hF0
    by_cases hu : uOf x i = true
    · rw [hu] at hF0
      refine (flush_down W d s m D _ true h.at' hF0 (by unfold Dsk.up; simp)).mono ?_
      rintro e w' ⟨rfl, hB⟩
      refine .inr ⟨hg, rfl, h.next (Off.of hB) (.inl rfl) (h.at'.below hB) ⟨h.ef, h.out, h.ops.1, by have := h.ops.2; omega⟩ (fun _ => ?_), Off.of hB⟩
      rw [e2, e3, ← h.ef]
      rw [e1] at hF0
      exact hF0.below hB
    · have hu' : uOf x i = false := by simpa using hu
      rw [hu'] at hF0
      refine (flush_blow W d s m D _ false h.at' hF0 h.ok (by unfold Dsk.up; rw [h.out]; rfl) (by rw [h.ef, eq, e1]; rfl)).mono ?_
      rintro e w' ⟨rfl, hD, hF, hO⟩
      rw [h.ef] at hO
      have hO' : Off ([d, s, m] ++ fz.toList) W w' := hO.mono (fun y hy => List.mem_append.2 (.inr hy))
      refine .inr ⟨hg, rfl, h.next hO' (.inl rfl) hD ⟨h.ef, h.out, h.ops.1, by have := h.ops.2; omega⟩ (fun _ => ?_), hO'⟩
      rw [e2, e3, ← h.ef]
      rw [e1] at hF
      exact hF
/-- What Fuse of one disk answers. -/
def FuOne (w0 : World) (d s m : Nat) (D : Dsk) (x : Int) (e : Ending) (w' : World) : Prop := e = .returned (.int .i64 0) ∧ ∃ q, One w0 w' d s m { D with out := false, fz := some q } (some q) x 0
theorem one_fuse (w0 W : World) (d s m C : Nat) (D : Dsk) (x : Int) (h : St w0 W d s m D) (hf : D.fz = none ∧ D.out = false ∧ D.ops = 0) (hx : 0 ≤ x) (hx2 : x < 9223372036854775808) :
    Calls Try.prog 22 #[.slice (some ⟨W.heap.size, 0, none⟩) 1 C, .int .i64 x] (W.alloc (.cells #[.pointer (some ⟨d, 0, none⟩)] 33)) (FuOne w0 d s m D x) := by
  have B0 : Below W.heap.size W (W.alloc (.cells #[.pointer (some ⟨d, 0, none⟩)] 33)) := (Below.refl _ _).alloc (Nat.le_refl _) _
  have dl := h.at'.dl
  have sl := h.at'.sl
  have ml := h.at'.ml
  have g1 := h.hd
  have g2 := h.hs
  have g3 := h.hm
  have g7 := h.bel.size
  refine (fuse_ok _ W.heap.size 1 C x (fun _ => d) (fun _ => s) (fun _ => m) (fun _ => D) ⟨fun i hi => h.at'.below B0, fun i j hi hj hij => by omega⟩ ⟨fun i hi => ?_, by simp⟩ (fun i hi => ?_) (by omega) hx hx2 (fun i hi => ⟨hf.1, hf.2.1⟩)).mono ?_
  · obtain rfl : i = 0 := by omega
    rw [cell_of_row _ _ _ _ _ _ (heap_alloc_new W _)]
    rfl
  · show W.heap.size ≠ d
    omega
  · rintro e w' ⟨rfl, q, hq, hD, hF, hO⟩
    have hq' : W.heap.size ≤ q := Nat.le_trans B0.size hq
    refine ⟨rfl, q, hD.at' 0 (by omega), fun y hy => ?_, (h.bel.trans (B0.mono g7)).trans (hO.below (fun b hb => ?_) (Nat.le_trans g7 B0.size)), rfl, ?_, rfl, .inr ⟨hx, q, rfl, ?_, ?_, Nat.le_trans g7 hq', hF.1.2.2⟩⟩
    · simp at hy
      omega
    · simp at hb
      omega
    · show 0 ≤ D.ops ∧ D.ops ≤ _
      rw [hf.2.2]
      exact ⟨by omega, by omega⟩
    · have e1 : lOf x 0 = x := by unfold lOf; rw [if_pos (by omega)]; omega
      have e2 : uOf x 0 = false := decide_eq_false (by omega)
      rw [e1, e2]
      exact hF
    · simp
      omega
theorem one_plain {w0 W : World} {d s m : Nat} {D : Dsk} {x : Int} (h : St w0 W d s m D) (hf : D.fz = none ∧ D.out = false ∧ D.ops = 0) (hx : x < 0) : One w0 W d s m D none x 0 := by
  have g1 := h.hd
  have g2 := h.hs
  have g3 := h.hm
  refine ⟨h.at', fun y hy => ?_, h.bel, hf.2.1, ?_, hf.1, .inl ⟨hx, rfl⟩⟩
  · simp at hy
    omega
  · rw [hf.2.2]
    exact ⟨by omega, by omega⟩
end Go.Proofs.Ytoehbljnapdbgaa
