/-
  Laws, not a claim by itself: a disk without a fuse, step by step. By the verifier.
-/
import Derived.Test.YtfapmogjmjlokaaDWrite2
import Derived.Test.YtfapmogjmjlokaaDTurn
import Derived.Test.YtfapmogjmjlokaaDRead
namespace Go.Proofs.Ytfapmogjmjlokaa
open Go.RowKit Go.Maps
theorem Dsk.wrote_out (D : Dsk) (a : Nat) (F : Nat → Int) : ∀ k, (D.wrote a F k).out = D.out
  | 0 => rfl
  | k + 1 => D.wrote_out a F k
theorem Dsk.wrote_lo (D : Dsk) (a : Nat) (F : Nat → Int) (n : Nat) : ∀ k, (D.wrote a F k).lo n = (decide (a ≤ n ∧ n < a + k) || D.lo n)
  | 0 => by
    have : ¬ (a ≤ n ∧ n < a + 0) := by omega
    show D.lo n = _
    rw [decide_eq_false this, Bool.false_or]
  | k + 1 => by
    show setB (D.wrote a F k).lo (a + k) n = _
    unfold setB
    rw [D.wrote_lo a F n k]
    by_cases e : n = a + k
    · rw [if_pos e, decide_eq_true (by omega), Bool.true_or]
    · rw [if_neg e, show decide (a ≤ n ∧ n < a + k) = decide (a ≤ n ∧ n < a + (k + 1)) from by rw [decide_eq_decide]; omega]
theorem Dsk.wrote_sec (D : Dsk) (a : Nat) (F : Nat → Int) (n j : Nat) (hj : j < 256) : ∀ k, at256 (D.wrote a F k).sec n j = if a ≤ n ∧ n < a + k then F ((n - a) * 256 + j) else at256 D.sec n j
  | 0 => by rw [if_neg (by omega)]; rfl
  | k + 1 => by
    show at256 (putF (D.wrote a F k).sec (a + k) (fun j => F (k * 256 + j))) n j = _
    by_cases e : n = a + k
    · subst e
      rw [putF_same _ _ _ _ hj, if_pos (by omega), show a + k - a = k by omega]
    · rw [putF_other _ _ _ _ _ hj e, D.wrote_sec a F n j hj k]
      by_cases g : a ≤ n ∧ n < a + k
      · rw [if_pos g, if_pos (by omega)]
      · rw [if_neg g, if_neg (by omega)]
theorem Dsk.wrote_ob (D : Dsk) (a : Nat) (F : Nat → Int) (n j : Nat) (hj : j < 256) : ∀ k, at256 (D.wrote a F k).ob n j = if (a ≤ n ∧ n < a + k) ∧ D.lo n = false then at256 D.sec n j else at256 D.ob n j
  | 0 => by rw [if_neg (by omega)]; rfl
  | k + 1 => by
    show at256 (if (D.wrote a F k).lo (a + k) = true then (D.wrote a F k).ob else putF (D.wrote a F k).ob (a + k) (at256 (D.wrote a F k).sec (a + k))) n j = _
    have l1 := D.wrote_lo a F (a + k) k
    rw [decide_eq_false (by omega), Bool.false_or] at l1
    rw [l1]
    by_cases e : n = a + k
    · subst e
      by_cases g : D.lo (a + k) = true
      · rw [if_pos g, D.wrote_ob a F (a + k) j hj k, if_neg (by omega), if_neg (fun q => by rw [q.2] at g; cases g)]
      · rw [if_neg g, putF_same _ _ _ _ hj, D.wrote_sec a F (a + k) j hj k, if_neg (by omega), if_pos ⟨by omega, by simpa using g⟩]
    · have key : at256 (D.wrote a F k).ob n j = if (a ≤ n ∧ n < a + (k + 1)) ∧ D.lo n = false then at256 D.sec n j else at256 D.ob n j := by
        rw [D.wrote_ob a F n j hj k]
        by_cases g : (a ≤ n ∧ n < a + k) ∧ D.lo n = false
        · rw [if_pos g, if_pos ⟨by omega, g.2⟩]
        · rw [if_neg g, if_neg (fun q => g ⟨by omega, q.2⟩)]
      split
      · exact key
      · rw [putF_other _ _ _ _ _ hj e]
        exact key
/-- A disk that was made behind w0, and all that lies before w0 is as it was. -/
structure St (w0 W : World) (d s m : Nat) (D : Dsk) : Prop where
  at' : DiskAt W d s m D
  hd : w0.heap.size ≤ d
  hs : w0.heap.size ≤ s
  hm : w0.heap.size ≤ m
  bel : Below w0.heap.size w0 W
theorem St.below {w0 W W' : World} {d s m : Nat} {D : Dsk} (h : St w0 W d s m D) (hB : Below W.heap.size W W') : St w0 W' d s m D := ⟨h.at'.below hB, h.hd, h.hs, h.hm, h.bel.trans (hB.mono h.bel.size)⟩
theorem St.of {w0 W W' : World} {d s m : Nat} {D D' : Dsk} {bs : List Nat} {m' : Nat} (h : St w0 W d s m D) (hb : ∀ b, b ∈ bs → b = d ∨ b = s ∨ b = m) (hO : Off bs W W') (hm' : m' = m ∨ W.heap.size ≤ m') (hD : DiskAt W' d s m' D') : St w0 W' d s m' D' :=
  ⟨hD, h.hd, h.hs, by rcases hm' with rfl | g; (· exact h.hm); (· exact Nat.le_trans h.bel.size g), h.bel.trans (hO.below (fun b q => by have h1 := h.hd; have h2 := h.hs; have h3 := h.hm; rcases hb b q with rfl | rfl | rfl <;> omega) h.bel.size)⟩
/-- What a step of such a disk answers. -/
def StPost (w0 W : World) (d s : Nat) (D : Dsk) (bs : List Nat) (c : Int) (e : Ending) (w' : World) : Prop := e = .returned (.int .i64 c) ∧ ∃ m', St w0 w' d s m' D ∧ (m' ∈ bs ∨ W.heap.size ≤ m') ∧ Off bs W w'
/-- No fuse, and up. -/
def Dsk.free (D : Dsk) : Prop := D.fz = none ∧ D.out = false ∧ 0 ≤ D.ops ∧ D.ops ≤ 1000000
theorem Dsk.free.up {D : Dsk} (h : D.free) : D.up false = true := by unfold Dsk.up; rw [h.2.1]; rfl
theorem Dsk.free.pass {D : Dsk} (h : D.free) (l : Int) : fzPass D.fz l = true := by rw [h.1]; rfl
theorem Dsk.free.fuse {D : Dsk} (h : D.free) (W : World) (l : Int) : FuseIs W D.fz l false := by rw [h.1]; rfl
theorem Dsk.free.ok {D : Dsk} (h : D.free) (d s m : Nat) : FzOk D d s m := fun q e => by rw [h.1] at e; cases e
theorem st_write (w0 W : World) (d s m a b off c n C : Nat) (i : Int) (D : Dsk) (f : Nat → Int) (h : St w0 W d s m D) (hf : D.free) (hi : i = a) (hn : n = c * 256) (hL : Lies W b off (c * 256) f) (hc1 : 1 ≤ c) (hc : c ≤ 8) (hC : c * 256 ≤ C) (ha : a + c ≤ D.N) (hb : b ≠ s ∧ b ≠ m) :
    Calls Try.prog 62 #[.pointer (some ⟨d, 0, none⟩), .int .i64 i, .slice (some ⟨b, off, none⟩) n C] W (StPost w0 W d s (D.wrote a f c).more [d, s, m] 0) := by
  subst hi hn
  refine (write_ok W d s m a b off c C D f 0 false h.at' (hf.fuse W 0) (hf.ok d s m) hf.up (hf.pass 0) hL hc1 hc hC ha hb (fun q e => by rw [hf.1] at e; cases e) hf.2.2).mono ?_
  rintro e w' ⟨rfl, hD, _, hO⟩
  rw [hf.1] at hO
  exact ⟨rfl, m, h.of (bs := [d, s, m]) (fun b q => by simpa using q) hO (.inl rfl) hD, .inl (by simp), hO⟩
theorem st_flush (w0 W : World) (d s m : Nat) (D : Dsk) (h : St w0 W d s m D) (hf : D.free) :
    Calls Try.prog 63 #[.pointer (some ⟨d, 0, none⟩)] W (StPost w0 W d s D.safe.more [d, m] 0) := by
  refine (flush_ok W d s m D 0 false h.at' (hf.fuse W 0) (hf.ok d s m) hf.up (hf.pass 0) (fun q e => by rw [hf.1] at e; cases e) hf.2.2).mono ?_
  rintro e w' ⟨rfl, m', hm', hD, _, hO⟩
  rw [hf.1] at hO
  have hO' : Off [d] W w' := hO
  have hm2 : W.heap.size ≤ m' ∨ m' = d := by rcases hm' with g | g; (· exact .inr (by simpa using g)); (· exact .inl g)
  have hm3 : W.heap.size ≤ m' := by rcases hm2 with g | g; (· exact g); (· exact absurd g.symm hD.dm)
  exact ⟨rfl, m', h.of (bs := [d]) (fun b q => .inl (by simpa using q)) hO' (.inr hm3) hD, .inr hm3, hO'.mono (fun b q => by simp at q; simp [q])⟩
end Go.Proofs.Ytfapmogjmjlokaa
