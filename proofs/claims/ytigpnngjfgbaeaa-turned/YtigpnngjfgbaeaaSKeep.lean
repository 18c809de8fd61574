/-
  Walks, not a claim by itself: superblock's keep and Format, of a disk without a fuse. By the verifier.
-/
import Derived.Test.YtigpnngjfgbaeaaSSt
import Derived.Test.YtigpnngjfgbaeaaSRep
import Derived.Test.YtigpnngjfgbaeaaSFnd0
namespace Go.Proofs.Ytigpnngjfgbaeaa
open Go.RowKit Go.Maps
/-- A disk of few changes, without a fuse, up. -/
def Dsk.few (D : Dsk) (n : Int) : Prop := D.fz = none ∧ D.out = false ∧ 0 ≤ D.ops ∧ D.ops ≤ n
theorem Dsk.few.free {D : Dsk} {n : Int} (h : D.few n) (hn : n ≤ 1000000) : D.free := ⟨h.1, h.2.1, h.2.2.1, by have := h.2.2.2; omega⟩
theorem Dsk.few.mono {D : Dsk} {n n' : Int} (h : D.few n) (hn : n ≤ n') : D.few n' := ⟨h.1, h.2.1, h.2.2.1, by have := h.2.2.2; omega⟩
theorem Dsk.few.wrote {D : Dsk} {n : Int} (h : D.few n) (a : Nat) (F : Nat → Int) (k : Nat) : ((D.wrote a F k).more).few (n + 1) := by
  obtain ⟨h1, h2, h3, h4⟩ := h
  refine ⟨(D.wrote_fz a F k).trans h1, (D.wrote_out a F k).trans h2, ?_, ?_⟩
  · show 0 ≤ (D.wrote a F k).ops + 1; rw [D.wrote_ops]; omega
  · show (D.wrote a F k).ops + 1 ≤ n + 1; rw [D.wrote_ops]; omega
theorem Dsk.few.safe {D : Dsk} {n : Int} (h : D.few n) : (D.safe.more).few (n + 1) := by
  obtain ⟨h1, h2, h3, h4⟩ := h
  exact ⟨h1, h2, by show 0 ≤ D.ops + 1; omega, by show D.ops + 1 ≤ n + 1; omega⟩
/-- What keep makes of a disk. -/
def Dsk.kept (D : Dsk) (a : Nat) (F : Nat → Int) (k : Nat) : Dsk := ((D.wrote a F k).more).safe.more
theorem Dsk.few.kept {D : Dsk} {n : Int} (h : D.few n) (a : Nat) (F : Nat → Int) (k : Nat) : (D.kept a F k).few (n + 2) := by
  have := (h.wrote a F k).safe
  exact this.mono (by omega)
theorem Dsk.kept_N (D : Dsk) (a : Nat) (F : Nat → Int) (k : Nat) : (D.kept a F k).N = D.N := D.wrote_N a F k
/-- What keep leaves. -/
def KeptPost (w0 W : World) (d s m : Nat) (D' : Dsk) (e : Ending) (w' : World) : Prop := e = .returned (.int .i64 0) ∧ ∃ m', St w0 w' d s m' D' ∧ (m' = m ∨ W.heap.size ≤ m') ∧ Off [d, s, m] W w'
set_option maxRecDepth 100000 in
theorem keep_st (w0 W : World) (d s m x b off c n C : Nat) (D : Dsk) (f : Nat → Int) (h : St w0 W d s m D) (hf : D.few 1000) (hx : x ≤ 1000) (hn : n = c * 256) (hL : Lies W b off (c * 256) f) (hc1 : 1 ≤ c) (hc : c ≤ 8) (hC : c * 256 ≤ C) (ha : x * 2 + c ≤ D.N) (hb : b ≠ s ∧ b ≠ m) :
    Calls Try.prog 49 #[.pointer (some ⟨d, 0, none⟩), .int .i64 (x : Int), .slice (some ⟨b, off, none⟩) n C] W (KeptPost w0 W d s m (D.kept (x * 2) f c)) := by
  have WR : Hid (Calls Try.prog 62 #[.pointer (some ⟨d, 0, none⟩), .int .i64 ((x : Int) * 2), .slice (some ⟨b, off, none⟩) n C] W (StPost w0 W d s (D.wrote (x * 2) f c).more [d, s, m] 0)) := by
    have hfr : D.free := hf.free (by decide)
    have hi : (x : Int) * 2 = ((x * 2 : Nat) : Int) := by omega
    exact st_write w0 W d s m (x * 2) b off c n C ((x : Int) * 2) D f h hfr hi hn hL hc1 hc hC ha hb
  have FL : Hid (∀ w' m', St w0 w' d s m' (D.wrote (x * 2) f c).more → Calls Try.prog 63 #[.pointer (some ⟨d, 0, none⟩)] w' (StPost w0 w' d s (D.wrote (x * 2) f c).more.safe.more [d, m'] 0)) := fun w' m' h' => st_flush w0 w' d s m' _ h' ((hf.wrote (x * 2) f c).free (by decide))
  have GD : Hid (d < W.heap.size ∧ s < W.heap.size ∧ m < W.heap.size ∧ d ≠ m ∧ s ≠ m ∧ d ≠ s) := ⟨h.at'.dl, h.at'.sl, h.at'.ml, h.at'.dm, h.at'.sm, h.at'.ds⟩
  have i1 : IntKind.i64.wrap ((x : Int) * 2) = (x : Int) * 2 := by rw [IntKind.wrap_i64]; omega
  have i2 : wrap64 ((x : Int) * 2) = (x : Int) * 2 := by unfold wrap64; omega
  clear h hf hL hn hc1 hc hC ha hb
  go_enter Try.func49, Try.ntmps49
  go_wp2_with (first
    | (go_at_call 62; refine WR.out.mono ?_; rintro e w1 ⟨rfl, m1, h1, hm1, o1⟩; have H1 : Hid (St w0 w1 d s m1 (D.wrote (x * 2) f c).more ∧ (m1 ∈ [d, s, m] ∨ W.heap.size ≤ m1) ∧ Off [d, s, m] W w1) := ⟨h1, hm1, o1⟩; clear h1 hm1 o1)
    | (go_at_call 63; refine (FL.out _ m1 H1.out.1).mono ?_; rintro e w2 ⟨rfl, m2, h2, hm2, o2⟩; have H2 : Hid (St w0 w2 d s m2 (D.wrote (x * 2) f c).more.safe.more ∧ (m2 ∈ [d, m1] ∨ w1.heap.size ≤ m2) ∧ Off [d, m1] w1 w2) := ⟨h2, hm2, o2⟩; clear h2 hm2 o2))
  go_ret
  obtain ⟨h1, hm1, o1⟩ := H1.out
  obtain ⟨h2, hm2, o2⟩ := H2.out
  obtain ⟨g1, g2, g3, g4, g5, g6⟩ := GD.out
  have m1' : m1 = m ∨ W.heap.size ≤ m1 := by
    rcases hm1 with q | q
    · simp at q
      rcases q with q | q | q
      · exact absurd q.symm h1.at'.dm
      · exact absurd q.symm h1.at'.sm
      · exact .inl q
    · exact .inr q
  have m2' : m2 = m ∨ W.heap.size ≤ m2 := by
    rcases hm2 with q | q
    · simp at q
      rcases q with q | q
      · exact absurd q.symm h2.at'.dm
      · rw [q]; exact m1'
    · exact .inr (Nat.le_trans o1.size q)
  refine ⟨rfl, m2, h2, m2', o1.far o2 (fun y q => ?_)⟩
  simp at q
  rcases q with q | q
  · exact .inl (by simp [q])
  · rcases m1' with r | r
    · exact .inl (by simp [q, r])
    · exact .inr (by omega)
end Go.Proofs.Ytigpnngjfgbaeaa
