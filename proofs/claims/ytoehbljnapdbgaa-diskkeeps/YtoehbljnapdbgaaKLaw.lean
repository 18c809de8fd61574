/-
  Walks, not a claim by itself: DiskKeeps. By the verifier.
-/
import Derived.Test.YtoehbljnapdbgaaKOne
import Derived.Test.YtoehbljnapdbgaaKRd
import Derived.Test.YtoehbljnapdbgaaEKnown2
namespace Go.Proofs.Ytoehbljnapdbgaa
open Go.RowKit Go.Maps
/-- Steps that came in. -/
def SArg (W : World) (a : Option Addr) (n : Nat) (A V : Nat → Int) (F : Nat → Bool) : Prop := ∀ i, i < n → ∃ b off, a = some ⟨b, off, none⟩ ∧ W.cell? ⟨b, off + i * 3, none⟩ = some (.int .i64 (A i)) ∧ W.cell? ⟨b, off + i * 3 + 1, none⟩ = some (.int .u8 (V i)) ∧ W.cell? ⟨b, off + i * 3 + 2, none⟩ = some (.bool (F i)) ∧ (0 ≤ V i ∧ V i < 256) ∧ b < W.heap.size
theorem SArg.below {W W' : World} {a : Option Addr} {n : Nat} {A V : Nat → Int} {F : Nat → Bool} (h : SArg W a n A V F) (hB : Below W.heap.size W W') : SArg W' a n A V F := fun i hi => by
  obtain ⟨b, off, e, c0, c1, c2, v, l⟩ := h i hi
  exact ⟨b, off, e, (hB.cell (p := ⟨b, off + i * 3, none⟩) l).trans c0, (hB.cell (p := ⟨b, off + i * 3 + 1, none⟩) l).trans c1, (hB.cell (p := ⟨b, off + i * 3 + 2, none⟩) l).trans c2, v, Nat.lt_of_lt_of_le l hB.size⟩
/-- The law's own bytes, and the disk. -/
structure Kp (w0 W : World) (d s m S NB OB : Nat) (D : Dsk) (fz : Option Nat) (x : Int) (i : Nat) (now old : Nat → Int) : Prop where
  one : One w0 W d s m D fz x i
  hN : D.N = S
  inv : KInv D now old
  rn : IRow W NB .u8 S now
  ro : Lies W OB 0 S old
  bn : ∀ j, j < S → 0 ≤ now j ∧ now j < 256
  an : NB ∉ [d, s, m] ++ fz.toList
  ao : OB ∉ [d, s, m] ++ fz.toList
  gn : w0.heap.size ≤ NB
  on : OB ≠ NB
/-- The head of the first loop. -/
def kpRel (w0 : World) (d s S NB n : Nat) (fz : Option Nat) (x : Int) (o i : Value) (wr : World) : Prop := ∃ k : Nat, k ≤ n ∧ i = .int .i64 k ∧ ∃ m OB cap D now old, o = .slice (some ⟨OB, 0, none⟩) S cap ∧ Kp w0 wr d s m S NB OB D fz x k now old
theorem Kp.below {w0 W W' : World} {d s m S NB OB i : Nat} {D : Dsk} {fz : Option Nat} {x : Int} {now old : Nat → Int} (h : Kp w0 W d s m S NB OB D fz x i now old) (hB : Below W.heap.size W W') : Kp w0 W' d s m S NB OB D fz x i now old :=
  { h with one := h.one.below hB, rn := h.rn.below hB, ro := h.ro.below hB }
theorem app_notin {B d s m m' h : Nat} {fz : Option Nat} (h1 : B ∉ [d, s, m] ++ fz.toList) (hB : B < h) (hm : m' = m ∨ h ≤ m') : B ∉ [d, s, m'] ++ fz.toList := by
  rcases hm with rfl | hm
  · exact h1
  · intro q
    rcases List.mem_append.1 q with g | g
    · simp at g
      rcases g with g | g | g
      · exact h1 (by simp [g])
      · exact h1 (by simp [g])
      · omega
    · exact h1 (List.mem_append.2 (.inr g))
/-- A try that did not go through. -/
theorem Kp.same {w0 W W' : World} {d s m S NB OB i : Nat} {D : Dsk} {fz : Option Nat} {x : Int} {now old : Nat → Int} (h : Kp w0 W d s m S NB OB D fz x i now old) (h1 : One w0 W' d s m D fz x (i + 1)) (hO : Off ([d, s, m] ++ fz.toList) W W') : Kp w0 W' d s m S NB OB D fz x (i + 1) now old :=
  { h with one := h1, rn := h.rn.off hO h.an, ro := h.ro.off hO h.ao }
theorem Kp.written {w0 W W' : World} {d s m m' S NB OB i a : Nat} {v : Int} {D : Dsk} {fz : Option Nat} {x : Int} {now old : Nat → Int} (h : Kp w0 W d s m S NB OB D fz x i now old) (h1 : One w0 W' d s m' (D.wrote a (fun _ => v) 1).more fz x (i + 1)) (hO : Off ([d, s, m] ++ fz.toList) W W') (hm : m' = m ∨ W.heap.size ≤ m') (hv : 0 ≤ v ∧ v < 256) :
    Kp w0 (W'.setCell ⟨NB, a, none⟩ (.int .u8 v)) d s m' S NB OB (D.wrote a (fun _ => v) 1).more fz x (i + 1) (upd now a v) old := by
  have an' := app_notin h.an h.rn.2.2 hm
  have ao' := app_notin h.ao h.ro.2.2 hm
  have B1 : But NB W' (W'.setCell ⟨NB, a, none⟩ (.int .u8 v)) := But.set _ _ _
  have O1 : Off [NB] W' (W'.setCell ⟨NB, a, none⟩ (.int .u8 v)) := Off.but B1 (by simp)
  have hnb : NB < W'.heap.size := Nat.lt_of_lt_of_le h.rn.2.2 hO.size
  have dn : ∀ y, y ∈ [d, s, m'] → y ∉ [NB] := fun y hy q => an' (List.mem_append.2 (.inl ((show y = NB by simpa using q) ▸ hy)))
  refine ⟨?_, (D.wrote_N a _ 1).trans h.hN, h.inv.write a v, (h.rn.off hO h.an).set a v, (h.ro.off hO h.ao).but B1 h.on, fun j hj => ?_, an', ao', h.gn, h.on⟩
  · refine { h1 with at' := h1.at'.off O1 (dn d (by simp)) (dn s (by simp)) (dn m' (by simp)), bel := h1.bel.trans (O1.below (fun y hy => (show y = NB by simpa using hy) ▸ h.gn) h1.bel.size), fu := ?_ }
    rcases h1.fu with g | ⟨h0, q, e, g1, g2, g3, g4⟩
    · exact .inl g
    · refine .inr ⟨h0, q, e, g1.off O1 (fun r er => ?_), g2, g3, Nat.lt_of_lt_of_le g4 O1.size⟩
      cases er
      intro q'
      exact an' (List.mem_append.2 (.inr (by rw [e]; simp at q' ⊢; exact q'.symm)))
  · unfold upd
    split
    · exact hv
    · exact h.bn j hj
theorem Kp.flushed {w0 W W' : World} {d s m m' S NB OB i : Nat} {D : Dsk} {fz : Option Nat} {x : Int} {now old : Nat → Int} (h : Kp w0 W d s m S NB OB D fz x i now old) (h1 : One w0 W' d s m' D.safe.more fz x (i + 1)) (hO : Off ([d, s, m] ++ fz.toList) W W') (hm : m' = m ∨ W.heap.size ≤ m') :
    ∀ W2 g, Below W'.heap.size W' W2 → W'.heap.size ≤ g → Lies W2 g 0 S now → Kp w0 W2 d s m' S NB g D.safe.more fz x (i + 1) now now := by
  intro W2 g hB hg hl
  have an' := app_notin h.an h.rn.2.2 hm
  have nb := Nat.lt_of_lt_of_le h.rn.2.2 hO.size
  refine ⟨h1.below hB, h.hN, h.inv.flush, (h.rn.off hO h.an).below hB, hl, h.bn, an', fun q => ?_, h.gn, by omega⟩
  rcases List.mem_append.1 q with k | k
  · have := h1.at'.lt g k
    omega
  · have := h1.lt g (h1.ef.trans (fz_mem k))
    omega
end Go.Proofs.Ytoehbljnapdbgaa
