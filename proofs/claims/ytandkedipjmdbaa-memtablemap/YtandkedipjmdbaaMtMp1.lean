/-
  Plain facts, not a claim by itself: what MemtableMap's first loop keeps in memory. By the verifier.
-/
import Derived.Test.YtandkedipjmdbaaMtMp0
import Derived.Test.YtandkedipjmdbaaMtPt
import Derived.Test.YtandkedipjmdbaaMtCpy
namespace Go.Proofs.Ytandkedipjmdbaa
open Go.RowKit
/-- The table, and the list of the pairs that were laid, in memory: W1 is the world ahead of the table, t its block. -/
structure MpM (W1 : World) (t : Nat) (wr : World) (v : Value) (qs : List PV) (lv : Value) (ls : List PV) : Prop where
  tab : Tab wr t v qs
  own : OwnP wr 0 lv ls
  newT : ∀ g, v.ownBlock = some g → W1.heap.size ≤ g
  ht : W1.heap.size ≤ t
  sep : ∀ b, b ∈ lv.ownBlock.toList → W1.heap.size ≤ b ∧ b ∉ t :: v.ownBlock.toList
  oksQ : ∀ x ∈ qs, PVOk wr lv.ownBlock.toList x
  oksL : ∀ x ∈ ls, PVOk W1 [] x
  below : Below W1.heap.size W1 wr
theorem MpM.lvlt {W1 wr : World} {t : Nat} {v lv : Value} {qs ls : List PV} (h : MpM W1 t wr v qs lv ls) : ∀ b, b ∈ lv.ownBlock.toList → b < wr.heap.size := fun b hb => by
  cases e : lv.ownBlock with
  | none => rw [e] at hb; cases hb
  | some q => rw [e] at hb; simp at hb; subst hb; exact (World.ownsRow.lt h.own _ e).2
theorem MpM.more {W1 wr W2 : World} {t : Nat} {v lv : Value} {qs ls : List PV} (h : MpM W1 t wr v qs lv ls) (hB : Below wr.heap.size wr W2) : MpM W1 t W2 v qs lv ls :=
  ⟨h.tab.below hB, h.own.below hB, h.newT, h.ht, h.sep, fun x hx => (h.oksQ x hx).below hB, h.oksL, h.below.trans (hB.mono h.below.size)⟩
theorem MpM.lay {W1 W2 W3 : World} {t : Nat} {v v' lv : Value} {qs qs' ls : List PV} (h : MpM W1 t W2 v qs lv ls) (hT : Tab W3 t v' qs') (hO : Off (t :: v.ownBlock.toList) W2 W3) (hv : ∀ g, v'.ownBlock = some g → v.ownBlock = some g ∨ W2.heap.size ≤ g) (hF : ∀ y ∈ qs', y ∈ qs ∨ ∀ M : List Nat, (∀ b, b ∈ M → b < W2.heap.size) → PVOk W3 M y) : MpM W1 t W3 v' qs' lv ls := by
  refine ⟨hT, h.own.off hO (fun g hg => (h.sep g (by simp [hg])).2), fun g hg => ?_, h.ht, fun b hb => ⟨(h.sep b hb).1, fun q => ?_⟩, fun x hx => ?_, h.oksL, h.below.trans (hO.below (tab_new h.newT h.ht) h.below.size)⟩
  · rcases hv g hg with q | q
    · exact h.newT g q
    · exact Nat.le_trans h.below.size q
  · rcases List.mem_cons.1 q with q | q
    · exact (h.sep b hb).2 (by simp [q])
    · cases e : v'.ownBlock with
      | none => rw [e] at q; cases q
      | some g =>
        rw [e] at q
        simp at q
        subst q
        rcases hv _ e with q | q
        · exact (h.sep b hb).2 (by rw [q]; simp)
        · have := h.lvlt b hb
          omega
  · rcases hF x hx with q | q
    · exact (h.oksQ x q).both (h.tab.ok x q) hO
    · exact q _ h.lvlt
theorem MpM.app {W1 W5 W6 : World} {t : Nat} {v lv v6 : Value} {qs ls : List PV} {y : PV} (h : MpM W1 t W5 v qs lv ls) (hI : Insd W5 lv (ls ++ [y]) v6 W6) (hy : PVOk W1 [] y) : MpM W1 t W6 v qs v6 (ls ++ [y]) := by
  have n6 : ∀ b, b ∈ v6.ownBlock.toList → b ∈ lv.ownBlock.toList ∨ W5.heap.size ≤ b := fun b hb => by
    cases e : v6.ownBlock with
    | none => rw [e] at hb; cases hb
    | some g =>
      rw [e] at hb
      simp at hb
      subst hb
      rcases hI.blk _ e with q | q
      · exact .inl (by rw [q]; simp)
      · exact .inr q
  refine ⟨h.tab.off hI.off (fun b hb => (h.sep b hb).2) h.oksQ, hI.own, h.newT, h.ht, fun b hb => ?_, fun x hx => ((h.oksQ x hx).mono n6).both (h.oksQ x hx) hI.off, fun x hx => ?_, h.below.trans (hI.off.below (fun b hb => (h.sep b hb).1) h.below.size)⟩
  · rcases n6 b hb with q | q
    · exact h.sep b q
    · refine ⟨Nat.le_trans h.below.size q, fun z => ?_⟩
      have := h.tab.lt b z
      omega
  · rcases List.mem_append.1 hx with hx | hx
    · exact h.oksL x hx
    · rcases List.mem_singleton.1 hx with rfl
      exact hy
theorem MpM.lst {W1 wr : World} {t : Nat} {v lv : Value} {qs ls : List PV} (h : MpM W1 t wr v qs lv ls) : ∃ a C, lv = .slice a ls.length C ∧ Lst wr a ls := by
  obtain ⟨a, C, hv, _⟩ := h.own.slice
  exact ⟨a, C, hv, OwnP.lst (a := a) (n := ls.length) (cap := C) (hv ▸ h.own) (fun x hx => (h.oksL x hx).below h.below)⟩
/-- What the second loop has in its variables. -/
structure MpS (Z : World) (ls : List PV) (key : ByteArray) (k : Nat) (wr : World) (cs : List Value) : Prop where
  below : Below Z.heap.size Z wr
  rc : Rec19 wr Z.heap.size 0 cs
  len : cs.length = 3
  is : match scn (ls.map PV.p) key k with
    | none => cs = [.slice none 0 0, .slice none 0 0, .bool false]
    | some p => ∃ x : PV, cs = x.cs ∧ x.p = p ∧ PVOk Z [] x
end Go.Proofs.Ytandkedipjmdbaa
