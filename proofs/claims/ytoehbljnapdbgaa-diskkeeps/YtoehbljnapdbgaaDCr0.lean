/-
  Walks, not a claim by itself: Crash. By the verifier.
-/
import Derived.Test.YtoehbljnapdbgaaDLoose
import Derived.Test.YtoehbljnapdbgaaDWr0
namespace Go.Proofs.Ytoehbljnapdbgaa
open Go.RowKit Go.Maps
/-- Bools handed in. -/
def KArg (W : World) (p : Option Addr) (n : Nat) (kp : Nat → Bool) : Prop := n = 0 ∨ ∃ b off, p = some ⟨b, off, none⟩ ∧ (∀ i, i < n → W.cell? ⟨b, off + i, none⟩ = some (.bool (kp i))) ∧ b < W.heap.size
theorem KArg.off {W W' : World} {bs : List Nat} {p : Option Addr} {n : Nat} {kp : Nat → Bool} (h : KArg W p n kp) (hO : Off bs W W') (hb : ∀ r, p = some r → r.block ∉ bs) : KArg W' p n kp := by
  rcases h with h | ⟨b, off, rfl, h, hl⟩
  · exact .inl h
  · exact .inr ⟨b, off, rfl, fun i hi => (hO.cell (p := ⟨b, off + i, none⟩) hl (hb ⟨b, off, none⟩ rfl)).trans (h i hi), Nat.lt_of_lt_of_le hl hO.size⟩
theorem KArg.offw {W W' : World} {bs : List Nat} {p : Option Addr} {n : Nat} {kp : Nat → Bool} (h : KArg W p n kp) (hO : Off bs W W') (hb : n ≠ 0 → ∀ r, p = some r → r.block ∉ bs) : KArg W' p n kp := by
  by_cases hn : n = 0
  · exact .inl hn
  · exact h.off hO (hb hn)
/-- The loose sectors' numbers. -/
def looseN (N : Nat) (lo : Nat → Bool) : List Nat := (List.range N).filter lo
theorem looseL_N (N : Nat) (lo : Nat → Bool) : looseL N lo = (looseN N lo).map fun (n : Nat) => (n : Int) := rfl
theorem looseN_len (N : Nat) (lo : Nat → Bool) : (looseL N lo).length = (looseN N lo).length := by rw [looseL_N, List.length_map]
theorem looseN_at (N : Nat) (lo : Nat → Bool) (k : Nat) (hk : k < (looseN N lo).length) : (looseN N lo).getD k 0 < N ∧ lo ((looseN N lo).getD k 0) = true := by
  have h : (looseN N lo).getD k 0 ∈ looseN N lo := by
    rw [List.getD_eq_getElem?_getD, List.getElem?_eq_getElem hk]
    exact List.getElem_mem hk
  have := List.mem_filter.1 h
  exact ⟨List.mem_range.1 this.1, this.2⟩
/-- Its first half as f, its second as g. -/
def halfF (f g : Nat → Int) (j : Nat) : Int := if j < 128 then f j else g j
/-- What a crash makes of sectors, the first k loose ones gone through; how many have stayed. -/
def crashK (L : List Nat) (sec ob : Nat → Int) (nk : Nat) (kp : Nat → Bool) (tear : Int) : Nat → (Nat → Int) × Int
  | 0 => (sec, 0)
  | k + 1 =>
    let p := crashK L sec ob nk kp tear k
    let i := L.getD k 0
    if k < nk ∧ kp k = true then ((if p.2 = tear then putF p.1 i (halfF (at256 p.1 i) (at256 ob i)) else p.1), p.2 + 1) else (putF p.1 i (at256 ob i), p.2)
theorem crashK_st (L : List Nat) (sec ob : Nat → Int) (nk : Nat) (kp : Nat → Bool) (tear : Int) : ∀ k : Nat, 0 ≤ (crashK L sec ob nk kp tear k).2 ∧ (crashK L sec ob nk kp tear k).2 ≤ k
  | 0 => ⟨Int.le_refl _, Int.le_refl _⟩
  | k + 1 => by
    have ih := crashK_st L sec ob nk kp tear k
    simp only [crashK]
    split
    · dsimp only; omega
    · dsimp only; omega
/-- What is left of a disk that has crashed. -/
def Dsk.crash (D : Dsk) (nk : Nat) (kp : Nat → Bool) (tear : Int) : Dsk := { D with sec := (crashK (looseN D.N D.lo) D.sec D.ob nk kp tear (looseN D.N D.lo).length).1, lo := fun _ => false, fz := none, out := false }
/-- The list that the loop goes through. -/
def LList (W : World) (v : Value) (L : List Nat) : Prop := (L = [] ∧ ∃ a c, v = .slice a 0 c) ∨ ∃ g cap, v = .slice (some ⟨g, 0, none⟩) L.length cap ∧ (∀ i, i < L.length → W.cell? ⟨g, i, none⟩ = some (.int .i64 ((L.getD i 0 : Nat) : Int))) ∧ g < W.heap.size
theorem DiskAt.sec_put {W W2 : World} {d s m i : Nat} {D : Dsk} {F g : Nat → Int} (h : DiskAt W d s m { D with sec := F }) (hr : IRow W2 s .u8 (D.N * 256) (putF F i g)) (hB : But s W W2) (hg : ∀ j, j < 256 → 0 ≤ g j ∧ g j < 256) : DiskAt W2 d s m { D with sec := putF F i g } := by
  have O : Off [s] W W2 := Off.but hB (by simp)
  refine { recd := h.recd.off O (by have := h.ds; simp; omega), row := hr, map := h.map.off O (by have := h.sm; simp; omega), sb := fun j hj => ?_, obb := h.obb, n1 := h.n1, n2 := h.n2, ds := h.ds, dm := h.dm, sm := h.sm }
  show 0 ≤ putF F i g j ∧ putF F i g j < 256
  unfold putF
  split
  · exact hg _ (by omega)
  · exact h.sb j hj
/-- What holds at the head of the loop. -/
def crRel (W : World) (d s m : Nat) (D : Dsk) (nk : Nat) (kp : Nat → Bool) (tear : Int) (st i : Value) (wr : World) : Prop := ∃ k : Nat, k ≤ (looseN D.N D.lo).length ∧ i = .int .i64 k ∧ st = .int .i64 (crashK (looseN D.N D.lo) D.sec D.ob nk kp tear k).2 ∧
  DiskAt wr d s m { D with sec := (crashK (looseN D.N D.lo) D.sec D.ob nk kp tear k).1 } ∧ Off [s] W wr
theorem cr_gone (L : List Nat) (sec ob : Nat → Int) (nk : Nat) (kp : Nat → Bool) (tear : Int) (k : Nat) (h : ¬ (k < nk ∧ kp k = true)) : crashK L sec ob nk kp tear (k + 1) = (putF (crashK L sec ob nk kp tear k).1 (L.getD k 0) (at256 ob (L.getD k 0)), (crashK L sec ob nk kp tear k).2) := by
  simp only [crashK]
  rw [if_neg h]
theorem cr_torn (L : List Nat) (sec ob : Nat → Int) (nk : Nat) (kp : Nat → Bool) (tear : Int) (k : Nat) (h : k < nk ∧ kp k = true) (e : (crashK L sec ob nk kp tear k).2 = tear) : crashK L sec ob nk kp tear (k + 1) = (putF (crashK L sec ob nk kp tear k).1 (L.getD k 0) (halfF (at256 (crashK L sec ob nk kp tear k).1 (L.getD k 0)) (at256 ob (L.getD k 0))), (crashK L sec ob nk kp tear k).2 + 1) := by
  simp only [crashK]
  rw [if_pos h, if_pos e]
theorem cr_kept (L : List Nat) (sec ob : Nat → Int) (nk : Nat) (kp : Nat → Bool) (tear : Int) (k : Nat) (h : k < nk ∧ kp k = true) (e : ¬ (crashK L sec ob nk kp tear k).2 = tear) : crashK L sec ob nk kp tear (k + 1) = ((crashK L sec ob nk kp tear k).1, (crashK L sec ob nk kp tear k).2 + 1) := by
  simp only [crashK]
  rw [if_pos h, if_neg e]
theorem half_over (F g : Nat → Int) (i j : Nat) : over F (i * 256 + 128) 128 (fun t => g (128 + t)) j = putF F i (halfF (at256 F i) g) j := by
  unfold over putF halfF at256
  by_cases e : j / 256 = i
  · rw [if_pos e]
    by_cases q : j % 256 < 128
    · rw [if_pos q, if_neg (by omega), show i * 256 + j % 256 = j by omega]
    · rw [if_neg q, if_pos (by omega)]
      show g (128 + (j - (i * 256 + 128))) = g (j % 256)
      rw [show 128 + (j - (i * 256 + 128)) = j % 256 by omega]
  · rw [if_neg e, if_neg (by omega)]
end Go.Proofs.Ytoehbljnapdbgaa
