
/-
  Walks, not a claim by itself: the reference's Check; the kit's CopyPairs. By the verifier.
-/
import Derived.Test.YtgpafmgncolnmaaBArg
import Derived.Lib.Bytealg
import Derived.Test.YtgpafmgncolnmaaRecs
import Derived.Lib.BytesEntry
import Derived.Test.YtgpafmgncolnmaaHold
import Derived.Test.YtgpafmgncolnmaaFen
import Derived.Laws.Cover3
import Derived.Stop.Walk2
import Derived.Laws.IdiomStrings
import Derived.Lib.AppendZerosOnto
import Derived.Test.YtgpafmgncolnmaaDRegW
import Derived.Test.YtgpafmgncolnmaaReg2
import Derived.Test.YtgpafmgncolnmaaCut
import Derived.Lib.Overlaps
import Derived.Test.YtgpafmgncolnmaaBCopy
namespace Go.Proofs.Ytgpafmgncolnmaa
theorem cb_zero : ∀ (a b : List UInt8), Lib.compareBytes a b = 0 ↔ a = b
  | [], [] => by simp [Lib.compareBytes]
  | [], _ :: _ => by simp [Lib.compareBytes]
  | _ :: _, [] => by simp [Lib.compareBytes]
  | x :: a, y :: b => by
    unfold Lib.compareBytes
    by_cases h1 : x < y
    · rw [if_pos h1]
      exact ⟨fun h => by omega, fun h => by injection h with h; subst h; exact absurd h1 (UInt8.lt_irrefl x)⟩
    · rw [if_neg h1]
      by_cases h2 : y < x
      · rw [if_pos h2]
        exact ⟨fun h => by omega, fun h => by injection h with h; subst h; exact absurd h2 (UInt8.lt_irrefl x)⟩
      · rw [if_neg h2, cb_zero a b]
        have e : x = y := UInt8.le_antisymm (UInt8.not_lt.1 h2) (UInt8.not_lt.1 h1)
        subst e
        simp
theorem cb_anti : ∀ (a b : List UInt8), Lib.compareBytes a b = - Lib.compareBytes b a
  | [], [] => by simp [Lib.compareBytes]
  | [], _ :: _ => by simp [Lib.compareBytes]
  | _ :: _, [] => by simp [Lib.compareBytes]
  | x :: a, y :: b => by
    unfold Lib.compareBytes
    by_cases h1 : x < y
    · rw [if_pos h1, if_neg (UInt8.lt_asymm h1), if_pos h1]
    · rw [if_neg h1]
      by_cases h2 : y < x
      · rw [if_pos h2, if_pos h2]; rfl
      · rw [if_neg h2, if_neg h2, if_neg h1, cb_anti a b]
theorem cb_trans : ∀ (a b c : List UInt8), Lib.compareBytes a b < 0 → Lib.compareBytes b c < 0 → Lib.compareBytes a c < 0
  | [], [], _, h, _ => by simp [Lib.compareBytes] at h
  | [], _ :: _, [], _, h => by simp [Lib.compareBytes] at h
  | [], _ :: _, _ :: _, _, _ => by simp [Lib.compareBytes]
  | _ :: _, [], _, h, _ => by simp [Lib.compareBytes] at h
  | _ :: _, _ :: _, [], _, h => by simp [Lib.compareBytes] at h
  | x :: a, y :: b, z :: c, h, k => by
    unfold Lib.compareBytes at h k ⊢
    by_cases h1 : x < y
    · by_cases h3 : y < z
      · rw [if_pos (UInt8.lt_trans h1 h3)]; omega
      · rw [if_neg h3] at k
        by_cases h4 : z < y
        · rw [if_pos h4] at k; omega
        · have e : y = z := UInt8.le_antisymm (UInt8.not_lt.1 h4) (UInt8.not_lt.1 h3)
          subst e
          rw [if_pos h1]; omega
    · rw [if_neg h1] at h
      by_cases h2 : y < x
      · rw [if_pos h2] at h; omega
      · rw [if_neg h2] at h
        have e : x = y := UInt8.le_antisymm (UInt8.not_lt.1 h2) (UInt8.not_lt.1 h1)
        subst e
        by_cases h3 : x < z
        · rw [if_pos h3]; omega
        · rw [if_neg h3] at k ⊢
          by_cases h4 : z < x
          · rw [if_pos h4] at k; omega
          · rw [if_neg h4] at k ⊢
            exact cb_trans a b c h k
/-- How two texts stand to each other. -/
def cmpB (x y : ByteArray) : Int := Lib.compareBytes x.data.toList y.data.toList
theorem c_zero (x y : ByteArray) : cmpB x y = 0 ↔ x = y := by
  unfold cmpB
  rw [cb_zero]
  refine ⟨fun h => ?_, fun h => by rw [h]⟩
  cases x; cases y
  exact congrArg _ (Array.toList_inj.1 h)
theorem c_anti (x y : ByteArray) : cmpB x y = - cmpB y x := cb_anti _ _
theorem c_trans {x y z : ByteArray} (h : cmpB x y < 0) (k : cmpB y z < 0) : cmpB x z < 0 := cb_trans _ _ _ h k
theorem c_self (x : ByteArray) : cmpB x x = 0 := (c_zero x x).2 rfl
theorem c_le_lt {x y z : ByteArray} (h : cmpB x y ≤ 0) (k : cmpB y z < 0) : cmpB x z < 0 := by
  by_cases e : cmpB x y = 0
  · rw [(c_zero x y).1 e]; exact k
  · exact c_trans (by omega) k
theorem c_lt_le {x y z : ByteArray} (h : cmpB x y < 0) (k : cmpB y z ≤ 0) : cmpB x z < 0 := by
  by_cases e : cmpB y z = 0
  · rw [← (c_zero y z).1 e]; exact h
  · exact c_trans h (by omega)
theorem c_le_le {x y z : ByteArray} (h : cmpB x y ≤ 0) (k : cmpB y z ≤ 0) : cmpB x z ≤ 0 := by
  by_cases e : cmpB x y = 0
  · rw [(c_zero x y).1 e]; exact k
  · have := c_lt_le (x := x) (y := y) (z := z) (by omega) k; omega

/-- A pair. -/
structure Pr where
  k : ByteArray
  v : ByteArray
  g : Bool
/-- Pairs are sorted. -/
def Srt (l : List Pr) : Prop := l.Pairwise fun p q => cmpB p.k q.k < 0
/-- Where a key stands, or would stand. -/
def pos (l : List Pr) (k : ByteArray) : Nat := (l.takeWhile fun p => decide (cmpB p.k k < 0)).length
/-- Is it there? -/
def has (l : List Pr) (k : ByteArray) : Bool := match l[pos l k]? with
  | some p => decide (cmpB p.k k = 0)
  | none => false
theorem pos_nil (k : ByteArray) : pos [] k = 0 := rfl
theorem has_nil (k : ByteArray) : has [] k = false := rfl
theorem pos_lt {a : Pr} {k : ByteArray} (r : List Pr) (h : cmpB a.k k < 0) : pos (a :: r) k = pos r k + 1 := by unfold pos; rw [List.takeWhile_cons_of_pos (by simpa using h)]; rfl
theorem pos_ge {a : Pr} {k : ByteArray} (r : List Pr) (h : ¬ cmpB a.k k < 0) : pos (a :: r) k = 0 := by unfold pos; rw [List.takeWhile_cons_of_neg (by simpa using h)]; rfl
theorem has_lt {a : Pr} {k : ByteArray} (r : List Pr) (h : cmpB a.k k < 0) : has (a :: r) k = has r k := by unfold has; rw [pos_lt r h]; simp
theorem has_ge {a : Pr} {k : ByteArray} (r : List Pr) (h : ¬ cmpB a.k k < 0) : has (a :: r) k = decide (cmpB a.k k = 0) := by unfold has; rw [pos_ge r h]; rfl
theorem pos_le : ∀ (l : List Pr) (k : ByteArray), pos l k ≤ l.length
  | [], _ => Nat.le_refl _
  | a :: r, k => by
    by_cases h : cmpB a.k k < 0
    · rw [pos_lt r h]; have := pos_le r k; simp; omega
    · rw [pos_ge r h]; exact Nat.zero_le _
theorem has_len (l : List Pr) (k : ByteArray) (h : has l k = true) : pos l k < l.length := by
  unfold has at h
  cases e : l[pos l k]? with
  | none => rw [e] at h; cases h
  | some p => exact (List.getElem?_eq_some_iff.1 e).1
/-- The place of a key, by its bounds. -/
theorem pos_of : ∀ (l : List Pr) (k : ByteArray) (i : Nat), i ≤ l.length → (∀ t p, t < i → l[t]? = some p → cmpB p.k k < 0) → (∀ p, l[i]? = some p → ¬ cmpB p.k k < 0) → pos l k = i
  | [], k, i, hi, _, _ => by simp at hi; rw [hi]; rfl
  | a :: r, k, 0, _, _, h2 => pos_ge r (h2 a rfl)
  | a :: r, k, i + 1, hi, h1, h2 => by
    rw [pos_lt r (h1 0 a (by omega) rfl), pos_of r k i (by simpa using hi) (fun t p ht hp => h1 (t + 1) p (by omega) hp) (fun p hp => h2 p hp)]
theorem srt_mono {l : List Pr} (h : Srt l) {i j : Nat} {p q : Pr} (hij : i < j) (hp : l[i]? = some p) (hq : l[j]? = some q) : cmpB p.k q.k < 0 := by
  obtain ⟨hi, rfl⟩ := List.getElem?_eq_some_iff.1 hp
  obtain ⟨hj, rfl⟩ := List.getElem?_eq_some_iff.1 hq
  exact (List.pairwise_iff_getElem.1 h) i j hi hj hij
/-- What is told of a key. -/
def fnd (l : List Pr) (k : ByteArray) : Option Pr := l.find? fun p => decide (p.k = k)
theorem fnd_none_of_lt {l : List Pr} {k : ByteArray} (h : ∀ q ∈ l, cmpB k q.k < 0) : fnd l k = none := by
  unfold fnd
  rw [List.find?_eq_none]
  intro q hq e
  have := h q hq
  simp at e
  rw [e, c_self] at this
  omega
theorem fnd_at : ∀ (l : List Pr) (k : ByteArray), Srt l → fnd l k = if has l k then l[pos l k]? else none
  | [], _, _ => rfl
  | a :: r, k, h => by
    have hr : Srt r := (List.pairwise_cons.1 h).2
    by_cases e : cmpB a.k k < 0
    · rw [has_lt r e, pos_lt r e]
      have ne : ¬ a.k = k := fun q => by rw [q, c_self] at e; omega
      show List.find? _ _ = _
      rw [List.find?_cons_of_neg (by simpa using ne)]
      exact fnd_at r k hr
    · rw [has_ge r e, pos_ge r e]
      by_cases z : cmpB a.k k = 0
      · show List.find? _ _ = _
        rw [List.find?_cons_of_pos (by simpa using (c_zero _ _).1 z), if_pos (by simpa using z)]
        rfl
      · rw [if_neg (by simpa using z)]
        have g : cmpB k a.k < 0 := by rw [c_anti]; omega
        exact fnd_none_of_lt fun q hq => by
          rcases List.mem_cons.1 hq with rfl | hq
          · exact g
          · exact c_trans g ((List.pairwise_cons.1 h).1 q hq)
/-- A pair is made the one of its key. -/
def layL (l : List Pr) (p : Pr) : List Pr := l.take (pos l p.k) ++ p :: l.drop (pos l p.k + if has l p.k then 1 else 0)
theorem layL_lt {a p : Pr} (r : List Pr) (h : cmpB a.k p.k < 0) : layL (a :: r) p = a :: layL r p := by
  unfold layL
  rw [pos_lt r h, has_lt r h, show pos r p.k + 1 + (if has r p.k = true then 1 else 0) = (pos r p.k + if has r p.k = true then 1 else 0) + 1 by omega]
  simp
theorem layL_eq {a p : Pr} (r : List Pr) (h : cmpB a.k p.k = 0) : layL (a :: r) p = p :: r := by
  unfold layL
  rw [pos_ge r (by omega), has_ge r (by omega)]
  simp [h]
theorem layL_gt {a p : Pr} (r : List Pr) (h : 0 < cmpB a.k p.k) : layL (a :: r) p = p :: a :: r := by
  unfold layL
  rw [pos_ge r (by omega), has_ge r (by omega)]
  have : ¬ cmpB a.k p.k = 0 := by omega
  simp [this]
theorem layL_len (l : List Pr) (p : Pr) : (layL l p).length = l.length + if has l p.k then 0 else 1 := by
  have := pos_le l p.k
  unfold layL
  cases h : has l p.k with
  | true => have := has_len l p.k h; simp; omega
  | false => simp; omega
theorem mem_layL : ∀ (l : List Pr) (p q : Pr), q ∈ layL l p → q = p ∨ q ∈ l
  | l, p, q, h => by
    unfold layL at h
    rcases List.mem_append.1 h with h | h
    · exact .inr (List.mem_of_mem_take h)
    · rcases List.mem_cons.1 h with h | h
      · exact .inl h
      · exact .inr (List.mem_of_mem_drop h)
theorem srt_layL : ∀ (l : List Pr) (p : Pr), Srt l → Srt (layL l p)
  | [], p, _ => by simp [layL, pos_nil, Srt]
  | a :: r, p, h => by
    obtain ⟨h1, h2⟩ := List.pairwise_cons.1 h
    by_cases e : cmpB a.k p.k < 0
    · rw [layL_lt r e]
      refine List.pairwise_cons.2 ⟨fun q hq => ?_, srt_layL r p h2⟩
      rcases mem_layL r p q hq with rfl | hq
      · exact e
      · exact h1 q hq
    · by_cases z : cmpB a.k p.k = 0
      · rw [layL_eq r z]
        have := (c_zero _ _).1 z
        exact List.pairwise_cons.2 ⟨fun q hq => this ▸ h1 q hq, h2⟩
      · have g : cmpB p.k a.k < 0 := by rw [c_anti]; omega
        rw [layL_gt r (by omega)]
        refine List.pairwise_cons.2 ⟨fun q hq => ?_, h⟩
        rcases List.mem_cons.1 hq with rfl | hq
        · exact g
        · exact c_trans g (h1 q hq)
theorem fnd_layL : ∀ (l : List Pr) (p : Pr) (k : ByteArray), Srt l → fnd (layL l p) k = if p.k = k then some p else fnd l k
  | [], p, k, _ => by
    simp only [layL, pos_nil, fnd, List.take_nil, List.drop_nil, List.nil_append, List.find?_cons, List.find?_nil]
    by_cases e : p.k = k <;> simp [e]
  | a :: r, p, k, h => by
    obtain ⟨h1, h2⟩ := List.pairwise_cons.1 h
    by_cases e : cmpB a.k p.k < 0
    · rw [layL_lt r e]
      have ne : ¬ a.k = p.k := fun q => by rw [q, c_self] at e; omega
      have ih := fnd_layL r p k h2
      unfold fnd at ih ⊢
      rw [List.find?_cons, List.find?_cons, ih]
      by_cases x : a.k = k
      · have : ¬ p.k = k := fun q => ne (x.trans q.symm)
        simp [x, this]
      · simp [x]
    · by_cases z : cmpB a.k p.k = 0
      · rw [layL_eq r z]
        have y := (c_zero _ _).1 z
        unfold fnd
        rw [List.find?_cons, List.find?_cons, y]
        by_cases x : p.k = k <;> simp [x]
      · rw [layL_gt r (by omega)]
        show List.find? _ (p :: (a :: r)) = _
        rw [List.find?_cons]
        by_cases x : p.k = k
        · simp [x]
        · simp [x]; rfl
theorem has_fnd (l : List Pr) (k : ByteArray) (h : Srt l) : has l k = (fnd l k).isSome := by
  rw [fnd_at l k h]
  cases e : has l k with
  | false => rfl
  | true => rw [if_pos rfl, List.getElem?_eq_getElem (has_len l k e)]; rfl
/-- Is a key below to (which is no bound, if it has no bytes)? -/
def blw (k to : ByteArray) : Bool := decide (to.size = 0) || decide (cmpB k to < 0)
/-- The pairs between two keys. -/
def btwL (l : List Pr) (a b : ByteArray) : List Pr := (l.drop (pos l a)).takeWhile fun p => blw p.k b
def btwF (l : List Pr) (a b : ByteArray) : List Pr := l.filter fun p => !decide (cmpB p.k a < 0) && blw p.k b
theorem blw_mono {x y b : ByteArray} (h : cmpB x y < 0) (k : blw y b = true) : blw x b = true := by
  unfold blw at k ⊢
  simp only [Bool.or_eq_true, decide_eq_true_eq] at k ⊢
  rcases k with k | k
  · exact .inl k
  · exact .inr (c_trans h k)
theorem take_filter : ∀ (l : List Pr) (b : ByteArray), Srt l → (l.takeWhile fun p => blw p.k b) = l.filter fun p => blw p.k b
  | [], _, _ => rfl
  | a :: r, b, h => by
    obtain ⟨h1, h2⟩ := List.pairwise_cons.1 h
    cases e : blw a.k b with
    | true => rw [List.takeWhile_cons_of_pos (by simpa using e), List.filter_cons_of_pos (by simpa using e), take_filter r b h2]
    | false =>
      rw [List.takeWhile_cons_of_neg (by simpa using e), List.filter_cons_of_neg (by simpa using e), eq_comm, List.filter_eq_nil_iff]
      intro q hq x
      have := blw_mono (h1 q hq) x
      rw [e] at this; cases this
theorem btw_eq : ∀ (l : List Pr) (a b : ByteArray), Srt l → btwL l a b = btwF l a b
  | [], _, _, _ => rfl
  | c :: r, a, b, h => by
    obtain ⟨h1, h2⟩ := List.pairwise_cons.1 h
    by_cases e : cmpB c.k a < 0
    · have ih := btw_eq r a b h2
      unfold btwL btwF at ih ⊢
      rw [pos_lt r e, List.drop_succ_cons, ih, List.filter_cons_of_neg (by simp [e])]
    · unfold btwL btwF
      rw [pos_ge r e, List.drop_zero, take_filter _ b h]
      refine List.filter_congr fun q hq => ?_
      have : ¬ cmpB q.k a < 0 := by
        rcases List.mem_cons.1 hq with rfl | hq
        · exact e
        · intro x; exact e (c_trans (h1 q hq) x)
      simp [this]
theorem btw_parts : ∀ (l : List Pr) (a m b : ByteArray), Srt l → cmpB a m ≤ 0 → cmpB m b ≤ 0 → m.size ≠ 0 → b.size ≠ 0 → btwF l a m ++ btwF l m b = btwF l a b
  | [], _, _, _, _, _, _, _, _ => rfl
  | c :: r, a, m, b, h, ham, hmb, hm, hb => by
    obtain ⟨h1, h2⟩ := List.pairwise_cons.1 h
    have ih := btw_parts r a m b h2 ham hmb hm hb
    by_cases e : cmpB c.k a < 0
    · have e2 := c_lt_le e ham
      unfold btwF at ih ⊢
      rw [List.filter_cons_of_neg (by simp [e]), List.filter_cons_of_neg (by simp [e2]), List.filter_cons_of_neg (by simp [e]), ih]
    · by_cases f : cmpB c.k m < 0
      · have f2 := c_lt_le f hmb
        unfold btwF at ih ⊢
        rw [List.filter_cons_of_pos (by simp [e, blw, f]), List.filter_cons_of_neg (by simp [f]), List.filter_cons_of_pos (by simp [e, blw, f2]), List.cons_append, ih]
      · have g : ∀ q ∈ c :: r, ¬ cmpB q.k m < 0 := fun q hq x => by
          rcases List.mem_cons.1 hq with rfl | hq
          · exact f x
          · exact f (c_trans (h1 q hq) x)
        unfold btwF
        rw [List.filter_eq_nil_iff.2 (fun q hq => by have := g q hq; simp [blw, this, hm]), List.nil_append]
        refine List.filter_congr fun q hq => ?_
        have y := g q hq
        have x : ¬ cmpB q.k a < 0 := fun z => y (c_lt_le z ham)
        simp [x, y]
theorem btw_srt (l : List Pr) (a b : ByteArray) (h : Srt l) : Srt (btwF l a b) := List.Pairwise.filter _ h
theorem empty_size (x : ByteArray) (h : x.size = 0) : x.data.toList = [] := by
  exact List.eq_nil_of_length_eq_zero (by rw [Array.length_toList]; exact h)
theorem c_empty (x y : ByteArray) (h : y.size = 0) : ¬ cmpB x y < 0 := by
  unfold cmpB
  rw [empty_size y h]
  cases x.data.toList <;> simp [Lib.compareBytes]
theorem btw_all (l : List Pr) (a b : ByteArray) (ha : a.size = 0) (hb : b.size = 0) : btwF l a b = l := by
  unfold btwF
  rw [List.filter_eq_self]
  intro q _
  simp [blw, hb, c_empty q.k a ha]
end Go.Proofs.Ytgpafmgncolnmaa
namespace Go.Proofs.Ytgpafmgncolnmaa
open Go.RowKit
theorem Arg.off {w w' : World} {a : Option Addr} {n : Nat} {f : Nat → Int} {N : List Nat} (h : Arg w a n f) (hO : Off N w w') (hn : 0 < n → ∀ q, a = some q → q.block ∉ N) : Arg w' a n f := by
  rcases h with h | ⟨h0, b, off, rfl, hl⟩
  · exact .inl h
  · have hb := hn h0 _ rfl
    exact .inr ⟨h0, b, off, rfl, fun j hj => (hO.cell (p := ⟨b, off + j, none⟩) hl.2.2 hb).trans (hl.1 j hj), hl.2.1, Nat.lt_of_lt_of_le hl.2.2 hO.size⟩
/-- A slice of bytes reads as t, and lies in none of the blocks N. -/
def Txt (W : World) (N : List Nat) (s : Value) (t : ByteArray) : Prop := ∃ a C f, s = .slice a t.size C ∧ Arg W a t.size f ∧ txtN t.size f = t ∧ (0 < t.size → ∀ q, a = some q → q.block ∉ N)
theorem Txt.below {W W' : World} {N : List Nat} {s : Value} {t : ByteArray} (h : Txt W N s t) (hB : Below W.heap.size W W') : Txt W' N s t := by
  obtain ⟨a, C, f, hs, hA, ht, hn⟩ := h
  exact ⟨a, C, f, hs, hA.below hB, ht, hn⟩
theorem Txt.off {W W' : World} {N : List Nat} {s : Value} {t : ByteArray} (h : Txt W N s t) (hO : Off N W W') : Txt W' N s t := by
  obtain ⟨a, C, f, hs, hA, ht, hn⟩ := h
  exact ⟨a, C, f, hs, hA.off hO hn, ht, hn⟩
theorem Txt.mono {W : World} {N M : List Nat} {s : Value} {t : ByteArray} (h : Txt W N s t) (hM : ∀ b, b ∈ M → b ∈ N ∨ W.heap.size ≤ b) : Txt W M s t := by
  obtain ⟨a, C, f, hs, hA, ht, hn⟩ := h
  refine ⟨a, C, f, hs, hA, ht, fun h0 q hq hm => ?_⟩
  rcases hM _ hm with h | h
  · exact hn h0 q hq h
  · rcases hA with ⟨h1, _⟩ | ⟨_, b, off, ha, hl⟩
    · omega
    · rw [hq] at ha
      injection ha with ha
      subst ha
      have := hl.2.2
      simp at h
      omega
theorem Txt.both {W W' : World} {N M : List Nat} {s : Value} {t : ByteArray} (h : Txt W M s t) (k : Txt W N s t) (hO : Off N W W') : Txt W' M s t := by
  obtain ⟨a, C, f, hs, hA, ht, hn⟩ := h
  obtain ⟨a', C', f', hs', hA', ht', hn'⟩ := k
  rw [hs] at hs'
  injection hs' with ha
  subst ha
  exact ⟨a, C, f, hs, hA.off hO hn', ht, hn⟩
theorem Txt.cons {W : World} {N : List Nat} {n : Nat} {s : Value} {t : ByteArray} (h : Txt W N s t) (k : Txt W [n] s t) : Txt W (n :: N) s t := by
  obtain ⟨a, C, f, hs, hA, ht, hn⟩ := h
  obtain ⟨a', C', f', hs', hA', ht', hn'⟩ := k
  rw [hs] at hs'
  injection hs' with ha
  subst ha
  refine ⟨a, C, f, hs, hA, ht, fun h0 q hq hm => ?_⟩
  rcases List.mem_cons.1 hm with hm | hm
  · exact hn' h0 q hq (by simp [hm])
  · exact hn h0 q hq hm
theorem Txt.any {W : World} {N : List Nat} {s : Value} {t : ByteArray} (h : Txt W N s t) : Txt W [] s t := h.mono (fun b hb => by cases hb)
theorem Txt.one {W : World} {N : List Nat} {s : Value} {t : ByteArray} (h : Txt W N s t) : s.oneCell' = true := by
  obtain ⟨a, C, f, rfl, _⟩ := h
  rfl
theorem Txt.of {W : World} {a : Option Addr} {n C : Nat} {f : Nat → Int} (h : Arg W a n f) : Txt W [] (.slice a n C) (txtN n f) := by
  refine ⟨a, C, f, by rw [txtN_size], by rw [txtN_size]; exact h, by rw [txtN_size], fun _ _ _ h => by cases h⟩
theorem Txt.nil (W : World) (N : List Nat) (C : Nat) : Txt W N (.slice none 0 C) ByteArray.empty := ⟨none, C, fun _ => 0, rfl, .inl ⟨rfl, .inl rfl⟩, rfl, fun h => absurd h (by decide)⟩
end Go.Proofs.Ytgpafmgncolnmaa
namespace Go.Proofs.Ytgpafmgncolnmaa
open Go.RowKit
theorem bytesOf_arg (w : World) (a : Option Addr) (n C : Nat) (f : Nat → Int) (h : Arg w a n f) : (Extern.Bytes.bytesOf (.slice a n C)).run Try.prog w = .ok (txtN n f) w := by
  rcases h with ⟨rfl, rfl | ⟨p, rfl⟩⟩ | ⟨_, b, off, rfl, hl⟩
  · rfl
  · rfl
  · have := Lib.run_loadBytesX (P := Try.prog) w ((List.range n).map f) ⟨b, off, none⟩ .empty (fun j x hj => by
      rw [List.getElem?_map] at hj
      by_cases e : j < n
      · rw [List.getElem?_range e] at hj
        injection hj with hj
        rw [← hj, Addr.add_mid]
        exact hl.1 j e
      · rw [List.getElem?_eq_none (by simpa using e)] at hj
        cases hj)
    simp only [List.length_map, List.length_range] at this
    show (Extern.Bytes.loadBytes _ n _).run Try.prog w = _
    rw [this]
    congr 1
    unfold txtN strOfNums Lib.bytesOf
    apply ByteArray.ext
    simp
theorem compare_run {W : World} {N M : List Nat} {s s' : Value} {t t' : ByteArray} (h : Txt W N s t) (h' : Txt W M s' t') : (callFunc 52 #[s, s']).run Try.prog W = .ok (.value (.int .i64 (cmpB t t'))) W := by
  obtain ⟨a, C, f, rfl, hA, ht, _⟩ := h
  obtain ⟨a', C', f', rfl, hA', ht', _⟩ := h'
  rw [run_callFunc_extern Try.func52 (by kernel_rfl) (by kernel_rfl) (by kernel_rfl) (e := Extern.BytealgCompare.compare) (by kernel_rfl)]
  have : (Extern.BytealgCompare.compare #[.slice a t.size C, .slice a' t'.size C']).run Try.prog W = .ok (.int .i64 (cmpB t t')) W := by
    change Sem.run Try.prog (do pure (goInt (Extern.BytealgCompare.cmp (← Extern.Bytes.bytesOf (.slice a t.size C)) (← Extern.Bytes.bytesOf (.slice a' t'.size C'))))) W = _
    simp only [Sem.run_bind, Sem.run_pure, Result.andThen, bytesOf_arg W a _ C f hA, bytesOf_arg W a' _ C' f' hA', ht, ht']
    rw [Lib.cmp_eq]
    rfl
  rw [this]
  rfl
set_option maxRecDepth 100000 in
theorem ycmp_any {W : World} {N M : List Nat} {s s' : Value} {t t' : ByteArray} (h : Txt W N s t) (h' : Txt W M s' t') : Calls Try.prog 43 #[s, s'] W fun e w' => e = .returned (.int .i64 (cmpB t t')) ∧ w' = W := by
  have R := hidIt (compare_run h h')
  clear h h'
  go_enter Try.func43, Try.ntmps43
  go_wp2
  rw [R.out]
  rw [Oper.upon_value]
  go_wp2
  go_ret
  exact ⟨rfl, rfl⟩
/-- How many cells a block has. -/
def hsz (W : World) (g : Nat) : Nat := match W.heap[g]? with
  | some (.cells cur _ _) => cur.size
  | _ => 0
/-- A slice of bytes of its own that reads as t. -/
def Fr (W : World) (base : Nat) (s : Value) (t : ByteArray) : Prop := (t.size = 0 ∧ s = .slice none 0 0) ∨ ∃ g F, s = .slice (some ⟨g, 0, none⟩) t.size (hsz W g) ∧ base ≤ g ∧ 0 < t.size ∧ t.size ≤ hsz W g ∧ hsz W g ≤ maxLen ∧ IRow W g .u8 (hsz W g) F ∧ txtN t.size F = t ∧ ∀ j, j < hsz W g → 0 ≤ F j ∧ F j < 256
theorem hsz_eq {W W' : World} {g : Nat} (h : W'.heap[g]? = W.heap[g]?) : hsz W' g = hsz W g := by unfold hsz; rw [h]
theorem Fr.off {W W' : World} {base : Nat} {s : Value} {t : ByteArray} {N : List Nat} (h : Fr W base s t) (hO : Off N W W') (hN : ∀ b, b ∈ N → b < base) : Fr W' base s t := by
  rcases h with h | ⟨g, F, hs, hb, h0, h1, h2, hR, ht, hF⟩
  · exact .inl h
  · have hg : g ∉ N := fun q => by have := hN g q; omega
    have e := hsz_eq (hO.block g hR.2.2 hg)
    exact .inr ⟨g, F, by rw [e]; exact hs, hb, h0, by rw [e]; exact h1, by rw [e]; exact h2, by rw [e]; exact hR.off hO hg, ht, by rw [e]; exact hF⟩
theorem Fr.below {W W' : World} {base : Nat} {s : Value} {t : ByteArray} (h : Fr W base s t) (hB : Below W.heap.size W W') : Fr W' base s t := h.off (Off.of (bs := []) hB) (fun _ h => by cases h)
theorem Fr.low {W : World} {base base' : Nat} {s : Value} {t : ByteArray} (h : Fr W base s t) (hb : base' ≤ base) : Fr W base' s t := by
  rcases h with h | ⟨g, F, hs, hg, r⟩
  · exact .inl h
  · exact .inr ⟨g, F, hs, Nat.le_trans hb hg, r⟩
theorem empty_of (t : ByteArray) (h : t.size = 0) : t = ByteArray.empty := by
  apply ByteArray.ext
  exact Array.eq_empty_of_size_eq_zero h
theorem Fr.txt {W : World} {base : Nat} {s : Value} {t : ByteArray} {N : List Nat} (h : Fr W base s t) (hN : ∀ b, b ∈ N → b < base) : Txt W N s t := by
  rcases h with ⟨h0, rfl⟩ | ⟨g, F, rfl, hb, h0, h1, h2, hR, ht, hF⟩
  · rw [empty_of t h0]; exact Txt.nil W N 0
  · refine ⟨_, _, F, rfl, .inr ⟨h0, g, 0, rfl, fun j hj => by rw [Nat.zero_add]; exact hR.1 j (by omega), fun j hj => hF j (by omega), hR.2.2⟩, ht, fun _ q hq hm => ?_⟩
    injection hq with hq
    subst hq
    have := hN _ hm
    simp at this
    omega
theorem zc_at (n j : Nat) (h : j < n) : (Builtin.zeroCells (Value.int .u8 0).cells n)[j]? = some (.int .u8 0) := by
  unfold Builtin.zeroCells
  rw [Array.getElem?_map, show (Value.int .u8 0).cells.size = 1 from rfl, Nat.mul_one, Array.getElem?_range, if_pos h]
  simp [Value.cells, Nat.mod_one]
/-- What fresh answers. -/
def FrPost (W : World) (t : ByteArray) (e : Ending) (w' : World) : Prop := ∃ s', e = .returned s' ∧ Fr w' W.heap.size s' t ∧ Below W.heap.size W w'
theorem fresh_run {W : World} {N : List Nat} {s : Value} {t : ByteArray} (h : Txt W N s t) (hn : t.size ≤ 1000000) (ty : TypeId) : ∃ s' W', (Builtin.append_ #[23, 23] ty #[.slice none 0 0, s]).run Try.prog W = .ok s' W' ∧ Fr W' W.heap.size s' t ∧ Below W.heap.size W W' := by
  obtain ⟨a, C, f, rfl, hA, ht, _⟩ := h
  obtain ⟨i0, hi, hz0, hz1, hz2⟩ := info_parts info_u8
  rcases hA with ⟨h0, hq⟩ | ⟨h0, b, off, rfl, hl⟩
  · refine ⟨.slice none 0 0, W, ?_, .inl ⟨h0, rfl⟩, Below.refl _ _⟩
    rw [h0]
    rcases hq with rfl | ⟨p, rfl⟩
    · simp [Builtin.append_, run_underlying Try.underlying23, sizeOf, typeInfo, hi, Builtin.lenOf, Builtin.firstCells]
    · simp [Builtin.append_, run_underlying Try.underlying23, sizeOf, typeInfo, hi, Builtin.lenOf, Builtin.firstCells, loadCells, loadCellsFrom]
  · have hr := run_append_nil (P := Try.prog) W 23 ty 5 i0 (.int .u8 0) Try.underlying23 hi hz0 ⟨b, off, none⟩ t.size C (cl .u8 t.size f) (by rw [cl_len, hz1, Nat.mul_one]) (fun j u hj => by obtain ⟨h, rfl⟩ := cl_at' hj; rw [Addr.add_mid]; exact hl.1 j h) h0 (by omega) (by rw [hz2]; omega)
    have hge := grownCap_ge W t.size 0 5
    have hle := grownCap_le_maxLen W t.size 0 5 (by unfold maxLen; omega)
    generalize grownCap W t.size 0 5 = C1 at *
    refine ⟨_, _, hr, .inr ⟨W.heap.size, fun j => if j < t.size then f j else 0, ?_⟩, (Below.refl W.heap.size W).drew.alloc (Nat.le_refl _) _⟩
    have hc : ∀ j, j < C1 → ((cl .u8 t.size f).toArray ++ Builtin.zeroCells (Value.int .u8 0).cells (C1 - t.size))[j]? = some (.int .u8 (if j < t.size then f j else 0)) := fun j hj => by
      by_cases e : j < t.size
      · rw [Array.getElem?_append_left (by simp [cl_len]; exact e), if_pos e]
        simpa using cl_at .u8 t.size f j e
      · rw [Array.getElem?_append_right (by simp [cl_len]; omega), if_neg e]
        rw [List.size_toArray, cl_len]
        exact zc_at (C1 - t.size) (j - t.size) (by omega)
    have hz : hsz (W.drew.alloc (.cells ((cl .u8 t.size f).toArray ++ Builtin.zeroCells (Value.int .u8 0).cells (C1 - t.size)) 5)) W.heap.size = C1 := by
      have e : (W.drew.alloc (.cells ((cl .u8 t.size f).toArray ++ Builtin.zeroCells (Value.int .u8 0).cells (C1 - t.size)) 5)).heap[W.heap.size]? = some _ := heap_alloc_new W.drew _
      unfold hsz
      rw [e]
      simp [cl_len, size_zeroCells, Value.cells]
      omega
    rw [hz]
    refine ⟨rfl, Nat.le_refl _, h0, hge, hle, ⟨fun j hj => ?_, fun j => by simp [go_sem], by simp⟩, ?_, fun j hj => ?_⟩
    · rw [World.cell?_alloc_at (w := W.drew) _ _ W.heap.size j rfl]
      exact hc j hj
    · rw [← ht, txtN_size]
      refine txtN_congr _ _ _ fun j hj => if_pos hj
    · by_cases e : j < t.size
      · simp only [if_pos e]; exact hl.2.1 j e
      · simp only [if_neg e]; decide
end Go.Proofs.Ytgpafmgncolnmaa
namespace Go.Proofs.Ytgpafmgncolnmaa
open Go.RowKit Go.Shelf
/-- All blocks of cells are as they were. -/
structure Cks (W W' : World) : Prop where
  size : W.heap.size ≤ W'.heap.size
  block : ∀ (k : Nat) (o : Obj), W.heap[k]? = some o → o.isCells = true → W'.heap[k]? = some o
  os : W'.os = W.os
  tape : W'.tape = W.tape
  output : W'.output = W.output
theorem Cks.below {W W' : World} (h : Below W.heap.size W W') : Cks W W' := ⟨h.size, fun k _ ho _ => (h.block k (Array.getElem?_eq_some_iff.1 ho).1).trans ho, h.os, h.tape, h.output⟩
theorem Cks.but {W W' : World} {l : Nat} (h : But l W W') (hl : ∃ r, W.heap[l]? = some (.loop r)) : Cks W W' := ⟨h.size, fun k o ho hc => (h.block k (Array.getElem?_eq_some_iff.1 ho).1 (fun e => by
  obtain ⟨r, hr⟩ := hl
  rw [e, hr] at ho
  injection ho with ho
  rw [← ho] at hc
  cases hc)).trans ho, h.os, h.tape, h.output⟩
theorem Cks.grown {W W' : World} {row : Option Nat} (h : W.grownBy W' row) (hr : ∀ r, row = some r → ∃ o : Obj, W.heap[r]? = some o ∧ o.isCells = false) : Cks W W' := ⟨h.size, fun k o ho hc => (h.block k (Array.getElem?_eq_some_iff.1 ho).1 (fun e => by
  obtain ⟨o', h1, h2⟩ := hr k e.symm
  rw [h1] at ho
  injection ho with ho
  rw [← ho, h2] at hc
  cases hc)).trans ho, h.os, h.tape, h.output⟩
theorem cell_cells {W : World} {p : Addr} {v : Value} (h : W.cell? p = some v) : ∃ o, W.heap[p.block]? = some o ∧ o.isCells = true := by
  unfold World.cell? at h
  cases e : W.heap[p.block]? with
  | none => simp [e] at h
  | some o =>
    refine ⟨o, rfl, ?_⟩
    cases o <;> first | rfl | (exfalso; simp [e] at h)
theorem Cks.cell {W W' : World} (k : Cks W W') {p : Addr} {v : Value} (h : W.cell? p = some v) : W'.cell? p = some v := by
  obtain ⟨o, ho, hc⟩ := cell_cells h
  exact (World.cell?_of_block (w := W) ((k.block _ o ho hc).trans ho.symm)).trans h
theorem Cks.frozen {W W' : World} (k : Cks W W') {p : Addr} {v : Value} (h : W.cell? p = some v) : W'.frozen? p = W.frozen? p := by
  obtain ⟨o, ho, hc⟩ := cell_cells h
  exact World.frozen?_of_block (w := W) ((k.block _ o ho hc).trans ho.symm)
theorem Rec19.cks {W W' : World} {n o : Nat} {cs : List Value} (h : Rec19 W n o cs) (k : Cks W W') : Rec19 W' n o cs := by
  refine ⟨fun j v hj => k.cell (h.1 j v hj), fun j hj => ?_, Nat.lt_of_lt_of_le h.2.2 k.size⟩
  have c := h.1 j _ (List.getElem?_eq_getElem hj)
  have d := (h.2.1 j hj).2
  exact ⟨by rw [k.cell c]; rfl, (k.frozen c).trans d⟩
theorem Cks.butN {W W' : World} {l : Nat} {o : Obj} (h : But l W W') (hl : W.heap[l]? = some o) (ho : o.isCells = false) : Cks W W' := ⟨h.size, fun k o' hk hc => (h.block k (Array.getElem?_eq_some_iff.1 hk).1 (fun e => by
  rw [e, hl] at hk
  injection hk with hk
  rw [← hk, ho] at hc
  cases hc)).trans hk, h.os, h.tape, h.output⟩
theorem Arg.cks {w w' : World} {a : Option Addr} {n : Nat} {f : Nat → Int} (h : Arg w a n f) (k : Cks w w') : Arg w' a n f := by
  rcases h with h | ⟨h0, b, off, rfl, hl⟩
  · exact .inl h
  · exact .inr ⟨h0, b, off, rfl, fun j hj => k.cell (hl.1 j hj), hl.2.1, Nat.lt_of_lt_of_le hl.2.2 k.size⟩
theorem Txt.cks {W W' : World} {N : List Nat} {s : Value} {t : ByteArray} (h : Txt W N s t) (k : Cks W W') : Txt W' N s t := by
  obtain ⟨a, C, f, hs, hA, ht, hn⟩ := h
  exact ⟨a, C, f, hs, hA.cks k, ht, hn⟩
theorem Fr.cks {W W' : World} {base : Nat} {s : Value} {t : ByteArray} (h : Fr W base s t) (k : Cks W W') : Fr W' base s t := by
  rcases h with h | ⟨g, F, hs, hb, h0, h1, h2, hR, ht, hF⟩
  · exact .inl h
  · have c := hR.1 0 (by omega)
    obtain ⟨o, ho, hc⟩ := cell_cells c
    have e := hsz_eq ((k.block g o ho hc).trans ho.symm)
    refine .inr ⟨g, F, by rw [e]; exact hs, hb, h0, by rw [e]; exact h1, by rw [e]; exact h2, ⟨fun j hj => ?_, fun j => ?_, Nat.lt_of_lt_of_le hR.2.2 k.size⟩, ht, by rw [e]; exact hF⟩
    · rw [e] at hj; exact k.cell (hR.1 j hj)
    · have := hR.2.1 j
      exact (World.frozen?_of_block (w := W) (a := ⟨g, j, none⟩) ((k.block g o ho hc).trans ho.symm)).trans this
theorem Fr.offT {W W' : World} {base : Nat} {s : Value} {t : ByteArray} {N : List Nat} (h : Fr W base s t) (k : Txt W N s t) (hO : Off N W W') : Fr W' base s t := by
  rcases h with h | ⟨g, F, hs, hb, h0, h1, h2, hR, ht, hF⟩
  · exact .inl h
  · have hg : g ∉ N := by
      obtain ⟨a, C, f, hs', _, _, hn⟩ := k
      rw [hs] at hs'
      injection hs' with ha
      exact hn h0 _ ha.symm
    have e := hsz_eq (hO.block g hR.2.2 hg)
    exact .inr ⟨g, F, by rw [e]; exact hs, hb, h0, by rw [e]; exact h1, by rw [e]; exact h2, by rw [e]; exact hR.off hO hg, ht, by rw [e]; exact hF⟩
theorem Fr.sl {W : World} {base : Nat} {s : Value} {t : ByteArray} (h : Fr W base s t) : ∃ a n C, s = .slice a n C := by
  rcases h with ⟨_, rfl⟩ | ⟨g, F, rfl, _⟩
  · exact ⟨_, _, _, rfl⟩
  · exact ⟨_, _, _, rfl⟩
end Go.Proofs.Ytgpafmgncolnmaa
namespace Go.Proofs.Ytgpafmgncolnmaa
open Go.RowKit
attribute [-go_sem] Builtin.append_
/-- A slice of bytes of its own, which may be one of no bytes. -/
def FrC (W : World) (base : Nat) (s : Value) (t : ByteArray) : Prop := Fr W base s t ∨ (t.size = 0 ∧ ∃ g, s = .slice (some ⟨g, 0, none⟩) 0 0)
theorem FrC.sl {W : World} {base : Nat} {s : Value} {t : ByteArray} (h : FrC W base s t) : ∃ a n C, s = .slice a n C := by
  rcases h with h | ⟨_, g, rfl⟩
  · exact h.sl
  · exact ⟨_, _, _, rfl⟩
theorem FrC.off {W W' : World} {base : Nat} {s : Value} {t : ByteArray} {N : List Nat} (h : FrC W base s t) (hO : Off N W W') (hN : ∀ b, b ∈ N → b < base) : FrC W' base s t := h.imp (fun h => h.off hO hN) id
theorem FrC.below {W W' : World} {base : Nat} {s : Value} {t : ByteArray} (h : FrC W base s t) (hB : Below W.heap.size W W') : FrC W' base s t := h.imp (fun h => h.below hB) id
theorem FrC.low {W : World} {base base' : Nat} {s : Value} {t : ByteArray} (h : FrC W base s t) (hb : base' ≤ base) : FrC W base' s t := h.imp (fun h => h.low hb) id
theorem FrC.offT {W W' : World} {base : Nat} {s : Value} {t : ByteArray} {N : List Nat} (h : FrC W base s t) (k : Txt W N s t) (hO : Off N W W') : FrC W' base s t := h.imp (fun h => h.offT k hO) id
theorem FrC.cks {W W' : World} {base : Nat} {s : Value} {t : ByteArray} (h : FrC W base s t) (k : Cks W W') : FrC W' base s t := h.imp (fun h => h.cks k) id
theorem FrC.txt {W : World} {base : Nat} {s : Value} {t : ByteArray} {N : List Nat} (h : FrC W base s t) (hN : ∀ b, b ∈ N → b < base) : Txt W N s t := by
  rcases h with h | ⟨h0, g, rfl⟩
  · exact h.txt hN
  · have e : t = ByteArray.empty := by
      apply ByteArray.ext
      exact Array.eq_empty_of_size_eq_zero h0
    subst e
    exact ⟨_, 0, fun _ => 0, rfl, .inl ⟨rfl, .inr ⟨_, rfl⟩⟩, rfl, fun q => absurd q (by decide)⟩
set_option maxRecDepth 100000 in
theorem bs0u_run {a : Act} {w : World} {o : Oper} (ho : o.op = .buildSlice 23 0 #[]) : (execOp a.eval o).run Try.prog w = .ok (.value (.slice (some ⟨w.heap.size, 0, none⟩) 0 0)) (w.alloc (.cells #[] 5)) := by
  obtain ⟨i0, hi, _, _, _⟩ := info_parts info_u8
  unfold execOp
  simp only [ho]
  simp [Instr.buildSlice, run_underlying Try.underlying23, sizeOf, typeInfo, hi, newRow, Instr.fill, Result.andThen]
  congr 2
  exact Array.eq_empty_of_size_eq_zero (by simp)
theorem empC_app {W : World} {N : List Nat} {s : Value} {t : ByteArray} (h : Txt W N s t) (hn : t.size ≤ 1000000) (ty : TypeId) (y : Nat) : ∃ a n C W', (Builtin.append_ #[23, 23] ty #[.slice (some ⟨y, 0, none⟩) 0 0, s]).run Try.prog W = .ok (.slice a n C) W' ∧ FrC W' W.heap.size (.slice a n C) t ∧ Below W.heap.size W W' := by
  obtain ⟨s', W', hr, hF, hB⟩ := fresh_run h hn ty
  obtain ⟨a, C, f, rfl, hA, ht, _⟩ := h
  obtain ⟨i0, hi, hz0, hz1, hz2⟩ := info_parts info_u8
  rcases hA with ⟨h0, hq⟩ | ⟨h0, b, off, rfl, hl⟩
  · refine ⟨some ⟨y, 0, none⟩, 0, 0, W, ?_, .inr ⟨h0, y, rfl⟩, Below.refl _ _⟩
    rw [h0]
    rcases hq with rfl | ⟨p, rfl⟩
    · simp [Builtin.append_, run_underlying Try.underlying23, sizeOf, typeInfo, hi, Builtin.lenOf, Builtin.firstCells, storeCells]
    · simp [Builtin.append_, run_underlying Try.underlying23, sizeOf, typeInfo, hi, Builtin.lenOf, Builtin.firstCells, loadCells, loadCellsFrom, storeCells]
  · obtain ⟨sa, sn, sC, rfl⟩ := hF.sl
    refine ⟨sa, sn, sC, W', ?_, .inl hF, hB⟩
    rw [← hr]
    have hA : ∀ j u, (cl .u8 t.size f)[j]? = some u → W.cell? ((⟨b, off, none⟩ : Addr).add j) = some u := fun j u hj => by obtain ⟨h, rfl⟩ := cl_at' hj; rw [Addr.add_mid]; exact hl.1 j h
    have hrN := run_append_nil (P := Try.prog) W 23 ty 5 i0 (.int .u8 0) Try.underlying23 hi hz0 ⟨b, off, none⟩ t.size C (cl .u8 t.size f) (by rw [cl_len, hz1, Nat.mul_one]) hA h0 (by omega) (by rw [hz2]; omega)
    have hfit : Builtin.nextslicecap (0 + t.size) 0 * i0.bytes ≤ 281474976710656 := growslice_fits (by omega) (by rw [hz2]; omega)
    have hrG := run_append_grow (P := Try.prog) W 23 ty 5 i0 (.int .u8 0) Try.underlying23 hi hz0 ⟨y, 0, none⟩ 0 0 [] (by simp) (fun j u hj => by cases hj) ⟨b, off, none⟩ t.size C (cl .u8 t.size f) (by rw [cl_len, hz1, Nat.mul_one]) hA (by omega) (by omega) hfit
    rw [hrG, hrN]
    simp
theorem eqb_nil (a : Addr) (n c : Nat) (w : World) : (binOp .eql 23 (.slice (some a) n c) (.slice none 0 0)).run Try.prog w = .ok (.bool false) w := by
  have h : (Op.equal 23 (.slice (some a) n c) (.slice none 0 0)).run Try.prog w = .ok false w := run_equal_slice_nil w 23 5 (some a) n c Try.underlying23
  simp only [binOp]
  simp [h]
theorem eqb_nil' (n c : Nat) (w : World) : (binOp .eql 23 (.slice none n c) (.slice none 0 0)).run Try.prog w = .ok (.bool true) w := by
  have h : (Op.equal 23 (.slice none n c) (.slice none 0 0)).run Try.prog w = .ok true w := run_equal_slice_nil w 23 5 none n c Try.underlying23
  simp only [binOp]
  simp [h]
/-- What Clone answers. -/
def ClPost (W : World) (t : ByteArray) (e : Ending) (w' : World) : Prop := ∃ a n C, e = .returned (.slice a n C) ∧ FrC w' W.heap.size (.slice a n C) t ∧ Below W.heap.size W w'
set_option maxRecDepth 100000 in
theorem clone_any {W : World} {N : List Nat} {s : Value} {t : ByteArray} (h : Txt W N s t) (hn : t.size ≤ 1000000) : Calls Try.prog 49 #[s] W (ClPost W t) := by
  have HT := hidIt h
  obtain ⟨a, C, f, rfl, hA, ht, hN⟩ := h
  cases a with
  | none =>
    have z : t.size = 0 := by
      rcases hA with h | ⟨_, b, off, h, _⟩
      · exact h.1
      · cases h
    have R : Hid (ClPost W t (.returned (.slice none 0 0)) W) := hidIt ⟨none, 0, 0, rfl, .inl (.inl ⟨z, rfl⟩), Below.refl _ _⟩
    clear HT hA hN ht hn z
    generalize t.size = n at *
    have Q := eqb_nil' n C W
    go_enter Try.func49, Try.ntmps49
    go_wp2
    go_ret
    exact R.out
  | some q =>
    have A1 : Below W.heap.size W (W.alloc (.cells #[] 5)) := (Below.refl _ _).alloc (Nat.le_refl _) _
    obtain ⟨a', n', C', W2, hr, hF, hB⟩ := empC_app (HT.out.below A1) hn 23 W.heap.size
    have R : Hid (ClPost W t (.returned (.slice a' n' C')) W2) := hidIt ⟨a', n', C', rfl, hF.low A1.size, A1.trans (hB.mono A1.size)⟩
    clear HT hA hN ht hn hF hB A1
    generalize t.size = n at *
    have Q := eqb_nil q n C W
    go_enter Try.func49, Try.ntmps49
    go_wp2_with (first
      | (refine wpList_run_w (by rfl) (.slice (some ⟨W.heap.size, 0, none⟩) 0 0) (W.alloc (.cells #[] 5)) (bs0u_run rfl) ?_)
      | (at_builtin; refine wpList_append_go rfl (.tmp 5) (.tmp 6) 23 23 rfl _ _ rfl rfl hr ?_))
    exact bodyPost_ret (by simp [results, Try.results49, go_sem]) rfl R.out
end Go.Proofs.Ytgpafmgncolnmaa
namespace Go.Proofs.Ytgpafmgncolnmaa
open Go.RowKit
theorem info_pair : (Try.prog.info? 32).map (fun i => (i.zero, i.size, i.bytes)) = some (some (.agg #[.slice none 0 0, .slice none 0 0, .bool false]), 3, 56) := by kernel_rfl
theorem under_pairs : Try.prog.underlying 27 = some (.slice 32) := by kernel_rfl
theorem pair_size : (Try.prog.info? 32).map (·.size) = some 3 := by kernel_rfl
/-- A pair as Go has it, and what it reads as. -/
structure PV where
  k : Value
  v : Value
  p : Pr
def PV.cs (x : PV) : List Value := [x.k, x.v, .bool x.p.g]
/-- A pair reads so. -/
def PVOk (W : World) (N : List Nat) (x : PV) : Prop := Txt W N x.k x.p.k ∧ Txt W N x.v x.p.v
theorem PVOk.below {W W' : World} {N : List Nat} {x : PV} (h : PVOk W N x) (hB : Below W.heap.size W W') : PVOk W' N x := ⟨h.1.below hB, h.2.below hB⟩
theorem PVOk.off {W W' : World} {N : List Nat} {x : PV} (h : PVOk W N x) (hO : Off N W W') : PVOk W' N x := ⟨h.1.off hO, h.2.off hO⟩
theorem PVOk.mono {W : World} {N M : List Nat} {x : PV} (h : PVOk W N x) (hM : ∀ b, b ∈ M → b ∈ N ∨ W.heap.size ≤ b) : PVOk W M x := ⟨h.1.mono hM, h.2.mono hM⟩
theorem PVOk.one {W : World} {N : List Nat} {x : PV} (h : PVOk W N x) : ∀ v ∈ x.cs, v.oneCell' = true := by
  intro v hv
  simp only [PV.cs, List.mem_cons, List.not_mem_nil, or_false] at hv
  rcases hv with rfl | rfl | rfl
  · exact h.1.one
  · exact h.2.one
  · rfl
/-- The cells of pairs. -/
def pcs (ps : List PV) : List Value := ps.flatMap PV.cs
theorem pcs_len (ps : List PV) : (pcs ps).length = ps.length * 3 := by
  induction ps with
  | nil => rfl
  | cons x r ih => simp only [pcs, List.flatMap_cons, List.length_append, List.length_cons] at ih ⊢; rw [show (List.flatMap PV.cs r).length = r.length * 3 from ih, show x.cs.length = 3 from rfl]; omega
theorem pcs_app (ps qs : List PV) : pcs (ps ++ qs) = pcs ps ++ pcs qs := by simp [pcs]
theorem pcs_at : ∀ (ps : List PV) (i j : Nat) (x : PV), ps[i]? = some x → j < 3 → (pcs ps)[i * 3 + j]? = x.cs[j]?
  | [], _, _, _, h, _ => by cases h
  | y :: r, 0, j, x, h, hj => by
    injection h with h
    subst h
    show (y.cs ++ pcs r)[0 * 3 + j]? = _
    rw [Nat.zero_mul, Nat.zero_add, List.getElem?_append_left (show j < 3 from hj)]
  | y :: r, i + 1, j, x, h, hj => by
    show (y.cs ++ pcs r)[(i + 1) * 3 + j]? = _
    rw [List.getElem?_append_right (show 3 ≤ (i + 1) * 3 + j by omega), show (i + 1) * 3 + j - y.cs.length = i * 3 + j by show (i + 1) * 3 + j - 3 = _; omega]
    exact pcs_at r i j x h hj
theorem pcs_take (ps : List PV) : ∀ i, (pcs ps).take (i * 3) = pcs (ps.take i) := by
  induction ps with
  | nil => intro i; simp [pcs]
  | cons x r ih =>
    intro i
    cases i with
    | zero => simp [pcs]
    | succ i =>
      show (x.cs ++ pcs r).take ((i + 1) * 3) = x.cs ++ pcs (r.take i)
      rw [List.take_append, List.take_of_length_le (show 3 ≤ (i + 1) * 3 by omega), show (i + 1) * 3 - x.cs.length = i * 3 by show (i + 1) * 3 - 3 = _; omega, ih]
theorem pcs_drop (ps : List PV) : ∀ i, (pcs ps).drop (i * 3) = pcs (ps.drop i) := by
  induction ps with
  | nil => intro i; simp [pcs]
  | cons x r ih =>
    intro i
    cases i with
    | zero => simp [pcs]
    | succ i =>
      show (x.cs ++ pcs r).drop ((i + 1) * 3) = pcs (r.drop i)
      rw [List.drop_append, List.drop_of_length_le (show 3 ≤ (i + 1) * 3 by omega), List.nil_append, show (i + 1) * 3 - x.cs.length = i * 3 by show (i + 1) * 3 - 3 = _; omega, ih]
theorem pcs_one {W : World} {N : List Nat} {ps : List PV} (h : ∀ x ∈ ps, PVOk W N x) : ∀ v ∈ pcs ps, v.oneCell' = true := by
  intro v hv
  obtain ⟨x, hx, hv⟩ := List.mem_flatMap.1 hv
  exact (h x hx).one v hv
/-- A slice of pairs that was made behind base. -/
def OwnP (w : World) (base : Nat) (v : Value) (ps : List PV) : Prop := w.ownsRow base 32 3 v ps.length (pcs ps)
theorem OwnP.nil (w : World) (base : Nat) : OwnP w base (.slice none 0 0) [] := World.ownsRow_nil w base _ 3
theorem OwnP.off {w u : World} {base : Nat} {v : Value} {ps : List PV} {N : List Nat} (h : OwnP w base v ps) (hO : Off N w u) (hn : ∀ g, v.ownBlock = some g → g ∉ N) : OwnP u base v ps := by
  refine ⟨h.1, ?_⟩
  rcases h.2 with h0 | ⟨g, cap, cur, rfl, hb, hg, rest⟩
  · exact .inl h0
  · exact .inr ⟨g, cap, cur, rfl, hb, (hO.block g (Array.getElem?_eq_some_iff.1 hg).1 (hn g rfl)).trans hg, rest⟩
theorem OwnP.below {w u : World} {base : Nat} {v : Value} {ps : List PV} (h : OwnP w base v ps) (hB : Below w.heap.size w u) : OwnP u base v ps := h.off (Off.of (bs := []) hB) (fun _ _ h => by cases h)
theorem OwnP.form {w : World} {base : Nat} {v : Value} {ps : List PV} (h : OwnP w base v ps) : (v = .slice none 0 0 ∧ ps = []) ∨ ∃ g cap, v = .slice (some ⟨g, 0, none⟩) ps.length cap ∧ base ≤ g ∧ ps.length ≤ cap ∧ cap ≤ maxLen ∧ g < w.heap.size ∧ Rec19 w g 0 (pcs ps) := by
  rcases h.2 with ⟨rfl, h0⟩ | ⟨g, cap, cur, rfl, hbg, hg, hnc, hcm, hsz, htake⟩
  · exact .inl ⟨rfl, List.eq_nil_of_length_eq_zero h0⟩
  · refine .inr ⟨g, cap, rfl, hbg, hnc, hcm, (Array.getElem?_eq_some_iff.1 hg).1, fun j u hj => ?_, fun j hj => ?_, (Array.getElem?_eq_some_iff.1 hg).1⟩
    · have := World.ownsRow.cellAt h j (by rw [← pcs_len]; exact (List.getElem?_eq_some_iff.1 hj).1)
      rw [Nat.zero_add, this, hj]
    · have := World.ownsRow.cellAt h j (by rw [← pcs_len]; exact hj)
      rw [Nat.zero_add]
      exact ⟨by rw [this, List.getElem?_eq_getElem hj]; rfl, World.ownsRow.frozenAt h j⟩
theorem OwnP.slice {w : World} {base : Nat} {v : Value} {ps : List PV} (h : OwnP w base v ps) : ∃ a cap, v = .slice a ps.length cap ∧ v.oneCell' = true := by
  rcases h.form with ⟨rfl, rfl⟩ | ⟨g, cap, rfl, _⟩
  · exact ⟨none, 0, rfl, rfl⟩
  · exact ⟨_, cap, rfl, rfl⟩
/-- A slice of pairs that is read alone. -/
def Lst (W : World) (a : Option Addr) (ps : List PV) : Prop := (∀ x ∈ ps, PVOk W [] x) ∧ (ps ≠ [] → ∃ b off, a = some ⟨b, off, none⟩ ∧ W.rangeAt b off (pcs ps) ∧ b < W.heap.size)
theorem Lst.below {W W' : World} {a : Option Addr} {ps : List PV} (h : Lst W a ps) (hB : Below W.heap.size W W') : Lst W' a ps := by
  refine ⟨fun x hx => (h.1 x hx).below hB, fun hne => ?_⟩
  obtain ⟨b, off, ha, hr, hb⟩ := h.2 hne
  exact ⟨b, off, ha, fun j v hj => (hB.cell (p := ⟨b, off + j, none⟩) hb).trans (hr j v hj), Nat.lt_of_lt_of_le hb hB.size⟩
theorem OwnP.lst {W : World} {base : Nat} {ps : List PV} {a : Option Addr} {n cap : Nat} (h : OwnP W base (.slice a n cap) ps) (hp : ∀ x ∈ ps, PVOk W [] x) : Lst W a ps := by
  refine ⟨hp, fun hne => ?_⟩
  rcases h.form with ⟨_, h0⟩ | ⟨g, cap', hv, _, _, _, hg, hR⟩
  · exact absurd h0 hne
  · injection hv with hv
    exact ⟨g, 0, hv, hR.1, hg⟩
/-- One of such pairs is loaded. -/
theorem Lst.at {W : World} {a : Option Addr} {ps : List PV} (h : Lst W a ps) (i : Nat) (x : PV) (hi : ps[i]? = some x) : ∃ b off, a = some ⟨b, off, none⟩ ∧ W.rangeAt b (off + i * 3) x.cs ∧ b < W.heap.size := by
  obtain ⟨b, off, ha, hr, hb⟩ := h.2 (fun e => by rw [e] at hi; cases hi)
  refine ⟨b, off, ha, fun j v hj => ?_, hb⟩
  have hl : j < 3 := (List.getElem?_eq_some_iff.1 hj).1
  have := hr (i * 3 + j) v (by rw [pcs_at ps i j x hi hl]; exact hj)
  rwa [← Nat.add_assoc] at this
end Go.Proofs.Ytgpafmgncolnmaa
namespace Go.Proofs.Ytgpafmgncolnmaa
open Go.RowKit
/-- May a pair be? -/
def may (p : Pr) : Prop := 1 ≤ p.k.size ∧ p.k.size ≤ 32 ∧ p.v.size ≤ (if p.g then 0 else 128)
instance mayDec (p : Pr) : Decidable (may p) := by unfold may; infer_instance
def mayE (p : Pr) : Int := if may p then 0 else 2
end Go.Proofs.Ytgpafmgncolnmaa
namespace Go.Proofs.Ytgpafmgncolnmaa
open Go.RowKit
theorem mayE_not {p : Pr} (h : ¬ may p) : mayE p = 2 := if_neg h
theorem mayE_yes {p : Pr} (h : may p) : mayE p = 0 := if_pos h
/-- The length that a value may have. -/
def most (g : Bool) : Int := if g then 0 else 128
theorem may_int (p : Pr) : may p ↔ ¬ ((p.k.size : Int) < 1) ∧ ¬ (32 < (p.k.size : Int)) ∧ ¬ (most p.g < (p.v.size : Int)) := by
  unfold may most
  cases p.g <;> simp only [if_true, Bool.false_eq_true, if_false] <;> omega
theorem pair_zero : (Try.prog.info? 32).bind (·.zero) = some (.agg ([.slice none 0 0, .slice none 0 0, .bool false] : List Value).toArray) := by kernel_rfl
/-- What copied answers. -/
def CpPost (W : World) (p : Pr) (e : Ending) (w' : World) : Prop := ∃ k v, e = .returned (.agg (PV.mk k v p).cs.toArray) ∧ Fr w' W.heap.size k p.k ∧ Fr w' W.heap.size v p.v ∧ Below W.heap.size W w'
end Go.Proofs.Ytgpafmgncolnmaa
namespace Go.Proofs.Ytgpafmgncolnmaa
open Go.RowKit
/-- What holds at the head of the search's loop. -/
def bsR (W : World) (l : List Pr) (t : ByteArray) (n : Nat) (i j : Value) (wr : World) : Prop := ∃ lo hi : Nat, i = .int .i64 (lo : Int) ∧ j = .int .i64 (hi : Int) ∧ lo ≤ hi ∧ hi ≤ n ∧ Below W.heap.size W wr ∧ (∀ k p, k < lo → l[k]? = some p → cmpB p.k t < 0) ∧ (∀ k p, hi ≤ k → l[k]? = some p → 0 ≤ cmpB p.k t)
theorem bs_low {l : List Pr} {t : ByteArray} (hS : Srt l) {m : Nat} {p : Pr} (hp : l[m]? = some p) (h : cmpB p.k t < 0) : ∀ k q, k < m + 1 → l[k]? = some q → cmpB q.k t < 0 := fun k q hk hq => by
  by_cases e : k = m
  · subst e; rw [hp] at hq; injection hq with hq; rw [← hq]; exact h
  · exact c_trans (srt_mono hS (show k < m by omega) hq hp) h
theorem bs_high {l : List Pr} {t : ByteArray} (hS : Srt l) {m : Nat} {p : Pr} (hp : l[m]? = some p) (h : 0 ≤ cmpB p.k t) : ∀ k q, m ≤ k → l[k]? = some q → 0 ≤ cmpB q.k t := fun k q hk hq => by
  by_cases e : k = m
  · subst e; rw [hp] at hq; injection hq with hq; rw [← hq]; exact h
  · exact Int.not_lt.1 fun z => absurd (c_trans (srt_mono hS (show m < k by omega) hp hq) z) (Int.not_lt.2 h)
theorem half_int (lo hi : Nat) (h : lo < hi) (hn : hi ≤ 1000000) : ∃ m : Nat, wrap64 ((lo : Int) + (hi : Int)) = (lo : Int) + (hi : Int) ∧ IntKind.u64.wrap ((lo : Int) + (hi : Int)) = (lo : Int) + (hi : Int) ∧ wrap64 (((lo : Int) + (hi : Int)) / 2) = (m : Int) ∧ wrap64 ((m : Int) + 1) = (m : Int) + 1 ∧ lo ≤ m ∧ m < hi :=
  ⟨(lo + hi) / 2, by unfold wrap64; omega, by rw [IntKind.wrap_u64]; omega, by unfold wrap64; omega, by unfold wrap64; omega, by omega, by omega⟩
theorem bs_go (W w1 : World) (l : List Pr) (t : ByteArray) (n m hi : Nat) (z : Int) (hz : z = (m : Int) + 1) (hm : m < hi) (hn : hi ≤ n) (hB : Below W.heap.size W w1) (h1 : ∀ k p, k < m + 1 → l[k]? = some p → cmpB p.k t < 0) (h2 : ∀ k p, hi ≤ k → l[k]? = some p → 0 ≤ cmpB p.k t) : bsR W l t n (.int .i64 z) (.int .i64 (hi : Int)) w1 :=
  ⟨m + 1, hi, by rw [hz]; rfl, rfl, hm, hn, hB, h1, h2⟩
theorem meas_go (lo m hi : Nat) (z : Int) (hz : z = (m : Int) + 1) (h : lo ≤ m) (k : m < hi) : (RowKit.intOf (.int .i64 (hi : Int)) - RowKit.intOf (.int .i64 z)).toNat < (RowKit.intOf (.int .i64 (hi : Int)) - RowKit.intOf (.int .i64 (lo : Int))).toNat := by
  simp only [RowKit.intOf]
  omega
theorem beq0 (z : Int) : (z == 0) = decide (z = 0) := by by_cases h : z = 0 <;> simp [h]
theorem meas_lo (lo m hi : Nat) (h : lo ≤ m) (k : m < hi) : ((hi : Int) - ((m : Int) + 1)).toNat < ((hi : Int) - (lo : Int)).toNat := by omega
theorem meas_hi (lo m hi : Nat) (h : lo ≤ m) (k : m < hi) : ((m : Int) - (lo : Int)).toNat < ((hi : Int) - (lo : Int)).toNat := by omega
/-- The three cells of a pair. -/
theorem three_cells {W : World} {b o : Nat} {x : PV} (h : W.rangeAt b o x.cs) : W.cell? ⟨b, o, none⟩ = some x.k ∧ W.cell? ⟨b, o + 1, none⟩ = some x.v ∧ W.cell? ⟨b, o + 2, none⟩ = some (.bool x.p.g) := ⟨h 0 _ rfl, h 1 _ rfl, h 2 _ rfl⟩
theorem has_at {l : List Pr} {t : ByteArray} {i : Nat} {p : Pr} (hi : pos l t = i) (hp : l[i]? = some p) : has l t = decide (cmpB p.k t = 0) := by unfold has; rw [hi, hp]
theorem has_end {l : List Pr} {t : ByteArray} {i : Nat} (hi : pos l t = i) (hl : l.length ≤ i) : has l t = false := by unfold has; rw [hi, List.getElem?_eq_none hl]
/-- A table lies in memory: its pairs, and the blocks that may be written. -/
structure Tab (W : World) (t : Nat) (v : Value) (ps : List PV) : Prop where
  own : OwnP W 0 v ps
  rc : Rec19 W t 0 [.pointer (some ⟨t, 0, none⟩), v]
  apart : ∀ g, v.ownBlock = some g → g ≠ t
  ok : ∀ x ∈ ps, PVOk W (t :: v.ownBlock.toList) x
  mays : ∀ x ∈ ps, may x.p
  srt : Srt (ps.map PV.p)
  few : ps.length ≤ 64
theorem Tab.lt {W : World} {t : Nat} {v : Value} {ps : List PV} (h : Tab W t v ps) : ∀ b, b ∈ t :: v.ownBlock.toList → b < W.heap.size := fun b hb => by
  rcases List.mem_cons.1 hb with rfl | hb
  · exact h.rc.2.2
  · cases e : v.ownBlock with
    | none => rw [e] at hb; cases hb
    | some g => rw [e] at hb; simp at hb; subst hb; exact (World.ownsRow.lt h.own _ e).2
theorem Tab.off {W W' : World} {t : Nat} {v : Value} {ps : List PV} {N : List Nat} (h : Tab W t v ps) (hO : Off N W W') (hN : ∀ b, b ∈ N → b ∉ t :: v.ownBlock.toList) (hP : ∀ x ∈ ps, PVOk W N x) : Tab W' t v ps := by
  have ht : t ∉ N := fun q => hN t q (by simp)
  refine ⟨h.own.off hO (fun g hg q => hN g q (by simp [hg])), h.rc.off hO ht, h.apart, fun x hx => ?_, h.mays, h.srt, h.few⟩
  have h1 := h.ok x hx
  have h2 := hP x hx
  exact ⟨h1.1.both h2.1 hO, h1.2.both h2.2 hO⟩
theorem Tab.below {W W' : World} {t : Nat} {v : Value} {ps : List PV} (h : Tab W t v ps) (hB : Below W.heap.size W W') : Tab W' t v ps :=
  ⟨h.own.below hB, h.rc.below hB, h.apart, fun x hx => (h.ok x hx).below hB, h.mays, h.srt, h.few⟩
theorem Tab.lst {W : World} {t : Nat} {v : Value} {ps : List PV} (h : Tab W t v ps) : ∃ a cap, v = .slice a ps.length cap ∧ Lst W a ps := by
  obtain ⟨a, cap, hv, _⟩ := h.own.slice
  exact ⟨a, cap, hv, OwnP.lst (a := a) (n := ps.length) (cap := cap) (hv ▸ h.own) (fun x hx => (h.ok x hx).mono (fun b hb => by cases hb))⟩
theorem Tab.nil (W : World) (t : Nat) : Rec19 W t 0 [.pointer (some ⟨t, 0, none⟩), .slice none 0 0] → Tab W t (.slice none 0 0) [] := fun h =>
  ⟨OwnP.nil W 0, h, fun g hg => (by cases hg), fun x hx => (by cases hx), fun x hx => (by cases hx), List.Pairwise.nil, by simp⟩
end Go.Proofs.Ytgpafmgncolnmaa
namespace Go.Proofs.Ytgpafmgncolnmaa
open Go.RowKit
/-- What becomes of a slice of pairs: it is where it was, or lies in a new block. -/
structure Insd (W : World) (v : Value) (ps' : List PV) (v' : Value) (W' : World) : Prop where
  own : OwnP W' 0 v' ps'
  off : Off v.ownBlock.toList W W'
  blk : ∀ g, v'.ownBlock = some g → v.ownBlock = some g ∨ W.heap.size ≤ g
theorem setRow_but (W : World) (g : Nat) (cs : Array Value) : But g W (W.setRow g cs) := ⟨rfl, rfl, rfl, by simp, fun k _ hk => setRow_other W g k _ (fun e => hk e)⟩
/-- copy of pairs into a block of pairs. -/
theorem copy3 (W : World) (g o dLen dCap sLen sCap m : Nat) (cur : Array Value) (a : Addr) (cs : List Value) (hg : W.heap[g]? = some (.cells cur 32 (0, 0))) (hm : Nat.min sLen dLen = m) (hn : cs.length = m * 3) (hsrc : ∀ j v, cs[j]? = some v → W.cell? (a.add j) = some v) (hfit : o + cs.length ≤ cur.size) (h1 : ∀ v ∈ cs, v.oneCell' = true) (ty : TypeId) :
    (Builtin.copy_ #[27, 27] ty #[.slice (some ⟨g, o, none⟩) dLen dCap, .slice (some a) sLen sCap]).run Try.prog W = .ok (goInt m) (W.setRow g (cur.toList.take o ++ cs ++ cur.toList.drop (o + cs.length)).toArray) := by
  have hl := run_loadCells_list (P := Try.prog) W a cs hsrc
  have hst := run_storeCells_at Try.prog g o 32 cs 0 cur W hg (by simpa using hfit) h1
  obtain ⟨i, hi, _, hz1, _⟩ := info_parts info_pair
  rw [hn] at hl
  simp only [Nat.add_zero] at hst
  simp [Builtin.copy_, run_underlying under_pairs, Builtin.lenOf, Builtin.firstCells, sizeOf, typeInfo, hi, hz1, hm, hl, hst]
theorem len_app (ps qs : List PV) : (pcs ps ++ pcs qs).length = (ps.length + qs.length) * 3 := by rw [List.length_append, pcs_len, pcs_len]; omega
/-- append of pairs onto a slice of its own. -/
theorem app_pairs (ty : TypeId) (W : World) (v : Value) (ps qs : List PV) (ad : Addr) (C : Nat) (ho : OwnP W 0 v ps) (hA : ∀ j u, (pcs qs)[j]? = some u → W.cell? (ad.add j) = some u) (h1 : ∀ u ∈ pcs qs, u.oneCell' = true) (hq : 0 < qs.length) (hm : ps.length + qs.length ≤ 100000) :
    ∃ v' W', (Builtin.append_ #[27, 27] ty #[v, .slice (some ad) qs.length C]).run Try.prog W = .ok v' W' ∧ Insd W v (ps ++ qs) v' W' := by
  obtain ⟨i0, hi, hz0, hz1, hz2⟩ := info_parts info_pair
  have hl : (pcs qs).length = qs.length * i0.size := by rw [pcs_len, hz1]
  have fin : ∀ C1, ps.length + qs.length ≤ C1 → C1 ≤ maxLen → Insd W v (ps ++ qs) (.slice (some ⟨W.heap.size, 0, none⟩) (ps.length + qs.length) C1) (W.drew.alloc (.cells ((pcs ps).toArray ++ (pcs qs).toArray ++ Builtin.zeroCells (Value.agg #[.slice none 0 0, .slice none 0 0, .bool false]).cells (C1 - (ps.length + qs.length))) 32)) := by
    intro C1 h2 h3
    refine ⟨⟨by rw [pcs_len], .inr ⟨W.heap.size, C1, _, by rw [List.length_append], Nat.zero_le _, heap_alloc_new W.drew _, by rw [List.length_append]; exact h2, h3, ?_, ?_⟩⟩, Off.of ((Below.refl W.heap.size W).drew.alloc (Nat.le_refl _) _), fun g hg => .inr ?_⟩
    · simp only [Array.size_append, List.size_toArray, size_zeroCells, pcs_len]
      show ps.length * 3 + qs.length * 3 + (C1 - (ps.length + qs.length)) * 3 = _
      omega
    · simp only [Array.toList_append]
      rw [List.length_append, pcs_app, ← len_app]
      exact List.take_left
    · injection hg with hg
      exact Nat.le_of_eq hg
  rcases ho.2 with ⟨rfl, h0⟩ | ⟨x, cap, cur, rfl, hbg, hg, hnc, hcm, hcs, htake⟩
  · obtain rfl : ps = [] := List.eq_nil_of_length_eq_zero h0
    have hr := run_append_nil (P := Try.prog) W 27 ty 32 i0 (.agg #[.slice none 0 0, .slice none 0 0, .bool false]) under_pairs hi hz0 ad qs.length C (pcs qs) hl hA hq (by simp at hm; omega) (by rw [hz2]; simp at hm; omega)
    have f := fin (grownCap W qs.length 0 32) (by simp; exact grownCap_ge W qs.length 0 _) (grownCap_le_maxLen W qs.length 0 _ (by unfold maxLen; simp at hm; omega))
    simp only [List.length_nil, Nat.zero_add] at f
    refine ⟨_, _, hr, ?_⟩
    simpa [pcs] using f
  · by_cases hroom : ps.length + qs.length ≤ cap
    · have hr := run_append_room (P := Try.prog) W 27 ty 32 i0 under_pairs hi x ps.length cap cur hg ad qs.length C (pcs qs) hl hA h1 hroom (by rw [pcs_len, hcs, hz1]; omega)
      refine ⟨_, _, hr, ⟨⟨by rw [pcs_len], .inr ⟨x, cap, _, by rw [List.length_append], Nat.zero_le _, setRow_heap W x cur _ _ _ hg, by rw [List.length_append]; exact hroom, hcm, ?_, ?_⟩⟩, Off.but (setRow_but W x _) (by simp [Value.ownBlock]), fun g hg => .inl hg⟩⟩
      · simp only [List.size_toArray, List.length_append, List.length_take, List.length_drop, Array.length_toList, pcs_len, hz1]
        omega
      · rw [hz1, htake, List.length_append, pcs_app, ← len_app]
        exact List.take_left
    · have holds : ∀ j u, (pcs ps)[j]? = some u → W.cell? ((⟨x, 0, none⟩ : Addr).add j) = some u := World.ownsRow.cells (g := x) ho rfl
      have hfit : Builtin.nextslicecap (ps.length + qs.length) cap * i0.bytes ≤ 281474976710656 := growslice_fits (by omega) (by rw [hz2]; omega)
      have hr := run_append_grow (P := Try.prog) W 27 ty 32 i0 (.agg #[.slice none 0 0, .slice none 0 0, .bool false]) under_pairs hi hz0 ⟨x, 0, none⟩ ps.length cap (pcs ps) (by rw [pcs_len, hz1]) holds ad qs.length C (pcs qs) hl hA (by omega) (by omega) hfit
      exact ⟨_, _, hr, fin _ (grownCap_ge W _ cap _) (grownCap_le_maxLen W _ cap _ (by unfold maxLen; omega))⟩
end Go.Proofs.Ytgpafmgncolnmaa
namespace Go.Proofs.Ytgpafmgncolnmaa
open Go.RowKit
/-- What Insert answers. -/
def InsPost (W : World) (v : Value) (ps' : List PV) (e : Ending) (w' : World) : Prop := ∃ v', e = .returned v' ∧ Insd W v ps' v' w'
/-- A pair lies in a block of its own. -/
def Lone (W : World) (b : Nat) (x : PV) : Prop := W.heap[b]? = some (.cells x.cs.toArray 32 (0, 0)) ∧ ∀ u ∈ x.cs, u.oneCell' = true
theorem Lone.cell {W : World} {b : Nat} {x : PV} (h : Lone W b x) (j : Nat) (u : Value) (hj : x.cs[j]? = some u) : W.cell? ⟨b, j, none⟩ = some u := by
  rw [cell_of_row W b j _ _ (0, 0) h.1]
  simpa using hj
theorem pcs_single (x : PV) : pcs [x] = x.cs := by simp [pcs]
end Go.Proofs.Ytgpafmgncolnmaa
namespace Go.Proofs.Ytgpafmgncolnmaa
open Go.RowKit
/-- cs laid over L from o on. -/
def lov (L : List Value) (o : Nat) (cs : List Value) : List Value := L.take o ++ cs ++ L.drop (o + cs.length)
theorem lov_len (L : List Value) (o : Nat) (cs : List Value) (h : o + cs.length ≤ L.length) : (lov L o cs).length = L.length := by unfold lov; simp; omega
theorem lov_take (L : List Value) (o : Nat) (cs : List Value) (h : o ≤ L.length) (k : Nat) (hk : k ≤ o) : (lov L o cs).take k = L.take k := by
  unfold lov
  rw [List.append_assoc, List.take_append, List.length_take, Nat.min_eq_left h, show k - o = 0 by omega, List.take_zero, List.append_nil, List.take_take, Nat.min_eq_left hk]
theorem lov_upto (L : List Value) (o : Nat) (cs : List Value) (h : o ≤ L.length) : (lov L o cs).take (o + cs.length) = L.take o ++ cs := by
  unfold lov
  rw [List.take_append, List.take_of_length_le (by simp; omega)]
  simp
  omega
theorem lov_behind (L : List Value) (o : Nat) (cs : List Value) (h : o ≤ L.length) (k : Nat) (hk : o ≤ k) (hk2 : k ≤ o + cs.length) : (lov L o cs).drop k = cs.drop (k - o) ++ L.drop (o + cs.length) := by
  unfold lov
  rw [List.append_assoc, List.drop_append, List.drop_of_length_le (by simp; omega), List.nil_append, List.length_take, Nat.min_eq_left h, List.drop_append, show k - o - cs.length = 0 by omega, List.drop_zero]
theorem ins_in (L : List Value) (ps : List PV) (x : PV) (i n : Nat) (hn : ps.length = n) (hi : i ≤ n) (hL : (n + 1) * 3 ≤ L.length) (ht : L.take (n * 3) = pcs ps) :
    (lov (lov L ((i + 1) * 3) (pcs (ps.drop i))) (i * 3) x.cs).length = L.length ∧ (lov (lov L ((i + 1) * 3) (pcs (ps.drop i))) (i * 3) x.cs).take ((n + 1) * 3) = pcs (ps.take i ++ x :: ps.drop i) := by
  have hd : (pcs (ps.drop i)).length = (n - i) * 3 := by rw [pcs_len, List.length_drop, hn]
  have x3 : x.cs.length = 3 := rfl
  have l1 := lov_len L ((i + 1) * 3) (pcs (ps.drop i)) (by rw [hd]; omega)
  have l2 := lov_len (lov L ((i + 1) * 3) (pcs (ps.drop i))) (i * 3) x.cs (by rw [l1, x3]; omega)
  refine ⟨l2.trans l1, ?_⟩
  have e : L.take (i * 3) = pcs (ps.take i) := by rw [← pcs_take, ← ht, List.take_take, Nat.min_eq_left (by omega)]
  have t1 := lov_take L ((i + 1) * 3) (pcs (ps.drop i)) (by omega) (i * 3) (by omega)
  have b1 := lov_behind L ((i + 1) * 3) (pcs (ps.drop i)) (by omega) (i * 3 + x.cs.length) (by rw [x3]; omega) (by rw [x3, hd]; omega)
  rw [show i * 3 + x.cs.length - (i + 1) * 3 = 0 by rw [x3]; omega, List.drop_zero] at b1
  generalize lov L ((i + 1) * 3) (pcs (ps.drop i)) = L1 at t1 b1 ⊢
  unfold lov
  rw [t1, e, b1, pcs_app]
  rw [show pcs (x :: ps.drop i) = x.cs ++ pcs (ps.drop i) from rfl, ← List.append_assoc, ← List.append_assoc]
  have : (pcs (ps.take i) ++ x.cs ++ pcs (ps.drop i)).length = (n + 1) * 3 := by
    rw [List.length_append, List.length_append, hd, x3, pcs_len, List.length_take, hn, Nat.min_eq_left hi]; omega
  rw [← this]
  exact List.take_left
theorem ins_new (Z : List Value) (ps : List PV) (x : PV) (i n : Nat) (hn : ps.length = n) (hi : i ≤ n) (hL : (n + 1) * 3 ≤ i * 3 + Z.length) :
    (lov (lov (pcs (ps.take i) ++ Z) (i * 3) x.cs) ((i + 1) * 3) (pcs (ps.drop i))).length = i * 3 + Z.length ∧ (lov (lov (pcs (ps.take i) ++ Z) (i * 3) x.cs) ((i + 1) * 3) (pcs (ps.drop i))).take ((n + 1) * 3) = pcs (ps.take i ++ x :: ps.drop i) := by
  have hd : (pcs (ps.drop i)).length = (n - i) * 3 := by rw [pcs_len, List.length_drop, hn]
  have x3 : x.cs.length = 3 := rfl
  have ht : (pcs (ps.take i)).length = i * 3 := by rw [pcs_len, List.length_take, hn, Nat.min_eq_left hi]
  have l0 : (pcs (ps.take i) ++ Z).length = i * 3 + Z.length := by rw [List.length_append, ht]
  have l1 := lov_len (pcs (ps.take i) ++ Z) (i * 3) x.cs (by rw [l0, x3]; omega)
  have l2 := lov_len (lov (pcs (ps.take i) ++ Z) (i * 3) x.cs) ((i + 1) * 3) (pcs (ps.drop i)) (by rw [l1, l0, hd]; omega)
  refine ⟨by rw [l2, l1, l0], ?_⟩
  have u := lov_upto (lov (pcs (ps.take i) ++ Z) (i * 3) x.cs) ((i + 1) * 3) (pcs (ps.drop i)) (by rw [l1, l0]; omega)
  have u1 := lov_upto (pcs (ps.take i) ++ Z) (i * 3) x.cs (by rw [l0]; omega)
  rw [x3, show i * 3 + 3 = (i + 1) * 3 by omega] at u1
  rw [hd, show (i + 1) * 3 + (n - i) * 3 = (n + 1) * 3 by omega, u1] at u
  rw [u, pcs_app, show pcs (x :: ps.drop i) = x.cs ++ pcs (ps.drop i) from rfl, ← List.append_assoc]
  congr 2
  rw [← ht]
  exact List.take_left
theorem ins_ar (n i cap : Nat) (hf : n ≤ 63) (hi : i < n) (hr : n < cap) : wrap64 ((n : Int) + 1) = (n : Int) + 1 ∧ wrap64 ((i : Int) + 1) = (i : Int) + 1 ∧ (n : Int) + 1 ≤ (cap : Int) ∧ ((cap : Int) < (n : Int) + 1) = False ∧ (0 : Int) ≤ (i : Int) ∧ ((i : Int) == (n : Int)) = false ∧ (i : Int) ≤ (n : Int) ∧ (cap = i + 1) = False ∧ (cap = i) = False ∧ (i : Int) + 1 ≤ (n : Int) + 1 ∧ (i : Int) ≤ (n : Int) + 1 ∧ (0 : Int) ≤ (i : Int) + 1 ∧ IntKind.i64.wrap ((i : Int) + 1) = (i : Int) + 1 ∧ ((i : Int) + 1).toNat = i + 1 :=
  ⟨by unfold wrap64; omega, by unfold wrap64; omega, by omega, eq_false (by omega), by omega, by rw [beq_eq_false_iff_ne]; omega, by omega, eq_false (by omega), eq_false (by omega), by omega, by omega, by omega, by rw [IntKind.wrap_i64]; omega, by omega⟩
theorem OwnP.cur {W : World} {g n cap : Nat} {ps : List PV} (h : OwnP W 0 (.slice (some ⟨g, 0, none⟩) n cap) ps) (hn : ps.length = n) : ∃ cur : Array Value, W.heap[g]? = some (.cells cur 32 (0, 0)) ∧ cap ≤ maxLen ∧ cur.size = cap * 3 ∧ cur.toList.take (n * 3) = pcs ps := by
  rcases h.2 with ⟨h, _⟩ | ⟨g', cap', cur, he, _, hg, hnc, hcm, hcs, htake⟩
  · cases h
  injection he with he _ hcc
  injection he with he
  injection he with he
  subst he hcc
  rw [hn] at htake
  exact ⟨cur, hg, hcm, hcs, htake⟩
end Go.Proofs.Ytgpafmgncolnmaa
namespace Go.Proofs.Ytgpafmgncolnmaa
open Go.RowKit
attribute [-go_sem] Builtin.append_
theorem ins_ag (n i cap G : Nat) (hf : n ≤ 63) (hi : i < n) (hr : cap < n + 1) (hc : n ≤ cap) (hG : n + 1 ≤ G) : wrap64 ((n : Int) + 1) = (n : Int) + 1 ∧ wrap64 ((i : Int) + 1) = (i : Int) + 1 ∧ ((cap : Int) < (n : Int) + 1) = True ∧ (0 : Int) ≤ (i : Int) ∧ ((i : Int) == (n : Int)) = false ∧ (i : Int) ≤ (n : Int) ∧ (G = i + 1) = False ∧ (G = i) = False ∧ (cap = i) = False ∧ (i : Int) + 1 ≤ (n : Int) + 1 ∧ (i : Int) ≤ (n : Int) + 1 ∧ (0 : Int) ≤ (i : Int) + 1 ∧ IntKind.i64.wrap ((i : Int) + 1) = (i : Int) + 1 ∧ ((i : Int) + 1).toNat = i + 1 ∧ wrap64 ((n : Int) + 1 - (i : Int)) = (n : Int) + 1 - (i : Int) ∧ (i : Int) ≤ (cap : Int) ∧ ((n + 1 - i : Nat) : Int) = (n : Int) + 1 - (i : Int) :=
  ⟨by unfold wrap64; omega, by unfold wrap64; omega, eq_true (by omega), by omega, by rw [beq_eq_false_iff_ne]; omega, by omega, eq_false (by omega), eq_false (by omega), eq_false (by omega), by omega, by omega, by omega, by rw [IntKind.wrap_i64]; omega, by omega, by unfold wrap64; omega, by omega, by omega⟩
theorem ins_grow_pre (W : World) (ps : List PV) (x : PV) (vb n i g cap : Nat) (hn : ps.length = n) (hO : OwnP W 0 (.slice (some ⟨g, 0, none⟩) n cap) ps) (hp : ∀ u ∈ pcs ps, u.oneCell' = true) (hv : Lone W vb x) (hf : n ≤ 63) (hi : i < n) (hr : cap < n + 1) :
    ∃ (G : Nat) (WA W1 W2 : World), n + 1 ≤ G ∧ (∀ ty, (Builtin.append_ #[27, 3] ty #[.slice (some ⟨g, 0, none⟩) i cap, .int .i64 ((n + 1 - i : Nat) : Int)]).run Try.prog W = .ok (.slice (some ⟨W.heap.size, 0, none⟩) (n + 1) G) WA) ∧
      (∀ dL dC ty, dL = n + 1 - i → (Builtin.copy_ #[27, 27] ty #[.slice (some ⟨W.heap.size, i * 3, none⟩) dL dC, .slice (some ⟨vb, 0, none⟩) 1 1]).run Try.prog WA = .ok (goInt 1) W1) ∧
      (∀ dL sL dC sC ty, dL = n - i → sL = n - i → (Builtin.copy_ #[27, 27] ty #[.slice (some ⟨W.heap.size, (i + 1) * 3, none⟩) dL dC, .slice (some ⟨g, i * 3, none⟩) sL sC]).run Try.prog W1.drew = .ok (goInt (n - i : Nat)) W2) ∧
      InsPost W (.slice (some ⟨g, 0, none⟩) n cap) (ps.take i ++ x :: ps.drop i) (.returned (.slice (some ⟨W.heap.size, 0, none⟩) (n + 1) G)) W2 := by
  obtain ⟨cur, hg, hcm, hcs, htake⟩ := hO.cur hn
  obtain ⟨i0, hi0, hz0, hz1, hz2⟩ := info_parts info_pair
  have hgl : g < W.heap.size := (Array.getElem?_eq_some_iff.1 hg).1
  have hvl : vb < W.heap.size := (Array.getElem?_eq_some_iff.1 hv.1).1
  have hd : (pcs (ps.drop i)).length = (n - i) * 3 := by rw [pcs_len, List.length_drop, hn]
  have hti : (pcs (ps.take i)).length = i * 3 := by rw [pcs_len, List.length_take, hn, Nat.min_eq_left (by omega)]
  have cells : ∀ (U : World), U.heap[g]? = W.heap[g]? → ∀ j u, (pcs ps)[j]? = some u → U.cell? ⟨g, j, none⟩ = some u := fun U hU j u hj => by
    rw [cell_of_row U g _ cur _ (0, 0) (hU.trans hg)]
    rw [← htake, List.getElem?_take] at hj
    split at hj
    · simpa using hj
    · cases hj
  have hold : (Builtin.firstCells i0.size i (.slice (some ⟨g, 0, none⟩) i cap)).run Try.prog W.drew = .ok (pcs (ps.take i)).toArray W.drew := by
    rw [hz1]
    exact run_firstCells_some W.drew 3 i ⟨g, 0, none⟩ i cap (pcs (ps.take i)) (by rw [hti]) (fun j u hj => by
      rw [Addr.add_mid, Nat.zero_add]
      rw [← pcs_take, List.getElem?_take] at hj
      split at hj
      · exact cells W.drew rfl j u hj
      · cases hj)
  have hge := grownCap_ge W (n + 1) cap 32
  have hle := grownCap_le_maxLen W (n + 1) cap 32 (by unfold maxLen; omega)
  have hap := fun ty => Lib.run_append_grow_zeros (P := Try.prog) W 27 3 ty 32 i0 _ .i64 .i64 under_pairs Try.underlying3 hi0 hz0 (some ⟨g, 0, none⟩) i cap (pcs (ps.take i)) hold (n + 1 - i) (by omega) (by rw [hz1]; omega) (by omega) (by omega) (by rw [hz2]; omega) (by rw [hz2]; exact growslice_fits (by omega) (by omega))
  rw [show i + (n + 1 - i) = n + 1 by omega] at hap
  generalize grownCap W (n + 1) cap 32 = G at *
  obtain ⟨Z, hZ⟩ : ∃ Z : List Value, Z = (Builtin.zeroCells (Value.agg #[.slice none 0 0, .slice none 0 0, .bool false]).cells (n + 1 - i)).toList ++ (Builtin.zeroCells (Value.agg #[.slice none 0 0, .slice none 0 0, .bool false]).cells (G - (n + 1))).toList := ⟨_, rfl⟩
  have hZl : Z.length = (G - i) * 3 := by
    rw [hZ, List.length_append, Array.length_toList, Array.length_toList, size_zeroCells, size_zeroCells]
    show (n + 1 - i) * 3 + (G - (n + 1)) * 3 = _
    omega
  have hrow : (pcs (ps.take i)).toArray ++ Builtin.zeroCells (Value.agg #[.slice none 0 0, .slice none 0 0, .bool false]).cells (n + 1 - i) ++ Builtin.zeroCells (Value.agg #[.slice none 0 0, .slice none 0 0, .bool false]).cells (G - (n + 1)) = (pcs (ps.take i) ++ Z).toArray := by
    rw [hZ]
    apply Array.toList_inj.1
    simp
  rw [hrow] at hap
  clear hrow hZ hold
  obtain ⟨WA, hWA⟩ : ∃ WA, WA = W.drew.alloc (.cells (pcs (ps.take i) ++ Z).toArray 32) := ⟨_, rfl⟩
  rw [← hWA] at hap
  have gA : WA.heap[W.heap.size]? = some (.cells (pcs (ps.take i) ++ Z).toArray 32 (0, 0)) := by rw [hWA]; exact heap_alloc_new W.drew _
  have BA : Below W.heap.size W WA := by rw [hWA]; exact (Below.refl W.heap.size W).drew.alloc (Nat.le_refl _) _
  have hII := ins_new Z ps x i n hn (by omega) (by rw [hZl]; omega)
  have l0 : (pcs (ps.take i) ++ Z).length = G * 3 := by rw [List.length_append, hti, hZl]; omega
  have C1 : ∀ dL dC ty, dL = n + 1 - i → (Builtin.copy_ #[27, 27] ty #[.slice (some ⟨W.heap.size, i * 3, none⟩) dL dC, .slice (some ⟨vb, 0, none⟩) 1 1]).run Try.prog WA = .ok (goInt 1) (WA.setRow W.heap.size (lov (pcs (ps.take i) ++ Z) (i * 3) x.cs).toArray) := fun dL dC ty h1 => copy3 WA W.heap.size (i * 3) dL dC 1 1 1 _ ⟨vb, 0, none⟩ x.cs gA (by show min _ _ = _; omega) rfl (fun j u hj => by
    rw [Addr.add_mid, Nat.zero_add, World.cell?_of_block (w := W) (BA.block vb hvl)]
    exact hv.cell j u hj) (by rw [List.size_toArray, l0]; show i * 3 + 3 ≤ _; omega) hv.2 ty
  have g1 := setRow_heap WA W.heap.size _ (lov (pcs (ps.take i) ++ Z) (i * 3) x.cs).toArray _ _ gA
  have l1 := lov_len (pcs (ps.take i) ++ Z) (i * 3) x.cs (by rw [l0]; show i * 3 + 3 ≤ _; omega)
  have b1 := setRow_but WA W.heap.size (lov (pcs (ps.take i) ++ Z) (i * 3) x.cs).toArray
  obtain ⟨W1, hW1⟩ : ∃ W1, W1 = WA.setRow W.heap.size (lov (pcs (ps.take i) ++ Z) (i * 3) x.cs).toArray := ⟨_, rfl⟩
  rw [← hW1] at C1 g1 b1
  have E1 : Below W.heap.size W W1.drew := (BA.trans (b1.below (Nat.le_refl _) BA.size)).drew
  have g1D : W1.drew.heap[W.heap.size]? = some (.cells (lov (pcs (ps.take i) ++ Z) (i * 3) x.cs).toArray 32 (0, 0)) := g1
  obtain ⟨WD, hWD⟩ : ∃ WD, WD = W1.drew := ⟨_, rfl⟩
  rw [← hWD] at E1 g1D
  have C2 : ∀ dL sL dC sC ty, dL = n - i → sL = n - i → (Builtin.copy_ #[27, 27] ty #[.slice (some ⟨W.heap.size, (i + 1) * 3, none⟩) dL dC, .slice (some ⟨g, i * 3, none⟩) sL sC]).run Try.prog WD = .ok (goInt (n - i : Nat)) (WD.setRow W.heap.size (lov (lov (pcs (ps.take i) ++ Z) (i * 3) x.cs) ((i + 1) * 3) (pcs (ps.drop i))).toArray) := fun dL sL dC sC ty h1 h2 => copy3 WD W.heap.size ((i + 1) * 3) dL dC sL sC (n - i) _ ⟨g, i * 3, none⟩ (pcs (ps.drop i)) g1D (by show min _ _ = _; omega) hd (fun j u hj => by
    rw [Addr.add_mid]
    rw [← pcs_drop, List.getElem?_drop] at hj
    exact cells WD (E1.block g hgl) _ u hj) (by rw [List.size_toArray, l1, l0, hd]; omega) (fun u hu => hp u (by rw [← pcs_drop] at hu; exact List.mem_of_mem_drop hu)) ty
  have R : Hid (InsPost W (.slice (some ⟨g, 0, none⟩) n cap) (ps.take i ++ x :: ps.drop i) (.returned (.slice (some ⟨W.heap.size, 0, none⟩) (n + 1) G)) (WD.setRow W.heap.size (lov (lov (pcs (ps.take i) ++ Z) (i * 3) x.cs) ((i + 1) * 3) (pcs (ps.drop i))).toArray)) := by
    have hl : (ps.take i ++ x :: ps.drop i).length = n + 1 := by simp; omega
    refine ⟨_, rfl, ⟨by rw [pcs_len], .inr ⟨W.heap.size, G, _, by rw [hl], Nat.zero_le _, setRow_heap _ W.heap.size _ _ _ _ g1D, by omega, hle, ?_, ?_⟩⟩, Off.of (E1.trans ((setRow_but WD W.heap.size _).below (Nat.le_refl _) E1.size)), fun b hb => .inr ?_⟩
    · rw [List.size_toArray, hII.1, hZl]; omega
    · rw [hl]; exact hII.2
    · injection hb with hb
      exact Nat.le_of_eq hb
  subst hWD
  exact ⟨G, WA, W1, _, hge, hap, C1, C2, R.out⟩
end Go.Proofs.Ytgpafmgncolnmaa
namespace Go.Proofs.Ytgpafmgncolnmaa
open Go.RowKit
/-- What build answers. -/
def BldPost (W : World) (v : Value) (e : Ending) (w' : World) : Prop := e = .returned (.pointer (some ⟨W.heap.size, 0, none⟩)) ∧ Rec19 w' W.heap.size 0 [.pointer (some ⟨W.heap.size, 0, none⟩), v] ∧ Below W.heap.size W w'
/-- What New answers. -/
def MNewPost (W : World) (e : Ending) (w' : World) : Prop := e = .returned (.pointer (some ⟨W.heap.size, 0, none⟩)) ∧ Tab w' W.heap.size (.slice none 0 0) [] ∧ Below W.heap.size W w'
theorem pcs_set : ∀ (ps : List PV) (i : Nat) (x : PV), i < ps.length → (((pcs ps).set (i * 3) x.k).set (i * 3 + 1) x.v).set (i * 3 + 2) (.bool x.p.g) = pcs (ps.take i ++ x :: ps.drop (i + 1))
  | [], _, _, h => by simp at h
  | y :: r, 0, x, _ => by
    show ((([y.k, y.v, .bool y.p.g] ++ pcs r : List Value).set 0 x.k).set 1 x.v).set 2 (.bool x.p.g) = pcs (x :: r)
    rfl
  | y :: r, i + 1, x, h => by
    have ih := pcs_set r i x (by simpa using h)
    show ((([y.k, y.v, .bool y.p.g] ++ pcs r : List Value).set ((i + 1) * 3) x.k).set ((i + 1) * 3 + 1) x.v).set ((i + 1) * 3 + 2) (.bool x.p.g) = y.cs ++ pcs (r.take i ++ x :: r.drop (i + 1))
    rw [← ih, show (i + 1) * 3 = i * 3 + 3 by omega]
    rfl
/-- A pair is stored in its place. -/
theorem OwnP.put {W : World} {g n cap : Nat} {ps : List PV} (h : OwnP W 0 (.slice (some ⟨g, 0, none⟩) n cap) ps) (hn : ps.length = n) (i : Nat) (hi : i < n) (x : PV) (h1 : ∀ u ∈ x.cs, u.oneCell' = true) :
    ∃ W2, (Instr.storeAt 32 (.pointer (some ⟨g, i * 3, none⟩)) (.agg x.cs.toArray)).run Try.prog W = .ok () W2 ∧ OwnP W2 0 (.slice (some ⟨g, 0, none⟩) n cap) (ps.take i ++ x :: ps.drop (i + 1)) ∧ But g W W2 := by
  subst hn
  have hl : (ps.take i ++ x :: ps.drop (i + 1)).length = ps.length := by simp; omega
  have th : W.there g (i * 3) 3 := fun j hj => by
    have := World.ownsRow.cellAt h (i * 3 + j) (by omega)
    exact ⟨by rw [this, List.getElem?_eq_getElem (by rw [pcs_len]; omega)]; rfl, World.ownsRow.frozenAt h _⟩
  refine ⟨_, run_storeAt_mid (P := Try.prog) W g (i * 3) _ x.cs.toArray (by exact th) (by kernel_rfl) (all_oneCell_toArray h1), ?_, But.cells _ _ _⟩
  have s1 := (World.ownsRow.stored h (i * 3) x.k).1
  have s2 := (World.ownsRow.stored s1 (i * 3 + 1) x.v).1
  have s3 := (World.ownsRow.stored s2 (i * 3 + 2) (.bool x.p.g)).1
  rw [pcs_set ps i x hi] at s3
  unfold OwnP
  rw [hl]
  exact s3
end Go.Proofs.Ytgpafmgncolnmaa
namespace Go.Proofs.Ytgpafmgncolnmaa
open Go.RowKit
section
variable {ops : Array Oper} {Q : Exit → Act → World → Prop} {md : Region.Mode} {S : World → Prop}
/-- A call and another operation may come up, the other ahead of it in the text. -/
theorem duo2_at {i j : Nat} {oi o : Oper} {fuel : Nat} {listed : Array Bool} {a : Act} {w : World} (d di : Option Tmp) (f : FuncId) (xs : Array Operand) (tys : Array TypeId) (hi : ops[i]? = some o) (hd : o.dst = d) (hii : ops[j]? = some oi) (hdi : oi.dst = di)
    (hop : o.op = .call { callee := .value (.func f), args := xs, argTypes := tys }) (hw : Region.wanted o (yielded ops a.tmps) = true) (hwi : Region.wanted oi (yielded ops a.tmps) = true) (hr : Region.ready md ops listed = [j, i])
    (vi : Value) (w1 : World) (h1 : (execOp a.eval oi).run Try.prog w = .ok (.value vi) w1) (hS1 : S w1) (k1 : S w1 → wpAnyH Try.prog md ops Q S fuel (listed.setIfInBounds j true) (a.put di vi) w1)
    (vs : Array Value) (hv : xs.toList.map a.eval = vs.toList) {fn : Func} (hf : Try.prog.funcs[f]? = some fn) (hg : (fn.name == "runtime.NumGoroutine") = false) (hb : fn.body.isNone = false)
    (hc : Calls Try.prog f vs w fun e w' => ∃ v, e = .returned v ∧ S w' ∧ (S w' → wpAnyH Try.prog md ops Q S fuel (listed.setIfInBounds i true) (a.put d v) w')) : wpAnyH Try.prog md ops Q S (fuel + 1) listed a w := by
  have hv' : xs.map a.eval = vs := Array.toList_inj.1 (by simpa using hv)
  subst hdi hd hv'
  clear hv
  refine wpAnyH_all hr (by simp) (fun k hk => ?_)
  have hk' : k = i ∨ k = j := (show k = j ∨ k = i by simpa using hk).symm
  rcases hk' with rfl | rfl
  · unfold wpOp
    simp only [hi, hw, if_true]
    refine .inl ?_
    unfold Oper.wp
    have hx : (execOp a.eval o).run Try.prog w = .ok (.enter f (xs.map a.eval)) w := by
      have hg' : ¬ fn.name = "runtime.NumGoroutine" := by simpa using hg
      have hb' : ¬ fn.body = none := fun e => by rw [e] at hb; cases hb
      simp [execOp, hop, resolve, Act.eval, Deferred.ofValue, invoke, callFunc, run_program, hf, hg', hb']
    rw [hx]
    refine hc.mono ?_
    rintro e w' ⟨v, rfl, hS, hn⟩
    exact ⟨hS, hn hS⟩
  · unfold wpOp
    simp only [hii, hwi, if_true]
    refine .inl ?_
    unfold Oper.wp
    rw [h1]
    exact ⟨hS1, k1 hS1⟩
end
/-- What Put and Remove answer. -/
def layC (l : List Pr) (p : Pr) : Int := if may p then (if has l p.k then 0 else if l.length = 64 then 8 else 0) else 2
/-- What there is then. -/
def layR (l : List Pr) (p : Pr) : List Pr := if may p then (if has l p.k then layL l p else if l.length = 64 then l else layL l p) else l
/-- What laying a pair does. -/
def MLayPost (W : World) (t : Nat) (v : Value) (ps : List PV) (p : Pr) (e : Ending) (w' : World) : Prop := ∃ v' ps', e = .returned (.int .i64 (layC (ps.map PV.p) p)) ∧ Tab w' t v' ps' ∧ ps'.map PV.p = layR (ps.map PV.p) p ∧ Off (t :: v.ownBlock.toList) W w' ∧ (∀ g, v'.ownBlock = some g → v.ownBlock = some g ∨ W.heap.size ≤ g) ∧ ∀ y ∈ ps', y ∈ ps ∨ ∀ M : List Nat, (∀ b, b ∈ M → b < W.heap.size) → PVOk w' M y
theorem PVOk.both {W W' : World} {N M : List Nat} {x : PV} (h : PVOk W M x) (k : PVOk W N x) (hO : Off N W W') : PVOk W' M x := ⟨h.1.both k.1 hO, h.2.both k.2 hO⟩
theorem map_ins (ps : List PV) (x : PV) (i j : Nat) : (ps.take i ++ x :: ps.drop j).map PV.p = (ps.map PV.p).take i ++ x.p :: (ps.map PV.p).drop j := by simp [List.map_take, List.map_drop]
theorem may_small {p : Pr} (h : may p) : p.k.size ≤ 1000000 ∧ p.v.size ≤ 1000000 := by
  obtain ⟨_, h2, h3⟩ := h
  refine ⟨by omega, ?_⟩
  split at h3 <;> omega
theorem store_one {W : World} {t o : Nat} {u : Value} {a : Option Addr} {n C : Nat} (h : W.cell? ⟨t, o, none⟩ = some u) (hf : W.frozen? ⟨t, o, none⟩ = false) : (Instr.storeAt 27 (.pointer (some ⟨t, o, none⟩)) (.slice a n C)).run Try.prog W = .ok () (W.setCell ⟨t, o, none⟩ (.slice a n C)) := by
  have st := run_storeCells_cells (P := Try.prog) t o [.slice a n C] 0 W (fun j hj => by simp at hj; subst hj; simp [h]) (fun j hj => by simp at hj; subst hj; simpa using hf) (by simp [Value.oneCell'])
  have hi : (Try.prog.info? 27).map (·.size) = some 1 := by kernel_rfl
  cases hq : Try.prog.info? 27 with
  | none => simp [hq] at hi
  | some i =>
    have hs : i.size = 1 := by simpa [hq] using hi
    simp only [Nat.add_zero] at st
    simp only [Instr.storeAt, Instr.sureAddr, Sem.run_bind, Sem.run_pure, Result.andThen_ok]
    simp [storeVar, sizeOf, typeInfo, hq, hs, Value.cells]
    exact st
/-- What there is in memory, a pair having been put in its place. -/
theorem tab_put {W W4 W5 : World} {t g cap : Nat} {ps : List PV} {x : PV} (h : Tab W t (.slice (some ⟨g, 0, none⟩) ps.length cap) ps) (E3 : Below W.heap.size W W4) (hx : PVOk W4 [t, g] x) (hF : ∀ M : List Nat, (∀ b, b ∈ M → b < W.heap.size) → PVOk W4 M x) (hm : may x.p) (hh : has (ps.map PV.p) x.p.k = true)
    (hO : OwnP W5 0 (.slice (some ⟨g, 0, none⟩) ps.length cap) (ps.take (pos (ps.map PV.p) x.p.k) ++ x :: ps.drop (pos (ps.map PV.p) x.p.k + 1))) (hB : But g W4 W5) :
    MLayPost W t (.slice (some ⟨g, 0, none⟩) ps.length cap) ps x.p (.returned (.int .i64 0)) W5 := by
  have hl : layL (ps.map PV.p) x.p = (ps.take (pos (ps.map PV.p) x.p.k) ++ x :: ps.drop (pos (ps.map PV.p) x.p.k + 1)).map PV.p := by
    rw [map_ins]
    unfold layL
    rw [hh, if_pos rfl]
  have hp := has_len _ _ hh
  have hs := srt_layL (ps.map PV.p) x.p h.srt
  have T4 := h.below E3
  refine ⟨.slice (some ⟨g, 0, none⟩) ps.length cap, ps.take (pos (ps.map PV.p) x.p.k) ++ x :: ps.drop (pos (ps.map PV.p) x.p.k + 1), ?_, ⟨hO, T4.rc.but hB (fun q => h.apart g rfl q.symm), h.apart, fun y hy => ?_, fun y hy => ?_, by rw [← hl]; exact hs, ?_⟩, ?_, (Off.of E3).trans (Off.but hB (by simp [Value.ownBlock])), fun _ q => .inl q, fun y hy => ?_⟩
  · unfold layC; rw [if_pos hm, if_pos hh]
  · have O5 : Off [t, g] W4 W5 := Off.but hB (by simp)
    rcases List.mem_append.1 hy with hy | hy
    · exact (T4.ok y (List.mem_of_mem_take hy)).off O5
    · rcases List.mem_cons.1 hy with rfl | hy
      · exact hx.off O5
      · exact (T4.ok y (List.mem_of_mem_drop hy)).off O5
  · rcases List.mem_append.1 hy with hy | hy
    · exact h.mays y (List.mem_of_mem_take hy)
    · rcases List.mem_cons.1 hy with rfl | hy
      · exact hm
      · exact h.mays y (List.mem_of_mem_drop hy)
  · have := h.few
    simp at hp ⊢
    omega
  · rw [← hl]; unfold layR; rw [if_pos hm, if_pos hh]
  · have O5 : Off [t, g] W4 W5 := Off.but hB (by simp)
    rcases List.mem_append.1 hy with hy | hy
    · exact .inl (List.mem_of_mem_take hy)
    · rcases List.mem_cons.1 hy with rfl | hy
      · exact .inr (fun M hM => (hF M hM).both hx O5)
      · exact .inl (List.mem_of_mem_drop hy)
/-- What there is in memory, a pair having been put in. -/
theorem tab_ins {W W5 W6 W7 : World} {t : Nat} {v v' : Value} {ps : List PV} {x : PV} (h : Tab W t v ps) (E5 : Below W.heap.size W W5) (hx : PVOk W5 (t :: v.ownBlock.toList) x) (hF : ∀ M : List Nat, (∀ b, b ∈ M → b < W.heap.size) → PVOk W5 M x) (hm : may x.p) (hh : has (ps.map PV.p) x.p.k = false) (hn : (ps.map PV.p).length ≠ 64)
    (hI : Insd W5 v (ps.take (pos (ps.map PV.p) x.p.k) ++ x :: ps.drop (pos (ps.map PV.p) x.p.k)) v' W6) (hR : Rec19 W7 t 0 [.pointer (some ⟨t, 0, none⟩), v']) (hB : But t W6 W7) :
    MLayPost W t v ps x.p (.returned (.int .i64 0)) W7 := by
  have hl : layL (ps.map PV.p) x.p = (ps.take (pos (ps.map PV.p) x.p.k) ++ x :: ps.drop (pos (ps.map PV.p) x.p.k)).map PV.p := by
    rw [map_ins]
    unfold layL
    rw [hh]
    rfl
  have hs := srt_layL (ps.map PV.p) x.p h.srt
  have T5 := h.below E5
  have ht := T5.rc.2.2
  have O7 : Off (t :: v.ownBlock.toList) W5 W7 := (hI.off.mono (fun b hb => List.mem_cons_of_mem _ hb)).trans (Off.but hB (by simp))
  have ap : ∀ g, v'.ownBlock = some g → g ≠ t := fun g hg => by
    rcases hI.blk g hg with q | q
    · exact h.apart g q
    · omega
  have key : ∀ y, PVOk W5 (t :: v.ownBlock.toList) y → PVOk W7 (t :: v'.ownBlock.toList) y := fun y hy => by
    refine (hy.mono (M := t :: v'.ownBlock.toList) (fun b hb => ?_)).both hy O7
    rcases List.mem_cons.1 hb with rfl | hb
    · exact .inl (by simp)
    · cases e : v'.ownBlock with
      | none => rw [e] at hb; cases hb
      | some g =>
        rw [e] at hb
        simp at hb
        subst hb
        rcases hI.blk _ e with q | q
        · exact .inl (by rw [q]; simp)
        · exact .inr q
  refine ⟨v', ps.take (pos (ps.map PV.p) x.p.k) ++ x :: ps.drop (pos (ps.map PV.p) x.p.k), ?_, ⟨hI.own.off (Off.but (bs := [t]) hB (by simp)) (fun g hg q => ap g hg (by simpa using q)), hR, ap, fun y hy => ?_, fun y hy => ?_, by rw [← hl]; exact hs, ?_⟩, ?_, (Off.of E5).trans O7, fun g hg => ?_, fun y hy => ?_⟩
  · unfold layC; rw [if_pos hm, if_neg (by rw [hh]; simp), if_neg hn]
  · rcases List.mem_append.1 hy with hy | hy
    · exact key y (T5.ok y (List.mem_of_mem_take hy))
    · rcases List.mem_cons.1 hy with rfl | hy
      · exact key _ hx
      · exact key y (T5.ok y (List.mem_of_mem_drop hy))
  · rcases List.mem_append.1 hy with hy | hy
    · exact h.mays y (List.mem_of_mem_take hy)
    · rcases List.mem_cons.1 hy with rfl | hy
      · exact hm
      · exact h.mays y (List.mem_of_mem_drop hy)
  · have a := h.few
    have b := pos_le (ps.map PV.p) x.p.k
    simp at hn b ⊢
    omega
  · rw [← hl]; unfold layR; rw [if_pos hm, if_neg (by rw [hh]; simp), if_neg hn]
  · rcases hI.blk g hg with q | q
    · exact .inl q
    · exact .inr (Nat.le_trans E5.size q)
  · rcases List.mem_append.1 hy with hy | hy
    · exact .inl (List.mem_of_mem_take hy)
    · rcases List.mem_cons.1 hy with rfl | hy
      · exact .inr (fun M hM => (hF M hM).both hx O7)
      · exact .inl (List.mem_of_mem_drop hy)
theorem tab_same {W W' : World} {t : Nat} {v : Value} {ps : List PV} {p : Pr} {c : Int} (h : Tab W t v ps) (hB : Below W.heap.size W W') (hc : layC (ps.map PV.p) p = c) (hr : layR (ps.map PV.p) p = ps.map PV.p) : MLayPost W t v ps p (.returned (.int .i64 c)) W' :=
  ⟨v, ps, by rw [hc], h.below hB, hr.symm, Off.of hB, fun _ q => .inl q, fun _ q => .inl q⟩
end Go.Proofs.Ytgpafmgncolnmaa
namespace Go.Proofs.Ytgpafmgncolnmaa
open Go.RowKit Go.Shelf
attribute [local go_sem] Oper.semAt_some
/-- A range over a function, outside of every other such loop. -/
theorem range_own1 {m : Nat} {gop : Operand} (p1 : Tmp) {assign body : Code} {Q : Exit → Act → World → Prop} {a : Act} {w : World} (hm : 2 ≤ m) (gf : FuncId) (cap : Array Value) (N : Nat) (x1 : Nat → Value)
    (hen : ∀ args V, (callFunc gf args).run Try.prog V = .ok (.enter gf args) V) (hg : a.eval gop = .func (.func gf) #[] cap) (I : Nat → World → Prop) (Ix : Code → World → Prop) (hI : OwnFrom w.heap.size I) (hIx : OwnFrom w.heap.size Ix) (hIB : ∀ k W W', I k W → Below W.heap.size W W' → I k W') (h0 : I 0 w)
    (hcall : ∀ (l : Nat) (J : Nat → World → Prop) (Jx : World → Prop), (∀ k W, J k W → I k W) → (∀ k W W', J k W → Below W.heap.size W W' → J k W') →
      (∀ k W, k < N → J k W → YieldAt Fence.wide (m - 1 - 1) Try.prog l #[x1 k] W fun e W' => (e = .returned (.bool true) ∧ J (k + 1) W') ∨ (e = .returned (.bool false) ∧ Jx W')) →
      ∀ V, J 0 V → CallsIn Fence.wide (m - 1) Try.prog gf (#[.func (.yield l) #[] #[]] ++ cap) V fun e W' => (∃ v, e = .returned v) ∧ (J N W' ∨ Jx W'))
    (hround : ∀ (l k : Nat) (W : World), k < N → I k W → w.heap.size ≤ l → l < W.heap.size → (∃ r, W.heap[l]? = some (.loop r)) → assign.wpIn (Fence.wide.inRound l) (m - 1 - 1) Try.prog
      (Exit.then (fun a₁ W₁ => KeepsFrom w.heap.size W W₁ ∧ ∀ W₂, But l W₁ W₂ → W₂.heap.size = W₁.heap.size → body.wpIn (Fence.wide.inRound l) (m - 1 - 1) Try.prog (rndP w.heap.size I Ix k W₂) a₁ W₂) (fun _ _ _ => False))
      { tmps := a.tmps.setIfInBounds p1 (x1 k), defers := [] } W)
    (hdone : ∀ (D : Nat) (W : World), w.heap.size ≤ D → I N W → W.heap[D]? = some (.deferred (some [])) → Q .normal { a with defers := { target := .collected D, args := #[] } :: a.defers } W)
    (hstop : ∀ (D : Nat) (c : Code) (W : World), w.heap.size ≤ D → Ix c W → W.heap[D]? = some (.deferred (some [])) → c.wpIn Fence.wide m Try.prog Q { a with defers := { target := .collected D, args := #[] } :: a.defers } W) :
    (Code.rangeFunc gop #[p1] assign body).wpIn Fence.wide m Try.prog Q a w := by
  refine wpIn_rangeFunc fun fn hfn => ?_
  obtain ⟨rc, hrc⟩ : ∃ rc : LoopState → Option Code → Loop, rc = fun st pe => { state := st, pending := pe, fn, tmps := a.tmps, params := #[p1], assign, body, defers := w.heap.size } := ⟨_, rfl⟩
  obtain ⟨V, hV⟩ : ∃ V, (w.alloc (.deferred (some []))).alloc (.loop (rc .ready none)) = V := ⟨_, rfl⟩
  have cL : V.heap[w.heap.size + 1]? = some (.loop (rc .ready none)) := by
    rw [← hV]
    have := World.alloc_heap_new (w.alloc (.deferred (some []))) (.loop (rc .ready none))
    rwa [World.size_alloc] at this
  have cD : V.heap[w.heap.size]? = some (.deferred (some [])) := by
    rw [← hV]
    exact (Below.heap_alloc _ _ _ (by simp)).trans (World.alloc_heap_new w _)
  have iV : I 0 V := by rw [← hV]; exact hI.alloc _ (hI.alloc _ h0)
  refine ⟨w.heap.size + 1, [{ target := .collected w.heap.size, args := #[] }], V, { target := .fn (.func gf) cap, args := #[.func (.yield (w.heap.size + 1)) #[] #[]] }, V, gf,
    #[.func (.yield (w.heap.size + 1)) #[] #[]] ++ cap, V, ?_, ?_, fun _ _ => trivial, ?_, fun _ => by omega, ?_⟩
  · rw [← hV, hrc]
    exact run_enterLoop_outer _ _ _ _ _
  · simp only [resolve, hg]
    simp [go_sem]
  · simp [invoke, go_sem, hen]
  · refine (hcall (w.heap.size + 1)
      (fun k W => I k W ∧ W.heap[w.heap.size + 1]? = some (.loop (rc .ready none)) ∧ W.heap[w.heap.size]? = some (.deferred (some [])))
      (fun W => ∃ c, Ix c W ∧ W.heap[w.heap.size + 1]? = some (.loop (rc .done (some c))) ∧ W.heap[w.heap.size]? = some (.deferred (some [])))
      (fun k W h => h.1) (fun k W W' h hb => ⟨hIB k W W' h.1 hb, (hb.block _ (Array.getElem?_eq_some_iff.1 h.2.1).1).trans h.2.1, (hb.block _ (Array.getElem?_eq_some_iff.1 h.2.2).1).trans h.2.2⟩) ?_ V ⟨iV, cL, cD⟩).mono ?_
    · rintro k W hkN ⟨hi, hl, hd⟩
      have lt : w.heap.size + 1 < W.heap.size := (Array.getElem?_eq_some_iff.1 hl).1
      have hy := run_yield (P := Try.prog) (args := #[x1 k]) hl (by rw [hrc]; rfl)
      rw [hrc] at hy
      have hy2 : (Instr.yield (w.heap.size + 1) #[x1 k]).run Try.prog W = .ok (.round (w.heap.size + 1) fn (a.tmps.setIfInBounds p1 (x1 k)) assign body) W := by
        rw [hy]
        simp
      refine ⟨fn, _, assign, body, hy2, roundIn_of_wpIn hfn (wpIn_mono (hround (w.heap.size + 1) k W hkN hi (by omega) lt ⟨_, hl⟩) ?_)⟩
      intro e a₁ W₁ hE
      cases e with
      | normal =>
        obtain ⟨kf, hb⟩ := hE
        have hl1 := kf.same _ _ (by omega) hl rfl
        have hd1 := kf.same _ _ (Nat.le_refl _) hd rfl
        have hl2 := World.putObj_heap_same (w := W₁) (o := .loop { rc .ready none with state := .busy }) (Array.getElem?_eq_some_iff.1 hl1).1
        have hd2 : (W₁.putObj (w.heap.size + 1) (.loop { rc .ready none with state := .busy })).heap[w.heap.size]? = some (.deferred (some [])) := (World.putObj_heap_other (by omega)).trans hd1
        refine ⟨_, run_beginRound hl1 (by rw [hrc]), wpIn_mono (hb _ (But.putO W₁ _ _) (by simp [World.putObj])) ?_⟩
        have fin : ∀ (jump : Option Code) (W3 : World), KeepsFrom w.heap.size (W₁.putObj (w.heap.size + 1) (.loop { rc .ready none with state := .busy })) W3 →
            (Instr.endRound (w.heap.size + 1) jump).run Try.prog W3 = .ok (.bool jump.isNone) (W3.putObj (w.heap.size + 1) (.loop (rc (if jump.isNone then .ready else .done) jump))) ∧
            W3.heap[w.heap.size + 1]? = some (.loop { rc .ready none with state := .busy }) ∧
            (W3.putObj (w.heap.size + 1) (.loop (rc (if jump.isNone then .ready else .done) jump))).heap[w.heap.size + 1]? = some (.loop (rc (if jump.isNone then .ready else .done) jump)) ∧
            (W3.putObj (w.heap.size + 1) (.loop (rc (if jump.isNone then .ready else .done) jump))).heap[w.heap.size]? = some (.deferred (some [])) := fun jump W3 k3 => by
          have l3 := k3.same _ _ (by omega) hl2 rfl
          have r3 := run_endRound (P := Try.prog) jump l3
          rw [hrc] at r3 l3 ⊢
          exact ⟨r3, l3, World.putObj_heap_same (Array.getElem?_eq_some_iff.1 l3).1, (World.putObj_heap_other (by omega)).trans (k3.same _ _ (Nat.le_refl _) hd2 rfl)⟩
        intro e a3 W3 hp
        cases e with
        | normal =>
          obtain ⟨k3, i3⟩ := hp
          obtain ⟨r, l3, l4, d4⟩ := fin none W3 k3
          exact ⟨_, _, r, .inl ⟨rfl, hI.putObj _ i3 (by omega) l3 rfl, l4, d4⟩⟩
        | ret =>
          obtain ⟨k3, i3⟩ := hp
          obtain ⟨r, l3, l4, d4⟩ := fin (some .ret) W3 k3
          exact ⟨_, _, r, .inr ⟨rfl, .ret, hIx.putObj _ i3 (by omega) l3 rfl, l4, d4⟩⟩
        | exit id =>
          obtain ⟨k3, i3⟩ := hp
          obtain ⟨r, l3, l4, d4⟩ := fin (some (.exit id)) W3 k3
          exact ⟨_, _, r, .inr ⟨rfl, .exit id, hIx.putObj _ i3 (by omega) l3 rfl, l4, d4⟩⟩
        | goto t => exact hp.elim
        | panic ch => exact hp.elim
        | outgrown => exact hp.elim
      | _ => exact hE.elim
    · rintro e W2 ⟨⟨v, rfl⟩, (⟨hi, hl, hd⟩ | ⟨c, hi, hl, hd⟩)⟩
      · exact ⟨none, _, by have := run_endLoop (P := Try.prog) hl (by rw [hrc]; simp); rw [hrc] at this; exact this, hdone _ _ (Nat.le_refl _) (hI.putObj _ hi (by omega) hl rfl) ((World.putObj_heap_other (by omega)).trans hd)⟩
      · exact ⟨some c, _, by have := run_endLoop (P := Try.prog) hl (by rw [hrc]; simp); rw [hrc] at this; exact this, hstop _ c _ (Nat.le_refl _) (hIx.putObj _ hi (by omega) hl rfl) ((World.putObj_heap_other (by omega)).trans hd)⟩
section
variable {F : Fence} {n : Nat} {ops : Array Oper} {rest : List Oper} {o : Oper} {a : Act} {w : World} {Q : Exit → Act → World → Prop}
/-- A new variable of several cells, in a fence. -/
theorem fen_alloc (hg : o.guard = none) (ty : TypeId) (ho : o.op = .alloc ty) (cs : List Value) (H : Nat) (hH : w.heap.size = H) (hz : (Try.prog.info? ty).bind (·.zero) = some (.agg cs.toArray))
    (hK : ∀ W, Rec19 W H 0 cs → Below H w W → W.heap.size = H + 1 → wpListIn F n Try.prog ops Q rest (a.put o.dst (.pointer (some ⟨H, 0, none⟩))) W) : wpListIn F n Try.prog ops Q (o :: rest) a w := by
  subst hH
  refine fen_run hg (by rw [ho]; intro c hc; cases hc) (by simp [Oper.about, ho]) (.pointer (some ⟨w.heap.size, 0, none⟩)) (w' := w.alloc (.cells cs.toArray ty)) ?_ (hK _ (Rec19.new w ty cs) ((Below.refl _ _).alloc (Nat.le_refl _) _) (by simp))
  unfold execOp
  cases hi : Try.prog.info? ty with
  | none => simp [hi] at hz
  | some i =>
    have hz' : i.zero = some (.agg cs.toArray) := by simpa [hi] using hz
    simp only [ho]
    simp [Instr.alloc, zeroValue, typeInfo, hi, hz', newVar, newRow, Value.cells, Result.andThen]
/-- A whole record is stored, in a fence. -/
theorem fen_store (hg : o.guard = none) (ty : TypeId) (x y : Operand) (ho : o.op = .store ty x y) (b off : Nat) (cs vs : List Value) (hx : a.eval x = .pointer (some ⟨b, off, none⟩)) (hy : a.eval y = .agg vs.toArray)
    (h : Rec19 w b off cs) (hl : cs.length = vs.length) (hi : (Try.prog.info? ty).map (·.size) = some vs.length) (h1 : ∀ v ∈ vs, v.oneCell' = true)
    (hK : ∀ W2, Rec19 W2 b off vs → But b w W2 → wpListIn F n Try.prog ops Q rest (a.put o.dst undef) W2) : wpListIn F n Try.prog ops Q (o :: rest) a w := by
  obtain ⟨W2, hr, R2, B2⟩ := h.run_store ty vs hl hi h1
  exact fen_mute hg (by rw [ho]; intro c hc; cases hc) (by simp [Oper.about, ho]) (put_mute ty x y ho _ _ hx hy hr) (hK W2 R2 B2)
end
end Go.Proofs.Ytgpafmgncolnmaa
namespace Go.Proofs.Ytgpafmgncolnmaa
open Go.RowKit Go.Shelf
attribute [local go_sem] Oper.semAt_some
theorem PVOk.cks {W W' : World} {N : List Nat} {x : PV} (h : PVOk W N x) (k : Cks W W') : PVOk W' N x := ⟨h.1.cks k, h.2.cks k⟩
theorem OwnP.cks {w u : World} {base : Nat} {v : Value} {ps : List PV} (h : OwnP w base v ps) (k : Cks w u) : OwnP u base v ps := by
  refine ⟨h.1, ?_⟩
  rcases h.2 with h0 | ⟨g, cap, cur, rfl, hb, hg, rest⟩
  · exact .inl h0
  · exact .inr ⟨g, cap, cur, rfl, hb, k.block g _ hg rfl, rest⟩
theorem Tab.cks {W W' : World} {t : Nat} {v : Value} {ps : List PV} (h : Tab W t v ps) (k : Cks W W') : Tab W' t v ps :=
  ⟨h.own.cks k, h.rc.cks k, h.apart, fun x hx => (h.ok x hx).cks k, h.mays, h.srt, h.few⟩
/-- The closure's boxes, and what they name. -/
structure BtwM (Bt Bf Bo t : Nat) (v fr to : Value) (f b : ByteArray) (ps : List PV) (W : World) : Prop where
  tab : Tab W t v ps
  ct : W.cell? ⟨Bt, 0, none⟩ = some (.pointer (some ⟨t, 0, none⟩))
  cf : W.cell? ⟨Bf, 0, none⟩ = some fr
  co : W.cell? ⟨Bo, 0, none⟩ = some to
  tf : Txt W [] fr f
  tt : Txt W [] to b
theorem BtwM.cks {Bt Bf Bo t : Nat} {v fr to : Value} {f b : ByteArray} {ps : List PV} {W W' : World} (h : BtwM Bt Bf Bo t v fr to f b ps W) (k : Cks W W') : BtwM Bt Bf Bo t v fr to f b ps W' :=
  ⟨h.tab.cks k, k.cell h.ct, k.cell h.cf, k.cell h.co, h.tf.cks k, h.tt.cks k⟩
/-- What is gone through. -/
def outP (ps : List PV) (f b : ByteArray) : List PV := (ps.drop (pos (ps.map PV.p) f)).takeWhile fun x => blw x.p.k b
theorem outP_map (ps : List PV) (f b : ByteArray) : (outP ps f b).map PV.p = btwL (ps.map PV.p) f b := by
  unfold outP btwL
  rw [← List.map_drop, List.takeWhile_map]
  rfl
theorem tw_lt : ∀ (l : List PV) (p : PV → Bool) (k : Nat) (x : PV), k ≤ (l.takeWhile p).length → l[k]? = some x → (if p x then k < (l.takeWhile p).length ∧ (l.takeWhile p)[k]? = some x else k = (l.takeWhile p).length)
  | [], _, _, _, _, h => by simp at h
  | a :: r, p, 0, x, _, h => by
    injection h with h
    subst h
    cases e : p a with
    | true => rw [if_pos rfl, List.takeWhile_cons_of_pos e]; simp
    | false => rw [if_neg (by simp), List.takeWhile_cons_of_neg (by simp [e])]; rfl
  | a :: r, p, k + 1, x, hk, h => by
    cases e : p a with
    | false => rw [List.takeWhile_cons_of_neg (by simp [e])] at hk; simp at hk
    | true =>
      rw [List.takeWhile_cons_of_pos e] at hk ⊢
      have := tw_lt r p k x (by simpa using hk) h
      split at this <;> rename_i c
      · rw [if_pos c]; simpa using this
      · rw [if_neg c]; simpa using this
theorem tw_end (l : List PV) (p : PV → Bool) (k : Nat) (hk : k ≤ (l.takeWhile p).length) (hl : l.length ≤ k) : k = (l.takeWhile p).length := by
  have : (l.takeWhile p).length ≤ l.length := (List.takeWhile_sublist p).length_le
  omega
theorem btw_ar (k q n : Nat) (h : k < n - q) (hn : n ≤ 64) : (k : Int) < ((n - q : Nat) : Int) ∧ (0 : Int) ≤ (k : Int) ∧ IntKind.i64.wrap ((k : Int) + 1) = (k : Int) + 1 ∧ wrap64 ((k : Int) + 1) = (k : Int) + 1 ∧ 70 - (RowKit.intOf (.int .i64 ((k : Int) + 1))).toNat < 70 - (RowKit.intOf (.int .i64 (k : Int))).toNat :=
  ⟨by omega, by omega, by rw [IntKind.wrap_i64]; omega, by unfold wrap64; omega, by simp only [RowKit.intOf]; omega⟩
theorem cells_at {W : World} {t g cap q k : Nat} {ps : List PV} {x : PV} (h : Tab W t (.slice (some ⟨g, 0, none⟩) ps.length cap) ps) (hx : ps[q + k]? = some x) : W.cell? ⟨g, q * 3 + k * 3, none⟩ = some x.k ∧ W.cell? ⟨g, q * 3 + k * 3 + 1, none⟩ = some x.v ∧ W.cell? ⟨g, q * 3 + k * 3 + 2, none⟩ = some (.bool x.p.g) := by
  obtain ⟨a, cap', hv, hL⟩ := h.lst
  injection hv with ha
  subst ha
  obtain ⟨b, off, ha, hr, _⟩ := hL.at (q + k) x hx
  injection ha with ha
  injection ha with h1 h2
  subst h1 h2
  rw [Nat.zero_add, Nat.add_mul] at hr
  exact three_cells hr
end Go.Proofs.Ytgpafmgncolnmaa
namespace Go.Proofs.Ytgpafmgncolnmaa
open Go.RowKit Go.Shelf
attribute [local go_sem] Oper.semAt_some
attribute [-go_sem] Builtin.append_
theorem app_run {a : Act} {w : World} {o : Oper} (d x : Operand) (dT sT : TypeId) (hop : o.op = Op.call { callee := Callee.builtin Builtin.append, args := #[d, x], argTypes := #[dT, sT] })
    (v u : Value) (hd : a.eval d = v) (hx : a.eval x = u) {v' : Value} {w' : World} (hr : (Builtin.append_ #[dT, sT] o.type #[v, u]).run Try.prog w = .ok v' w') : (execOp a.eval o).run Try.prog w = .ok (.value v') w' := by
  simp [execOp, hop, resolve, invoke, builtin, hd, hx, hr, Result.andThen]
theorem mkeeps_off {B : Nat} {W W' : World} {v : Value} {ps : List PV} (h : Off v.ownBlock.toList W W') (ho : OwnP W 0 v ps) : KeepsFrom B W W' := ⟨h.size, fun k o _ hk hc => (h.block k (Array.getElem?_eq_some_iff.1 hk).1 (fun q => by
  rcases ho.2 with ⟨hv, _⟩ | ⟨g, cap, cur, hv, _, hg, _⟩
  · rw [hv] at q; cases q
  · rw [hv] at q
    simp [Value.ownBlock] at q
    rw [q, hg] at hk
    injection hk with hk
    rw [← hk] at hc
    cases hc)).trans hk⟩
/-- Pairs of their own. -/
def FrP (W : World) (base : Nat) (x : PV) : Prop := Fr W base x.k x.p.k ∧ Fr W base x.v x.p.v
/-- What holds behind k rounds. -/
structure BtwI (W0 : World) (t : Nat) (fr to : Value) (f b : ByteArray) (ps : List PV) (k : Nat) (lv : Value) (os : List PV) (W : World) : Prop where
  old : Below W0.heap.size W0 W
  ct : W.cell? ⟨W0.heap.size + 1, 0, none⟩ = some (.pointer (some ⟨t, 0, none⟩))
  cf : W.cell? ⟨W0.heap.size + 2, 0, none⟩ = some fr
  co : W.cell? ⟨W0.heap.size + 3, 0, none⟩ = some to
  box : Rec19 W W0.heap.size 0 [lv]
  own : OwnP W 0 lv os
  low : ∀ g, lv.ownBlock = some g → W0.heap.size + 4 ≤ g
  frs : ∀ x ∈ os, FrP W (W0.heap.size + 4) x
  oks : ∀ x ∈ os, PVOk W lv.ownBlock.toList x
  map : os.map PV.p = ((outP ps f b).take k).map PV.p
  few : os.length ≤ 64
  sz : W0.heap.size + 4 ≤ W.heap.size
theorem BtwI.cks {W0 : World} {t : Nat} {fr to : Value} {f b : ByteArray} {ps : List PV} {k : Nat} {lv : Value} {os : List PV} {W W' : World} (h : BtwI W0 t fr to f b ps k lv os W) (c : Cks W W') (hB : Below W0.heap.size W W') : BtwI W0 t fr to f b ps k lv os W' :=
  ⟨h.old.trans hB, c.cell h.ct, c.cell h.cf, c.cell h.co, h.box.cks c, h.own.cks c, h.low, fun x hx => ⟨(h.frs x hx).1.cks c, (h.frs x hx).2.cks c⟩, fun x hx => (h.oks x hx).cks c, h.map, h.few, Nat.le_trans h.sz c.size⟩
theorem BtwI.up {W0 : World} {t : Nat} {fr to : Value} {f b : ByteArray} {ps : List PV} {k : Nat} {lv : Value} {os : List PV} {W W' : World} (h : BtwI W0 t fr to f b ps k lv os W) (hB : Below W.heap.size W W') : BtwI W0 t fr to f b ps k lv os W' := h.cks (Cks.below hB) (hB.mono (by have := h.sz; omega))
theorem BtwI.mem {W0 : World} {t : Nat} {v fr to : Value} {f b : ByteArray} {ps : List PV} {k : Nat} {lv : Value} {os : List PV} {W : World} (h : BtwI W0 t fr to f b ps k lv os W) (hT : Tab W0 t v ps) (hf : Txt W0 [] fr f) (ht : Txt W0 [] to b) : BtwM (W0.heap.size + 1) (W0.heap.size + 2) (W0.heap.size + 3) t v fr to f b ps W :=
  ⟨hT.below h.old, h.ct, h.cf, h.co, hf.below h.old, ht.below h.old⟩
theorem take_more (l : List PV) (k : Nat) (x : PV) (h : l[k]? = some x) : (l.take (k + 1)).map PV.p = (l.take k).map PV.p ++ [x.p] := by
  obtain ⟨hk, rfl⟩ := List.getElem?_eq_some_iff.1 h
  rw [List.take_succ_eq_append_getElem hk, List.map_append]
  rfl
theorem BtwI.step {W0 : World} {t : Nat} {fr to : Value} {f b : ByteArray} {ps : List PV} {k : Nat} {lv v6 : Value} {os : List PV} {W5 W6 : World} {y : PV} {H4 : Nat} (h : BtwI W0 t fr to f b ps k lv os W5) (hI : Insd W5 lv (os ++ [y]) v6 W6) (hF : Fr W5 H4 y.k y.p.k ∧ Fr W5 H4 y.v y.p.v) (hN : (outP ps f b).length ≤ 64) (hH : W0.heap.size + 4 ≤ H4 ∧ (∀ g, lv.ownBlock = some g → g < H4) ∧ H4 ≤ W5.heap.size) (hx : ∃ x, (outP ps f b)[k]? = some x ∧ x.p = y.p) :
    BtwI W0 t fr to f b ps (k + 1) v6 (os ++ [y]) (W6.setCell ⟨W0.heap.size, 0, none⟩ v6) := by
  have O7 : Off (W0.heap.size :: lv.ownBlock.toList) W5 (W6.setCell ⟨W0.heap.size, 0, none⟩ v6) := (hI.off.mono (fun b hb => List.mem_cons_of_mem _ hb)).trans (Off.set _ _ _ (by simp))
  have hB : Below W0.heap.size W5 (W6.setCell ⟨W0.heap.size, 0, none⟩ v6) := O7.below (fun b hb => by
    rcases List.mem_cons.1 hb with rfl | hb
    · exact Nat.le_refl _
    · cases e : lv.ownBlock with
      | none => rw [e] at hb; cases hb
      | some g => rw [e] at hb; simp at hb; subst hb; have := h.low _ e; omega) (by have := h.sz; omega)
  have nb : ∀ d, 1 ≤ d → d < 4 → W0.heap.size + d ∉ W0.heap.size :: lv.ownBlock.toList := fun d h1 h2 hb => by
    rcases List.mem_cons.1 hb with q | hb
    · omega
    · cases e : lv.ownBlock with
      | none => rw [e] at hb; cases hb
      | some g => rw [e] at hb; simp at hb; have := h.low _ e; omega
  have low6 : ∀ g, v6.ownBlock = some g → W0.heap.size + 4 ≤ g := fun g hg => by
    rcases hI.blk g hg with q | q
    · exact h.low g q
    · have := h.sz; omega
  have sz := h.sz
  have ok5 : ∀ x ∈ os ++ [y], PVOk W5 (W0.heap.size :: lv.ownBlock.toList) x ∧ FrP W5 (W0.heap.size + 4) x := fun x hx => by
    rcases List.mem_append.1 hx with hx | hx
    · have h1 := h.oks x hx
      have h2 := h.frs x hx
      refine ⟨⟨h1.1.cons (h2.1.txt (N := [W0.heap.size]) (by simp)), h1.2.cons (h2.2.txt (N := [W0.heap.size]) (by simp))⟩, h2⟩
    · rcases List.mem_singleton.1 hx with rfl
      have lt : ∀ b, b ∈ W0.heap.size :: lv.ownBlock.toList → b < H4 := fun b hb => by
        rcases List.mem_cons.1 hb with rfl | hb
        · omega
        · cases e : lv.ownBlock with
          | none => rw [e] at hb; cases hb
          | some g => rw [e] at hb; simp at hb; subst hb; exact hH.2.1 _ e
      exact ⟨⟨hF.1.txt lt, hF.2.txt lt⟩, hF.1.low hH.1, hF.2.low hH.1⟩
  have n6 : ∀ b, b ∈ v6.ownBlock.toList → b ∈ W0.heap.size :: lv.ownBlock.toList ∨ W5.heap.size ≤ b := fun b hb => by
    cases e : v6.ownBlock with
    | none => rw [e] at hb; cases hb
    | some g =>
      rw [e] at hb
      simp at hb
      subst hb
      rcases hI.blk _ e with q | q
      · exact .inl (by rw [q]; simp)
      · exact .inr q
  obtain ⟨x, hx1, hx2⟩ := hx
  have hl : (os ++ [y]).map PV.p = ((outP ps f b).take (k + 1)).map PV.p := by rw [take_more _ k x hx1, List.map_append, h.map, hx2]; rfl
  refine ⟨h.old.trans hB, (O7.cell (p := ⟨W0.heap.size + 1, 0, none⟩) (by show W0.heap.size + 1 < _; omega) (nb 1 (by omega) (by omega))).trans h.ct, (O7.cell (p := ⟨W0.heap.size + 2, 0, none⟩) (by show W0.heap.size + 2 < _; omega) (nb 2 (by omega) (by omega))).trans h.cf, (O7.cell (p := ⟨W0.heap.size + 3, 0, none⟩) (by show W0.heap.size + 3 < _; omega) (nb 3 (by omega) (by omega))).trans h.co, ?_, hI.own.off (Off.set (bs := [W0.heap.size]) _ _ _ (by simp)) (fun g hg q => by have := low6 g hg; simp at q; omega), low6, fun x hx => ?_, fun x hx => ?_, hl, ?_, Nat.le_trans sz O7.size⟩
  · refine (h.box.off hI.off (fun hb => ?_)).put 0 v6
    cases e : lv.ownBlock with
    | none => rw [e] at hb; cases hb
    | some g => rw [e] at hb; simp at hb; have := h.low _ e; omega
  · have a := ok5 x hx
    exact ⟨a.2.1.offT a.1.1 O7, a.2.2.offT a.1.2 O7⟩
  · have a := (ok5 x hx).1
    exact (a.mono n6).both a O7
  · have e := congrArg List.length hl
    simp only [List.length_map, List.length_take] at e
    omega
end Go.Proofs.Ytgpafmgncolnmaa
namespace Go.Proofs.Ytgpafmgncolnmaa
open Go.RowKit Go.Shelf
attribute [local go_sem] Oper.semAt_some
attribute [-go_sem] Builtin.append_
/-- What Between answers. -/
def BtwPost (W : World) (l : List Pr) (f b : ByteArray) (e : Ending) (w' : World) : Prop := ∃ lv os, e = .returned lv ∧ OwnP w' 0 lv os ∧ (∀ g, lv.ownBlock = some g → W.heap.size ≤ g) ∧ (∀ x ∈ os, FrP w' W.heap.size x ∧ PVOk w' lv.ownBlock.toList x) ∧ os.map PV.p = btwL l f b ∧ Below W.heap.size W w'
/-- The k-th pair that is handed on. -/
def x1 (os : List PV) (k : Nat) : Value := match os[k]? with
  | some x => .agg x.cs.toArray
  | none => undef
theorem x1_at {os : List PV} {k : Nat} {x : PV} (h : os[k]? = some x) : x1 os k = .agg x.cs.toArray := by unfold x1; rw [h]
theorem outP_few (ps : List PV) (f b : ByteArray) (h : ps.length ≤ 64) : (outP ps f b).length ≤ 64 := by
  unfold outP
  have : ((ps.drop (pos (ps.map PV.p) f)).takeWhile fun x => blw x.p.k b).length ≤ (ps.drop (pos (ps.map PV.p) f)).length := (List.takeWhile_sublist _).length_le
  rw [List.length_drop] at this
  omega
theorem outP_mem {ps : List PV} {f b : ByteArray} {x : PV} (h : x ∈ outP ps f b) : x ∈ ps := List.mem_of_mem_drop ((List.takeWhile_sublist _).mem h)
end Go.Proofs.Ytgpafmgncolnmaa
namespace Go.Proofs.Ytgpafmgncolnmaa
open Go.RowKit
/-- What Get answers. -/
def GetPost (W : World) (l : List Pr) (k : ByteArray) (e : Ending) (w' : World) : Prop := Below W.heap.size W w' ∧ ((∃ p key val, fnd l k = some p ∧ e = .returned (.tuple #[.agg (PV.mk key val p).cs.toArray, .int .i64 0]) ∧ FrP w' W.heap.size ⟨key, val, p⟩) ∨ (fnd l k = none ∧ e = .returned (.tuple #[.agg #[.slice none 0 0, .slice none 0 0, .bool false], .int .i64 6])))
end Go.Proofs.Ytgpafmgncolnmaa
namespace Go.Proofs.Ytgpafmgncolnmaa
open Go.RowKit
theorem pr_ext {p q : Pr} (h1 : p.k = q.k) (h2 : p.v = q.v) (h3 : p.g = q.g) : p = q := by cases p; cases q; simp_all
instance : DecidableEq Pr := fun p q => decidable_of_iff (p.k = q.k ∧ p.v = q.v ∧ p.g = q.g) ⟨fun h => pr_ext h.1 h.2.1 h.2.2, fun h => by rw [h]; exact ⟨rfl, rfl, rfl⟩⟩
theorem same_txt {W : World} {N M : List Nat} {s s' : Value} {t t' : ByteArray} (h : Txt W N s t) (h' : Txt W M s' t') : Calls Try.prog 29 #[s, s'] W fun e w' => e = .returned (.bool (decide (t = t'))) ∧ w' = W := by
  obtain ⟨a, C, f, rfl, hA, ht, _⟩ := h
  obtain ⟨a', C', f', rfl, hA', ht', _⟩ := h'
  have := same_any a a' t.size t'.size C C' f f' W hA hA'
  rw [ht, ht'] at this
  exact this
set_option maxRecDepth 100000 in
set_option maxHeartbeats 1000000 in
theorem samePair_any {W : World} {N M : List Nat} {x y : PV} (h : PVOk W N x) (h' : PVOk W M y) : Calls Try.prog 17 #[.agg x.cs.toArray, .agg y.cs.toArray] W fun e w' => e = .returned (.bool (decide (x.p = y.p))) ∧ Below W.heap.size W w' := by
  have HX := hidIt h
  have HY := hidIt h'
  clear h h'
  have key : ∀ b, (b = true ↔ x.p = y.p) → b = decide (x.p = y.p) := fun b hb => by
    by_cases e : x.p = y.p
    · rw [decide_eq_true e]; exact hb.2 e
    · rw [decide_eq_false e]
      cases b with
      | false => rfl
      | true => exact absurd (hb.1 rfl) e
  have KY := hidIt key
  clear key
  by_cases hk : x.p.k = y.p.k
  · have DK := hidIt (decide_eq_true hk)
    by_cases hv : x.p.v = y.p.v
    · have DV := hidIt (decide_eq_true hv)
      have FI : Hid ((x.p.g == y.p.g) = decide (x.p = y.p)) := hidIt (KY.out _ ⟨fun h => pr_ext hk hv (by simpa using h), fun h => by rw [h]; simp⟩)
      clear hk hv KY
      go_enter Try.func17, Try.ntmps17
      go_wp2_with (first
        | (refine wpList_box_rec rfl 32 (.tmp 0) rfl x.cs rfl W.heap.size rfl ?_; intro W1 R1 B1 z1; have P1 := hidIt R1; have E1 := hidIt (And.intro B1 z1); clear R1 B1 z1)
        | (refine wpList_box_rec rfl 32 (.tmp 1) rfl y.cs rfl (W.heap.size + 1) E1.out.2 ?_; intro W2 R2 B2 z2; have bb : Below W1.heap.size W1 W2 := (by rw [E1.out.2]; exact B2); have E2 := hidIt (E1.out.1.trans (B2.mono (by omega))); have c0 := ((P1.out.below bb).cel 0 x.k rfl).1; have c1 := ((P1.out.below bb).cel 1 x.v rfl).1; have c2 := ((P1.out.below bb).cel 2 (.bool x.p.g) rfl).1; have d0 := (R2.cel 0 y.k rfl).1; have d1 := (R2.cel 1 y.v rfl).1; have d2 := (R2.cel 2 (.bool y.p.g) rfl).1; clear R2 B2 z2 bb; have q1 : Hid True := trivial; have q2 : Hid True := trivial)
        | (go_at_call 29; have _q := q1; clear q1 _q; refine (same_txt (HX.out.1.below E2.out) (HY.out.1.below E2.out)).mono ?_; rintro e w1 ⟨rfl, hw⟩; rw [hw, DK.out]; clear hw)
        | (go_at_call 29; refine (same_txt (HX.out.2.below E2.out) (HY.out.2.below E2.out)).mono ?_; rintro e w2 ⟨rfl, hw⟩; rw [hw, DV.out]; clear hw))
      exact bodyPost_ret (v := .bool (x.p.g == y.p.g)) (by simp [results, Try.results17, go_sem]) rfl ⟨by rw [FI.out], E2.out⟩
    · have DV := hidIt (decide_eq_false hv)
      have FI : Hid (false = decide (x.p = y.p)) := hidIt (KY.out _ ⟨fun h => (by cases h), fun h => absurd (by rw [h]) hv⟩)
      clear hk hv KY
      go_enter Try.func17, Try.ntmps17
      go_wp2_with (first
        | (refine wpList_box_rec rfl 32 (.tmp 0) rfl x.cs rfl W.heap.size rfl ?_; intro W1 R1 B1 z1; have P1 := hidIt R1; have E1 := hidIt (And.intro B1 z1); clear R1 B1 z1)
        | (refine wpList_box_rec rfl 32 (.tmp 1) rfl y.cs rfl (W.heap.size + 1) E1.out.2 ?_; intro W2 R2 B2 z2; have bb : Below W1.heap.size W1 W2 := (by rw [E1.out.2]; exact B2); have E2 := hidIt (E1.out.1.trans (B2.mono (by omega))); have c0 := ((P1.out.below bb).cel 0 x.k rfl).1; have c1 := ((P1.out.below bb).cel 1 x.v rfl).1; have d0 := (R2.cel 0 y.k rfl).1; have d1 := (R2.cel 1 y.v rfl).1; clear R2 B2 z2 bb; have q1 : Hid True := trivial; have q2 : Hid True := trivial)
        | (go_at_call 29; have _q := q1; clear q1 _q; refine (same_txt (HX.out.1.below E2.out) (HY.out.1.below E2.out)).mono ?_; rintro e w1 ⟨rfl, hw⟩; rw [hw, DK.out]; clear hw)
        | (go_at_call 29; refine (same_txt (HX.out.2.below E2.out) (HY.out.2.below E2.out)).mono ?_; rintro e w2 ⟨rfl, hw⟩; rw [hw, DV.out]; clear hw))
      exact bodyPost_ret (v := .bool false) (by simp [results, Try.results17, go_sem]) rfl ⟨by rw [← FI.out], E2.out⟩
  · have DK := hidIt (decide_eq_false hk)
    have FI : Hid (false = decide (x.p = y.p)) := hidIt (KY.out _ ⟨fun h => (by cases h), fun h => absurd (by rw [h]) hk⟩)
    clear hk KY
    go_enter Try.func17, Try.ntmps17
    go_wp2_with (first
      | (refine wpList_box_rec rfl 32 (.tmp 0) rfl x.cs rfl W.heap.size rfl ?_; intro W1 R1 B1 z1; have P1 := hidIt R1; have E1 := hidIt (And.intro B1 z1); clear R1 B1 z1)
      | (refine wpList_box_rec rfl 32 (.tmp 1) rfl y.cs rfl (W.heap.size + 1) E1.out.2 ?_; intro W2 R2 B2 z2; have bb : Below W1.heap.size W1 W2 := (by rw [E1.out.2]; exact B2); have E2 := hidIt (E1.out.1.trans (B2.mono (by omega))); have c0 := ((P1.out.below bb).cel 0 x.k rfl).1; have d0 := (R2.cel 0 y.k rfl).1; clear R2 B2 z2 bb)
      | (go_at_call 29; refine (same_txt (HX.out.1.below E2.out) (HY.out.1.below E2.out)).mono ?_; rintro e w1 ⟨rfl, hw⟩; rw [hw, DK.out]; clear hw))
    exact bodyPost_ret (v := .bool false) (by simp [results, Try.results17, go_sem]) rfl ⟨by rw [← FI.out], E2.out⟩
/-- What holds at the head of the loop. -/
def spR (W : World) (l m : List Pr) (n : Nat) (i : Value) (wr : World) : Prop := ∃ k : Nat, k ≤ n ∧ i = .int .i64 (k : Int) ∧ Below W.heap.size W wr ∧ l.take k = m.take k
theorem sp_go (W w1 : World) (l m : List Pr) (n k : Nat) (z : Int) (hz : z = (k : Int) + 1) (hk : k < n) (hB : Below W.heap.size W w1) (ht : l.take k = m.take k) (he : l[k]? = m[k]?) : spR W l m n (.int .i64 z) w1 := by
  refine ⟨k + 1, hk, by rw [hz]; rfl, hB, ?_⟩
  rw [List.take_add_one, List.take_add_one, ht, he]
theorem meas_k (n k : Nat) (z : Int) (hz : z = (k : Int) + 1) (h : k < n) : n - (RowKit.intOf (.int .i64 z)).toNat < n - (RowKit.intOf (.int .i64 (k : Int))).toNat := by
  simp only [RowKit.intOf]
  omega
theorem k_ar (k n : Nat) (h : k < n) (hn : n ≤ 100000) : (k : Int) < (n : Int) ∧ (0 : Int) ≤ (k : Int) ∧ wrap64 ((k : Int) + 1) = (k : Int) + 1 ∧ IntKind.i64.wrap ((k : Int) + 1) = (k : Int) + 1 := ⟨by omega, by omega, by unfold wrap64; omega, by rw [IntKind.wrap_i64]; omega⟩
set_option maxRecDepth 100000 in
set_option maxHeartbeats 1000000 in
theorem samePairs_any {W : World} {a b : Option Addr} {ps qs : List PV} (n m C D : Nat) (hn : ps.length = n) (hm : qs.length = m) (hL : Lst W a ps) (hM : Lst W b qs) (hf : n ≤ 100000) : Calls Try.prog 16 #[.slice a n C, .slice b m D] W fun e w' => e = .returned (.bool (decide (ps.map PV.p = qs.map PV.p))) ∧ Below W.heap.size W w' := by
  by_cases hnm : n = m
  · subst hnm
    have HL := hidIt hL
    have HM := hidIt hM
    have HN := hidIt (And.intro hn hm)
    have HF := hidIt hf
    have st : Hid (spR W (ps.map PV.p) (qs.map PV.p) n (.int .i64 0) W) := hidIt ⟨0, Nat.zero_le _, rfl, Below.refl _ _, rfl⟩
    have n0 : ((n : Int) == (n : Int)) = true := by simp
    clear hL hM hn hm hf
    go_enter Try.func16, Try.ntmps16
    go_wp2_with fail
    go_loopw [5] (fun i wr => spR W (ps.map PV.p) (qs.map PV.p) n i wr) (fun i _ => n - (RowKit.intOf i).toNat)
    case atStart => exact st.out
    case round =>
      clear st
      obtain ⟨k, hk, rfl, hB, ht⟩ := hrel
      have BB := hidIt hB
      have TK := hidIt ht
      have HK := hidIt hk
      clear hB ht hk
      by_cases hlt : k < n
      · obtain ⟨x, hx⟩ : ∃ x, ps[k]? = some x := ⟨_, List.getElem?_eq_getElem (by have := HN.out.1; omega)⟩
        obtain ⟨y, hy⟩ : ∃ y, qs[k]? = some y := ⟨_, List.getElem?_eq_getElem (by have := HN.out.2; omega)⟩
        obtain ⟨b1, o1, ha, hr1, l1⟩ := (HL.out.below BB.out).at k x hx
        obtain ⟨b2, o2, hb, hr2, l2⟩ := (HM.out.below BB.out).at k y hy
        subst ha hb
        have SP := hidIt (fun (U : World) (hU : Below wr.heap.size wr U) => samePair_any (((HL.out.1 x (List.mem_of_getElem? hx)).below BB.out).below hU) (((HM.out.1 y (List.mem_of_getElem? hy)).below BB.out).below hU))
        have XY := hidIt (And.intro hx hy)
        have LT := hidIt hlt
        obtain ⟨i0, i1, i2, i3⟩ := k_ar k n hlt HF.out
        clear hx hy hlt
        go_wp2_with fail
        refine wp_region_noPanic ?_
        refine wp_region_held_drew (S := fun w' => w'.rangeAt b1 (o1 + k * 3) x.cs ∧ w'.rangeAt b2 (o2 + k * 3) y.cs) (by kernel_rfl) ?_ (fun hHeld => ?_)
        · exact ⟨hr1, hr2⟩
        refine take_at (i := 0) (v := ?_) (some 17) rfl rfl (by kernel_rfl) (by kernel_rfl) (by kernel_rfl) (fun _ _ _ h => h) (Or.inl ⟨by rfl, ?_⟩) (by assumption) ?_
        rotate_left
        · (intro w hSw; (try dsimp only at hSw); go_simp; try with_reducible rfl)
        simp only [Act.put, List.setIfInBounds_toArray, List.set_cons_zero, List.set_cons_succ]
        refine take_at (i := 1) (v := ?_) (some 18) rfl rfl (by kernel_rfl) (by kernel_rfl) (by kernel_rfl) (fun _ _ _ h => h) (Or.inl ⟨by rfl, ?_⟩) (by assumption) ?_
        rotate_left
        · (intro w hSw; (try dsimp only at hSw); go_simp; try with_reducible rfl)
        simp only [Act.put, List.setIfInBounds_toArray, List.set_cons_zero, List.set_cons_succ]
        refine take_at (i := 2) (v := ?_) (some 19) rfl rfl (by kernel_rfl) (by kernel_rfl) (by kernel_rfl) (fun _ _ _ h => h) (Or.inl ⟨by rfl, ?_⟩) (by assumption) ?_
        rotate_left
        · (intro w hSw; (try dsimp only at hSw); go_simp; try with_reducible rfl)
        simp only [Act.put, List.setIfInBounds_toArray, List.set_cons_zero, List.set_cons_succ]
        refine take_at (i := 3) (v := _) (some 20) rfl rfl (by kernel_rfl) (by kernel_rfl) (by kernel_rfl) (fun _ _ _ h => h) (yieldsIf_load_mid (by rfl) _ _ rfl _ _ rfl _ _ (fun w h => h.1) Try.underlying32 rfl pair_size) (by assumption) ?_
        simp only [Act.put, List.setIfInBounds_toArray, List.set_cons_zero, List.set_cons_succ]
        refine take_at (i := 4) (v := ?_) (some 21) rfl rfl (by kernel_rfl) (by kernel_rfl) (by kernel_rfl) (fun _ _ _ h => h) (Or.inl ⟨by rfl, ?_⟩) (by assumption) ?_
        rotate_left
        · (intro w hSw; (try dsimp only at hSw); go_simp; try with_reducible rfl)
        simp only [Act.put, List.setIfInBounds_toArray, List.set_cons_zero, List.set_cons_succ]
        refine take_at (i := 5) (v := ?_) (some 22) rfl rfl (by kernel_rfl) (by kernel_rfl) (by kernel_rfl) (fun _ _ _ h => h) (Or.inl ⟨by rfl, ?_⟩) (by assumption) ?_
        rotate_left
        · (intro w hSw; (try dsimp only at hSw); go_simp; try with_reducible rfl)
        simp only [Act.put, List.setIfInBounds_toArray, List.set_cons_zero, List.set_cons_succ]
        refine take_at (i := 6) (v := ?_) (some 23) rfl rfl (by kernel_rfl) (by kernel_rfl) (by kernel_rfl) (fun _ _ _ h => h) (Or.inl ⟨by rfl, ?_⟩) (by assumption) ?_
        rotate_left
        · (intro w hSw; (try dsimp only at hSw); go_simp; try with_reducible rfl)
        simp only [Act.put, List.setIfInBounds_toArray, List.set_cons_zero, List.set_cons_succ]
        refine take_at (i := 7) (v := _) (some 24) rfl rfl (by kernel_rfl) (by kernel_rfl) (by kernel_rfl) (fun _ _ _ h => h) (yieldsIf_load_mid (by rfl) _ _ rfl _ _ rfl _ _ (fun w h => h.2) Try.underlying32 rfl pair_size) (by assumption) ?_
        simp only [Act.put, List.setIfInBounds_toArray, List.set_cons_zero, List.set_cons_succ]
        refine call_at (i := 8) (some 25) 17 _ _ rfl rfl rfl (by rfl) (by kernel_rfl) #[.agg x.cs.toArray, .agg y.cs.toArray] rfl Try.func17 (by kernel_rfl) (by kernel_rfl) ?_
        refine (SP.out _ (Below.refl _ _).drew).mono ?_
        rintro e W2 ⟨rfl, hb2⟩
        have E2 := hidIt (BB.out.drew.trans (hb2.mono BB.out.size))
        refine ⟨_, rfl, ⟨fun j u hj => (hb2.cell (p := ⟨b1, o1 + k * 3 + j, none⟩) l1).trans (hr1 j u hj), fun j u hj => (hb2.cell (p := ⟨b2, o2 + k * 3 + j, none⟩) l2).trans (hr2 j u hj)⟩, fun hHeld => ?_⟩
        simp only [Act.put, List.setIfInBounds_toArray, List.set_cons_zero, List.set_cons_succ]
        clear hb2 hr1 hr2 l1 l2 SP
        by_cases he : x.p = y.p
        · rw [decide_eq_true he]
          refine take_at (i := 9) (v := ?_) (some 26) rfl rfl (by kernel_rfl) (by kernel_rfl) (by kernel_rfl) (fun _ _ _ h => h) (Or.inl ⟨by rfl, ?_⟩) (by assumption) ?_
          rotate_left
          · (intro w hSw; (try dsimp only at hSw); go_simp; try with_reducible rfl)
          simp only [Act.put, List.setIfInBounds_toArray, List.set_cons_zero, List.set_cons_succ]
          refine wpAnyH_done (by kernel_rfl) ?_ _
          refine NoPanic.normal ?_
          have GO := hidIt (fun z hz => sp_go W W2 (ps.map PV.p) (qs.map PV.p) n k z hz LT.out E2.out TK.out (by rw [List.getElem?_map, List.getElem?_map, XY.out.1, XY.out.2]; simp [he]))
          clear he
          go_wp2_with fail
          exact ⟨GO.out _ rfl, meas_k n k _ rfl LT.out⟩
        · rw [decide_eq_false he]
          refine take_at (i := 9) (v := ?_) (some 26) rfl rfl (by kernel_rfl) (by kernel_rfl) (by kernel_rfl) (fun _ _ _ h => h) (Or.inl ⟨by rfl, ?_⟩) (by assumption) ?_
          rotate_left
          · (intro w hSw; (try dsimp only at hSw); go_simp; try with_reducible rfl)
          simp only [Act.put, List.setIfInBounds_toArray, List.set_cons_zero, List.set_cons_succ]
          refine wpAnyH_done (by kernel_rfl) ?_ _
          refine NoPanic.normal ?_
          have NE : Hid (decide (ps.map PV.p = qs.map PV.p) = false) := hidIt (decide_eq_false (fun q => he (by
            have := congrArg (fun l : List Pr => l[k]?) q
            simp only [List.getElem?_map, XY.out.1, XY.out.2, Option.map_some] at this
            exact Option.some.inj this)))
          clear he
          go_wp2_with fail
          exact bodyPost_ret (v := .bool false) (by simp [results, Try.results16, go_sem]) rfl ⟨by rw [NE.out], E2.out⟩
      · have EQ : Hid (decide (ps.map PV.p = qs.map PV.p) = true) := hidIt (decide_eq_true (by
          have := TK.out
          rw [List.take_of_length_le (by simp; have := HN.out.1; omega), List.take_of_length_le (by simp; have := HN.out.2; omega)] at this
          exact this))
        have i0 : ((k : Int) < (n : Int)) = False := eq_false (by omega)
        clear hlt
        go_wp2_with fail
        exact bodyPost_ret (v := .bool true) (by simp [results, Try.results16, go_sem]) rfl ⟨by rw [EQ.out], BB.out⟩
  · have NE : Hid (decide (ps.map PV.p = qs.map PV.p) = false) := hidIt (decide_eq_false (fun q => hnm (by have := congrArg List.length q; simp at this; omega)))
    have n0 : ((n : Int) == (m : Int)) = false := by rw [beq_eq_false_iff_ne]; omega
    clear hL hM hn hm hf hnm
    go_enter Try.func16, Try.ntmps16
    go_wp2_with fail
    exact bodyPost_ret (v := .bool false) (by simp [results, Try.results16, go_sem]) rfl ⟨by rw [NE.out], Below.refl _ _⟩
end Go.Proofs.Ytgpafmgncolnmaa
namespace Go.Proofs.Ytgpafmgncolnmaa
open Go.RowKit
section
variable {ops : Array Oper} {rest : List Oper} {o : Oper} {a : Act} {w : World} {Q : Exit → Act → World → Prop}
/-- An operation whose run is known. -/
theorem wpList_run_w (hw : Region.wanted o (yielded ops a.tmps) = true) (v : Value) (w' : World) (hx : (execOp a.eval o).run Try.prog w = .ok (.value v) w') (hK : wpList Try.prog ops Q rest (a.put o.dst v) w') : wpList Try.prog ops Q (o :: rest) a w := by
  refine wpList_step fun K hK' => ?_
  rw [if_pos hw]
  unfold Oper.wp
  rw [hx]
  exact hK' _ _ hK
/-- A literal of one byte. -/
theorem wpList_lit (hw : Region.wanted o (yielded ops a.tmps) = true) (c : Int) (ho : o.op = .buildSlice 23 1 #[(0, .const (.int .u8 c))])
    (hK : ∀ W', W'.heap[w.heap.size]? = some (.cells #[.int .u8 c] 5 (0, 0)) → Below w.heap.size w W' → W'.heap.size = w.heap.size + 1 → wpList Try.prog ops Q rest (a.put o.dst (.slice (some ⟨w.heap.size, 0, none⟩) 1 1)) W') : wpList Try.prog ops Q (o :: rest) a w :=
  wpList_run_w hw _ _ (bsl_run 23 5 1 _ ho 1 1 _ #[.int .u8 c] [(0, .int .u8 c)] Try.underlying23 info_u8 (by decide) (by decide) (by simp [Act.eval]) (by kernel_rfl)) (hK _ (heap_alloc_new w _) ((Below.refl _ _).alloc (Nat.le_refl _) _) (by simp))
theorem convL (u : World) (y n c : Nat) (C : Array Value) (fz : Nat × Nat) (hy : u.heap[y]? = some (.cells C 5 fz)) : ∃ u', (convert 23 23 (.slice (some ⟨y, 0, none⟩) n c)).run Try.prog u = .ok (.slice (some ⟨y, 0, none⟩) n c) u' ∧ But y u u' ∧ ∃ fz', u'.heap[y]? = some (.cells C 5 fz') := by
  have hsh : u.shape? y = some (5, C.size) := by
    unfold World.shape?
    rw [hy]
  refine ⟨u.freeze ⟨y, C.size, none⟩ 1, ?_, ?_, ?_⟩
  · simp [convert, run_underlying Try.underlying23, run_underlying Try.underlying5, markStringish, hsh]
  · unfold World.freeze
    rw [if_neg (by decide)]
    refine ⟨rfl, rfl, rfl, by simp, fun k hk hn => ?_⟩
    simp only [Array.getElem?_modify]
    rw [if_neg (fun e => hn e.symm)]
  · unfold World.freeze
    rw [if_neg (by decide)]
    simp only [Array.getElem?_modify, if_true, hy]
    exact ⟨_, rfl⟩
/-- Its conversion. -/
theorem wpList_conv (hw : Region.wanted o (yielded ops a.tmps) = true) (x : Operand) (ho : o.op = .convert 23 23 x) (y : Nat) (c : Int) (hc : 0 ≤ c ∧ c < 256) (hx : a.eval x = .slice (some ⟨y, 0, none⟩) 1 1) (hy : w.heap[y]? = some (.cells #[.int .u8 c] 5 (0, 0)))
    (hK : ∀ W', But y w W' → Txt W' [] (.slice (some ⟨y, 0, none⟩) 1 1) (txtN 1 (fun _ => c)) → wpList Try.prog ops Q rest (a.put o.dst (.slice (some ⟨y, 0, none⟩) 1 1)) W') : wpList Try.prog ops Q (o :: rest) a w := by
  obtain ⟨u', hr, hB, fz, hu⟩ := convL w y 1 1 _ _ hy
  refine wpList_run_w hw _ u' (by unfold execOp; simp only [ho, hx, Sem.run_bind, hr, Result.andThen_ok]; rfl) (hK u' hB ?_)
  refine Txt.of (.inr ⟨by omega, y, 0, rfl, fun j hj => ?_, fun _ _ => hc, (Array.getElem?_eq_some_iff.1 hu).1⟩)
  obtain rfl : j = 0 := by omega
  rw [cell_of_row _ _ _ _ _ _ hu]
  rfl
end
/-- A text as bytes. -/
theorem conv_txt (W : World) (s : ByteArray) (N : List Nat) (hN : ∀ b, b ∈ N → b < W.heap.size) : ∃ cap W', (convert 9 23 (.string s)).run Try.prog W = .ok (.slice (some ⟨W.heap.size, 0, none⟩) s.size cap) W' ∧ Txt W' N (.slice (some ⟨W.heap.size, 0, none⟩) s.size cap) s ∧ Below W.heap.size W W' := by
  refine ⟨_, _, run_bytes_of_string (P := Try.prog) W 9 23 5 s Try.underlying9 Try.underlying23 Try.underlying5, ?_, (Below.refl _ _).drew.alloc (Nat.le_refl _) _⟩
  refine ⟨_, _, fun j => ((s.data.toList[j]?.getD 0).toNat : Int), rfl, ?_, ?_, fun _ q hq h => by injection hq with hq; subst hq; have := hN _ h; simp at this⟩
  · by_cases h0 : s.size = 0
    · exact .inl ⟨h0, .inr ⟨_, rfl⟩⟩
    · refine .inr ⟨by omega, W.heap.size, 0, rfl, fun j hj => ?_, fun j _ => (show (0 : Int) ≤ ((s.data.toList[j]?.getD 0).toNat : Int) ∧ ((s.data.toList[j]?.getD 0).toNat : Int) < 256 from ⟨by omega, by have := (s.data.toList[j]?.getD 0).toNat_lt; omega⟩), by simp⟩
      show (W.drew.alloc _).cell? ⟨W.drew.heap.size, 0 + j, none⟩ = _
      rw [cell_of_row _ _ _ _ _ _ (heap_alloc_new _ _), Nat.zero_add]
      have hj' : j < s.data.size := hj
      have := bytesRow_at s (grownCap W s.size 0 5) j hj
      rw [this]
      simp only [Array.getElem?_toList]
      rw [Array.getElem?_eq_getElem hj']
      rfl
  · apply ByteArray.ext
    apply Array.toList_inj.1
    apply List.ext_getElem?
    intro j
    by_cases hj : j < s.size
    · rw [txtN_at _ _ j hj]
      have hj' : j < s.data.toList.length := by rw [Array.length_toList]; exact hj
      rw [List.getElem?_eq_getElem hj']
      simp
    · rw [List.getElem?_eq_none (by have : (txtN s.size fun j => ((s.data.toList[j]?.getD 0).toNat : Int)).data.toList.length = s.size := (by rw [Array.length_toList]; exact txtN_size _ _); omega), List.getElem?_eq_none (by rw [Array.length_toList]; exact Nat.not_lt.1 hj)]
/-- What is and gone answer. -/
def IsPost (W : World) (p : Pr) (e : Ending) (w' : World) : Prop := ∃ a n C b m D, e = .returned (.agg (PV.mk (.slice a n C) (.slice b m D) p).cs.toArray) ∧ PVOk w' [] ⟨.slice a n C, .slice b m D, p⟩ ∧ Below W.heap.size W w'
set_option maxRecDepth 100000 in
theorem is_any (W : World) (k v : ByteArray) : Calls Try.prog 26 #[.string k, .string v] W (IsPost W ⟨k, v, false⟩) := by
  go_enter Try.func26, Try.ntmps26
  go_wp2_with (first
    | (refine wpList_alloc_rec rfl 32 rfl _ W.heap.size rfl pair_zero ?_; intro W1 R1 B1 z1; obtain ⟨c1, W2, hr2, T2, B2⟩ := conv_txt W1 k [W.heap.size] (by simp; omega); obtain ⟨c2, W3, hr3, T3, B3⟩ := conv_txt W2 v [W.heap.size] (by simp; have := B2.size; omega); have B13 := B2.trans (B3.mono B2.size); have P3 := hidIt (R1.below B13); have E3 := hidIt (B1.trans (B13.mono (by omega))); have X3 := hidIt (And.intro (T2.below B3) T3); have Z := hidIt (And.intro z1 B2.size); clear R1 B1 z1 T2 T3 B2 B3 B13)
    | (refine wpList_run_w rfl _ W2 (show (execOp _ _).run Try.prog _ = _ by unfold execOp; simp only [Act.eval]; simp [hr2, Result.andThen]) ?_; clear hr2)
    | (refine wpList_run_w rfl _ W3 (show (execOp _ _).run Try.prog _ = _ by unfold execOp; simp only [Act.eval]; simp [hr3, Result.andThen]) ?_; clear hr3)
    | (refine wpList_store_rec rfl 32 (.tmp 4) (.tmp 9) rfl W.heap.size 0 _ (PV.mk (.slice (some ⟨W1.heap.size, 0, none⟩) k.size c1) (.slice (some ⟨W2.heap.size, 0, none⟩) v.size c2) ⟨k, v, false⟩).cs rfl rfl P3.out rfl pair_size (by intro u hu; simp only [PV.cs, List.mem_cons, List.not_mem_nil, or_false] at hu; rcases hu with rfl | rfl | rfl <;> rfl) ?_; intro W4 R4 B4; have P4 := hidIt R4; have E4 := hidIt (And.intro (E3.out.trans (B4.below (Nat.le_refl _) E3.out.size)) B4); clear R4 B4))
  have hl := P4.out.run_load 32 _ Try.underlying32 rfl pair_size
  have O4 : Off [W.heap.size] W3 W4 := Off.but E4.out.2 (by simp)
  exact bodyPost_ret (v := .agg (PV.mk (.slice (some ⟨W1.heap.size, 0, none⟩) k.size c1) (.slice (some ⟨W2.heap.size, 0, none⟩) v.size c2) ⟨k, v, false⟩).cs.toArray) (by simp [results, Try.results26, asAddr, Act.put, hl]) rfl ⟨_, _, _, _, _, _, rfl, ⟨(X3.out.1.off O4).any, (X3.out.2.off O4).any⟩, E4.out.1⟩
set_option maxRecDepth 100000 in
theorem gone_any (W : World) (k : ByteArray) : Calls Try.prog 28 #[.string k] W (IsPost W ⟨k, .empty, true⟩) := by
  go_enter Try.func28, Try.ntmps28
  go_wp2_with (first
    | (refine wpList_alloc_rec rfl 32 rfl _ W.heap.size rfl pair_zero ?_; intro W1 R1 B1 z1; obtain ⟨c1, W2, hr2, T2, B2⟩ := conv_txt W1 k [W.heap.size] (by simp; omega); have P3 := hidIt (R1.below B2); have E3 := hidIt (B1.trans (B2.mono (by omega))); have X3 := hidIt T2; clear R1 B1 z1 T2 B2)
    | (refine wpList_store_rec rfl 32 (.tmp 2) (.tmp 5) rfl W.heap.size 0 _ (PV.mk (.slice (some ⟨W1.heap.size, 0, none⟩) k.size c1) (.slice none 0 0) ⟨k, .empty, true⟩).cs rfl rfl P3.out rfl pair_size (by intro u hu; simp only [PV.cs, List.mem_cons, List.not_mem_nil, or_false] at hu; rcases hu with rfl | rfl | rfl <;> rfl) ?_; intro W4 R4 B4; have P4 := hidIt R4; have E4 := hidIt (And.intro (E3.out.trans (B4.below (Nat.le_refl _) E3.out.size)) B4); clear R4 B4))
  have hl := P4.out.run_load 32 _ Try.underlying32 rfl pair_size
  have O4 : Off [W.heap.size] W2 W4 := Off.but E4.out.2 (by simp)
  exact bodyPost_ret (v := .agg (PV.mk (.slice (some ⟨W1.heap.size, 0, none⟩) k.size c1) (.slice none 0 0) ⟨k, .empty, true⟩).cs.toArray) (by simp [results, Try.results28, asAddr, Act.put, hl]) rfl ⟨_, _, _, _, _, _, rfl, ⟨(X3.out.off O4).any, Txt.nil _ _ _⟩, E4.out.1⟩
/-- A text of one byte. -/
def b1 (c : Int) : ByteArray := txtN 1 (fun _ => c)
/-- The chapter's table behind its first row. -/
def L3 : List Pr := [⟨b1 97, b1 50, false⟩, ⟨b1 98, b1 49, false⟩, ⟨b1 99, .empty, true⟩]
theorem tab_new {H t : Nat} {v : Value} (h : ∀ g, v.ownBlock = some g → H ≤ g) (ht : H ≤ t := by exact Nat.le_refl _) : ∀ b, b ∈ t :: v.ownBlock.toList → H ≤ b := fun b hb => by
  rcases List.mem_cons.1 hb with rfl | hb
  · exact ht
  · cases e : v.ownBlock with
    | none => rw [e] at hb; cases hb
    | some g => rw [e] at hb; simp at hb; subst hb; exact h _ e
/-- What three answers. -/
def ThreePost (W : World) (e : Ending) (w' : World) : Prop := ∃ t v ps, e = .returned (.pointer (some ⟨t, 0, none⟩)) ∧ W.heap.size ≤ t ∧ (∀ g, v.ownBlock = some g → W.heap.size ≤ g) ∧ Tab w' t v ps ∧ ps.map PV.p = L3 ∧ Below W.heap.size W w'
theorem lay1 : layC [] ⟨b1 98, b1 49, false⟩ = 0 ∧ layR [] ⟨b1 98, b1 49, false⟩ = [⟨b1 98, b1 49, false⟩] := by decide
theorem lay2 : layC [⟨b1 98, b1 49, false⟩] ⟨b1 97, b1 50, false⟩ = 0 ∧ layR [⟨b1 98, b1 49, false⟩] ⟨b1 97, b1 50, false⟩ = [⟨b1 97, b1 50, false⟩, ⟨b1 98, b1 49, false⟩] := by decide
theorem lay3 : layC [⟨b1 97, b1 50, false⟩, ⟨b1 98, b1 49, false⟩] ⟨b1 99, .empty, true⟩ = 0 ∧ layR [⟨b1 97, b1 50, false⟩, ⟨b1 98, b1 49, false⟩] ⟨b1 99, .empty, true⟩ = L3 := by decide
end Go.Proofs.Ytgpafmgncolnmaa
namespace Go.Proofs.Ytgpafmgncolnmaa
open Go.RowKit
theorem l3_all : btwL L3 .empty .empty = [⟨⟨#[97]⟩, ⟨#[50]⟩, false⟩, ⟨⟨#[98]⟩, ⟨#[49]⟩, false⟩, ⟨⟨#[99]⟩, .empty, true⟩] := by decide
theorem BtwPost.lst {w' : World} {lv : Value} {os : List PV} (h : OwnP w' 0 lv os) (k : ∀ x ∈ os, PVOk w' lv.ownBlock.toList x) : ∃ a cap, lv = .slice a os.length cap ∧ Lst w' a os := by
  obtain ⟨a, cap, hv, _⟩ := h.slice
  exact ⟨a, cap, hv, OwnP.lst (a := a) (n := os.length) (cap := cap) (hv ▸ h) (fun x hx => (k x hx).mono (fun b hb => by cases hb))⟩
/-- Pairs that lie in a block of their own. -/
theorem lst_new (W : World) (xs : List PV) (h : ∀ x ∈ xs, PVOk W [] x) : Lst (W.alloc (.cells (pcs xs).toArray 32)) (some ⟨W.heap.size, 0, none⟩) xs := by
  have B : Below W.heap.size W (W.alloc (.cells (pcs xs).toArray 32)) := (Below.refl _ _).alloc (Nat.le_refl _) _
  exact ⟨fun x hx => (h x hx).below B, fun _ => ⟨W.heap.size, 0, rfl, (Rec19.new W _ (pcs xs)).1, by simp⟩⟩
/-- A table that is nil, or that nobody made. -/
def NoT (W : World) (p : Value) : Prop := p = .pointer none ∨ ∃ t, p = .pointer (some ⟨t, 0, none⟩) ∧ W.cell? ⟨t, 0, none⟩ = some (.pointer none) ∧ t < W.heap.size
theorem NoT.below {W W' : World} {p : Value} (h : NoT W p) (hB : Below W.heap.size W W') : NoT W' p := by
  rcases h with h | ⟨t, h1, h2, h3⟩
  · exact .inl h
  · exact .inr ⟨t, h1, (hB.cell (p := ⟨t, 0, none⟩) h3).trans h2, Nat.lt_of_lt_of_le h3 hB.size⟩
end Go.Proofs.Ytgpafmgncolnmaa
namespace Go.Proofs.Ytgpafmgncolnmaa
open Go.RowKit
/-- Each key is ahead of the next one. -/
def Chn (l : List Pr) : Prop := ∀ j p q, l[j]? = some p → l[j + 1]? = some q → cmpB p.k q.k < 0
theorem chn_of {l : List Pr} (h : Srt l) : Chn l := fun _ _ _ hp hq => srt_mono h (by omega) hp hq
/-- What Sorted answers. -/
def SrtPost (W : World) (l : List Pr) (e : Ending) (w' : World) : Prop := ∃ b : Bool, e = .returned (.bool b) ∧ (b = true ↔ Chn l) ∧ Below W.heap.size W w'
/-- What holds at the head of the loop. -/
def soR (W : World) (l : List Pr) (i : Value) (wr : World) : Prop := ∃ k : Nat, i = .int .i64 ((k : Int) + 1) ∧ Below W.heap.size W wr ∧ ∀ j p q, j < k → l[j]? = some p → l[j + 1]? = some q → cmpB p.k q.k < 0
theorem so_go (W w1 : World) (l : List Pr) (k : Nat) (z : Int) (hz : z = (k : Int) + 1 + 1) (hB : Below W.heap.size W w1) (h : ∀ j p q, j < k → l[j]? = some p → l[j + 1]? = some q → cmpB p.k q.k < 0) (x y : Pr) (hx : l[k]? = some x) (hy : l[k + 1]? = some y) (hc : cmpB x.k y.k < 0) : soR W l (.int .i64 z) w1 := by
  refine ⟨k + 1, by rw [hz]; rfl, hB, fun j p q hj hp hq => ?_⟩
  by_cases e : j = k
  · subst e
    rw [hx] at hp
    rw [hy] at hq
    injection hp with hp
    injection hq with hq
    rw [← hp, ← hq]
    exact hc
  · exact h j p q (by omega) hp hq
theorem so_ar (k n : Nat) (h : k + 1 < n) (hn : n ≤ 100000) : (k : Int) + 1 < (n : Int) ∧ (0 : Int) ≤ (k : Int) ∧ (k : Int) < (n : Int) ∧ (0 : Int) ≤ (k : Int) + 1 ∧ wrap64 ((k : Int) + 1 + 1) = (k : Int) + 1 + 1 ∧ IntKind.i64.wrap ((k : Int) + 1 + 1) = (k : Int) + 1 + 1 ∧ wrap64 ((k : Int) + 1 - 1) = (k : Int) ∧ ((k : Int) + 1).toNat = k + 1 ∧ IntKind.i64.wrap ((k : Int) + 1 - 1) = (k : Int) ∧ IntKind.i64.wrap (k : Int) = (k : Int) ∧ wrap64 (k : Int) = (k : Int) ∧ IntKind.i64.wrap ((k : Int) + 1) = (k : Int) + 1 :=
  ⟨by omega, by omega, by omega, by omega, by unfold wrap64; omega, by rw [IntKind.wrap_i64]; omega, by unfold wrap64; omega, by omega, by rw [IntKind.wrap_i64]; omega, by rw [IntKind.wrap_i64]; omega, by unfold wrap64; omega, by rw [IntKind.wrap_i64]; omega⟩
theorem meas_s (n k : Nat) (z : Int) (hz : z = (k : Int) + 1 + 1) (h : k + 1 < n) : n + 1 - (RowKit.intOf (.int .i64 z)).toNat < n + 1 - (RowKit.intOf (.int .i64 ((k : Int) + 1))).toNat := by
  simp only [RowKit.intOf]
  omega
theorem key_cell {W : World} {b o i : Nat} {x : PV} (h : W.rangeAt b (o + i * 3) x.cs) : W.cell? ⟨b, o + i * 3, none⟩ = some x.k := h 0 _ rfl
theorem less_cb : ∀ (a b : List UInt8), Op.bytesLess a b = decide (Lib.compareBytes a b < 0)
  | [], [] => rfl
  | [], _ :: _ => rfl
  | _ :: _, [] => rfl
  | x :: a, y :: b => by
    unfold Op.bytesLess Lib.compareBytes
    by_cases h1 : x < y
    · simp [h1]
    · by_cases h2 : y < x
      · have : ¬ x = y := fun e => by subst e; exact h1 h2
        simp [h1, h2, this]
      · have e : x = y := UInt8.le_antisymm (UInt8.not_lt.1 h2) (UInt8.not_lt.1 h1)
        subst e
        simp [h1, less_cb a b]
theorem less_is (x y : ByteArray) : Op.bytesLess x.toList y.toList = decide (cmpB x y < 0) := by
  rw [ByteArray.toList_eq, ByteArray.toList_eq]
  exact less_cb _ _
set_option maxRecDepth 100000 in
theorem less_any {W : World} {N M : List Nat} {s s' : Value} {t t' : ByteArray} (h : Txt W N s t) (h' : Txt W M s' t') : Calls Try.prog 50 #[s, s'] W fun e w' => e = .returned (.bool (decide (cmpB t t' < 0))) ∧ w' = W := by
  obtain ⟨a, C, f, rfl, hA, ht, _⟩ := h
  obtain ⟨a', C', f', rfl, hA', ht', _⟩ := h'
  have c1 := conv_arg W a t.size C f hA
  have c2 := conv_arg W a' t'.size C' f' hA'
  rw [ht] at c1
  rw [ht'] at c2
  clear hA hA' ht ht'
  generalize t.size = n at *
  generalize t'.size = m at *
  go_enter Try.func50, Try.ntmps50
  go_wp2
  rw [less_is]
  go_ret
  exact ⟨rfl, rfl⟩
set_option maxRecDepth 100000 in
set_option maxHeartbeats 1000000 in
theorem tsorted_any {W : World} {a : Option Addr} {ps : List PV} (n C : Nat) (hn : ps.length = n) (hL : Lst W a ps) (hf : n ≤ 100000) : Calls Try.prog 30 #[.slice a n C] W (SrtPost W (ps.map PV.p)) := by
  have HL := hidIt hL
  have HN := hidIt hn
  have HF := hidIt hf
  have st : Hid (soR W (ps.map PV.p) (.int .i64 1) W) := hidIt ⟨0, rfl, Below.refl _ _, fun j p q hj => by omega⟩
  clear hL hn hf
  go_enter Try.func30, Try.ntmps30
  go_wp2_with fail
  go_loopw [3] (fun i wr => soR W (ps.map PV.p) i wr) (fun i _ => n + 1 - (RowKit.intOf i).toNat)
  case atStart => exact st.out
  case round =>
    clear st
    obtain ⟨k, rfl, hB, ht⟩ := hrel
    have BB := hidIt hB
    have TK := hidIt ht
    clear hB ht
    by_cases hlt : k + 1 < n
    · obtain ⟨x, hx⟩ : ∃ x, ps[k]? = some x := ⟨_, List.getElem?_eq_getElem (by have := HN.out; omega)⟩
      obtain ⟨y, hy⟩ : ∃ y, ps[k + 1]? = some y := ⟨_, List.getElem?_eq_getElem (by have := HN.out; omega)⟩
      obtain ⟨b1, o1, ha, hr1, l1⟩ := (HL.out.below BB.out).at k x hx
      subst ha
      obtain ⟨b2, o2, hb, hr2, l2⟩ := (HL.out.below BB.out).at (k + 1) y hy
      injection hb with hb
      injection hb with hb1 hb2
      subst hb1 hb2
      have q1 := key_cell hr1
      have q2 := key_cell hr2
      have CM := hidIt (ycmp_any ((HL.out.1 x (List.mem_of_getElem? hx)).below (BB.out.drew)).1 ((HL.out.1 y (List.mem_of_getElem? hy)).below (BB.out.drew)).1)
      have XY : Hid ((ps.map PV.p)[k]? = some x.p ∧ (ps.map PV.p)[k + 1]? = some y.p) := hidIt ⟨by rw [List.getElem?_map, hx]; rfl, by rw [List.getElem?_map, hy]; rfl⟩
      have LT := hidIt hlt
      obtain ⟨i0, i1, i2, i3, i4, i5, i6, i7, i8, i9, i10, i11⟩ := so_ar k n hlt HF.out
      clear hx hy hlt hr1 hr2 l1 l2
      go_wp2_with fail
      refine wp_region_noPanic ?_
      refine wp_region_held_drew (S := fun w' => w'.cell? ⟨b1, o1 + k * 3, none⟩ = some x.k ∧ w'.cell? ⟨b1, o1 + (k + 1) * 3, none⟩ = some y.k) (by kernel_rfl) ?_ (fun hHeld => ?_)
      · exact ⟨q1, q2⟩
      refine take_at (i := 0) (v := ?_) (some 10) rfl rfl (by kernel_rfl) (by kernel_rfl) (by kernel_rfl) (fun _ _ _ h => h) (Or.inl ⟨by rfl, ?_⟩) (by assumption) ?_
      rotate_left
      · (intro w hSw; (try dsimp only at hSw); go_simp; try with_reducible rfl)
      simp only [Act.put, List.setIfInBounds_toArray, List.set_cons_zero, List.set_cons_succ]
      refine take_at (i := 1) (v := ?_) (some 11) rfl rfl (by kernel_rfl) (by kernel_rfl) (by kernel_rfl) (fun _ _ _ h => h) (Or.inl ⟨by rfl, ?_⟩) (by assumption) ?_
      rotate_left
      · (intro w hSw; (try dsimp only at hSw); go_simp; try with_reducible rfl)
      simp only [Act.put, List.setIfInBounds_toArray, List.set_cons_zero, List.set_cons_succ]
      refine take_at (i := 2) (v := ?_) (some 12) rfl rfl (by kernel_rfl) (by kernel_rfl) (by kernel_rfl) (fun _ _ _ h => h) (Or.inl ⟨by rfl, ?_⟩) (by assumption) ?_
      rotate_left
      · (intro w hSw; (try dsimp only at hSw); go_simp; try with_reducible rfl)
      simp only [Act.put, List.setIfInBounds_toArray, List.set_cons_zero, List.set_cons_succ]
      refine take_at (i := 3) (v := ?_) (some 13) rfl rfl (by kernel_rfl) (by kernel_rfl) (by kernel_rfl) (fun _ _ _ h => h) (Or.inl ⟨by rfl, ?_⟩) (by assumption) ?_
      rotate_left
      · (intro w hSw; (try dsimp only at hSw); go_simp; try with_reducible rfl)
      simp only [Act.put, List.setIfInBounds_toArray, List.set_cons_zero, List.set_cons_succ]
      refine take_at (i := 4) (v := ?_) (some 14) rfl rfl (by kernel_rfl) (by kernel_rfl) (by kernel_rfl) (fun _ _ _ h => h) (Or.inl ⟨by rfl, ?_⟩) (by assumption) ?_
      rotate_left
      · (intro w hSw; (try dsimp only at hSw); go_simp; try with_reducible rfl)
      simp only [Act.put, List.setIfInBounds_toArray, List.set_cons_zero, List.set_cons_succ]
      refine take_at (i := 5) (v := ?_) (some 15) rfl rfl (by kernel_rfl) (by kernel_rfl) (by kernel_rfl) (fun _ _ _ h => h) (Or.inl ⟨by rfl, ?_⟩) (by assumption) ?_
      rotate_left
      · (intro w hSw; (try dsimp only at hSw); go_simp; try with_reducible rfl)
      simp only [Act.put, List.setIfInBounds_toArray, List.set_cons_zero, List.set_cons_succ]
      refine take_at (i := 6) (v := ?_) (some 16) rfl rfl (by kernel_rfl) (by kernel_rfl) (by kernel_rfl) (fun _ _ _ h => h) (Or.inl ⟨by rfl, ?_⟩) (by assumption) ?_
      rotate_left
      · (intro w hSw; (try dsimp only at hSw); go_simp; try with_reducible rfl)
      simp only [Act.put, List.setIfInBounds_toArray, List.set_cons_zero, List.set_cons_succ]
      refine take_at (i := 7) (v := ?_) (some 17) rfl rfl (by kernel_rfl) (by kernel_rfl) (by kernel_rfl) (fun _ _ _ h => h) (Or.inl ⟨by rfl, ?_⟩) (by assumption) ?_
      rotate_left
      · (intro w hSw; (try dsimp only at hSw); go_simp; try with_reducible rfl)
      simp only [Act.put, List.setIfInBounds_toArray, List.set_cons_zero, List.set_cons_succ]
      refine take_at (i := 8) (v := ?_) (some 18) rfl rfl (by kernel_rfl) (by kernel_rfl) (by kernel_rfl) (fun _ _ _ h => h) (Or.inl ⟨by rfl, ?_⟩) (by assumption) ?_
      rotate_left
      · (intro w hSw; (try dsimp only at hSw); go_simp; try with_reducible rfl)
      simp only [Act.put, List.setIfInBounds_toArray, List.set_cons_zero, List.set_cons_succ]
      refine take_at (i := 9) (v := ?_) (some 19) rfl rfl (by kernel_rfl) (by kernel_rfl) (by kernel_rfl) (fun _ _ _ h => h) (Or.inl ⟨by rfl, ?_⟩) (by assumption) ?_
      rotate_left
      · (intro w hSw; (try dsimp only at hSw); go_simp; try with_reducible rfl)
      simp only [Act.put, List.setIfInBounds_toArray, List.set_cons_zero, List.set_cons_succ]
      refine take_at (i := 10) (v := ?_) (some 20) rfl rfl (by kernel_rfl) (by kernel_rfl) (by kernel_rfl) (fun _ _ _ h => h) (Or.inl ⟨by rfl, ?_⟩) (by assumption) ?_
      rotate_left
      · (intro w hSw; (try dsimp only at hSw); go_simp; try with_reducible rfl)
      simp only [Act.put, List.setIfInBounds_toArray, List.set_cons_zero, List.set_cons_succ]
      refine call_at (i := 11) (some 21) 43 _ _ rfl rfl rfl (by rfl) (by kernel_rfl) #[x.k, y.k] rfl Try.func43 (by kernel_rfl) (by kernel_rfl) ?_
      refine CM.out.mono ?_
      rintro e W2 ⟨rfl, hw⟩
      rw [hw]
      refine ⟨_, rfl, ⟨q1, q2⟩, fun hHeld => ?_⟩
      simp only [Act.put, List.setIfInBounds_toArray, List.set_cons_zero, List.set_cons_succ]
      clear hw q1 q2 CM
      by_cases hc : cmpB x.p.k y.p.k < 0
      · have c1 : (0 ≤ cmpB x.p.k y.p.k) = False := eq_false (by omega)
        have HC := hidIt hc
        clear hc
        refine take_at (i := 12) (v := ?_) (some 22) rfl rfl (by kernel_rfl) (by kernel_rfl) (by kernel_rfl) (fun _ _ _ h => h) (Or.inl ⟨by rfl, ?_⟩) (by assumption) ?_
        rotate_left
        · (intro w hSw; (try dsimp only at hSw); go_simp; try with_reducible rfl)
        simp only [Act.put, List.setIfInBounds_toArray, List.set_cons_zero, List.set_cons_succ]
        refine wpAnyH_done (by kernel_rfl) ?_ _
        refine NoPanic.normal ?_
        have GO := hidIt (fun z hz => so_go W wr.drew (ps.map PV.p) k z hz BB.out.drew TK.out x.p y.p XY.out.1 XY.out.2 HC.out)
        go_wp2_with fail
        exact ⟨GO.out _ rfl, meas_s n k _ rfl LT.out⟩
      · have c1 : (0 ≤ cmpB x.p.k y.p.k) = True := eq_true (by omega)
        have HC := hidIt hc
        clear hc
        refine take_at (i := 12) (v := ?_) (some 22) rfl rfl (by kernel_rfl) (by kernel_rfl) (by kernel_rfl) (fun _ _ _ h => h) (Or.inl ⟨by rfl, ?_⟩) (by assumption) ?_
        rotate_left
        · (intro w hSw; (try dsimp only at hSw); go_simp; try with_reducible rfl)
        simp only [Act.put, List.setIfInBounds_toArray, List.set_cons_zero, List.set_cons_succ]
        refine wpAnyH_done (by kernel_rfl) ?_ _
        refine NoPanic.normal ?_
        go_wp2_with fail
        exact bodyPost_ret (v := .bool false) (by simp [results, Try.results30, go_sem]) rfl ⟨false, rfl, ⟨fun h => (by cases h), fun h => absurd (h k x.p y.p XY.out.1 XY.out.2) (Int.not_lt.2 HC.out)⟩, BB.out.drew⟩
    · have AL : Hid (Chn (ps.map PV.p)) := hidIt (fun j p q hp hq => TK.out j p q (by have := (List.getElem?_eq_some_iff.1 hq).1; simp at this; have := HN.out; omega) hp hq)
      have i0 : ((k : Int) + 1 < (n : Int)) = False := eq_false (by omega)
      clear hlt
      go_wp2_with fail
      exact bodyPost_ret (v := .bool true) (by simp [results, Try.results30, go_sem]) rfl ⟨true, rfl, ⟨fun _ => AL.out, fun _ => rfl⟩, BB.out⟩
set_option maxRecDepth 100000 in
set_option maxHeartbeats 1000000 in
theorem rsorted_any {W : World} {a : Option Addr} {ps : List PV} (n C : Nat) (hn : ps.length = n) (hL : Lst W a ps) (hf : n ≤ 100000) : Calls Try.prog 35 #[.slice a n C] W (SrtPost W (ps.map PV.p)) := by
  have HL := hidIt hL
  have HN := hidIt hn
  have HF := hidIt hf
  have st : Hid (soR W (ps.map PV.p) (.int .i64 1) W) := hidIt ⟨0, rfl, Below.refl _ _, fun j p q hj => by omega⟩
  clear hL hn hf
  go_enter Try.func35, Try.ntmps35
  go_wp2_with fail
  go_loopw [3] (fun i wr => soR W (ps.map PV.p) i wr) (fun i _ => n + 1 - (RowKit.intOf i).toNat)
  case atStart => exact st.out
  case round =>
    clear st
    obtain ⟨k, rfl, hB, ht⟩ := hrel
    have BB := hidIt hB
    have TK := hidIt ht
    clear hB ht
    by_cases hlt : k + 1 < n
    · obtain ⟨x, hx⟩ : ∃ x, ps[k]? = some x := ⟨_, List.getElem?_eq_getElem (by have := HN.out; omega)⟩
      obtain ⟨y, hy⟩ : ∃ y, ps[k + 1]? = some y := ⟨_, List.getElem?_eq_getElem (by have := HN.out; omega)⟩
      obtain ⟨b1, o1, ha, hr1, l1⟩ := (HL.out.below BB.out).at k x hx
      subst ha
      obtain ⟨b2, o2, hb, hr2, l2⟩ := (HL.out.below BB.out).at (k + 1) y hy
      injection hb with hb
      injection hb with hb1 hb2
      subst hb1 hb2
      have q1 := key_cell hr1
      have q2 := key_cell hr2
      have CM := hidIt (less_any ((HL.out.1 x (List.mem_of_getElem? hx)).below (BB.out.drew)).1 ((HL.out.1 y (List.mem_of_getElem? hy)).below (BB.out.drew)).1)
      have XY : Hid ((ps.map PV.p)[k]? = some x.p ∧ (ps.map PV.p)[k + 1]? = some y.p) := hidIt ⟨by rw [List.getElem?_map, hx]; rfl, by rw [List.getElem?_map, hy]; rfl⟩
      have LT := hidIt hlt
      obtain ⟨i0, i1, i2, i3, i4, i5, i6, i7, i8, i9, i10, i11⟩ := so_ar k n hlt HF.out
      clear hx hy hlt hr1 hr2 l1 l2
      go_wp2_with fail
      refine wp_region_noPanic ?_
      refine wp_region_held_drew (S := fun w' => w'.cell? ⟨b1, o1 + k * 3, none⟩ = some x.k ∧ w'.cell? ⟨b1, o1 + (k + 1) * 3, none⟩ = some y.k) (by kernel_rfl) ?_ (fun hHeld => ?_)
      · exact ⟨q1, q2⟩
      refine take_at (i := 0) (v := ?_) (some 10) rfl rfl (by kernel_rfl) (by kernel_rfl) (by kernel_rfl) (fun _ _ _ h => h) (Or.inl ⟨by rfl, ?_⟩) (by assumption) ?_
      rotate_left
      · (intro w hSw; (try dsimp only at hSw); go_simp; try with_reducible rfl)
      simp only [Act.put, List.setIfInBounds_toArray, List.set_cons_zero, List.set_cons_succ]
      refine take_at (i := 1) (v := ?_) (some 11) rfl rfl (by kernel_rfl) (by kernel_rfl) (by kernel_rfl) (fun _ _ _ h => h) (Or.inl ⟨by rfl, ?_⟩) (by assumption) ?_
      rotate_left
      · (intro w hSw; (try dsimp only at hSw); go_simp; try with_reducible rfl)
      simp only [Act.put, List.setIfInBounds_toArray, List.set_cons_zero, List.set_cons_succ]
      refine take_at (i := 2) (v := ?_) (some 12) rfl rfl (by kernel_rfl) (by kernel_rfl) (by kernel_rfl) (fun _ _ _ h => h) (Or.inl ⟨by rfl, ?_⟩) (by assumption) ?_
      rotate_left
      · (intro w hSw; (try dsimp only at hSw); go_simp; try with_reducible rfl)
      simp only [Act.put, List.setIfInBounds_toArray, List.set_cons_zero, List.set_cons_succ]
      refine take_at (i := 3) (v := ?_) (some 13) rfl rfl (by kernel_rfl) (by kernel_rfl) (by kernel_rfl) (fun _ _ _ h => h) (Or.inl ⟨by rfl, ?_⟩) (by assumption) ?_
      rotate_left
      · (intro w hSw; (try dsimp only at hSw); go_simp; try with_reducible rfl)
      simp only [Act.put, List.setIfInBounds_toArray, List.set_cons_zero, List.set_cons_succ]
      refine take_at (i := 4) (v := ?_) (some 14) rfl rfl (by kernel_rfl) (by kernel_rfl) (by kernel_rfl) (fun _ _ _ h => h) (Or.inl ⟨by rfl, ?_⟩) (by assumption) ?_
      rotate_left
      · (intro w hSw; (try dsimp only at hSw); go_simp; try with_reducible rfl)
      simp only [Act.put, List.setIfInBounds_toArray, List.set_cons_zero, List.set_cons_succ]
      refine take_at (i := 5) (v := ?_) (some 15) rfl rfl (by kernel_rfl) (by kernel_rfl) (by kernel_rfl) (fun _ _ _ h => h) (Or.inl ⟨by rfl, ?_⟩) (by assumption) ?_
      rotate_left
      · (intro w hSw; (try dsimp only at hSw); go_simp; try with_reducible rfl)
      simp only [Act.put, List.setIfInBounds_toArray, List.set_cons_zero, List.set_cons_succ]
      refine take_at (i := 6) (v := ?_) (some 16) rfl rfl (by kernel_rfl) (by kernel_rfl) (by kernel_rfl) (fun _ _ _ h => h) (Or.inl ⟨by rfl, ?_⟩) (by assumption) ?_
      rotate_left
      · (intro w hSw; (try dsimp only at hSw); go_simp; try with_reducible rfl)
      simp only [Act.put, List.setIfInBounds_toArray, List.set_cons_zero, List.set_cons_succ]
      refine take_at (i := 7) (v := ?_) (some 17) rfl rfl (by kernel_rfl) (by kernel_rfl) (by kernel_rfl) (fun _ _ _ h => h) (Or.inl ⟨by rfl, ?_⟩) (by assumption) ?_
      rotate_left
      · (intro w hSw; (try dsimp only at hSw); go_simp; try with_reducible rfl)
      simp only [Act.put, List.setIfInBounds_toArray, List.set_cons_zero, List.set_cons_succ]
      refine take_at (i := 8) (v := ?_) (some 18) rfl rfl (by kernel_rfl) (by kernel_rfl) (by kernel_rfl) (fun _ _ _ h => h) (Or.inl ⟨by rfl, ?_⟩) (by assumption) ?_
      rotate_left
      · (intro w hSw; (try dsimp only at hSw); go_simp; try with_reducible rfl)
      simp only [Act.put, List.setIfInBounds_toArray, List.set_cons_zero, List.set_cons_succ]
      refine take_at (i := 9) (v := ?_) (some 19) rfl rfl (by kernel_rfl) (by kernel_rfl) (by kernel_rfl) (fun _ _ _ h => h) (Or.inl ⟨by rfl, ?_⟩) (by assumption) ?_
      rotate_left
      · (intro w hSw; (try dsimp only at hSw); go_simp; try with_reducible rfl)
      simp only [Act.put, List.setIfInBounds_toArray, List.set_cons_zero, List.set_cons_succ]
      refine take_at (i := 10) (v := ?_) (some 20) rfl rfl (by kernel_rfl) (by kernel_rfl) (by kernel_rfl) (fun _ _ _ h => h) (Or.inl ⟨by rfl, ?_⟩) (by assumption) ?_
      rotate_left
      · (intro w hSw; (try dsimp only at hSw); go_simp; try with_reducible rfl)
      simp only [Act.put, List.setIfInBounds_toArray, List.set_cons_zero, List.set_cons_succ]
      refine call_at (i := 11) (some 21) 50 _ _ rfl rfl rfl (by rfl) (by kernel_rfl) #[x.k, y.k] rfl Try.func50 (by kernel_rfl) (by kernel_rfl) ?_
      refine CM.out.mono ?_
      rintro e W2 ⟨rfl, hw⟩
      rw [hw]
      refine ⟨_, rfl, ⟨q1, q2⟩, fun hHeld => ?_⟩
      simp only [Act.put, List.setIfInBounds_toArray, List.set_cons_zero, List.set_cons_succ]
      clear hw q1 q2 CM
      by_cases hc : cmpB x.p.k y.p.k < 0
      · rw [decide_eq_true hc]
        have HC := hidIt hc
        clear hc
        refine take_at (i := 12) (v := ?_) (some 22) rfl rfl (by kernel_rfl) (by kernel_rfl) (by kernel_rfl) (fun _ _ _ h => h) (Or.inl ⟨by rfl, ?_⟩) (by assumption) ?_
        rotate_left
        · (intro w hSw; (try dsimp only at hSw); go_simp; try with_reducible rfl)
        simp only [Act.put, List.setIfInBounds_toArray, List.set_cons_zero, List.set_cons_succ]
        refine wpAnyH_done (by kernel_rfl) ?_ _
        refine NoPanic.normal ?_
        have GO := hidIt (fun z hz => so_go W wr.drew (ps.map PV.p) k z hz BB.out.drew TK.out x.p y.p XY.out.1 XY.out.2 HC.out)
        go_wp2_with fail
        exact ⟨GO.out _ rfl, meas_s n k _ rfl LT.out⟩
      · rw [decide_eq_false hc]
        have HC := hidIt hc
        clear hc
        refine take_at (i := 12) (v := ?_) (some 22) rfl rfl (by kernel_rfl) (by kernel_rfl) (by kernel_rfl) (fun _ _ _ h => h) (Or.inl ⟨by rfl, ?_⟩) (by assumption) ?_
        rotate_left
        · (intro w hSw; (try dsimp only at hSw); go_simp; try with_reducible rfl)
        simp only [Act.put, List.setIfInBounds_toArray, List.set_cons_zero, List.set_cons_succ]
        refine wpAnyH_done (by kernel_rfl) ?_ _
        refine NoPanic.normal ?_
        go_wp2_with fail
        exact bodyPost_ret (v := .bool false) (by simp [results, Try.results35, go_sem]) rfl ⟨false, rfl, ⟨fun h => (by cases h), fun h => absurd (h k x.p y.p XY.out.1 XY.out.2) (Int.not_lt.2 HC.out)⟩, BB.out.drew⟩
    · have AL : Hid (Chn (ps.map PV.p)) := hidIt (fun j p q hp hq => TK.out j p q (by have := (List.getElem?_eq_some_iff.1 hq).1; simp at this; have := HN.out; omega) hp hq)
      have i0 : ((k : Int) + 1 < (n : Int)) = False := eq_false (by omega)
      clear hlt
      go_wp2_with fail
      exact bodyPost_ret (v := .bool true) (by simp [results, Try.results35, go_sem]) rfl ⟨true, rfl, ⟨fun _ => AL.out, fun _ => rfl⟩, BB.out⟩
end Go.Proofs.Ytgpafmgncolnmaa
namespace Go.Proofs.Ytgpafmgncolnmaa
open Go.RowKit
/-- A pair is not large. -/
def Sm (x : PV) : Prop := x.p.k.size ≤ 200 ∧ x.p.v.size ≤ 200
/-- What LargePairs answers. -/
def LgPost (W : World) (ps : List PV) (e : Ending) (w' : World) : Prop := ∃ b : Bool, e = .returned (.bool b) ∧ w' = W ∧ (b = false → ps.length ≤ 100 ∧ ∀ x ∈ ps, Sm x)
set_option maxRecDepth 100000 in
set_option maxHeartbeats 1000000 in
theorem large_any {W : World} {a : Option Addr} {ps : List PV} (n C : Nat) (hn : ps.length = n) (hL : Lst W a ps) : Calls Try.prog 22 #[.slice a n C, .int .i64 100] W (LgPost W ps) := by
  by_cases hbig : 100 < (n : Int)
  · have e1 : (100 < (n : Int)) = True := eq_true hbig
    clear hbig hL hn
    go_enter Try.func22, Try.ntmps22
    go_wp2_with fail
    exact bodyPost_ret (v := .bool true) (by simp [results, Try.results22, go_sem]) rfl ⟨true, rfl, rfl, fun h => by cases h⟩
  · have e1 : (100 < (n : Int)) = False := eq_false hbig
    have HB := hidIt (show n ≤ 100 by omega)
    have HL := hidIt hL
    have HN := hidIt hn
    clear hbig hL hn
    go_enter Try.func22, Try.ntmps22
    go_wp2_with fail
    go_loopw [5] (fun i wr => ∃ k : Nat, k ≤ n ∧ i = .int .i64 (k : Int) ∧ wr = W ∧ Hid (∀ j x, j < k → ps[j]? = some x → Sm x)) (fun i _ => n - (RowKit.intOf i).toNat)
    case atStart => exact ⟨0, Nat.zero_le _, rfl, rfl, hidIt (fun j x hj => by omega)⟩
    case round =>
      obtain ⟨k, hk, rfl, hw, hI⟩ := hrel
      subst hw
      by_cases hlt : k < n
      · obtain ⟨x, hx⟩ : ∃ x, ps[k]? = some x := ⟨_, List.getElem?_eq_getElem (by have := HN.out; omega)⟩
        obtain ⟨b1, o1, ha, hr1, _⟩ := HL.out.at k x hx
        have ok := HL.out.1 x (List.mem_of_getElem? hx)
        have HX := hidIt hx
        obtain ⟨xk, xv, xp⟩ := x
        obtain ⟨⟨a1, C1, f1, hxk, _⟩, a2, C2, f2, hxv, _⟩ := ok
        simp only at hxk hxv
        subst ha hxk hxv
        obtain ⟨q1, q2, _⟩ := three_cells hr1
        have SM : Hid (Sm ⟨.slice a1 xp.k.size C1, .slice a2 xp.v.size C2, xp⟩ ↔ xp.k.size ≤ 200 ∧ xp.v.size ≤ 200) := hidIt Iff.rfl
        have LT := hidIt hlt
        obtain ⟨i0, i1, i2, i3⟩ := k_ar k n hlt (by have := HB.out; omega)
        clear hr1 hx hlt hk
        simp only at q1 q2
        generalize xp.k.size = kn at *
        generalize xp.v.size = vn at *
        by_cases h1 : 200 < (kn : Int)
        · have c1 : (200 < (kn : Int)) = True := eq_true h1
          clear h1
          go_wp2_with fail
          exact bodyPost_ret (v := .bool true) (by simp [results, Try.results22, go_sem]) rfl ⟨true, rfl, rfl, fun h => by cases h⟩
        · have c1 : (200 < (kn : Int)) = False := eq_false h1
          by_cases h2 : 200 < (vn : Int)
          · have c2 : (200 < (vn : Int)) = True := eq_true h2
            clear h1 h2
            go_wp2_with fail
            exact bodyPost_ret (v := .bool true) (by simp [results, Try.results22, go_sem]) rfl ⟨true, rfl, rfl, fun h => by cases h⟩
          · have c2 : (200 < (vn : Int)) = False := eq_false h2
            have NX := hidIt (SM.out.2 ⟨by omega, by omega⟩)
            clear h1 h2
            go_wp2_with fail
            refine ⟨⟨k + 1, LT.out, rfl, trivial, hidIt (fun j y hj hy => ?_)⟩, meas_k n k _ rfl LT.out⟩
            by_cases e : j = k
            · subst e
              rw [HX.out] at hy
              injection hy with hy
              rw [← hy]
              exact NX.out
            · exact hI.out j y (by omega) hy
      · have i0 : ((k : Int) < (n : Int)) = False := eq_false (by omega)
        have AL : Hid (ps.length ≤ 100 ∧ ∀ x ∈ ps, Sm x) := hidIt ⟨by have := HN.out; have := HB.out; omega, fun x hx => by
          obtain ⟨j, hj, rfl⟩ := List.getElem_of_mem hx
          exact hI.out j _ (by have := HN.out; omega) (List.getElem?_eq_getElem hj)⟩
        clear hlt hk
        go_wp2_with fail
        exact bodyPost_ret (v := .bool false) (by simp [results, Try.results22, go_sem]) rfl ⟨false, rfl, rfl, fun _ => AL.out⟩
end Go.Proofs.Ytgpafmgncolnmaa
namespace Go.Proofs.Ytgpafmgncolnmaa
open Go.RowKit
attribute [-go_sem] Builtin.append_
theorem may_r (p : Pr) : may p ↔ ¬ ((p.k.size : Int) < 1) ∧ ¬ (32 < (p.k.size : Int)) ∧ ¬ (128 < (p.v.size : Int)) ∧ (p.g = true → ¬ (0 < (p.v.size : Int))) := by
  unfold may
  cases p.g <;> simp only [if_true, Bool.false_eq_true, if_false, false_implies, true_implies, and_true] <;> omega
/-- What CopyBytes answers. -/
theorem copy_txt {W : World} {N M : List Nat} {s : Value} {t : ByteArray} (h : Txt W N s t) (hn : t.size ≤ 1000000) (hM : ∀ b, b ∈ M → b < W.heap.size) : Calls Try.prog 40 #[s] W fun e w' => ∃ a n C, e = .returned (.slice a n C) ∧ Txt w' M (.slice a n C) t ∧ Below W.heap.size W w' := by
  obtain ⟨a, C, f, rfl, hA, ht, _⟩ := h
  have hby := hA.bytes
  refine (copy_any a t.size C f W hA hn).mono ?_
  rintro e w' ⟨v, rfl, hO, hB⟩
  by_cases h0 : t.size = 0
  · have e0 := empty_of t h0
    rcases hO.2 with ⟨rfl, _⟩ | ⟨g, cap, cur, rfl, _⟩
    · refine ⟨_, _, _, rfl, ?_, hB⟩
      rw [e0]
      exact Txt.nil w' M 0
    · refine ⟨_, _, _, rfl, ?_, hB⟩
      exact ⟨_, _, f, rfl, .inl ⟨h0, .inr ⟨_, rfl⟩⟩, ht, fun h => by omega⟩
  · obtain ⟨g, cap, rfl, hg, _, hl⟩ := hO.form (by omega) hby
    refine ⟨_, _, _, rfl, ⟨_, _, f, rfl, .inr ⟨by omega, g, 0, rfl, hl⟩, ht, fun _ q hq hm => ?_⟩, hB⟩
    injection hq with hq
    subst hq
    have := hM _ hm
    simp at this
    omega
/-- What holds at the head of CopyPairs' loop. -/
structure CpI (W : World) (ps : List PV) (k : Nat) (wr : World) (lv : Value) (os : List PV) : Prop where
  own : OwnP wr 0 lv os
  new : ∀ g, lv.ownBlock = some g → W.heap.size ≤ g
  oks : ∀ x ∈ os, PVOk wr lv.ownBlock.toList x
  map : os.map PV.p = (ps.take k).map PV.p
  len : os.length = k
  below : Below W.heap.size W wr
theorem CpI.step {W W4 W5 W6 : World} {ps os : List PV} {k : Nat} {lv v6 : Value} {x y : PV} (h : CpI W ps k W4 lv os) (hB : Below W4.heap.size W4 W5) (hy : PVOk W5 lv.ownBlock.toList y) (hI : Insd W5 lv (os ++ [y]) v6 W6) (hx : ps[k]? = some x) (hp : y.p = x.p) : CpI W ps (k + 1) W6 v6 (os ++ [y]) := by
  have s5 := Nat.le_trans h.below.size hB.size
  have n6 : ∀ b, b ∈ v6.ownBlock.toList → b ∈ lv.ownBlock.toList ∨ W5.heap.size ≤ b := fun b hb => by
    cases e : v6.ownBlock with
    | none => rw [e] at hb; cases hb
    | some g =>
      rw [e] at hb
      simp at hb
      subst hb
      rcases hI.blk _ e with q | q
      · exact .inl (by rw [q]; simp)
      · exact .inr q
  refine ⟨hI.own, fun g hg => ?_, fun z hz => ?_, ?_, by simp [h.len], (h.below.trans (hB.mono h.below.size)).trans (hI.off.below (fun b hb => ?_) s5)⟩
  · rcases hI.blk g hg with q | q
    · exact h.new g q
    · omega
  · have a : PVOk W5 lv.ownBlock.toList z := by
      rcases List.mem_append.1 hz with hz | hz
      · exact (h.oks z hz).below hB
      · rcases List.mem_singleton.1 hz with rfl
        exact hy
    exact (a.mono n6).both a hI.off
  · rw [take_more ps k x hx, List.map_append, h.map, ← hp]
    rfl
  · cases e : lv.ownBlock with
    | none => rw [e] at hb; cases hb
    | some g => rw [e] at hb; simp at hb; subst hb; exact h.new _ e
/-- What CopyPairs answers. -/
def CpsPost (W : World) (ps : List PV) (e : Ending) (w' : World) : Prop := ∃ a C os, e = .returned (.slice a os.length C) ∧ os.length = ps.length ∧ os.map PV.p = ps.map PV.p ∧ Lst w' a os ∧ Below W.heap.size W w'
set_option maxRecDepth 100000 in
set_option maxHeartbeats 2000000 in
theorem copyPairs_any {W : World} {a : Option Addr} {ps : List PV} (n C : Nat) (hn : ps.length = n) (hL : Lst W a ps) (hf : n ≤ 100) (hs : ∀ x ∈ ps, Sm x) : Calls Try.prog 23 #[.slice a n C] W (CpsPost W ps) := by
  have HL := hidIt hL
  have HN := hidIt hn
  have HF := hidIt hf
  have HS := hidIt hs
  have st : Hid (CpI W ps 0 W (.slice none 0 0) []) := hidIt ⟨OwnP.nil _ _, fun g hg => (by cases hg), fun x hx => (by cases hx), rfl, rfl, Below.refl _ _⟩
  clear hL hn hf hs
  go_enter Try.func23, Try.ntmps23
  go_wp2_with fail
  go_loopw [3, 4] (fun lv i wr => ∃ (k : Nat) (os : List PV), k ≤ n ∧ i = .int .i64 (k : Int) ∧ Hid (CpI W ps k wr lv os)) (fun _ i _ => n - (RowKit.intOf i).toNat)
  case atStart => exact ⟨0, _, Nat.zero_le _, rfl, st⟩
  case round =>
    clear st
    obtain ⟨k, os, hk, rfl, hI⟩ := hrel
    by_cases hlt : k < n
    · obtain ⟨x, hx⟩ : ∃ x, ps[k]? = some x := ⟨_, List.getElem?_eq_getElem (by have := HN.out; omega)⟩
      obtain ⟨bl, o1, ha, hr1, l1⟩ := HL.out.at k x hx
      subst ha
      have ok := HL.out.1 x (List.mem_of_getElem? hx)
      have CE : Hid (∀ U, Below W.heap.size W U → U.cell? ⟨bl, o1 + k * 3, none⟩ = some x.k ∧ U.cell? ⟨bl, o1 + k * 3 + 1, none⟩ = some x.v ∧ U.cell? ⟨bl, o1 + k * 3 + 2, none⟩ = some (.bool x.p.g)) := hidIt (fun U hU => ⟨(hU.cell (p := ⟨bl, o1 + k * 3, none⟩) l1).trans (three_cells hr1).1, (hU.cell (p := ⟨bl, o1 + k * 3 + 1, none⟩) l1).trans (three_cells hr1).2.1, (hU.cell (p := ⟨bl, o1 + k * 3 + 2, none⟩) l1).trans (three_cells hr1).2.2⟩)
      have OK := hidIt ok
      have SM := hidIt (HS.out x (List.mem_of_getElem? hx))
      have HX := hidIt hx
      have LT := hidIt hlt
      obtain ⟨i0, i1, i2, i3⟩ := k_ar k n hlt (by have := HF.out; omega)
      clear hx hr1 l1 hlt hk ok
      go_wp2_with fail
      refine wp_region_noPanic ?_
      refine wp_region_held_drew (S := fun w' => w'.cell? ⟨bl, o1 + k * 3, none⟩ = some x.k ∧ w'.cell? ⟨bl, o1 + k * 3 + 1, none⟩ = some x.v ∧ w'.cell? ⟨bl, o1 + k * 3 + 2, none⟩ = some (.bool x.p.g)) (by kernel_rfl) ?_ (fun hHeld => ?_)
      · exact CE.out _ hI.out.below.drew
      refine take_at (i := 0) (v := ?_) (some 11) rfl rfl (by kernel_rfl) (by kernel_rfl) (by kernel_rfl) (fun _ _ _ h => h) (Or.inl ⟨by rfl, ?_⟩) (by assumption) ?_
      rotate_left
      · (intro w hSw; (try dsimp only at hSw); go_simp; try with_reducible rfl)
      simp only [Act.put, List.setIfInBounds_toArray, List.set_cons_zero, List.set_cons_succ]
      refine take_at (i := 1) (v := ?_) (some 12) rfl rfl (by kernel_rfl) (by kernel_rfl) (by kernel_rfl) (fun _ _ _ h => h) (Or.inl ⟨by rfl, ?_⟩) (by assumption) ?_
      rotate_left
      · (intro w hSw; (try dsimp only at hSw); go_simp; try with_reducible rfl)
      simp only [Act.put, List.setIfInBounds_toArray, List.set_cons_zero, List.set_cons_succ]
      refine take_at (i := 2) (v := ?_) (some 13) rfl rfl (by kernel_rfl) (by kernel_rfl) (by kernel_rfl) (fun _ _ _ h => h) (Or.inl ⟨by rfl, ?_⟩) (by assumption) ?_
      rotate_left
      · (intro w hSw; (try dsimp only at hSw); go_simp; try with_reducible rfl)
      simp only [Act.put, List.setIfInBounds_toArray, List.set_cons_zero, List.set_cons_succ]
      refine take_at (i := 3) (v := ?_) (some 14) rfl rfl (by kernel_rfl) (by kernel_rfl) (by kernel_rfl) (fun _ _ _ h => h) (Or.inl ⟨by rfl, ?_⟩) (by assumption) ?_
      rotate_left
      · (intro w hSw; (try dsimp only at hSw); go_simp; try with_reducible rfl)
      simp only [Act.put, List.setIfInBounds_toArray, List.set_cons_zero, List.set_cons_succ]
      refine take_at (i := 4) (v := ?_) (some 15) rfl rfl (by kernel_rfl) (by kernel_rfl) (by kernel_rfl) (fun _ _ _ h => h) (Or.inl ⟨by rfl, ?_⟩) (by assumption) ?_
      rotate_left
      · (intro w hSw; (try dsimp only at hSw); go_simp; try with_reducible rfl)
      simp only [Act.put, List.setIfInBounds_toArray, List.set_cons_zero, List.set_cons_succ]
      refine take_at (i := 5) (v := ?_) (some 16) rfl rfl (by kernel_rfl) (by kernel_rfl) (by kernel_rfl) (fun _ _ _ h => h) (Or.inl ⟨by rfl, ?_⟩) (by assumption) ?_
      rotate_left
      · (intro w hSw; (try dsimp only at hSw); go_simp; try with_reducible rfl)
      simp only [Act.put, List.setIfInBounds_toArray, List.set_cons_zero, List.set_cons_succ]
      refine take_at (i := 7) (v := ?_) (some 18) rfl rfl (by kernel_rfl) (by kernel_rfl) (by kernel_rfl) (fun _ _ _ h => h) (Or.inl ⟨by rfl, ?_⟩) (by assumption) ?_
      rotate_left
      · (intro w hSw; (try dsimp only at hSw); go_simp; try with_reducible rfl)
      simp only [Act.put, List.setIfInBounds_toArray, List.set_cons_zero, List.set_cons_succ]
      refine take_at (i := 8) (v := ?_) (some 19) rfl rfl (by kernel_rfl) (by kernel_rfl) (by kernel_rfl) (fun _ _ _ h => h) (Or.inl ⟨by rfl, ?_⟩) (by assumption) ?_
      rotate_left
      · (intro w hSw; (try dsimp only at hSw); go_simp; try with_reducible rfl)
      simp only [Act.put, List.setIfInBounds_toArray, List.set_cons_zero, List.set_cons_succ]
      refine take_at (i := 9) (v := ?_) (some 20) rfl rfl (by kernel_rfl) (by kernel_rfl) (by kernel_rfl) (fun _ _ _ h => h) (Or.inl ⟨by rfl, ?_⟩) (by assumption) ?_
      rotate_left
      · (intro w hSw; (try dsimp only at hSw); go_simp; try with_reducible rfl)
      simp only [Act.put, List.setIfInBounds_toArray, List.set_cons_zero, List.set_cons_succ]
      refine take_at (i := 10) (v := ?_) (some 21) rfl rfl (by kernel_rfl) (by kernel_rfl) (by kernel_rfl) (fun _ _ _ h => h) (Or.inl ⟨by rfl, ?_⟩) (by assumption) ?_
      rotate_left
      · (intro w hSw; (try dsimp only at hSw); go_simp; try with_reducible rfl)
      simp only [Act.put, List.setIfInBounds_toArray, List.set_cons_zero, List.set_cons_succ]
      refine take_at (i := 11) (v := ?_) (some 22) rfl rfl (by kernel_rfl) (by kernel_rfl) (by kernel_rfl) (fun _ _ _ h => h) (Or.inl ⟨by rfl, ?_⟩) (by assumption) ?_
      rotate_left
      · (intro w hSw; (try dsimp only at hSw); go_simp; try with_reducible rfl)
      simp only [Act.put, List.setIfInBounds_toArray, List.set_cons_zero, List.set_cons_succ]
      refine take_at (i := 13) (v := ?_) (some 24) rfl rfl (by kernel_rfl) (by kernel_rfl) (by kernel_rfl) (fun _ _ _ h => h) (Or.inl ⟨by rfl, ?_⟩) (by assumption) ?_
      rotate_left
      · (intro w hSw; (try dsimp only at hSw); go_simp; try with_reducible rfl)
      simp only [Act.put, List.setIfInBounds_toArray, List.set_cons_zero, List.set_cons_succ]
      refine take_at (i := 14) (v := ?_) (some 25) rfl rfl (by kernel_rfl) (by kernel_rfl) (by kernel_rfl) (fun _ _ _ h => h) (Or.inl ⟨by rfl, ?_⟩) (by assumption) ?_
      rotate_left
      · (intro w hSw; (try dsimp only at hSw); go_simp; try with_reducible rfl)
      simp only [Act.put, List.setIfInBounds_toArray, List.set_cons_zero, List.set_cons_succ]
      refine take_at (i := 15) (v := ?_) (some 26) rfl rfl (by kernel_rfl) (by kernel_rfl) (by kernel_rfl) (fun _ _ _ h => h) (Or.inl ⟨by rfl, ?_⟩) (by assumption) ?_
      rotate_left
      · (intro w hSw; (try dsimp only at hSw); go_simp; try with_reducible rfl)
      simp only [Act.put, List.setIfInBounds_toArray, List.set_cons_zero, List.set_cons_succ]
      refine take_at (i := 16) (v := ?_) (some 27) rfl rfl (by kernel_rfl) (by kernel_rfl) (by kernel_rfl) (fun _ _ _ h => h) (Or.inl ⟨by rfl, ?_⟩) (by assumption) ?_
      rotate_left
      · (intro w hSw; (try dsimp only at hSw); go_simp; try with_reducible rfl)
      simp only [Act.put, List.setIfInBounds_toArray, List.set_cons_zero, List.set_cons_succ]
      refine take_at (i := 17) (v := ?_) (some 28) rfl rfl (by kernel_rfl) (by kernel_rfl) (by kernel_rfl) (fun _ _ _ h => h) (Or.inl ⟨by rfl, ?_⟩) (by assumption) ?_
      rotate_left
      · (intro w hSw; (try dsimp only at hSw); go_simp; try with_reducible rfl)
      simp only [Act.put, List.setIfInBounds_toArray, List.set_cons_zero, List.set_cons_succ]
      have bd : Below W.heap.size W wr.drew := hI.out.below.drew
      have ow : ∀ g, g ∈ u3.ownBlock.toList → g < wr.drew.heap.size := fun g hg => by
        cases e : u3.ownBlock with
        | none => rw [e] at hg; cases hg
        | some q => rw [e] at hg; simp at hg; subst hg; exact (World.ownsRow.lt hI.out.own _ e).2
      refine call_at (i := 6) (some 17) 40 _ _ rfl rfl rfl (by rfl) (by kernel_rfl) #[x.k] rfl Try.func40 (by kernel_rfl) (by kernel_rfl) ?_
      refine (copy_txt (M := u3.ownBlock.toList) (OK.out.1.below bd) (by have := SM.out.1; omega) ow).mono ?_
      rintro e W2 ⟨ka, kn, kC, rfl, X2, b2⟩
      have E2 := hidIt (bd.trans (b2.mono bd.size))
      refine ⟨_, rfl, CE.out W2 E2.out, fun hHeld => ?_⟩
      simp only [Act.put, List.setIfInBounds_toArray, List.set_cons_zero, List.set_cons_succ]
      refine call_at (i := 12) (some 23) 40 _ _ rfl rfl rfl (by rfl) (by kernel_rfl) #[x.v] rfl Try.func40 (by kernel_rfl) (by kernel_rfl) ?_
      refine (copy_txt (M := u3.ownBlock.toList) (OK.out.2.below E2.out) (by have := SM.out.2; omega) (fun g hg => Nat.lt_of_lt_of_le (ow g hg) b2.size)).mono ?_
      rintro e W3 ⟨va, vn, vC, rfl, X3, b3⟩
      have E3 := hidIt (E2.out.trans (b3.mono E2.out.size))
      have A5 : Below W3.heap.size W3 (W3.alloc (.cells (PV.mk (.slice ka kn kC) (.slice va vn vC) x.p).cs.toArray 32)) := (Below.refl _ _).alloc (Nat.le_refl _) _
      have PO : PVOk W3 u3.ownBlock.toList (PV.mk (.slice ka kn kC) (.slice va vn vC) x.p) := ⟨X2.below b3, X3⟩
      have L5 : Lone (W3.alloc (.cells (PV.mk (.slice ka kn kC) (.slice va vn vC) x.p).cs.toArray 32)) W3.heap.size (PV.mk (.slice ka kn kC) (.slice va vn vC) x.p) := ⟨heap_alloc_new W3 _, PO.one⟩
      obtain ⟨W5, hW5⟩ : ∃ W5, W5 = W3.alloc (.cells (PV.mk (.slice ka kn kC) (.slice va vn vC) x.p).cs.toArray 32) := ⟨_, rfl⟩
      rw [← hW5] at A5 L5
      have dB : Below wr.heap.size wr W5 := ((Below.refl wr.heap.size wr).drew.trans b2).trans ((b3.trans (A5.mono b3.size)).mono b2.size)
      have O5 : OwnP W5 0 u3 os := hI.out.own.below dB
      obtain ⟨v6, W6, hr6, I6⟩ := app_pairs 27 W5 u3 os [PV.mk (.slice ka kn kC) (.slice va vn vC) x.p] ⟨W3.heap.size, 0, none⟩ 1 O5 (fun j u hj => by rw [pcs_single] at hj; rw [Addr.add_mid, Nat.zero_add]; exact L5.cell j u hj) (by rw [pcs_single]; exact L5.2) (by simp) (by have := hI.out.len; have := LT.out; have := HF.out; simp; omega)
      simp only [List.length_singleton] at hr6
      have NX : Hid (CpI W ps (k + 1) W6 v6 (os ++ [PV.mk (.slice ka kn kC) (.slice va vn vC) x.p])) := hidIt (hI.out.step dB (PO.below A5) I6 HX.out rfl)
      have E5 : Below W.heap.size W W5 := E3.out.trans (A5.mono E3.out.size)
      refine ⟨_, rfl, CE.out W3 E3.out, fun hHeld => ?_⟩
      simp only [Act.put, List.setIfInBounds_toArray, List.set_cons_zero, List.set_cons_succ]
      refine take_at (i := 18) (v := .agg (PV.mk (.slice ka kn kC) (.slice va vn vC) x.p).cs.toArray) (some 29) rfl rfl (by kernel_rfl) (by kernel_rfl) (by kernel_rfl) (fun _ _ _ h => h) (Or.inl ⟨by rfl, fun w hSw => bld_run 32 _ rfl _ (by kernel_rfl)⟩) (by assumption) ?_
      simp only [Act.put, List.setIfInBounds_toArray, List.set_cons_zero, List.set_cons_succ]
      refine step_at (i := 19) (some 30) rfl rfl (by rfl) (by kernel_rfl) (.slice (some ⟨W3.heap.size, 0, none⟩) 1 1) W5 (by rw [hW5]; exact bsl_run 27 32 1 _ rfl 3 56 _ _ _ under_pairs info_pair (by decide) (by decide) rfl (by kernel_rfl)) (CE.out W5 E5) (fun hHeld => ?_)
      simp only [Act.put, List.setIfInBounds_toArray, List.set_cons_zero, List.set_cons_succ]
      refine step_at (i := 20) (some 31) rfl rfl (by rfl) (by kernel_rfl) v6 W6 (app_run (.tmp 11) (.tmp 30) 27 27 rfl _ _ rfl rfl hr6) (CE.out W6 NX.out.below) (fun hHeld => ?_)
      simp only [Act.put, List.setIfInBounds_toArray, List.set_cons_zero, List.set_cons_succ]
      clear hr6 I6 O5 dB L5 PO A5 hW5 X2 X3 b2 b3 ow bd
      refine take_at (i := 21) (v := ?_) (some 3) rfl rfl (by kernel_rfl) (by kernel_rfl) (by kernel_rfl) (fun _ _ _ h => h) (Or.inl ⟨by rfl, ?_⟩) (by assumption) ?_
      rotate_left
      · (intro w hSw; (try dsimp only at hSw); go_simp; try with_reducible rfl)
      simp only [Act.put, List.setIfInBounds_toArray, List.set_cons_zero, List.set_cons_succ]
      refine wpAnyH_done (by kernel_rfl) ?_ _
      refine NoPanic.normal ?_
      clear hHeld CE
      go_wp2_with fail
      exact ⟨⟨k + 1, _, LT.out, rfl, NX⟩, meas_k n k _ rfl LT.out⟩
    · obtain rfl : k = n := by omega
      have i0 : ((k : Int) < (k : Int)) = False := eq_false (by omega)
      obtain ⟨ua, uc, hu, _⟩ := hI.out.own.slice
      have FIN : Hid (CpsPost W ps (.returned u3) wr) := hidIt ⟨ua, uc, os, by rw [hu], by rw [hI.out.len, HN.out], by rw [hI.out.map, List.take_of_length_le (by have := HN.out; omega)], (OwnP.lst (a := ua) (n := os.length) (cap := uc) (hu ▸ hI.out.own) (fun x hx => (hI.out.oks x hx).mono (fun b hb => by cases hb))), hI.out.below⟩
      clear hlt hk hu
      go_wp2_with fail
      exact bodyPost_ret (v := u3) (by simp [results, Try.results23, go_sem]) rfl FIN.out
end Go.Proofs.Ytgpafmgncolnmaa
