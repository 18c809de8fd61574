/-
  Plain notions, not a claim by itself: pairs, sorted by their keys. By the verifier.
-/
import Derived.Test.YtelcijfcgflagaaBArg
import Derived.Lib.Bytealg
namespace Go.Proofs.Ytelcijfcgflagaa
theorem cb_zero : ∀ (a b : List UInt8), Lib.compareBytes a b = 0 ↔ a = b
  | [], [] => by simp [Lib.compareBytes]
  | [], _ :: _ => by simp [Lib.compareBytes]
  | _ :: _, [] => by simp [Lib.compareBytes]
  | x :: a, y :: b => by
    unfold Lib.compareBytes
    by_cases h1 : x < y
    · rw [if_pos h1]
      exact ⟨fun h => by omega, fun h => by injection h with h; subst h; exact absurd h1 (UInt8.lt_irrefl x)⟩
    · rw [if_neg h1]
      by_cases h2 : y < x
      · rw [if_pos h2]
        exact ⟨fun h => by omega, fun h => by injection h with h; subst h; exact absurd h2 (UInt8.lt_irrefl x)⟩
      · rw [if_neg h2, cb_zero a b]
        have e : x = y := UInt8.le_antisymm (UInt8.not_lt.1 h2) (UInt8.not_lt.1 h1)
        subst e
        simp
theorem cb_anti : ∀ (a b : List UInt8), Lib.compareBytes a b = - Lib.compareBytes b a
  | [], [] => by simp [Lib.compareBytes]
  | [], _ :: _ => by simp [Lib.compareBytes]
  | _ :: _, [] => by simp [Lib.compareBytes]
  | x :: a, y :: b => by
    unfold Lib.compareBytes
    by_cases h1 : x < y
    · rw [if_pos h1, if_neg (UInt8.lt_asymm h1), if_pos h1]
    · rw [if_neg h1]
      by_cases h2 : y < x
      · rw [if_pos h2, if_pos h2]; rfl
      · rw [if_neg h2, if_neg h2, if_neg h1, cb_anti a b]
theorem cb_trans : ∀ (a b c : List UInt8), Lib.compareBytes a b < 0 → Lib.compareBytes b c < 0 → Lib.compareBytes a c < 0
  | [], [], _, h, _ => by simp [Lib.compareBytes] at h
  | [], _ :: _, [], _, h => by simp [Lib.compareBytes] at h
  | [], _ :: _, _ :: _, _, _ => by simp [Lib.compareBytes]
  | _ :: _, [], _, h, _ => by simp [Lib.compareBytes] at h
  | _ :: _, _ :: _, [], _, h => by simp [Lib.compareBytes] at h
  | x :: a, y :: b, z :: c, h, k => by
    unfold Lib.compareBytes at h k ⊢
    by_cases h1 : x < y
    · by_cases h3 : y < z
      · rw [if_pos (UInt8.lt_trans h1 h3)]; omega
      · rw [if_neg h3] at k
        by_cases h4 : z < y
        · rw [if_pos h4] at k; omega
        · have e : y = z := UInt8.le_antisymm (UInt8.not_lt.1 h4) (UInt8.not_lt.1 h3)
          subst e
          rw [if_pos h1]; omega
    · rw [if_neg h1] at h
      by_cases h2 : y < x
      · rw [if_pos h2] at h; omega
      · rw [if_neg h2] at h
        have e : x = y := UInt8.le_antisymm (UInt8.not_lt.1 h2) (UInt8.not_lt.1 h1)
        subst e
        by_cases h3 : x < z
        · rw [if_pos h3]; omega
        · rw [if_neg h3] at k ⊢
          by_cases h4 : z < x
          · rw [if_pos h4] at k; omega
          · rw [if_neg h4] at k ⊢
            exact cb_trans a b c h k
/-- How two texts stand to each other. -/
def cmpB (x y : ByteArray) : Int := Lib.compareBytes x.data.toList y.data.toList
theorem c_zero (x y : ByteArray) : cmpB x y = 0 ↔ x = y := by
  unfold cmpB
  rw [cb_zero]
  refine ⟨fun h => ?_, fun h => by rw [h]⟩
  cases x; cases y
  exact congrArg _ (Array.toList_inj.1 h)
theorem c_anti (x y : ByteArray) : cmpB x y = - cmpB y x := cb_anti _ _
theorem c_trans {x y z : ByteArray} (h : cmpB x y < 0) (k : cmpB y z < 0) : cmpB x z < 0 := cb_trans _ _ _ h k
theorem c_self (x : ByteArray) : cmpB x x = 0 := (c_zero x x).2 rfl
theorem c_le_lt {x y z : ByteArray} (h : cmpB x y ≤ 0) (k : cmpB y z < 0) : cmpB x z < 0 := by
  by_cases e : cmpB x y = 0
  · rw [(c_zero x y).1 e]; exact k
  · exact c_trans (by omega) k
theorem c_lt_le {x y z : ByteArray} (h : cmpB x y < 0) (k : cmpB y z ≤ 0) : cmpB x z < 0 := by
  by_cases e : cmpB y z = 0
  · rw [← (c_zero y z).1 e]; exact h
  · exact c_trans h (by omega)
theorem c_le_le {x y z : ByteArray} (h : cmpB x y ≤ 0) (k : cmpB y z ≤ 0) : cmpB x z ≤ 0 := by
  by_cases e : cmpB x y = 0
  · rw [(c_zero x y).1 e]; exact k
  · have := c_lt_le (x := x) (y := y) (z := z) (by omega) k; omega

/-- A pair. -/
structure Pr where
  k : ByteArray
  v : ByteArray
  g : Bool
/-- Pairs are sorted. -/
def Srt (l : List Pr) : Prop := l.Pairwise fun p q => cmpB p.k q.k < 0
/-- Where a key stands, or would stand. -/
def pos (l : List Pr) (k : ByteArray) : Nat := (l.takeWhile fun p => decide (cmpB p.k k < 0)).length
/-- Is it there? -/
def has (l : List Pr) (k : ByteArray) : Bool := match l[pos l k]? with
  | some p => decide (cmpB p.k k = 0)
  | none => false
theorem pos_nil (k : ByteArray) : pos [] k = 0 := rfl
theorem has_nil (k : ByteArray) : has [] k = false := rfl
theorem pos_lt {a : Pr} {k : ByteArray} (r : List Pr) (h : cmpB a.k k < 0) : pos (a :: r) k = pos r k + 1 := by unfold pos; rw [List.takeWhile_cons_of_pos (by simpa using h)]; rfl
theorem pos_ge {a : Pr} {k : ByteArray} (r : List Pr) (h : ¬ cmpB a.k k < 0) : pos (a :: r) k = 0 := by unfold pos; rw [List.takeWhile_cons_of_neg (by simpa using h)]; rfl
theorem has_lt {a : Pr} {k : ByteArray} (r : List Pr) (h : cmpB a.k k < 0) : has (a :: r) k = has r k := by unfold has; rw [pos_lt r h]; simp
theorem has_ge {a : Pr} {k : ByteArray} (r : List Pr) (h : ¬ cmpB a.k k < 0) : has (a :: r) k = decide (cmpB a.k k = 0) := by unfold has; rw [pos_ge r h]; rfl
theorem pos_le : ∀ (l : List Pr) (k : ByteArray), pos l k ≤ l.length
  | [], _ => Nat.le_refl _
  | a :: r, k => by
    by_cases h : cmpB a.k k < 0
    · rw [pos_lt r h]; have := pos_le r k; simp; omega
    · rw [pos_ge r h]; exact Nat.zero_le _
theorem has_len (l : List Pr) (k : ByteArray) (h : has l k = true) : pos l k < l.length := by
  unfold has at h
  cases e : l[pos l k]? with
  | none => rw [e] at h; cases h
  | some p => exact (List.getElem?_eq_some_iff.1 e).1
/-- The place of a key, by its bounds. -/
theorem pos_of : ∀ (l : List Pr) (k : ByteArray) (i : Nat), i ≤ l.length → (∀ t p, t < i → l[t]? = some p → cmpB p.k k < 0) → (∀ p, l[i]? = some p → ¬ cmpB p.k k < 0) → pos l k = i
  | [], k, i, hi, _, _ => by simp at hi; rw [hi]; rfl
  | a :: r, k, 0, _, _, h2 => pos_ge r (h2 a rfl)
  | a :: r, k, i + 1, hi, h1, h2 => by
    rw [pos_lt r (h1 0 a (by omega) rfl), pos_of r k i (by simpa using hi) (fun t p ht hp => h1 (t + 1) p (by omega) hp) (fun p hp => h2 p hp)]
theorem srt_mono {l : List Pr} (h : Srt l) {i j : Nat} {p q : Pr} (hij : i < j) (hp : l[i]? = some p) (hq : l[j]? = some q) : cmpB p.k q.k < 0 := by
  obtain ⟨hi, rfl⟩ := List.getElem?_eq_some_iff.1 hp
  obtain ⟨hj, rfl⟩ := List.getElem?_eq_some_iff.1 hq
  exact (List.pairwise_iff_getElem.1 h) i j hi hj hij
/-- What is told of a key. -/
def fnd (l : List Pr) (k : ByteArray) : Option Pr := l.find? fun p => decide (p.k = k)
theorem fnd_none_of_lt {l : List Pr} {k : ByteArray} (h : ∀ q ∈ l, cmpB k q.k < 0) : fnd l k = none := by
  unfold fnd
  rw [List.find?_eq_none]
  intro q hq e
  have := h q hq
  simp at e
  rw [e, c_self] at this
  omega
theorem fnd_at : ∀ (l : List Pr) (k : ByteArray), Srt l → fnd l k = if has l k then l[pos l k]? else none
  | [], _, _ => rfl
  | a :: r, k, h => by
    have hr : Srt r := (List.pairwise_cons.1 h).2
    by_cases e : cmpB a.k k < 0
    · rw [has_lt r e, pos_lt r e]
      have ne : ¬ a.k = k := fun q => by rw [q, c_self] at e; omega
      show List.find? _ _ = _
      rw [List.find?_cons_of_neg (by simpa using ne)]
      exact fnd_at r k hr
    · rw [has_ge r e, pos_ge r e]
      by_cases z : cmpB a.k k = 0
      · show List.find? _ _ = _
        rw [List.find?_cons_of_pos (by simpa using (c_zero _ _).1 z), if_pos (by simpa using z)]
        rfl
      · rw [if_neg (by simpa using z)]
        have g : cmpB k a.k < 0 := by rw [c_anti]; omega
        exact fnd_none_of_lt fun q hq => by
          rcases List.mem_cons.1 hq with rfl | hq
          · exact g
          · exact c_trans g ((List.pairwise_cons.1 h).1 q hq)
/-- A pair is made the one of its key. -/
def layL (l : List Pr) (p : Pr) : List Pr := l.take (pos l p.k) ++ p :: l.drop (pos l p.k + if has l p.k then 1 else 0)
theorem layL_lt {a p : Pr} (r : List Pr) (h : cmpB a.k p.k < 0) : layL (a :: r) p = a :: layL r p := by
  unfold layL
  rw [pos_lt r h, has_lt r h, show pos r p.k + 1 + (if has r p.k = true then 1 else 0) = (pos r p.k + if has r p.k = true then 1 else 0) + 1 by omega]
  simp
theorem layL_eq {a p : Pr} (r : List Pr) (h : cmpB a.k p.k = 0) : layL (a :: r) p = p :: r := by
  unfold layL
  rw [pos_ge r (by omega), has_ge r (by omega)]
  simp [h]
theorem layL_gt {a p : Pr} (r : List Pr) (h : 0 < cmpB a.k p.k) : layL (a :: r) p = p :: a :: r := by
  unfold layL
  rw [pos_ge r (by omega), has_ge r (by omega)]
  have : ¬ cmpB a.k p.k = 0 := by omega
  simp [this]
theorem layL_len (l : List Pr) (p : Pr) : (layL l p).length = l.length + if has l p.k then 0 else 1 := by
  have := pos_le l p.k
  unfold layL
  cases h : has l p.k with
  | true => have := has_len l p.k h; simp; omega
  | false => simp; omega
theorem mem_layL : ∀ (l : List Pr) (p q : Pr), q ∈ layL l p → q = p ∨ q ∈ l
  | l, p, q, h => by
    unfold layL at h
    rcases List.mem_append.1 h with h | h
    · exact .inr (List.mem_of_mem_take h)
    · rcases List.mem_cons.1 h with h | h
      · exact .inl h
      · exact .inr (List.mem_of_mem_drop h)
theorem srt_layL : ∀ (l : List Pr) (p : Pr), Srt l → Srt (layL l p)
  | [], p, _ => by simp [layL, pos_nil, Srt]
  | a :: r, p, h => by
    obtain ⟨h1, h2⟩ := List.pairwise_cons.1 h
    by_cases e : cmpB a.k p.k < 0
    · rw [layL_lt r e]
      refine List.pairwise_cons.2 ⟨fun q hq => ?_, srt_layL r p h2⟩
      rcases mem_layL r p q hq with rfl | hq
      · exact e
      · exact h1 q hq
    · by_cases z : cmpB a.k p.k = 0
      · rw [layL_eq r z]
        have := (c_zero _ _).1 z
        exact List.pairwise_cons.2 ⟨fun q hq => this ▸ h1 q hq, h2⟩
      · have g : cmpB p.k a.k < 0 := by rw [c_anti]; omega
        rw [layL_gt r (by omega)]
        refine List.pairwise_cons.2 ⟨fun q hq => ?_, h⟩
        rcases List.mem_cons.1 hq with rfl | hq
        · exact g
        · exact c_trans g (h1 q hq)
theorem fnd_layL : ∀ (l : List Pr) (p : Pr) (k : ByteArray), Srt l → fnd (layL l p) k = if p.k = k then some p else fnd l k
  | [], p, k, _ => by
    simp only [layL, pos_nil, fnd, List.take_nil, List.drop_nil, List.nil_append, List.find?_cons, List.find?_nil]
    by_cases e : p.k = k <;> simp [e]
  | a :: r, p, k, h => by
    obtain ⟨h1, h2⟩ := List.pairwise_cons.1 h
    by_cases e : cmpB a.k p.k < 0
    · rw [layL_lt r e]
      have ne : ¬ a.k = p.k := fun q => by rw [q, c_self] at e; omega
      have ih := fnd_layL r p k h2
      unfold fnd at ih ⊢
      rw [List.find?_cons, List.find?_cons, ih]
      by_cases x : a.k = k
      · have : ¬ p.k = k := fun q => ne (x.trans q.symm)
        simp [x, this]
      · simp [x]
    · by_cases z : cmpB a.k p.k = 0
      · rw [layL_eq r z]
        have y := (c_zero _ _).1 z
        unfold fnd
        rw [List.find?_cons, List.find?_cons, y]
        by_cases x : p.k = k <;> simp [x]
      · rw [layL_gt r (by omega)]
        show List.find? _ (p :: (a :: r)) = _
        rw [List.find?_cons]
        by_cases x : p.k = k
        · simp [x]
        · simp [x]; rfl
theorem has_fnd (l : List Pr) (k : ByteArray) (h : Srt l) : has l k = (fnd l k).isSome := by
  rw [fnd_at l k h]
  cases e : has l k with
  | false => rfl
  | true => rw [if_pos rfl, List.getElem?_eq_getElem (has_len l k e)]; rfl
/-- Is a key below to (which is no bound, if it has no bytes)? -/
def blw (k to : ByteArray) : Bool := decide (to.size = 0) || decide (cmpB k to < 0)
/-- The pairs between two keys. -/
def btwL (l : List Pr) (a b : ByteArray) : List Pr := (l.drop (pos l a)).takeWhile fun p => blw p.k b
def btwF (l : List Pr) (a b : ByteArray) : List Pr := l.filter fun p => !decide (cmpB p.k a < 0) && blw p.k b
theorem blw_mono {x y b : ByteArray} (h : cmpB x y < 0) (k : blw y b = true) : blw x b = true := by
  unfold blw at k ⊢
  simp only [Bool.or_eq_true, decide_eq_true_eq] at k ⊢
  rcases k with k | k
  · exact .inl k
  · exact .inr (c_trans h k)
theorem take_filter : ∀ (l : List Pr) (b : ByteArray), Srt l → (l.takeWhile fun p => blw p.k b) = l.filter fun p => blw p.k b
  | [], _, _ => rfl
  | a :: r, b, h => by
    obtain ⟨h1, h2⟩ := List.pairwise_cons.1 h
    cases e : blw a.k b with
    | true => rw [List.takeWhile_cons_of_pos (by simpa using e), List.filter_cons_of_pos (by simpa using e), take_filter r b h2]
    | false =>
      rw [List.takeWhile_cons_of_neg (by simpa using e), List.filter_cons_of_neg (by simpa using e), eq_comm, List.filter_eq_nil_iff]
      intro q hq x
      have := blw_mono (h1 q hq) x
      rw [e] at this; cases this
theorem btw_eq : ∀ (l : List Pr) (a b : ByteArray), Srt l → btwL l a b = btwF l a b
  | [], _, _, _ => rfl
  | c :: r, a, b, h => by
    obtain ⟨h1, h2⟩ := List.pairwise_cons.1 h
    by_cases e : cmpB c.k a < 0
    · have ih := btw_eq r a b h2
      unfold btwL btwF at ih ⊢
      rw [pos_lt r e, List.drop_succ_cons, ih, List.filter_cons_of_neg (by simp [e])]
    · unfold btwL btwF
      rw [pos_ge r e, List.drop_zero, take_filter _ b h]
      refine List.filter_congr fun q hq => ?_
      have : ¬ cmpB q.k a < 0 := by
        rcases List.mem_cons.1 hq with rfl | hq
        · exact e
        · intro x; exact e (c_trans (h1 q hq) x)
      simp [this]
theorem btw_parts : ∀ (l : List Pr) (a m b : ByteArray), Srt l → cmpB a m ≤ 0 → cmpB m b ≤ 0 → m.size ≠ 0 → b.size ≠ 0 → btwF l a m ++ btwF l m b = btwF l a b
  | [], _, _, _, _, _, _, _, _ => rfl
  | c :: r, a, m, b, h, ham, hmb, hm, hb => by
    obtain ⟨h1, h2⟩ := List.pairwise_cons.1 h
    have ih := btw_parts r a m b h2 ham hmb hm hb
    by_cases e : cmpB c.k a < 0
    · have e2 := c_lt_le e ham
      unfold btwF at ih ⊢
      rw [List.filter_cons_of_neg (by simp [e]), List.filter_cons_of_neg (by simp [e2]), List.filter_cons_of_neg (by simp [e]), ih]
    · by_cases f : cmpB c.k m < 0
      · have f2 := c_lt_le f hmb
        unfold btwF at ih ⊢
        rw [List.filter_cons_of_pos (by simp [e, blw, f]), List.filter_cons_of_neg (by simp [f]), List.filter_cons_of_pos (by simp [e, blw, f2]), List.cons_append, ih]
      · have g : ∀ q ∈ c :: r, ¬ cmpB q.k m < 0 := fun q hq x => by
          rcases List.mem_cons.1 hq with rfl | hq
          · exact f x
          · exact f (c_trans (h1 q hq) x)
        unfold btwF
        rw [List.filter_eq_nil_iff.2 (fun q hq => by have := g q hq; simp [blw, this, hm]), List.nil_append]
        refine List.filter_congr fun q hq => ?_
        have y := g q hq
        have x : ¬ cmpB q.k a < 0 := fun z => y (c_lt_le z ham)
        simp [x, y]
theorem btw_srt (l : List Pr) (a b : ByteArray) (h : Srt l) : Srt (btwF l a b) := List.Pairwise.filter _ h
theorem empty_size (x : ByteArray) (h : x.size = 0) : x.data.toList = [] := by
  exact List.eq_nil_of_length_eq_zero (by rw [Array.length_toList]; exact h)
theorem c_empty (x y : ByteArray) (h : y.size = 0) : ¬ cmpB x y < 0 := by
  unfold cmpB
  rw [empty_size y h]
  cases x.data.toList <;> simp [Lib.compareBytes]
theorem btw_all (l : List Pr) (a b : ByteArray) (ha : a.size = 0) (hb : b.size = 0) : btwF l a b = l := by
  unfold btwF
  rw [List.filter_eq_self]
  intro q _
  simp [blw, hb, c_empty q.k a ha]
end Go.Proofs.Ytelcijfcgflagaa
