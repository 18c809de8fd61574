/-
  Plain notions, not a claim by itself: lists of pairs made one; heaps. By the verifier.
-/
import Derived.Test.YtgpafmgncolnmaaMgA
namespace Go.Proofs.Ytgpafmgncolnmaa
open Go.RowKit
/-- What is told of a key. -/
def fv (l : List PV) (k : ByteArray) : Option PV := l.find? fun x => decide (x.p.k = k)
/-- Pairs are sorted. -/
def SrtV (l : List PV) : Prop := l.Pairwise fun x y => cmpB x.p.k y.p.k < 0
theorem srtV_map {l : List PV} (h : SrtV l) : Srt (l.map PV.p) := List.pairwise_map.2 h
theorem srtV_of {l : List PV} (h : Srt (l.map PV.p)) : SrtV l := List.pairwise_map.1 h
theorem fnd_fv (l : List PV) (k : ByteArray) : fnd (l.map PV.p) k = (fv l k).map PV.p := by
  unfold fnd fv
  rw [List.find?_map]
  rfl
/-- A pair is put in where none was. -/
def insA : List PV → PV → List PV
  | [], x => [x]
  | a :: r, x => if cmpB a.p.k x.p.k < 0 then a :: insA r x else if cmpB a.p.k x.p.k = 0 then a :: r else x :: a :: r
theorem mem_insA : ∀ (l : List PV) (x y : PV), y ∈ insA l x → y = x ∨ y ∈ l
  | [], x, y, h => by simp [insA] at h; exact .inl h
  | a :: r, x, y, h => by
    unfold insA at h
    split at h
    · rcases List.mem_cons.1 h with rfl | h
      · exact .inr (by simp)
      · rcases mem_insA r x y h with h | h
        · exact .inl h
        · exact .inr (List.mem_cons_of_mem _ h)
    · split at h
      · exact .inr h
      · rcases List.mem_cons.1 h with h | h
        · exact .inl h
        · exact .inr h
theorem srt_insA : ∀ (l : List PV) (x : PV), SrtV l → SrtV (insA l x)
  | [], x, _ => by simp [insA, SrtV]
  | a :: r, x, h => by
    obtain ⟨h1, h2⟩ := List.pairwise_cons.1 h
    unfold insA
    split
    · rename_i e
      refine List.pairwise_cons.2 ⟨fun y hy => ?_, srt_insA r x h2⟩
      rcases mem_insA r x y hy with rfl | hy
      · exact e
      · exact h1 y hy
    · rename_i e
      split
      · exact h
      · rename_i z
        have g : cmpB x.p.k a.p.k < 0 := by rw [c_anti]; omega
        refine List.pairwise_cons.2 ⟨fun y hy => ?_, h⟩
        rcases List.mem_cons.1 hy with rfl | hy
        · exact g
        · exact c_trans g (h1 y hy)
theorem fv_none_of_lt {l : List PV} {k : ByteArray} (h : ∀ q ∈ l, cmpB k q.p.k < 0) : fv l k = none := by
  unfold fv
  rw [List.find?_eq_none]
  intro q hq e
  have := h q hq
  simp at e
  rw [e, c_self] at this
  omega
theorem fv_insA : ∀ (l : List PV) (x : PV) (k : ByteArray), SrtV l → fv (insA l x) k = (fv l k).or (if x.p.k = k then some x else none)
  | [], x, k, _ => by
    by_cases e : x.p.k = k <;> simp [insA, fv, e]
  | a :: r, x, k, h => by
    obtain ⟨h1, h2⟩ := List.pairwise_cons.1 h
    unfold insA
    split
    · rename_i e
      have ih := fv_insA r x k h2
      unfold fv at ih ⊢
      rw [List.find?_cons, List.find?_cons, ih]
      by_cases q : a.p.k = k <;> simp [q]
    · rename_i e
      split
      · rename_i z
        have y := (c_zero _ _).1 z
        unfold fv
        rw [List.find?_cons, ← y]
        by_cases q : a.p.k = k <;> simp [q]
      · rename_i z
        by_cases q : x.p.k = k
        · have : fv (a :: r) k = none := fv_none_of_lt fun y hy => by
            rw [← q]
            have g : cmpB x.p.k a.p.k < 0 := by rw [c_anti]; omega
            rcases List.mem_cons.1 hy with rfl | hy
            · exact g
            · exact c_trans g (h1 y hy)
          rw [this, if_pos q]
          unfold fv
          rw [List.find?_cons]
          simp [q]
        · rw [if_neg q]
          unfold fv
          rw [List.find?_cons]
          simp [q]
/-- Of each key the pair that counts, sorted. -/
def mrgP (l : List PV) : List PV := l.foldl insA []
theorem srt_fold : ∀ (l acc : List PV), SrtV acc → SrtV (l.foldl insA acc)
  | [], _, h => h
  | x :: r, acc, h => srt_fold r _ (srt_insA acc x h)
theorem srt_mrgP (l : List PV) : SrtV (mrgP l) := srt_fold l [] List.Pairwise.nil
theorem fv_fold : ∀ (l acc : List PV) (k : ByteArray), SrtV acc → fv (l.foldl insA acc) k = (fv acc k).or (fv l k)
  | [], acc, k, _ => by simp [fv]
  | x :: r, acc, k, h => by
    rw [List.foldl_cons, fv_fold r _ k (srt_insA acc x h), fv_insA acc x k h, Option.or_assoc]
    congr 1
    unfold fv
    rw [List.find?_cons]
    by_cases q : x.p.k = k <;> simp [q]
theorem fv_mrgP (l : List PV) (k : ByteArray) : fv (mrgP l) k = fv l k := by
  unfold mrgP
  rw [fv_fold l [] k List.Pairwise.nil]
  rfl
theorem mem_fold : ∀ (l acc : List PV) (y : PV), y ∈ l.foldl insA acc → y ∈ acc ∨ y ∈ l
  | [], _, _, h => .inl h
  | x :: r, acc, y, h => by
    rcases mem_fold r _ y h with h | h
    · rcases mem_insA acc x y h with rfl | h
      · exact .inr (by simp)
      · exact .inl h
    · exact .inr (List.mem_cons_of_mem _ h)
theorem mem_mrgP {l : List PV} {y : PV} (h : y ∈ mrgP l) : y ∈ l := (mem_fold l [] y h).resolve_left (by simp)
theorem len_insA : ∀ (l : List PV) (x : PV), (insA l x).length ≤ l.length + 1
  | [], _ => by simp [insA]
  | a :: r, x => by
    have := len_insA r x
    unfold insA
    split
    · simp; omega
    · split <;> simp
theorem len_fold : ∀ (l acc : List PV), (l.foldl insA acc).length ≤ acc.length + l.length
  | [], _ => by simp
  | x :: r, acc => by
    have h1 := len_fold r (insA acc x)
    have h2 := len_insA acc x
    rw [List.foldl_cons, List.length_cons]
    omega
theorem len_mrgP (l : List PV) : (mrgP l).length ≤ l.length := by have := len_fold l []; unfold mrgP; simpa using this
theorem fv_mem {l : List PV} {k : ByteArray} {x : PV} (h : fv l k = some x) : x ∈ l ∧ x.p.k = k := by
  unfold fv at h
  exact ⟨List.mem_of_find?_eq_some h, by have := List.find?_some h; simpa using this⟩
theorem fv_of_mem {l : List PV} {x : PV} (h : x ∈ l) : ∃ y, fv l x.p.k = some y := by
  cases e : fv l x.p.k with
  | some y => exact ⟨y, rfl⟩
  | none =>
    unfold fv at e
    rw [List.find?_eq_none] at e
    exact absurd (decide_eq_true rfl) (e x h)
/-- Lists that are sorted and tell the same are the same. -/
theorem srt_uniq : ∀ (a b : List Pr), Srt a → Srt b → (∀ k, fnd a k = fnd b k) → a = b
  | [], [], _, _, _ => rfl
  | [], y :: b, _, _, h => by have := h y.k; simp [fnd] at this
  | x :: a, [], _, _, h => by have := h x.k; simp [fnd] at this
  | x :: a, y :: b, ha, hb, h => by
    obtain ⟨a1, a2⟩ := List.pairwise_cons.1 ha
    obtain ⟨b1, b2⟩ := List.pairwise_cons.1 hb
    have hk : x.k = y.k := by
      refine (c_zero _ _).1 ?_
      by_cases l1 : cmpB x.k y.k < 0
      · have : fnd (y :: b) x.k = none := fnd_none_of_lt fun q hq => by
          rcases List.mem_cons.1 hq with rfl | hq
          · exact l1
          · exact c_trans l1 (b1 q hq)
        rw [← h x.k] at this
        simp [fnd] at this
      · by_cases l2 : cmpB y.k x.k < 0
        · have : fnd (x :: a) y.k = none := fnd_none_of_lt fun q hq => by
            rcases List.mem_cons.1 hq with rfl | hq
            · exact l2
            · exact c_trans l2 (a1 q hq)
          rw [h y.k] at this
          simp [fnd] at this
        · have := c_anti x.k y.k
          omega
    have hx : x = y := by
      have := h x.k
      unfold fnd at this
      rw [List.find?_cons, List.find?_cons] at this
      simpa [hk] using this
    subst hx
    congr 1
    refine srt_uniq a b a2 b2 fun k => ?_
    by_cases e : x.k = k
    · rw [← e, fnd_none_of_lt a1, fnd_none_of_lt b1]
    · have := h k
      unfold fnd at this ⊢
      rw [List.find?_cons, List.find?_cons] at this
      simpa [e] using this

/-! Heaps. -/
/-- Is the next pair of list s ahead of that of t? -/
def ahd (a b : ByteArray) (s t : Nat) : Prop := cmpB a b < 0 ∨ (cmpB a b = 0 ∧ s < t)
instance (a b : ByteArray) (s t : Nat) : Decidable (ahd a b s t) := inferInstanceAs (Decidable (_ ∨ _))
theorem ahd_irrefl (a : ByteArray) (s : Nat) : ¬ ahd a a s s := by unfold ahd; rw [c_self]; omega
theorem nahd_trans {a b c : ByteArray} {s t u : Nat} (h : ¬ ahd a b s t) (k : ¬ ahd b c t u) : ¬ ahd a c s u := by
  unfold ahd at *
  have h1 : 0 ≤ cmpB a b := by omega
  have k1 : 0 ≤ cmpB b c := by omega
  have e1 := c_anti a b
  have e2 := c_anti b c
  have e3 := c_anti a c
  have le := c_le_le (x := c) (y := b) (z := a) (by omega) (by omega)
  intro q
  have q0 : cmpB a c = 0 := by omega
  have qa := (c_zero _ _).1 q0
  subst qa
  omega
theorem nahd_of {a b : ByteArray} {s t : Nat} (h : ahd a b s t) : ¬ ahd b a t s := by
  unfold ahd at *
  have := c_anti a b
  omega
/-- All is in order from k on. -/
def HpF (K : Nat → ByteArray) (hs : List Nat) (k : Nat) : Prop := ∀ i c s t, k ≤ i → (c = 2 * i + 1 ∨ c = 2 * i + 2) → hs[i]? = some s → hs[c]? = some t → ¬ ahd (K t) (K s) t s
/-- What holds while one sinks. -/
structure Snk (K : Nat → ByteArray) (hs : List Nat) (k at_ : Nat) : Prop where
  rest : ∀ i c s t, k ≤ i → i ≠ at_ → (c = 2 * i + 1 ∨ c = 2 * i + 2) → hs[i]? = some s → hs[c]? = some t → ¬ ahd (K t) (K s) t s
  up : ∀ i c s t, k ≤ i → (at_ = 2 * i + 1 ∨ at_ = 2 * i + 2) → (c = 2 * at_ + 1 ∨ c = 2 * at_ + 2) → hs[i]? = some s → hs[c]? = some t → ¬ ahd (K t) (K s) t s
theorem Snk.start {K : Nat → ByteArray} {hs : List Nat} {k : Nat} (h : HpF K hs (k + 1)) : Snk K hs k k :=
  ⟨fun i c s t hi hn hc h1 h2 => h i c s t (by omega) hc h1 h2, fun i c s t hi ha _ _ _ => by omega⟩
theorem Snk.stop {K : Nat → ByteArray} {hs : List Nat} {k a : Nat} (h : Snk K hs k a) (ha : ∀ c s t, (c = 2 * a + 1 ∨ c = 2 * a + 2) → hs[a]? = some s → hs[c]? = some t → ¬ ahd (K t) (K s) t s) : HpF K hs k := fun i c s t hi hc h1 h2 => by
  by_cases e : i = a
  · subst e; exact ha c s t hc h1 h2
  · exact h.rest i c s t hi e hc h1 h2
/-- Two change places. -/
def swp (hs : List Nat) (i j : Nat) (s t : Nat) : List Nat := (hs.set i t).set j s
theorem swp_at {hs : List Nat} {i j s t : Nat} (hi : hs[i]? = some s) (hj : hs[j]? = some t) (x : Nat) : (swp hs i j s t)[x]? = if x = j then some s else if x = i then some t else hs[x]? := by
  have li := (List.getElem?_eq_some_iff.1 hi).1
  have lj := (List.getElem?_eq_some_iff.1 hj).1
  unfold swp
  rw [List.getElem?_set, List.getElem?_set]
  by_cases e1 : x = j
  · subst e1; simp [lj]
  · rw [if_neg (fun q => e1 q.symm), if_neg e1]
    by_cases e2 : x = i
    · subst e2; simp [li]
    · rw [if_neg (fun q => e2 q.symm), if_neg e2]
theorem swp_len (hs : List Nat) (i j s t : Nat) : (swp hs i j s t).length = hs.length := by simp [swp]
theorem swp_perm {hs : List Nat} {i j s t : Nat} (hi : hs[i]? = some s) (hj : hs[j]? = some t) : (swp hs i j s t).Perm hs := by
  obtain ⟨li, ei⟩ := List.getElem?_eq_some_iff.1 hi
  obtain ⟨lj, ej⟩ := List.getElem?_eq_some_iff.1 hj
  have := Array.swap_perm (xs := hs.toArray) (i := i) (j := j) (by simpa using li) (by simpa using lj)
  have e : (hs.toArray.swap i j (by simpa using li) (by simpa using lj)).toList = swp hs i j s t := by
    subst ei ej
    simp [Array.swap, swp]
  have := Array.perm_iff_toList_perm.1 this
  rw [e] at this
  simpa using this
/-- One that is ahead comes up. -/
theorem Snk.swap {K : Nat → ByteArray} {hs : List Nat} {k a f s t : Nat} (h : Snk K hs k a) (hk : k ≤ a) (hf : f = 2 * a + 1 ∨ f = 2 * a + 2) (hs1 : hs[a]? = some s) (ht : hs[f]? = some t)
    (h1 : ¬ ahd (K s) (K t) s t) (h2 : ∀ c u, (c = 2 * a + 1 ∨ c = 2 * a + 2) → hs[c]? = some u → ¬ ahd (K u) (K t) u t) : Snk K (swp hs a f s t) k f := by
  have na : f ≠ a := by omega
  refine ⟨fun i c x y hi hn hc e1 e2 => ?_, fun i c x y hi hif hc e1 e2 => ?_⟩
  · rw [swp_at hs1 ht] at e1 e2
    rw [if_neg hn] at e1
    by_cases q : i = a
    · subst q
      rw [if_pos rfl] at e1
      injection e1 with e1
      subst e1
      by_cases r : c = f
      · rw [if_pos r] at e2
        injection e2 with e2
        subst e2
        exact h1
      · rw [if_neg r, if_neg (by omega)] at e2
        exact h2 c y hc e2
    · rw [if_neg q] at e1
      have cf : c ≠ f := by omega
      rw [if_neg cf] at e2
      by_cases r : c = a
      · rw [if_pos r] at e2
        injection e2 with e2
        subst e2
        subst r
        exact h.up i f x t hi hc hf e1 ht
      · rw [if_neg r] at e2
        exact h.rest i c x y hi q hc e1 e2
  · obtain rfl : i = a := by omega
    rw [swp_at hs1 ht] at e1 e2
    rw [if_neg (fun q => na q.symm), if_pos rfl] at e1
    injection e1 with e1
    subst e1
    rw [if_neg (by omega), if_neg (by omega)] at e2
    exact h.rest f c t y (by omega) na hc ht e2
/-- The first one is ahead of all. -/
theorem HpF.top {K : Nat → ByteArray} {hs : List Nat} (h : HpF K hs 0) {s : Nat} (h0 : hs[0]? = some s) : ∀ (i t : Nat), hs[i]? = some t → ¬ ahd (K t) (K s) t s := by
  intro i
  induction i using Nat.strongRecOn with
  | ind i ih =>
    intro t ht
    by_cases e : i = 0
    · subst e
      rw [h0] at ht
      injection ht with ht
      subst ht
      exact ahd_irrefl _ _
    · have lt := (List.getElem?_eq_some_iff.1 ht).1
      obtain ⟨u, hu⟩ : ∃ u, hs[(i - 1) / 2]? = some u := ⟨_, List.getElem?_eq_getElem (by omega)⟩
      exact nahd_trans (h ((i - 1) / 2) i u t (by omega) (by omega) hu ht) (ih ((i - 1) / 2) (by omega) u hu)
end Go.Proofs.Ytgpafmgncolnmaa
