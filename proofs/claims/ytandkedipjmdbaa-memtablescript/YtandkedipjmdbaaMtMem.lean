/-
  Plain notions, not a claim by itself: texts, pairs and lists of pairs in memory. By the verifier.
-/
import Derived.Test.YtandkedipjmdbaaMtOrd
import Derived.Test.YtandkedipjmdbaaRecs
namespace Go.Proofs.Ytandkedipjmdbaa
open Go.RowKit
theorem info_pair : (Try.prog.info? 47).map (fun i => (i.zero, i.size, i.bytes)) = some (some (.agg #[.slice none 0 0, .slice none 0 0, .bool false]), 3, 56) := by kernel_rfl
theorem under_pairs : Try.prog.underlying 27 = some (.slice 47) := by kernel_rfl
theorem pair_size : (Try.prog.info? 47).map (·.size) = some 3 := by kernel_rfl
theorem Arg.off {w w' : World} {a : Option Addr} {n : Nat} {f : Nat → Int} {N : List Nat} (h : Arg w a n f) (hO : Off N w w') (hn : 0 < n → ∀ q, a = some q → q.block ∉ N) : Arg w' a n f := by
  rcases h with h | ⟨h0, b, off, rfl, hl⟩
  · exact .inl h
  · have hb := hn h0 _ rfl
    exact .inr ⟨h0, b, off, rfl, fun j hj => (hO.cell (p := ⟨b, off + j, none⟩) hl.2.2 hb).trans (hl.1 j hj), hl.2.1, Nat.lt_of_lt_of_le hl.2.2 hO.size⟩
/-- A slice of bytes reads as t, and lies in none of the blocks N. -/
def Txt (W : World) (N : List Nat) (s : Value) (t : ByteArray) : Prop := ∃ a C f, s = .slice a t.size C ∧ Arg W a t.size f ∧ txtN t.size f = t ∧ (0 < t.size → ∀ q, a = some q → q.block ∉ N)
theorem Txt.below {W W' : World} {N : List Nat} {s : Value} {t : ByteArray} (h : Txt W N s t) (hB : Below W.heap.size W W') : Txt W' N s t := by
  obtain ⟨a, C, f, hs, hA, ht, hn⟩ := h
  exact ⟨a, C, f, hs, hA.below hB, ht, hn⟩
theorem Txt.off {W W' : World} {N : List Nat} {s : Value} {t : ByteArray} (h : Txt W N s t) (hO : Off N W W') : Txt W' N s t := by
  obtain ⟨a, C, f, hs, hA, ht, hn⟩ := h
  exact ⟨a, C, f, hs, hA.off hO hn, ht, hn⟩
theorem Txt.mono {W : World} {N M : List Nat} {s : Value} {t : ByteArray} (h : Txt W N s t) (hM : ∀ b, b ∈ M → b ∈ N ∨ W.heap.size ≤ b) : Txt W M s t := by
  obtain ⟨a, C, f, hs, hA, ht, hn⟩ := h
  refine ⟨a, C, f, hs, hA, ht, fun h0 q hq hm => ?_⟩
  rcases hM _ hm with h | h
  · exact hn h0 q hq h
  · rcases hA with ⟨h1, _⟩ | ⟨_, b, off, ha, hl⟩
    · omega
    · rw [hq] at ha
      injection ha with ha
      subst ha
      have := hl.2.2
      simp at h
      omega
theorem Txt.both {W W' : World} {N M : List Nat} {s : Value} {t : ByteArray} (h : Txt W M s t) (k : Txt W N s t) (hO : Off N W W') : Txt W' M s t := by
  obtain ⟨a, C, f, hs, hA, ht, hn⟩ := h
  obtain ⟨a', C', f', hs', hA', ht', hn'⟩ := k
  rw [hs] at hs'
  injection hs' with ha
  subst ha
  exact ⟨a, C, f, hs, hA.off hO hn', ht, hn⟩
theorem Txt.cons {W : World} {N : List Nat} {n : Nat} {s : Value} {t : ByteArray} (h : Txt W N s t) (k : Txt W [n] s t) : Txt W (n :: N) s t := by
  obtain ⟨a, C, f, hs, hA, ht, hn⟩ := h
  obtain ⟨a', C', f', hs', hA', ht', hn'⟩ := k
  rw [hs] at hs'
  injection hs' with ha
  subst ha
  refine ⟨a, C, f, hs, hA, ht, fun h0 q hq hm => ?_⟩
  rcases List.mem_cons.1 hm with hm | hm
  · exact hn' h0 q hq (by simp [hm])
  · exact hn h0 q hq hm
theorem Txt.any {W : World} {N : List Nat} {s : Value} {t : ByteArray} (h : Txt W N s t) : Txt W [] s t := h.mono (fun b hb => by cases hb)
theorem Txt.one {W : World} {N : List Nat} {s : Value} {t : ByteArray} (h : Txt W N s t) : s.oneCell' = true := by
  obtain ⟨a, C, f, rfl, _⟩ := h
  rfl
theorem Txt.of {W : World} {a : Option Addr} {n C : Nat} {f : Nat → Int} (h : Arg W a n f) : Txt W [] (.slice a n C) (txtN n f) := by
  refine ⟨a, C, f, by rw [txtN_size], by rw [txtN_size]; exact h, by rw [txtN_size], fun _ _ _ h => by cases h⟩
theorem Txt.nil (W : World) (N : List Nat) (C : Nat) : Txt W N (.slice none 0 C) ByteArray.empty := ⟨none, C, fun _ => 0, rfl, .inl ⟨rfl, .inl rfl⟩, rfl, fun h => absurd h (by decide)⟩
/-- A pair as Go has it, and what it reads as. -/
structure PV where
  k : Value
  v : Value
  p : Pr
def PV.cs (x : PV) : List Value := [x.k, x.v, .bool x.p.g]
/-- A pair reads so. -/
def PVOk (W : World) (N : List Nat) (x : PV) : Prop := Txt W N x.k x.p.k ∧ Txt W N x.v x.p.v
theorem PVOk.below {W W' : World} {N : List Nat} {x : PV} (h : PVOk W N x) (hB : Below W.heap.size W W') : PVOk W' N x := ⟨h.1.below hB, h.2.below hB⟩
theorem PVOk.off {W W' : World} {N : List Nat} {x : PV} (h : PVOk W N x) (hO : Off N W W') : PVOk W' N x := ⟨h.1.off hO, h.2.off hO⟩
theorem PVOk.mono {W : World} {N M : List Nat} {x : PV} (h : PVOk W N x) (hM : ∀ b, b ∈ M → b ∈ N ∨ W.heap.size ≤ b) : PVOk W M x := ⟨h.1.mono hM, h.2.mono hM⟩
theorem PVOk.one {W : World} {N : List Nat} {x : PV} (h : PVOk W N x) : ∀ v ∈ x.cs, v.oneCell' = true := by
  intro v hv
  simp only [PV.cs, List.mem_cons, List.not_mem_nil, or_false] at hv
  rcases hv with rfl | rfl | rfl
  · exact h.1.one
  · exact h.2.one
  · rfl
/-- The cells of pairs. -/
def pcs (ps : List PV) : List Value := ps.flatMap PV.cs
theorem pcs_len (ps : List PV) : (pcs ps).length = ps.length * 3 := by
  induction ps with
  | nil => rfl
  | cons x r ih => simp only [pcs, List.flatMap_cons, List.length_append, List.length_cons] at ih ⊢; rw [show (List.flatMap PV.cs r).length = r.length * 3 from ih, show x.cs.length = 3 from rfl]; omega
theorem pcs_app (ps qs : List PV) : pcs (ps ++ qs) = pcs ps ++ pcs qs := by simp [pcs]
theorem pcs_at : ∀ (ps : List PV) (i j : Nat) (x : PV), ps[i]? = some x → j < 3 → (pcs ps)[i * 3 + j]? = x.cs[j]?
  | [], _, _, _, h, _ => by cases h
  | y :: r, 0, j, x, h, hj => by
    injection h with h
    subst h
    show (y.cs ++ pcs r)[0 * 3 + j]? = _
    rw [Nat.zero_mul, Nat.zero_add, List.getElem?_append_left (show j < 3 from hj)]
  | y :: r, i + 1, j, x, h, hj => by
    show (y.cs ++ pcs r)[(i + 1) * 3 + j]? = _
    rw [List.getElem?_append_right (show 3 ≤ (i + 1) * 3 + j by omega), show (i + 1) * 3 + j - y.cs.length = i * 3 + j by show (i + 1) * 3 + j - 3 = _; omega]
    exact pcs_at r i j x h hj
theorem pcs_take (ps : List PV) : ∀ i, (pcs ps).take (i * 3) = pcs (ps.take i) := by
  induction ps with
  | nil => intro i; simp [pcs]
  | cons x r ih =>
    intro i
    cases i with
    | zero => simp [pcs]
    | succ i =>
      show (x.cs ++ pcs r).take ((i + 1) * 3) = x.cs ++ pcs (r.take i)
      rw [List.take_append, List.take_of_length_le (show 3 ≤ (i + 1) * 3 by omega), show (i + 1) * 3 - x.cs.length = i * 3 by show (i + 1) * 3 - 3 = _; omega, ih]
theorem pcs_drop (ps : List PV) : ∀ i, (pcs ps).drop (i * 3) = pcs (ps.drop i) := by
  induction ps with
  | nil => intro i; simp [pcs]
  | cons x r ih =>
    intro i
    cases i with
    | zero => simp [pcs]
    | succ i =>
      show (x.cs ++ pcs r).drop ((i + 1) * 3) = pcs (r.drop i)
      rw [List.drop_append, List.drop_of_length_le (show 3 ≤ (i + 1) * 3 by omega), List.nil_append, show (i + 1) * 3 - x.cs.length = i * 3 by show (i + 1) * 3 - 3 = _; omega, ih]
theorem pcs_one {W : World} {N : List Nat} {ps : List PV} (h : ∀ x ∈ ps, PVOk W N x) : ∀ v ∈ pcs ps, v.oneCell' = true := by
  intro v hv
  obtain ⟨x, hx, hv⟩ := List.mem_flatMap.1 hv
  exact (h x hx).one v hv
/-- A slice of pairs that was made behind base. -/
def OwnP (w : World) (base : Nat) (v : Value) (ps : List PV) : Prop := w.ownsRow base 47 3 v ps.length (pcs ps)
theorem OwnP.nil (w : World) (base : Nat) : OwnP w base (.slice none 0 0) [] := World.ownsRow_nil w base _ 3
theorem OwnP.off {w u : World} {base : Nat} {v : Value} {ps : List PV} {N : List Nat} (h : OwnP w base v ps) (hO : Off N w u) (hn : ∀ g, v.ownBlock = some g → g ∉ N) : OwnP u base v ps := by
  refine ⟨h.1, ?_⟩
  rcases h.2 with h0 | ⟨g, cap, cur, rfl, hb, hg, rest⟩
  · exact .inl h0
  · exact .inr ⟨g, cap, cur, rfl, hb, (hO.block g (Array.getElem?_eq_some_iff.1 hg).1 (hn g rfl)).trans hg, rest⟩
theorem OwnP.below {w u : World} {base : Nat} {v : Value} {ps : List PV} (h : OwnP w base v ps) (hB : Below w.heap.size w u) : OwnP u base v ps := h.off (Off.of (bs := []) hB) (fun _ _ h => by cases h)
theorem OwnP.form {w : World} {base : Nat} {v : Value} {ps : List PV} (h : OwnP w base v ps) : (v = .slice none 0 0 ∧ ps = []) ∨ ∃ g cap, v = .slice (some ⟨g, 0, none⟩) ps.length cap ∧ base ≤ g ∧ ps.length ≤ cap ∧ cap ≤ maxLen ∧ g < w.heap.size ∧ Rec19 w g 0 (pcs ps) := by
  rcases h.2 with ⟨rfl, h0⟩ | ⟨g, cap, cur, rfl, hbg, hg, hnc, hcm, hsz, htake⟩
  · exact .inl ⟨rfl, List.eq_nil_of_length_eq_zero h0⟩
  · refine .inr ⟨g, cap, rfl, hbg, hnc, hcm, (Array.getElem?_eq_some_iff.1 hg).1, fun j u hj => ?_, fun j hj => ?_, (Array.getElem?_eq_some_iff.1 hg).1⟩
    · have := World.ownsRow.cellAt h j (by rw [← pcs_len]; exact (List.getElem?_eq_some_iff.1 hj).1)
      rw [Nat.zero_add, this, hj]
    · have := World.ownsRow.cellAt h j (by rw [← pcs_len]; exact hj)
      rw [Nat.zero_add]
      exact ⟨by rw [this, List.getElem?_eq_getElem hj]; rfl, World.ownsRow.frozenAt h j⟩
theorem OwnP.slice {w : World} {base : Nat} {v : Value} {ps : List PV} (h : OwnP w base v ps) : ∃ a cap, v = .slice a ps.length cap ∧ v.oneCell' = true := by
  rcases h.form with ⟨rfl, rfl⟩ | ⟨g, cap, rfl, _⟩
  · exact ⟨none, 0, rfl, rfl⟩
  · exact ⟨_, cap, rfl, rfl⟩
/-- A slice of pairs that is read alone. -/
def Lst (W : World) (a : Option Addr) (ps : List PV) : Prop := (∀ x ∈ ps, PVOk W [] x) ∧ (ps ≠ [] → ∃ b off, a = some ⟨b, off, none⟩ ∧ W.rangeAt b off (pcs ps) ∧ b < W.heap.size)
theorem Lst.below {W W' : World} {a : Option Addr} {ps : List PV} (h : Lst W a ps) (hB : Below W.heap.size W W') : Lst W' a ps := by
  refine ⟨fun x hx => (h.1 x hx).below hB, fun hne => ?_⟩
  obtain ⟨b, off, ha, hr, hb⟩ := h.2 hne
  exact ⟨b, off, ha, fun j v hj => (hB.cell (p := ⟨b, off + j, none⟩) hb).trans (hr j v hj), Nat.lt_of_lt_of_le hb hB.size⟩
theorem OwnP.lst {W : World} {base : Nat} {ps : List PV} {a : Option Addr} {n cap : Nat} (h : OwnP W base (.slice a n cap) ps) (hp : ∀ x ∈ ps, PVOk W [] x) : Lst W a ps := by
  refine ⟨hp, fun hne => ?_⟩
  rcases h.form with ⟨_, h0⟩ | ⟨g, cap', hv, _, _, _, hg, hR⟩
  · exact absurd h0 hne
  · injection hv with hv
    exact ⟨g, 0, hv, hR.1, hg⟩
/-- One of such pairs is loaded. -/
theorem Lst.at {W : World} {a : Option Addr} {ps : List PV} (h : Lst W a ps) (i : Nat) (x : PV) (hi : ps[i]? = some x) : ∃ b off, a = some ⟨b, off, none⟩ ∧ W.rangeAt b (off + i * 3) x.cs ∧ b < W.heap.size := by
  obtain ⟨b, off, ha, hr, hb⟩ := h.2 (fun e => by rw [e] at hi; cases hi)
  refine ⟨b, off, ha, fun j v hj => ?_, hb⟩
  have hl : j < 3 := (List.getElem?_eq_some_iff.1 hj).1
  have := hr (i * 3 + j) v (by rw [pcs_at ps i j x hi hl]; exact hj)
  rwa [← Nat.add_assoc] at this
end Go.Proofs.Ytandkedipjmdbaa
