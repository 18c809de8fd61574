/-
  Plain notions, not a claim by itself: texts in memory. By the verifier.
-/
import Derived.Test.YtelcijfcgflagaaMtOrd
import Derived.Test.YtelcijfcgflagaaRecs
namespace Go.Proofs.Ytelcijfcgflagaa
open Go.RowKit
theorem Arg.off {w w' : World} {a : Option Addr} {n : Nat} {f : Nat → Int} {N : List Nat} (h : Arg w a n f) (hO : Off N w w') (hn : 0 < n → ∀ q, a = some q → q.block ∉ N) : Arg w' a n f := by
  rcases h with h | ⟨h0, b, off, rfl, hl⟩
  · exact .inl h
  · have hb := hn h0 _ rfl
    exact .inr ⟨h0, b, off, rfl, fun j hj => (hO.cell (p := ⟨b, off + j, none⟩) hl.2.2 hb).trans (hl.1 j hj), hl.2.1, Nat.lt_of_lt_of_le hl.2.2 hO.size⟩
/-- A slice of bytes reads as t, and lies in none of the blocks N. -/
def Txt (W : World) (N : List Nat) (s : Value) (t : ByteArray) : Prop := ∃ a C f, s = .slice a t.size C ∧ Arg W a t.size f ∧ txtN t.size f = t ∧ (0 < t.size → ∀ q, a = some q → q.block ∉ N)
theorem Txt.below {W W' : World} {N : List Nat} {s : Value} {t : ByteArray} (h : Txt W N s t) (hB : Below W.heap.size W W') : Txt W' N s t := by
  obtain ⟨a, C, f, hs, hA, ht, hn⟩ := h
  exact ⟨a, C, f, hs, hA.below hB, ht, hn⟩
theorem Txt.off {W W' : World} {N : List Nat} {s : Value} {t : ByteArray} (h : Txt W N s t) (hO : Off N W W') : Txt W' N s t := by
  obtain ⟨a, C, f, hs, hA, ht, hn⟩ := h
  exact ⟨a, C, f, hs, hA.off hO hn, ht, hn⟩
theorem Txt.mono {W : World} {N M : List Nat} {s : Value} {t : ByteArray} (h : Txt W N s t) (hM : ∀ b, b ∈ M → b ∈ N ∨ W.heap.size ≤ b) : Txt W M s t := by
  obtain ⟨a, C, f, hs, hA, ht, hn⟩ := h
  refine ⟨a, C, f, hs, hA, ht, fun h0 q hq hm => ?_⟩
  rcases hM _ hm with h | h
  · exact hn h0 q hq h
  · rcases hA with ⟨h1, _⟩ | ⟨_, b, off, ha, hl⟩
    · omega
    · rw [hq] at ha
      injection ha with ha
      subst ha
      have := hl.2.2
      simp at h
      omega
theorem Txt.both {W W' : World} {N M : List Nat} {s : Value} {t : ByteArray} (h : Txt W M s t) (k : Txt W N s t) (hO : Off N W W') : Txt W' M s t := by
  obtain ⟨a, C, f, hs, hA, ht, hn⟩ := h
  obtain ⟨a', C', f', hs', hA', ht', hn'⟩ := k
  rw [hs] at hs'
  injection hs' with ha
  subst ha
  exact ⟨a, C, f, hs, hA.off hO hn', ht, hn⟩
theorem Txt.cons {W : World} {N : List Nat} {n : Nat} {s : Value} {t : ByteArray} (h : Txt W N s t) (k : Txt W [n] s t) : Txt W (n :: N) s t := by
  obtain ⟨a, C, f, hs, hA, ht, hn⟩ := h
  obtain ⟨a', C', f', hs', hA', ht', hn'⟩ := k
  rw [hs] at hs'
  injection hs' with ha
  subst ha
  refine ⟨a, C, f, hs, hA, ht, fun h0 q hq hm => ?_⟩
  rcases List.mem_cons.1 hm with hm | hm
  · exact hn' h0 q hq (by simp [hm])
  · exact hn h0 q hq hm
theorem Txt.any {W : World} {N : List Nat} {s : Value} {t : ByteArray} (h : Txt W N s t) : Txt W [] s t := h.mono (fun b hb => by cases hb)
theorem Txt.one {W : World} {N : List Nat} {s : Value} {t : ByteArray} (h : Txt W N s t) : s.oneCell' = true := by
  obtain ⟨a, C, f, rfl, _⟩ := h
  rfl
theorem Txt.of {W : World} {a : Option Addr} {n C : Nat} {f : Nat → Int} (h : Arg W a n f) : Txt W [] (.slice a n C) (txtN n f) := by
  refine ⟨a, C, f, by rw [txtN_size], by rw [txtN_size]; exact h, by rw [txtN_size], fun _ _ _ h => by cases h⟩
theorem Txt.nil (W : World) (N : List Nat) (C : Nat) : Txt W N (.slice none 0 C) ByteArray.empty := ⟨none, C, fun _ => 0, rfl, .inl ⟨rfl, .inl rfl⟩, rfl, fun h => absurd h (by decide)⟩
end Go.Proofs.Ytelcijfcgflagaa
