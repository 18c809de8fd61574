/-
  Walks, not a claim by itself: the kit's ApartBytes. By the verifier.
-/
import Derived.Test.YtmlllglgjpmicaaBOver
namespace Go.Proofs.Ytmlllglgjpmicaa
open Go.RowKit
theorem Own.slice {w : World} {base : Nat} {v : Value} {n : Nat} {F : Nat → Int} (h : Own w base v n F) (hb : ∀ j, j < n → 0 ≤ F j ∧ F j < 256) : ∃ a cap, v = .slice a n cap ∧ Arg w a n F ∧ ∀ p, a = some p → base ≤ p.block := by
  by_cases e : n = 0
  · subst e
    rcases h.2 with ⟨rfl, _⟩ | ⟨g, cap, cur, rfl, hbg, _⟩
    · exact ⟨none, 0, rfl, .inl ⟨rfl, .inl rfl⟩, fun p hp => by cases hp⟩
    · exact ⟨_, cap, rfl, .inl ⟨rfl, .inr ⟨_, rfl⟩⟩, fun p hp => by injection hp with hp; subst hp; exact hbg⟩
  · obtain ⟨g, cap, rfl, hbg, _, hl⟩ := h.form (by omega) hb
    exact ⟨_, cap, rfl, Arg.of hl, fun p hp => by injection hp with hp; subst hp; exact hbg⟩
/-- What is told of a copy. -/
def wasOk (B : Nat) (w : World) (v : Value) (n : Nat) (F : Nat → Int) : Prop := ∃ a cap, v = .slice a n cap ∧ Arg w a n F ∧ ∀ p, a = some p → B ≤ p.block
theorem copy_was (a : Option Addr) (n C B : Nat) (f : Nat → Int) (w : World) (h : Arg w a n f) (hn : n ≤ 1000000) (hB : B ≤ w.heap.size) :
    Calls Try.prog 23 #[.slice a n C] w fun e w' => ∃ a' cap, e = .returned (.slice a' n cap) ∧ Hid (wasOk B w' (.slice a' n cap) n f) ∧ Below w.heap.size w w' := by
  refine (copy_any a n C f w h hn).mono ?_
  rintro e w' ⟨v, rfl, hO, hb⟩
  obtain ⟨a', cap, rfl, hA, hp⟩ := hO.slice h.bytes
  exact ⟨a', cap, rfl, ⟨a', cap, rfl, hA, fun p e => Nat.le_trans hB (hp p e)⟩, hb⟩
theorem Arg.but {w w' : World} {a : Option Addr} {n c : Nat} {f : Nat → Int} (h : Arg w a n f) (hB : But c w w') (hc : ∀ p, a = some p → p.block ≠ c) : Arg w' a n f := by
  rcases h with h | ⟨h0, b, off, rfl, hl⟩
  · exact .inl h
  · exact .inr ⟨h0, b, off, rfl, hl.but hB (hc _ rfl)⟩
theorem wasOk.below {B : Nat} {w w' : World} {v : Value} {n : Nat} {F : Nat → Int} (h : wasOk B w v n F) (hB : Below w.heap.size w w') : wasOk B w' v n F := by
  obtain ⟨a, cap, rfl, hA, hp⟩ := h
  exact ⟨a, cap, rfl, hA.below hB, hp⟩
theorem wasOk.but {B c : Nat} {w w' : World} {v : Value} {n : Nat} {F : Nat → Int} (h : wasOk B w v n F) (hB : But c w w') (hc : c < B) : wasOk B w' v n F := by
  obtain ⟨a, cap, rfl, hA, hp⟩ := h
  exact ⟨a, cap, rfl, hA.but hB (fun p e => by have := hp p e; omega), hp⟩
/-- A list, as it is handed in. -/
structure Lst where
  a : Option Addr
  n : Nat
  C : Nat
abbrev Lst.val (L : Lst) : Value := .slice L.a L.n L.C
/-- A list has memory of its own, and bytes. -/
def Lst.ok (B : Nat) (w : World) (L : Lst) (F : Nat → Int) : Prop := L.n ≤ L.C ∧ L.C ≤ 1000000 ∧ (∀ j, j < L.C → 0 ≤ F j ∧ F j < 256) ∧ ((L.a = none ∧ L.C = 0) ∨ ∃ g, L.a = some ⟨g, 0, none⟩ ∧ B ≤ g ∧ IRow w g .u8 L.C F)
theorem Lst.ok.below {B : Nat} {w w' : World} {L : Lst} {F : Nat → Int} (h : L.ok B w F) (hB : Below w.heap.size w w') : L.ok B w' F := by
  obtain ⟨h1, h2, h3, h4 | ⟨g, h4, h5, h6⟩⟩ := h
  · exact ⟨h1, h2, h3, .inl h4⟩
  · exact ⟨h1, h2, h3, .inr ⟨g, h4, h5, h6.below hB⟩⟩
theorem Lst.ok.but {B c : Nat} {w w' : World} {L : Lst} {F : Nat → Int} (h : L.ok B w F) (hB : But c w w') (hc : ∀ p, L.a = some p → p.block ≠ c) : L.ok B w' F := by
  obtain ⟨h1, h2, h3, h4 | ⟨g, h4, h5, h6⟩⟩ := h
  · exact ⟨h1, h2, h3, .inl h4⟩
  · exact ⟨h1, h2, h3, .inr ⟨g, h4, h5, h6.but hB (hc _ h4)⟩⟩
/-- The whole of a list, its room too. -/
theorem Lst.ok.arg {B : Nat} {w : World} {L : Lst} {F : Nat → Int} (h : L.ok B w F) : Arg w L.a L.C F := by
  obtain ⟨_, _, h3, ⟨h4, h5⟩ | ⟨g, h4, _, h6⟩⟩ := h
  · rw [h4, h5]; exact .inl ⟨rfl, .inl rfl⟩
  · rw [h4]; exact Arg.of (h6.lies h3)
/-- All that holds of the lists. -/
structure ApInv (w : World) (B lb M : Nat) (Ls : Nat → Lst) (Fs : Nat → Nat → Int) (wr : World) : Prop where
  cells : ∀ k, k < M → wr.cell? ⟨lb, k, none⟩ = some (Ls k).val
  ok : ∀ k, k < M → (Ls k).ok B wr (Fs k)
  size : w.heap.size ≤ wr.heap.size
  below : Below B w wr
/-- The lists lie apart, and apart from the list of them. -/
def ApSep (w : World) (B lb M : Nat) (Ls : Nat → Lst) : Prop := lb < w.heap.size ∧ B ≤ w.heap.size ∧ (∀ k, k < M → ∀ p, (Ls k).a = some p → p.block ≠ lb ∧ p.block < w.heap.size) ∧ ∀ i k, i < M → k < M → i ≠ k → ∀ p q, (Ls i).a = some p → (Ls k).a = some q → p.block ≠ q.block
theorem ApInv.next {w : World} {B lb M : Nat} {Ls : Nat → Lst} {Fs : Nat → Nat → Int} {wr w' : World} (h : ApInv w B lb M Ls Fs wr) (hs : ApSep w B lb M Ls) (hB : Below wr.heap.size wr w') : ApInv w B lb M Ls Fs w' :=
  ⟨fun k hk => (hB.cell (p := ⟨lb, k, none⟩) (by have := h.size; have := hs.1; show lb < _; omega)).trans (h.cells k hk), fun k hk => (h.ok k hk).below hB, Nat.le_trans h.size hB.size, h.below.trans (hB.mono (Nat.le_trans hs.2.1 h.size))⟩
/-- One more block is written to, which is none of the lists'. -/
theorem ApInv.but {w : World} {B lb M c : Nat} {Ls : Nat → Lst} {Fs : Nat → Nat → Int} {wr w' : World} (h : ApInv w B lb M Ls Fs wr) (hs : ApSep w B lb M Ls) (hB : But c wr w') (hc : w.heap.size ≤ c) : ApInv w B lb M Ls Fs w' :=
  ⟨fun k hk => (hB.cell (p := ⟨lb, k, none⟩) (by have := h.size; have := hs.1; show lb < _; omega) (by have := hs.1; show lb ≠ c; omega)).trans (h.cells k hk), fun k hk => (h.ok k hk).but hB (fun p e => by have := (hs.2.2.1 k hk p e).2; omega), Nat.le_trans h.size hB.size, h.below.trans (hB.below (Nat.le_trans hs.2.1 hc) (Nat.le_trans hs.2.1 h.size))⟩
/-- The copies, k of them made. -/
structure ApWas (w : World) (B lb M wb : Nat) (Ls : Nat → Lst) (Fs Gs : Nat → Nat → Int) (k : Nat) (wr : World) : Prop where
  inv : ApInv w B lb M Ls Fs wr
  was : ∀ j, j < k → ∃ v, wr.cell? ⟨wb, j, none⟩ = some v ∧ wasOk (wb + 1) wr v (Ls j).C (Gs j)
  there : ∀ j, j < M → (wr.cell? ⟨wb, j, none⟩).isSome = true
  free : ∀ j, wr.frozen? ⟨wb, j, none⟩ = false
  lt : wb < wr.heap.size
  ge : w.heap.size ≤ wb
theorem ApWas.next {w : World} {B lb M wb k : Nat} {Ls : Nat → Lst} {Fs Gs : Nat → Nat → Int} {wr w' : World} (h : ApWas w B lb M wb Ls Fs Gs k wr) (hs : ApSep w B lb M Ls) (hB : Below wr.heap.size wr w') : ApWas w B lb M wb Ls Fs Gs k w' :=
  ⟨h.inv.next hs hB, fun j hj => by obtain ⟨v, hv, ho⟩ := h.was j hj; exact ⟨v, (hB.cell (p := ⟨wb, j, none⟩) h.lt).trans hv, ho.below hB⟩, fun j hj => by rw [hB.cell (p := ⟨wb, j, none⟩) h.lt]; exact h.there j hj, fun j => (hB.frozen (p := ⟨wb, j, none⟩) h.lt).trans (h.free j), Nat.lt_of_lt_of_le h.lt hB.size, h.ge⟩
/-- A copy is laid. -/
theorem ApWas.put {w : World} {B lb M wb k : Nat} {Ls : Nat → Lst} {Fs Gs : Nat → Nat → Int} {wr : World} {v : Value} (h : ApWas w B lb M wb Ls Fs Gs k wr) (hs : ApSep w B lb M Ls) (hk : k < M) : ApWas w B lb M wb Ls Fs Gs k (wr.setCell ⟨wb, k, none⟩ v) := by
  have hB : But wb wr (wr.setCell ⟨wb, k, none⟩ v) := But.set _ _ _
  refine ⟨h.inv.but hs hB h.ge, fun j hj => ?_, fun j hj => ?_, fun j => by simp [h.free], by simp [World.setCell]; exact h.lt, h.ge⟩
  · obtain ⟨u, hu, ho⟩ := h.was j hj
    exact ⟨u, keep_off' hu (by omega), ho.but hB (Nat.lt_succ_self _)⟩
  · by_cases e : k = j
    · subst e
      rw [World.cell?_setCell_same' _ _ _ (h.there k hk)]
      rfl
    · rw [keep_off' rfl e]
      exact h.there j hj
theorem ApWas.step {w : World} {B lb M wb k : Nat} {Ls : Nat → Lst} {Fs Gs : Nat → Nat → Int} {wr : World} {v : Value} (h : ApWas w B lb M wb Ls Fs Gs k wr) (hs : ApSep w B lb M Ls) (hk : k < M) (hv : wasOk (wb + 1) wr v (Ls k).C (Gs k)) : ApWas w B lb M wb Ls Fs Gs (k + 1) (wr.setCell ⟨wb, k, none⟩ v) := by
  have p := h.put (v := v) hs hk
  refine ⟨p.inv, fun j hj => ?_, p.there, p.free, p.lt, p.ge⟩
  by_cases e : j = k
  · subst e
    exact ⟨v, World.cell?_setCell_same' _ _ _ (h.there j hk), hv.but (But.set _ _ _) (Nat.lt_succ_self _)⟩
  · exact p.was j (by omega)
theorem ApWas.drew {w : World} {B lb M wb k : Nat} {Ls : Nat → Lst} {Fs Gs : Nat → Nat → Int} {wr : World} (h : ApWas w B lb M wb Ls Fs Gs k wr) (hs : ApSep w B lb M Ls) : ApWas w B lb M wb Ls Fs Gs k wr.drew := h.next hs (Below.refl _ _).drew
/-- A list is written over. -/
theorem ApWas.over {w : World} {B lb M wb k i g : Nat} {Ls : Nat → Lst} {Fs Gs : Nat → Nat → Int} {wr w' : World} {F : Nat → Int} (h : ApWas w B lb M wb Ls Fs Gs k wr) (hs : ApSep w B lb M Ls) (hi : i < M) (hg : (Ls i).a = some ⟨g, 0, none⟩) (hB : But g wr w') (hR : IRow w' g .u8 (Ls i).C F) (hF : ∀ j, j < (Ls i).C → 0 ≤ F j ∧ F j < 256) : ApWas w B lb M wb Ls (fun k => if k = i then F else Fs k) Gs k w' := by
  obtain ⟨s1, s2, s3, s4⟩ := hs
  have hgl := s3 i hi _ hg
  have hgw : g ≠ lb ∧ g < w.heap.size := hgl
  have hsz := h.inv.size
  have hBg : B ≤ g := by
    rcases (h.inv.ok i hi).2.2.2 with ⟨e, _⟩ | ⟨g', e, h5, _⟩
    · rw [hg] at e; cases e
    · rw [hg] at e; injection e with e; injection e with e; omega
  have hlt := h.lt
  have hge := h.ge
  refine ⟨⟨fun k hk => ?_, fun k hk => ?_, Nat.le_trans hsz hB.size, h.inv.below.trans (hB.below hBg (Nat.le_trans s2 hsz))⟩, fun j hj => ?_, fun j hj => ?_, fun j => ?_, Nat.lt_of_lt_of_le hlt hB.size, hge⟩
  · exact (hB.cell (p := ⟨lb, k, none⟩) (by show lb < _; omega) (Ne.symm hgw.1)).trans (h.inv.cells k hk)
  · show (Ls k).ok B w' (if k = i then F else Fs k)
    by_cases e : k = i
    · subst e
      rw [if_pos rfl]
      have := h.inv.ok k hk
      exact ⟨this.1, this.2.1, hF, .inr ⟨g, hg, hBg, hR⟩⟩
    · rw [if_neg e]
      exact (h.inv.ok k hk).but hB (fun p hp => s4 k i hk hi e p _ hp hg)
  · obtain ⟨v, hv, ho⟩ := h.was j hj
    exact ⟨v, (hB.cell (p := ⟨wb, j, none⟩) hlt (by show wb ≠ g; omega)).trans hv, ho.but hB (by omega)⟩
  · rw [hB.cell (p := ⟨wb, j, none⟩) hlt (by show wb ≠ g; omega)]; exact h.there j hj
  · rw [hB.frozen (p := ⟨wb, j, none⟩) hlt (by show wb ≠ g; omega)]; exact h.free j
theorem ApWas.congr {w : World} {B lb M wb k : Nat} {Ls : Nat → Lst} {Fs Hs Gs : Nat → Nat → Int} {wr : World} (h : ApWas w B lb M wb Ls Fs Gs k wr) (e : ∀ k, k < M → ∀ j, j < (Ls k).C → Fs k j = Hs k j) : ApInv w B lb M Ls Hs wr := by
  refine ⟨h.inv.cells, fun k hk => ?_, h.inv.size, h.inv.below⟩
  obtain ⟨h1, h2, h3, h4⟩ := h.inv.ok k hk
  refine ⟨h1, h2, fun j hj => by rw [← e k hk j hj]; exact h3 j hj, ?_⟩
  rcases h4 with h4 | ⟨g, h4, h5, h6⟩
  · exact .inl h4
  · exact .inr ⟨g, h4, h5, h6.congr (e k hk)⟩
end Go.Proofs.Ytmlllglgjpmicaa
