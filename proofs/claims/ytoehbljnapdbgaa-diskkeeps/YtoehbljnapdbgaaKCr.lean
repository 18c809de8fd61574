/-
  Laws, not a claim by itself: what a crash leaves of the sectors. By the verifier.
-/
import Derived.Test.YtoehbljnapdbgaaESt
namespace Go.Proofs.Ytoehbljnapdbgaa
open Go.RowKit Go.Maps
/-- What is said of sector n of F, one sector t at most being torn. -/
def OneOf (F sec ob : Nat → Int) (t n : Nat) : Prop := (∀ j, j < 256 → at256 F n j = at256 sec n j) ∨ (∀ j, j < 256 → at256 F n j = at256 ob n j) ∨ (n = t ∧ ∀ j, j < 256 → at256 F n j = halfF (at256 sec n) (at256 ob n) j)
def TwoOf (F sec ob : Nat → Int) (n : Nat) : Prop := (∀ j, j < 256 → at256 F n j = at256 sec n j) ∨ (∀ j, j < 256 → at256 F n j = at256 ob n j)
theorem TwoOf.one {F sec ob : Nat → Int} {n : Nat} (h : TwoOf F sec ob n) (t : Nat) : OneOf F sec ob t n := by
  rcases h with h | h
  · exact .inl h
  · exact .inr (.inl h)
theorem OneOf.congr {F G sec ob : Nat → Int} {t n : Nat} (h : OneOf F sec ob t n) (e : ∀ j, j < 256 → at256 G n j = at256 F n j) : OneOf G sec ob t n := by
  rcases h with h | h | ⟨q, h⟩
  · exact .inl fun j hj => (e j hj).trans (h j hj)
  · exact .inr (.inl fun j hj => (e j hj).trans (h j hj))
  · exact .inr (.inr ⟨q, fun j hj => (e j hj).trans (h j hj)⟩)
theorem TwoOf.congr {F G sec ob : Nat → Int} {n : Nat} (h : TwoOf F sec ob n) (e : ∀ j, j < 256 → at256 G n j = at256 F n j) : TwoOf G sec ob n := by
  rcases h with h | h
  · exact .inl fun j hj => (e j hj).trans (h j hj)
  · exact .inr fun j hj => (e j hj).trans (h j hj)
theorem take_mem {L : List Nat} {k n : Nat} (hk : k < L.length) : n ∈ L.take (k + 1) ↔ n ∈ L.take k ∨ n = L.getD k 0 := by
  rw [List.take_add_one, List.mem_append, List.getElem?_eq_getElem hk, List.getD_eq_getElem?_getD, List.getElem?_eq_getElem hk]
  simp
theorem not_taken {L : List Nat} (hL : L.Nodup) {k : Nat} (hk : k < L.length) : L.getD k 0 ∉ L.take k := by
  intro h
  rw [List.getD_eq_getElem?_getD, List.getElem?_eq_getElem hk] at h
  obtain ⟨i, hi, e⟩ := List.mem_iff_getElem.1 h
  rw [List.length_take] at hi
  rw [List.getElem_take] at e
  have := (List.getElem_inj (xs := L) (i := i) (j := k) hL).1 (by simpa using e)
  omega
/-- What holds after k loose sectors. -/
structure CrIs (L : List Nat) (sec ob : Nat → Int) (tear : Int) (k : Nat) (p : (Nat → Int) × Int) : Prop where
  rest : ∀ n, n ∉ L.take k → ∀ j, j < 256 → at256 p.1 n j = at256 sec n j
  some : ∃ t, ∀ n, n ∈ L.take k → OneOf p.1 sec ob t n
  none : p.2 ≤ tear → ∀ n, n ∈ L.take k → TwoOf p.1 sec ob n
theorem crash_is (L : List Nat) (hL : L.Nodup) (sec ob : Nat → Int) (nk : Nat) (kp : Nat → Bool) (tear : Int) : ∀ k, k ≤ L.length → CrIs L sec ob tear k (crashK L sec ob nk kp tear k)
  | 0, _ => ⟨fun _ _ _ _ => rfl, ⟨0, fun n hn => by simp at hn⟩, fun _ n hn => by simp at hn⟩
  | k + 1, hk => by
    have ih := crash_is L hL sec ob nk kp tear k (by omega)
    have hk' : k < L.length := by omega
    have nt := not_taken hL hk'
    have old : ∀ (g : Nat → Int) n, n ∈ L.take k → ∀ j, j < 256 → at256 (putF (crashK L sec ob nk kp tear k).1 (L.getD k 0) g) n j = at256 (crashK L sec ob nk kp tear k).1 n j := fun g n hn j hj => putF_other _ _ _ _ _ hj (fun e => nt (e ▸ hn))
    have rst : ∀ (g : Nat → Int) n, n ∉ L.take (k + 1) → ∀ j, j < 256 → at256 (putF (crashK L sec ob nk kp tear k).1 (L.getD k 0) g) n j = at256 sec n j := fun g n hn j hj => by
      rw [take_mem hk'] at hn
      rw [putF_other _ _ _ _ _ hj (fun e => hn (.inr e))]
      exact ih.rest n (fun h => hn (.inl h)) j hj
    by_cases hg : k < nk ∧ kp k = true
    · by_cases he : (crashK L sec ob nk kp tear k).2 = tear
      · rw [cr_torn L sec ob nk kp tear k hg he]
        refine ⟨rst _, ⟨L.getD k 0, fun n hn => ?_⟩, fun h => by dsimp only at h; omega⟩
        rcases (take_mem hk').1 hn with h | rfl
        · exact ((ih.none (by omega) n h).congr (old _ n h)).one _
        · refine .inr (.inr ⟨rfl, fun j hj => ?_⟩)
          dsimp only
          rw [putF_same _ _ _ _ hj]
          unfold halfF
          split
          · exact ih.rest _ nt j hj
          · rfl
      · rw [cr_kept L sec ob nk kp tear k hg he]
        obtain ⟨t, ht⟩ := ih.some
        refine ⟨fun n hn => ih.rest n (fun h => hn ((take_mem hk').2 (.inl h))), ⟨t, fun n hn => ?_⟩, fun h n hn => ?_⟩
        · rcases (take_mem hk').1 hn with h | rfl
          · exact ht n h
          · exact .inl (ih.rest _ nt)
        · dsimp only at h
          rcases (take_mem hk').1 hn with h' | rfl
          · exact ih.none (by omega) n h'
          · exact .inl (ih.rest _ nt)
    · rw [cr_gone L sec ob nk kp tear k hg]
      obtain ⟨t, ht⟩ := ih.some
      have me : ∀ j, j < 256 → at256 (putF (crashK L sec ob nk kp tear k).1 (L.getD k 0) (at256 ob (L.getD k 0))) (L.getD k 0) j = at256 ob (L.getD k 0) j := fun j hj => putF_same _ _ _ _ hj
      refine ⟨rst _, ⟨t, fun n hn => ?_⟩, fun h n hn => ?_⟩
      · rcases (take_mem hk').1 hn with h | rfl
        · exact (ht n h).congr (old _ n h)
        · exact .inr (.inl me)
      · rcases (take_mem hk').1 hn with h' | rfl
        · exact (ih.none h n h').congr (old _ n h')
        · exact .inr me
/-- What the law keeps of a disk. -/
structure KInv (D : Dsk) (now old : Nat → Int) : Prop where
  hnow : ∀ n j, n < D.N → j < 256 → at256 D.sec n j = now n
  hold : ∀ n j, n < D.N → j < 256 → D.lo n = true → at256 D.ob n j = old n
  safe : ∀ n, n < D.N → D.lo n = false → now n = old n
theorem KInv.write {D : Dsk} {now old : Nat → Int} (h : KInv D now old) (a : Nat) (v : Int) : KInv (D.wrote a (fun _ => v) 1).more (upd now a v) old := by
  have hN : ((D.wrote a (fun _ => v) 1).more).N = D.N := D.wrote_N a _ 1
  refine ⟨fun n j hn hj => ?_, fun n j hn hj hl => ?_, fun n hn hl => ?_⟩
  · rw [hN] at hn
    show at256 (D.wrote a (fun _ => v) 1).sec n j = _
    rw [Dsk.wrote_sec _ _ _ _ _ hj]
    unfold upd
    by_cases e : n = a
    · rw [if_pos (by omega), if_pos e]
    · rw [if_neg (by omega), if_neg e]
      exact h.hnow n j hn hj
  · rw [hN] at hn
    show at256 (D.wrote a (fun _ => v) 1).ob n j = _
    rw [Dsk.wrote_ob _ _ _ _ _ hj]
    by_cases e : D.lo n = true
    · rw [if_neg (fun q => by rw [q.2] at e; cases e)]
      exact h.hold n j hn hj e
    · have e' : D.lo n = false := by simpa using e
      have hl' : (D.wrote a (fun _ => v) 1).lo n = true := hl
      rw [Dsk.wrote_lo, e', Bool.or_false] at hl'
      rw [if_pos ⟨of_decide_eq_true hl', e'⟩, h.hnow n j hn hj]
      exact h.safe n hn e'
  · rw [hN] at hn
    have hl' : (D.wrote a (fun _ => v) 1).lo n = false := hl
    rw [Dsk.wrote_lo] at hl'
    have h2 : ¬ (a ≤ n ∧ n < a + 1) := by
      intro q
      rw [decide_eq_true q] at hl'
      cases hl'
    rw [decide_eq_false h2, Bool.false_or] at hl'
    unfold upd
    rw [if_neg (by omega)]
    exact h.safe n hn hl'
theorem KInv.flush {D : Dsk} {now old : Nat → Int} (h : KInv D now old) : KInv D.safe.more now now :=
  ⟨h.hnow, (fun _ _ _ _ hl => by cases hl), fun _ _ _ => rfl⟩
/-- What is read of sector n behind a crash. -/
def ReadIs (E : Dsk) (now old : Nat → Int) (t n : Nat) : Prop := (∀ j, j < 256 → at256 E.sec n j = now n) ∨ (∀ j, j < 256 → at256 E.sec n j = old n) ∨ (n = t ∧ ∀ j, j < 256 → at256 E.sec n j = if j < 128 then now n else old n)
theorem KInv.crash {D : Dsk} {now old : Nat → Int} (h : KInv D now old) (nk : Nat) (kp : Nat → Bool) (tear : Int) : ∃ t, ∀ n, n < D.N → ReadIs (D.crash nk kp tear) now old t n := by
  have nd : (looseN D.N D.lo).Nodup := List.nodup_range.sublist (List.filter_sublist)
  have c := crash_is (looseN D.N D.lo) nd D.sec D.ob nk kp tear _ (Nat.le_refl _)
  obtain ⟨t, ht⟩ := c.some
  refine ⟨t, fun n hn => ?_⟩
  by_cases hl : D.lo n = true
  · have hm : n ∈ (looseN D.N D.lo).take (looseN D.N D.lo).length := by
      rw [List.take_length]
      unfold looseN
      exact List.mem_filter.2 ⟨List.mem_range.2 hn, hl⟩
    rcases ht n hm with g | g | ⟨q, g⟩
    · exact .inl fun j hj => (g j hj).trans (h.hnow n j hn hj)
    · exact .inr (.inl fun j hj => (g j hj).trans (h.hold n j hn hj hl))
    · refine .inr (.inr ⟨q, fun j hj => (g j hj).trans ?_⟩)
      unfold halfF
      rw [h.hnow n j hn hj, h.hold n j hn hj hl]
  · have hm : n ∉ (looseN D.N D.lo).take (looseN D.N D.lo).length := fun q => by
      rw [List.take_length] at q
      unfold looseN at q
      exact hl (List.mem_filter.1 q).2
    exact .inl fun j hj => (c.rest n hm j hj).trans (h.hnow n j hn hj)
end Go.Proofs.Ytoehbljnapdbgaa
