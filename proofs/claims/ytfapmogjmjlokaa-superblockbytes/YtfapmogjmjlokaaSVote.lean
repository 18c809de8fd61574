/-
  Notions and laws, not a claim by itself: votes in a map; what find has found. By the verifier.
-/
import Derived.Test.YtfapmogjmjlokaaSCop
import Derived.Test.YtfapmogjmjlokaaSVal
namespace Go.Proofs.Ytfapmogjmjlokaa
open Go.RowKit Go.Maps
/-- Bytes. -/
def Byt (f : Nat → Int) : Prop := ∀ j, j < 512 → 0 ≤ f j ∧ f j < 256
/-- The votes of the first k copies lie in a map. -/
def VotesOk (W : World) (mv : Nat) (G : Nat → Int) (k : Nat) : Prop := ∃ (D : DataW Unit) (n : Nat), W.ownsMap Try.prog 85 (plainElem Try.prog 3) mv n D ∧ n ≤ 1000 + 2 * k ∧ IsMap D ∧ ∀ f, Byt f → D.atKey (keyL f) (.lit (.int .i64 0)) = .lit (.int .i64 ((cnt G f k : Nat) : Int))
theorem VotesOk.lt {W : World} {mv : Nat} {G : Nat → Int} {k : Nat} (h : VotesOk W mv G k) : mv < W.heap.size := by
  obtain ⟨D, n, h, _⟩ := h
  exact h.lt
theorem VotesOk.same {W W' : World} {mv : Nat} {G : Nat → Int} {k : Nat} (h : VotesOk W mv G k) (e : W'.heap[mv]? = W.heap[mv]?) : VotesOk W' mv G k := by
  obtain ⟨D, n, ⟨es, clock, hb, r⟩, h2⟩ := h
  exact ⟨D, n, ⟨es, clock, e.trans hb, r⟩, h2⟩
theorem VotesOk.off {W W' : World} {bs : List Nat} {mv : Nat} {G : Nat → Int} {k : Nat} (h : VotesOk W mv G k) (hB : Off bs W W') (hm : mv ∉ bs) : VotesOk W' mv G k := h.same (hB.block mv h.lt hm)
theorem VotesOk.new (W : World) (G : Nat → Int) : VotesOk (W.alloc (.map #[] 0)) W.heap.size G 0 := ⟨.map [], 0, World.ownsMap_made W Try.prog _ _, by omega, isMap_empty, fun f _ => rfl⟩
theorem zero_int (u : World) : (zeroValue 3).run Try.prog u = .ok (.int .i64 0) u := by kernel_rfl
theorem cnt_congr (G : Nat → Int) {f g : Nat → Int} (h : ∀ j, j < 512 → f j = g j) : ∀ p, cnt G f p = cnt G g p
  | 0 => rfl
  | p + 1 => by
    have e : eqN 512 (cp G p) f = eqN 512 (cp G p) g := by
      rw [Bool.eq_iff_iff, eqN_iff, eqN_iff]
      exact ⟨fun q j hj => (q j hj).trans (h j hj), fun q j hj => (q j hj).trans (h j hj).symm⟩
    unfold cnt
    rw [cnt_congr G h p, e]
set_option maxRecDepth 100000 in
theorem look_of {W : World} {mv n c : Nat} {D : DataW Unit} (h1 : W.ownsMap Try.prog 85 (plainElem Try.prog 3) mv n D) {f : Nat → Int} (hf : Byt f) (h2 : D.atKey (keyL f) (.lit (.int .i64 0)) = .lit (.int .i64 (c : Int))) : (Instr.lookup 113 (.map (some mv)) (imgV f) false).run Try.prog W = .ok (.int .i64 (c : Int)) W := by
  obtain ⟨c', hr, hat, _⟩ := h1.lookup_int keyed_img Try.underlying113 Try.underlying3 (zero_int W) (key_img f hf)
  rw [h2] at hat
  rw [hr]
  have : (c' : Int) = c := by
    injection hat with hat
    injection hat with _ hat
    exact hat.symm
  rw [this]
/-- What is looked up of a copy. -/
theorem VotesOk.look {W : World} {mv : Nat} {G : Nat → Int} {k : Nat} (h : VotesOk W mv G k) {f : Nat → Int} (hf : Byt f) : (Instr.lookup 113 (.map (some mv)) (imgV f) false).run Try.prog W = .ok (.int .i64 ((cnt G f k : Nat) : Int)) W := by
  obtain ⟨D, n, h1, _, _, h2⟩ := h
  exact look_of h1 hf (h2 f hf)
theorem wf_nat (i : Nat) (h : i < 1000) : (Lit.int .i64 (i : Int)).wf = true := wf_i64 i (by omega)
set_option maxRecDepth 100000 in
/-- A copy is counted: an entry is asked for, looked up before or behind that, and stored. -/
theorem VotesOk.bump {W : World} {mv : Nat} {G : Nat → Int} {k : Nat} (h : VotesOk W mv G k) (hf : Byt (cp G k)) (hk : k < 4) :
    ∃ (v0 : Value) (st : Nat) (w1 w3 : World), (Instr.mapEntry 113 (.map (some mv)) (imgV (cp G k))).run Try.prog W = .ok (.tuple #[v0, goInt st]) w1 ∧
      (Instr.lookup 113 (.map (some mv)) (imgV (cp G k)) false).run Try.prog w1 = .ok (.int .i64 ((cnt G (cp G k) k : Nat) : Int)) w1 ∧
      (Instr.entryStore 113 (.map (some mv)) (goInt st) (.int .i64 ((cnt G (cp G k) k : Nat) + 1 : Int))).run Try.prog w1 = .ok () w3 ∧ VotesOk w3 mv G (k + 1) ∧ W.grownBy w1 (some mv) ∧ W.grownBy w3 (some mv) := by
  have hl := h.look hf
  have hc := cnt_le G (cp G k) k
  obtain ⟨D, n, h1, hn, hD, h2⟩ := h
  obtain ⟨v0, st, w1, e1, e2, e3, e4⟩ := entry_law keyed_img Try.underlying113 zero_int h1 (key_img _ hf)
  rw [hl] at e2
  injection e2 with e2
  subst e2
  obtain ⟨w1', u1, o1, g1⟩ := h1.update keyed_img Try.underlying113 (by unfold maxLen; omega) (key_img _ hf) (plainElem_int Try.underlying3 (wf_nat (cnt G (cp G k) k) (by omega)))
  rw [e3] at u1
  injection u1 with _ u1
  subst u1
  obtain ⟨w3, s1, s2⟩ := e4 (.int .i64 ((cnt G (cp G k) k : Nat) + 1 : Int))
  obtain ⟨w3', u3, o3, g3⟩ := o1.update keyed_img Try.underlying113 (by unfold maxLen; omega) (key_img _ hf) (plainElem_int Try.underlying3 (a := ((cnt G (cp G k) k : Nat) + 1 : Int)) (by have := wf_nat (cnt G (cp G k) k + 1) (by omega); rwa [show ((cnt G (cp G k) k + 1 : Nat) : Int) = ((cnt G (cp G k) k : Nat) : Int) + 1 by omega] at this))
  rw [s2] at u3
  injection u3 with _ u3
  subst u3
  have kk := keyed_img.key (key_img _ hf)
  have V1 : ∀ f, Byt f → (D.put (keyL (cp G k)) (.lit (.int .i64 ((cnt G (cp G k) k : Nat) : Int)))).atKey (keyL f) (.lit (.int .i64 0)) = .lit (.int .i64 ((cnt G f k : Nat) : Int)) := fun f hb => by
    by_cases q : keyL f = keyL (cp G k)
    · rw [q, atKey_put_same hD kk]
      rw [cnt_congr G (fun j hj => keyL_inj hb hf q j hj) k]
    · rw [atKey_put_other q]
      exact h2 f hb
  refine ⟨_, st, w1, w3, e1, ?_, s1, ⟨_, _, o3, by omega, (hD.put _ _).put _ _, fun f hb => ?_⟩, g1, g1.trans g3⟩
  · exact look_of o1 hf (V1 _ hf)
  · by_cases q : keyL f = keyL (cp G k)
    · have ef := keyL_inj hb hf q
      rw [q, atKey_put_same (hD.put _ _) kk]
      have : cnt G f (k + 1) = cnt G (cp G k) k + 1 := by
        show cnt G f k + (if eqN 512 (cp G k) f = true then 1 else 0) = _
        rw [if_pos ((eqN_iff _ _ _).2 (fun j hj => (ef j hj).symm)), cnt_congr G ef k]
      rw [this]
      rfl
    · rw [atKey_put_other q, V1 f hb]
      have : cnt G f (k + 1) = cnt G f k := by
        show cnt G f k + (if eqN 512 (cp G k) f = true then 1 else 0) = _
        rw [if_neg (fun g => q (keyL_congr (fun j hj => ((eqN_iff _ _ _).1 g j hj).symm)))]
        rfl
      rw [this]
end Go.Proofs.Ytfapmogjmjlokaa
