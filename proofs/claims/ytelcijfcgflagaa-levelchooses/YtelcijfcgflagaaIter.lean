/-
  Laws, not a claim by itself: a range over a function that hands on two values a round. By the verifier.
-/
import Derived.Test.YtelcijfcgflagaaDReg
namespace Go.Proofs.Ytelcijfcgflagaa
open Go.RowKit Go.Shelf
attribute [local go_sem] Oper.semAt_some
/-- How the body of a round may be left. -/
def rndP (B : Nat) (I : Nat → World → Prop) (Ix : Code → World → Prop) (k : Nat) (W : World) : Exit → Act → World → Prop
  | .normal, _, W' => KeepsFrom B W W' ∧ I (k + 1) W'
  | .ret, _, W' => KeepsFrom B W W' ∧ Ix .ret W'
  | .exit id, _, W' => KeepsFrom B W W' ∧ Ix (.exit id) W'
  | _, _, _ => False
theorem But.putO (W : World) (l : Nat) (o : Obj) : But l W (W.putObj l o) := ⟨rfl, rfl, rfl, by simp [World.putObj], fun k _ hn => World.putObj_heap_other hn⟩
theorem keeps_but {B b : Nat} {W W' : World} (h : But b W W') (hb : b < B) : KeepsFrom B W W' := ⟨h.size, fun k _ hk ho _ => (h.block k (Array.getElem?_eq_some_iff.1 ho).1 (by omega)).trans ho⟩
theorem keeps_below {B : Nat} {W W' : World} (h : Below W.heap.size W W') : KeepsFrom B W W' := ⟨h.size, fun k _ _ ho _ => (h.block k (Array.getElem?_eq_some_iff.1 ho).1).trans ho⟩
theorem own_below {β : Type} {B : Nat} {I : β → World → Prop} (h : ∀ s W W', I s W → Below B W W' → I s W') (hs : ∀ s W, I s W → B ≤ W.heap.size) : OwnFrom B I := fun s W W' row hI hg hr =>
  h s W W' hI ⟨hg.os, hg.tape, hg.output, hg.size, fun k hk => hg.block k (Nat.lt_of_lt_of_le hk (hs s W hI)) (fun e => by have := (hr k e.symm).1; omega)⟩
/-- A range over a function, outside of every other such loop. -/
theorem range_iter {m : Nat} {gop : Operand} (p1 p2 : Tmp) {assign body : Code} {Q : Exit → Act → World → Prop} {a : Act} {w : World} (hm : 2 ≤ m) (gf : FuncId) (cap : Array Value) (N : Nat) (x1 x2 : Nat → Value)
    (hen : ∀ args V, (callFunc gf args).run Try.prog V = .ok (.enter gf args) V) (hg : a.eval gop = .func (.func gf) #[] cap) (I : Nat → World → Prop) (Ix : Code → World → Prop) (hIb : ∀ k W W', I k W → Below w.heap.size W W' → I k W') (hIs : ∀ k W, I k W → w.heap.size ≤ W.heap.size) (hIxb : ∀ k W W', Ix k W → Below w.heap.size W W' → Ix k W') (hIxs : ∀ k W, Ix k W → w.heap.size ≤ W.heap.size) (h0 : I 0 w)
    (hcall : ∀ (l : Nat) (J : Nat → World → Prop) (Jx : World → Prop), (∀ k W, J k W → I k W) → (∀ k W W', J k W → Below W.heap.size W W' → J k W') →
      (∀ k W, k < N → J k W → YieldAt Fence.wide (m - 1 - 1) Try.prog l #[x1 k, x2 k] W fun e W' => (e = .returned (.bool true) ∧ J (k + 1) W') ∨ (e = .returned (.bool false) ∧ Jx W')) →
      ∀ V, J 0 V → CallsIn Fence.wide (m - 1) Try.prog gf (#[.func (.yield l) #[] #[]] ++ cap) V fun e W' => (∃ v, e = .returned v) ∧ (J N W' ∨ Jx W'))
    (hround : ∀ (l k : Nat) (W : World), k < N → I k W → w.heap.size ≤ l → l < W.heap.size → assign.wpIn (Fence.wide.inRound l) (m - 1 - 1) Try.prog
      (Exit.then (fun a₁ W₁ => KeepsFrom w.heap.size W W₁ ∧ ∀ W₂, But l W₁ W₂ → W₂.heap.size = W₁.heap.size → body.wpIn (Fence.wide.inRound l) (m - 1 - 1) Try.prog (rndP w.heap.size I Ix k W₂) a₁ W₂) (fun _ _ _ => False))
      { tmps := (a.tmps.setIfInBounds p1 (x1 k)).setIfInBounds p2 (x2 k), defers := [] } W)
    (hdone : ∀ (D : Nat) (W : World), w.heap.size ≤ D → I N W → W.heap[D]? = some (.deferred (some [])) → Q .normal { a with defers := { target := .collected D, args := #[] } :: a.defers } W)
    (hstop : ∀ (D : Nat) (c : Code) (W : World), w.heap.size ≤ D → Ix c W → W.heap[D]? = some (.deferred (some [])) → c.wpIn Fence.wide m Try.prog Q { a with defers := { target := .collected D, args := #[] } :: a.defers } W) :
    (Code.rangeFunc gop #[p1, p2] assign body).wpIn Fence.wide m Try.prog Q a w := by
  have hI : OwnFrom w.heap.size I := own_below hIb hIs
  have hIx : OwnFrom w.heap.size Ix := own_below hIxb hIxs
  refine wpIn_rangeFunc fun fn hfn => ?_
  obtain ⟨rc, hrc⟩ : ∃ rc : LoopState → Option Code → Loop, rc = fun st pe => { state := st, pending := pe, fn, tmps := a.tmps, params := #[p1, p2], assign, body, defers := w.heap.size } := ⟨_, rfl⟩
  obtain ⟨V, hV⟩ : ∃ V, (w.alloc (.deferred (some []))).alloc (.loop (rc .ready none)) = V := ⟨_, rfl⟩
  have cL : V.heap[w.heap.size + 1]? = some (.loop (rc .ready none)) := by
    rw [← hV]
    have := World.alloc_heap_new (w.alloc (.deferred (some []))) (.loop (rc .ready none))
    rwa [World.size_alloc] at this
  have cD : V.heap[w.heap.size]? = some (.deferred (some [])) := by
    rw [← hV]
    exact (Below.heap_alloc _ _ _ (by simp)).trans (World.alloc_heap_new w _)
  have iV : I 0 V := by rw [← hV]; exact hI.alloc _ (hI.alloc _ h0)
  refine ⟨w.heap.size + 1, [{ target := .collected w.heap.size, args := #[] }], V, { target := .fn (.func gf) cap, args := #[.func (.yield (w.heap.size + 1)) #[] #[]] }, V, gf,
    #[.func (.yield (w.heap.size + 1)) #[] #[]] ++ cap, V, ?_, ?_, fun _ _ => trivial, ?_, fun _ => by omega, ?_⟩
  · rw [← hV, hrc]
    exact run_enterLoop_outer _ _ _ _ _
  · simp only [resolve, hg]
    simp [go_sem]
  · simp [invoke, go_sem, hen]
  · refine (hcall (w.heap.size + 1)
      (fun k W => I k W ∧ W.heap[w.heap.size + 1]? = some (.loop (rc .ready none)) ∧ W.heap[w.heap.size]? = some (.deferred (some [])))
      (fun W => ∃ c, Ix c W ∧ W.heap[w.heap.size + 1]? = some (.loop (rc .done (some c))) ∧ W.heap[w.heap.size]? = some (.deferred (some [])))
      (fun k W h => h.1) (fun k W W' h hb => ⟨hIb k W W' h.1 (hb.mono (hIs k W h.1)), (hb.block _ (Array.getElem?_eq_some_iff.1 h.2.1).1).trans h.2.1, (hb.block _ (Array.getElem?_eq_some_iff.1 h.2.2).1).trans h.2.2⟩) ?_ V ⟨iV, cL, cD⟩).mono ?_
    · rintro k W hkN ⟨hi, hl, hd⟩
      have lt : w.heap.size + 1 < W.heap.size := (Array.getElem?_eq_some_iff.1 hl).1
      have hy := run_yield (P := Try.prog) (args := #[x1 k, x2 k]) hl (by rw [hrc]; rfl)
      rw [hrc] at hy
      have hy2 : (Instr.yield (w.heap.size + 1) #[x1 k, x2 k]).run Try.prog W = .ok (.round (w.heap.size + 1) fn ((a.tmps.setIfInBounds p1 (x1 k)).setIfInBounds p2 (x2 k)) assign body) W := by
        rw [hy]
        simp
      refine ⟨fn, _, assign, body, hy2, roundIn_of_wpIn hfn (wpIn_mono (hround (w.heap.size + 1) k W hkN hi (by omega) lt) ?_)⟩
      intro e a₁ W₁ hE
      cases e with
      | normal =>
        obtain ⟨kf, hb⟩ := hE
        have hl1 := kf.same _ _ (by omega) hl rfl
        have hd1 := kf.same _ _ (Nat.le_refl _) hd rfl
        have hl2 := World.putObj_heap_same (w := W₁) (o := .loop { rc .ready none with state := .busy }) (Array.getElem?_eq_some_iff.1 hl1).1
        have hd2 : (W₁.putObj (w.heap.size + 1) (.loop { rc .ready none with state := .busy })).heap[w.heap.size]? = some (.deferred (some [])) := (World.putObj_heap_other (by omega)).trans hd1
        refine ⟨_, run_beginRound hl1 (by rw [hrc]), wpIn_mono (hb _ (But.putO W₁ _ _) (by simp [World.putObj])) ?_⟩
        have fin : ∀ (jump : Option Code) (W3 : World), KeepsFrom w.heap.size (W₁.putObj (w.heap.size + 1) (.loop { rc .ready none with state := .busy })) W3 →
            (Instr.endRound (w.heap.size + 1) jump).run Try.prog W3 = .ok (.bool jump.isNone) (W3.putObj (w.heap.size + 1) (.loop (rc (if jump.isNone then .ready else .done) jump))) ∧
            W3.heap[w.heap.size + 1]? = some (.loop { rc .ready none with state := .busy }) ∧
            (W3.putObj (w.heap.size + 1) (.loop (rc (if jump.isNone then .ready else .done) jump))).heap[w.heap.size + 1]? = some (.loop (rc (if jump.isNone then .ready else .done) jump)) ∧
            (W3.putObj (w.heap.size + 1) (.loop (rc (if jump.isNone then .ready else .done) jump))).heap[w.heap.size]? = some (.deferred (some [])) := fun jump W3 k3 => by
          have l3 := k3.same _ _ (by omega) hl2 rfl
          have r3 := run_endRound (P := Try.prog) jump l3
          rw [hrc] at r3 l3 ⊢
          exact ⟨r3, l3, World.putObj_heap_same (Array.getElem?_eq_some_iff.1 l3).1, (World.putObj_heap_other (by omega)).trans (k3.same _ _ (Nat.le_refl _) hd2 rfl)⟩
        intro e a3 W3 hp
        cases e with
        | normal =>
          obtain ⟨k3, i3⟩ := hp
          obtain ⟨r, l3, l4, d4⟩ := fin none W3 k3
          exact ⟨_, _, r, .inl ⟨rfl, hI.putObj _ i3 (by omega) l3 rfl, l4, d4⟩⟩
        | ret =>
          obtain ⟨k3, i3⟩ := hp
          obtain ⟨r, l3, l4, d4⟩ := fin (some .ret) W3 k3
          exact ⟨_, _, r, .inr ⟨rfl, .ret, hIx.putObj _ i3 (by omega) l3 rfl, l4, d4⟩⟩
        | exit id =>
          obtain ⟨k3, i3⟩ := hp
          obtain ⟨r, l3, l4, d4⟩ := fin (some (.exit id)) W3 k3
          exact ⟨_, _, r, .inr ⟨rfl, .exit id, hIx.putObj _ i3 (by omega) l3 rfl, l4, d4⟩⟩
        | goto t => exact hp.elim
        | panic ch => exact hp.elim
        | outgrown => exact hp.elim
      | _ => exact hE.elim
    · rintro e W2 ⟨⟨v, rfl⟩, (⟨hi, hl, hd⟩ | ⟨c, hi, hl, hd⟩)⟩
      · exact ⟨none, _, by have := run_endLoop (P := Try.prog) hl (by rw [hrc]; simp); rw [hrc] at this; exact this, hdone _ _ (Nat.le_refl _) (hI.putObj _ hi (by omega) hl rfl) ((World.putObj_heap_other (by omega)).trans hd)⟩
      · exact ⟨some c, _, by have := run_endLoop (P := Try.prog) hl (by rw [hrc]; simp); rw [hrc] at this; exact this, hstop _ c _ (Nat.le_refl _) (hIx.putObj _ hi (by omega) hl rfl) ((World.putObj_heap_other (by omega)).trans hd)⟩
end Go.Proofs.Ytelcijfcgflagaa
