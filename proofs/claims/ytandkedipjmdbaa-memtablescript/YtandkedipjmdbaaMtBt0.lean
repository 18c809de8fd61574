/-
  Walks, not a claim by itself: memtable's Between and All. By the verifier.
-/
import Derived.Test.YtandkedipjmdbaaMtBtw
namespace Go.Proofs.Ytandkedipjmdbaa
open Go.RowKit Go.Shelf
attribute [local go_sem] Oper.semAt_some
attribute [-go_sem] Builtin.append_
theorem app_run {a : Act} {w : World} {o : Oper} (d x : Operand) (dT sT : TypeId) (hop : o.op = Op.call { callee := Callee.builtin Builtin.append, args := #[d, x], argTypes := #[dT, sT] })
    (v u : Value) (hd : a.eval d = v) (hx : a.eval x = u) {v' : Value} {w' : World} (hr : (Builtin.append_ #[dT, sT] o.type #[v, u]).run Try.prog w = .ok v' w') : (execOp a.eval o).run Try.prog w = .ok (.value v') w' := by
  simp [execOp, hop, resolve, invoke, builtin, hd, hx, hr, Result.andThen]
theorem Fr.offT {W W' : World} {base : Nat} {s : Value} {t : ByteArray} {N : List Nat} (h : Fr W base s t) (k : Txt W N s t) (hO : Off N W W') : Fr W' base s t := by
  rcases h with h | ⟨g, F, hs, hb, h0, h1, h2, hR, ht, hF⟩
  · exact .inl h
  · have hg : g ∉ N := by
      obtain ⟨a, C, f, hs', _, _, hn⟩ := k
      rw [hs] at hs'
      injection hs' with ha
      exact hn h0 _ ha.symm
    have e := hsz_eq (hO.block g hR.2.2 hg)
    exact .inr ⟨g, F, by rw [e]; exact hs, hb, h0, by rw [e]; exact h1, by rw [e]; exact h2, by rw [e]; exact hR.off hO hg, ht, by rw [e]; exact hF⟩
theorem keeps_off {B : Nat} {W W' : World} {v : Value} {ps : List PV} (h : Off v.ownBlock.toList W W') (ho : OwnP W 0 v ps) : KeepsFrom B W W' := ⟨h.size, fun k o _ hk hc => (h.block k (Array.getElem?_eq_some_iff.1 hk).1 (fun q => by
  rcases ho.2 with ⟨hv, _⟩ | ⟨g, cap, cur, hv, _, hg, _⟩
  · rw [hv] at q; cases q
  · rw [hv] at q
    simp [Value.ownBlock] at q
    rw [q, hg] at hk
    injection hk with hk
    rw [← hk] at hc
    cases hc)).trans hk⟩
/-- Pairs of their own. -/
def FrP (W : World) (base : Nat) (x : PV) : Prop := Fr W base x.k x.p.k ∧ Fr W base x.v x.p.v
/-- What holds behind k rounds. -/
structure BtwI (W0 : World) (t : Nat) (fr to : Value) (f b : ByteArray) (ps : List PV) (k : Nat) (lv : Value) (os : List PV) (W : World) : Prop where
  old : Below W0.heap.size W0 W
  ct : W.cell? ⟨W0.heap.size + 1, 0, none⟩ = some (.pointer (some ⟨t, 0, none⟩))
  cf : W.cell? ⟨W0.heap.size + 2, 0, none⟩ = some fr
  co : W.cell? ⟨W0.heap.size + 3, 0, none⟩ = some to
  box : Rec19 W W0.heap.size 0 [lv]
  own : OwnP W 0 lv os
  low : ∀ g, lv.ownBlock = some g → W0.heap.size + 4 ≤ g
  frs : ∀ x ∈ os, FrP W (W0.heap.size + 4) x
  oks : ∀ x ∈ os, PVOk W lv.ownBlock.toList x
  map : os.map PV.p = ((outP ps f b).take k).map PV.p
  few : os.length ≤ 64
  sz : W0.heap.size + 4 ≤ W.heap.size
theorem BtwI.cks {W0 : World} {t : Nat} {fr to : Value} {f b : ByteArray} {ps : List PV} {k : Nat} {lv : Value} {os : List PV} {W W' : World} (h : BtwI W0 t fr to f b ps k lv os W) (c : Cks W W') (hB : Below W0.heap.size W W') : BtwI W0 t fr to f b ps k lv os W' :=
  ⟨h.old.trans hB, c.cell h.ct, c.cell h.cf, c.cell h.co, h.box.cks c, h.own.cks c, h.low, fun x hx => ⟨(h.frs x hx).1.cks c, (h.frs x hx).2.cks c⟩, fun x hx => (h.oks x hx).cks c, h.map, h.few, Nat.le_trans h.sz c.size⟩
theorem BtwI.up {W0 : World} {t : Nat} {fr to : Value} {f b : ByteArray} {ps : List PV} {k : Nat} {lv : Value} {os : List PV} {W W' : World} (h : BtwI W0 t fr to f b ps k lv os W) (hB : Below W.heap.size W W') : BtwI W0 t fr to f b ps k lv os W' := h.cks (Cks.below hB) (hB.mono (by have := h.sz; omega))
theorem BtwI.mem {W0 : World} {t : Nat} {v fr to : Value} {f b : ByteArray} {ps : List PV} {k : Nat} {lv : Value} {os : List PV} {W : World} (h : BtwI W0 t fr to f b ps k lv os W) (hT : Tab W0 t v ps) (hf : Txt W0 [] fr f) (ht : Txt W0 [] to b) : BtwM (W0.heap.size + 1) (W0.heap.size + 2) (W0.heap.size + 3) t v fr to f b ps W :=
  ⟨hT.below h.old, h.ct, h.cf, h.co, hf.below h.old, ht.below h.old⟩
theorem take_more (l : List PV) (k : Nat) (x : PV) (h : l[k]? = some x) : (l.take (k + 1)).map PV.p = (l.take k).map PV.p ++ [x.p] := by
  obtain ⟨hk, rfl⟩ := List.getElem?_eq_some_iff.1 h
  rw [List.take_succ_eq_append_getElem hk, List.map_append]
  rfl
theorem BtwI.step {W0 : World} {t : Nat} {fr to : Value} {f b : ByteArray} {ps : List PV} {k : Nat} {lv v6 : Value} {os : List PV} {W5 W6 : World} {y : PV} {H4 : Nat} (h : BtwI W0 t fr to f b ps k lv os W5) (hI : Insd W5 lv (os ++ [y]) v6 W6) (hF : Fr W5 H4 y.k y.p.k ∧ Fr W5 H4 y.v y.p.v) (hN : (outP ps f b).length ≤ 64) (hH : W0.heap.size + 4 ≤ H4 ∧ (∀ g, lv.ownBlock = some g → g < H4) ∧ H4 ≤ W5.heap.size) (hx : ∃ x, (outP ps f b)[k]? = some x ∧ x.p = y.p) :
    BtwI W0 t fr to f b ps (k + 1) v6 (os ++ [y]) (W6.setCell ⟨W0.heap.size, 0, none⟩ v6) := by
  have O7 : Off (W0.heap.size :: lv.ownBlock.toList) W5 (W6.setCell ⟨W0.heap.size, 0, none⟩ v6) := (hI.off.mono (fun b hb => List.mem_cons_of_mem _ hb)).trans (Off.set _ _ _ (by simp))
  have hB : Below W0.heap.size W5 (W6.setCell ⟨W0.heap.size, 0, none⟩ v6) := O7.below (fun b hb => by
    rcases List.mem_cons.1 hb with rfl | hb
    · exact Nat.le_refl _
    · cases e : lv.ownBlock with
      | none => rw [e] at hb; cases hb
      | some g => rw [e] at hb; simp at hb; subst hb; have := h.low _ e; omega) (by have := h.sz; omega)
  have nb : ∀ d, 1 ≤ d → d < 4 → W0.heap.size + d ∉ W0.heap.size :: lv.ownBlock.toList := fun d h1 h2 hb => by
    rcases List.mem_cons.1 hb with q | hb
    · omega
    · cases e : lv.ownBlock with
      | none => rw [e] at hb; cases hb
      | some g => rw [e] at hb; simp at hb; have := h.low _ e; omega
  have low6 : ∀ g, v6.ownBlock = some g → W0.heap.size + 4 ≤ g := fun g hg => by
    rcases hI.blk g hg with q | q
    · exact h.low g q
    · have := h.sz; omega
  have sz := h.sz
  have ok5 : ∀ x ∈ os ++ [y], PVOk W5 (W0.heap.size :: lv.ownBlock.toList) x ∧ FrP W5 (W0.heap.size + 4) x := fun x hx => by
    rcases List.mem_append.1 hx with hx | hx
    · have h1 := h.oks x hx
      have h2 := h.frs x hx
      refine ⟨⟨h1.1.cons (h2.1.txt (N := [W0.heap.size]) (by simp)), h1.2.cons (h2.2.txt (N := [W0.heap.size]) (by simp))⟩, h2⟩
    · rcases List.mem_singleton.1 hx with rfl
      have lt : ∀ b, b ∈ W0.heap.size :: lv.ownBlock.toList → b < H4 := fun b hb => by
        rcases List.mem_cons.1 hb with rfl | hb
        · omega
        · cases e : lv.ownBlock with
          | none => rw [e] at hb; cases hb
          | some g => rw [e] at hb; simp at hb; subst hb; exact hH.2.1 _ e
      exact ⟨⟨hF.1.txt lt, hF.2.txt lt⟩, hF.1.low hH.1, hF.2.low hH.1⟩
  have n6 : ∀ b, b ∈ v6.ownBlock.toList → b ∈ W0.heap.size :: lv.ownBlock.toList ∨ W5.heap.size ≤ b := fun b hb => by
    cases e : v6.ownBlock with
    | none => rw [e] at hb; cases hb
    | some g =>
      rw [e] at hb
      simp at hb
      subst hb
      rcases hI.blk _ e with q | q
      · exact .inl (by rw [q]; simp)
      · exact .inr q
  obtain ⟨x, hx1, hx2⟩ := hx
  have hl : (os ++ [y]).map PV.p = ((outP ps f b).take (k + 1)).map PV.p := by rw [take_more _ k x hx1, List.map_append, h.map, hx2]; rfl
  refine ⟨h.old.trans hB, (O7.cell (p := ⟨W0.heap.size + 1, 0, none⟩) (by show W0.heap.size + 1 < _; omega) (nb 1 (by omega) (by omega))).trans h.ct, (O7.cell (p := ⟨W0.heap.size + 2, 0, none⟩) (by show W0.heap.size + 2 < _; omega) (nb 2 (by omega) (by omega))).trans h.cf, (O7.cell (p := ⟨W0.heap.size + 3, 0, none⟩) (by show W0.heap.size + 3 < _; omega) (nb 3 (by omega) (by omega))).trans h.co, ?_, hI.own.off (Off.set (bs := [W0.heap.size]) _ _ _ (by simp)) (fun g hg q => by have := low6 g hg; simp at q; omega), low6, fun x hx => ?_, fun x hx => ?_, hl, ?_, Nat.le_trans sz O7.size⟩
  · refine (h.box.off hI.off (fun hb => ?_)).put 0 v6
    cases e : lv.ownBlock with
    | none => rw [e] at hb; cases hb
    | some g => rw [e] at hb; simp at hb; have := h.low _ e; omega
  · have a := ok5 x hx
    exact ⟨a.2.1.offT a.1.1 O7, a.2.2.offT a.1.2 O7⟩
  · have a := (ok5 x hx).1
    exact (a.mono n6).both a O7
  · have e := congrArg List.length hl
    simp only [List.length_map, List.length_take] at e
    omega
end Go.Proofs.Ytandkedipjmdbaa
