/-
  Walks, not a claim by itself: what Cut holds while it goes through the parts. By the verifier.
-/
import Derived.Test.YtgpafmgncolnmaaMgCh
namespace Go.Proofs.Ytgpafmgncolnmaa
open Go.RowKit Go.Shelf
/-- A block lies between. -/
def Seg (a b g : Nat) : Prop := a ≤ g ∧ g < b
/-- A list that may be written over: all of it lies between. -/
def OvP (W : World) (a b : Nat) (x : LV) : Prop := x.ps ≠ [] → ∃ L, x.a = some ⟨L, 0, none⟩ ∧ Seg a b L ∧ Rec19 W L 0 (pcs x.ps) ∧ ∀ y ∈ x.ps, OvS W (Seg a b) L y.k ∧ OvS W (Seg a b) L y.v
theorem OvS.same {W W' : World} {S : Nat → Prop} {L : Nat} {s : Value} (h : OvS W S L s) (e : ∀ g, S g → g < W.heap.size → W'.heap[g]? = W.heap[g]?) (hs : W.heap.size ≤ W'.heap.size) : OvS W' S L s := by
  rcases h with h | ⟨g, n, F, h1, h2, h3, h4, h5, hR⟩
  · exact .inl h
  · have q := e g h2 hR.2.2
    have z : hsz W' g = hsz W g := hsz_eq q
    refine .inr ⟨g, n, F, by rw [z]; exact h1, h2, h3, by rw [z]; exact h4, by rw [z]; exact h5, ⟨fun j hj => ?_, fun j => ?_, Nat.lt_of_lt_of_le hR.2.2 hs⟩⟩
    · rw [z] at hj
      exact (World.cell?_of_block (w := W) (a := ⟨g, j, none⟩) q).trans (hR.1 j hj)
    · exact (World.frozen?_of_block (w := W) (a := ⟨g, j, none⟩) q).trans (hR.2.1 j)
theorem OvP.same {W W' : World} {a b : Nat} {x : LV} (h : OvP W a b x) (e : ∀ g, Seg a b g → g < W.heap.size → W'.heap[g]? = W.heap[g]?) (hs : W.heap.size ≤ W'.heap.size) : OvP W' a b x := fun hne => by
  obtain ⟨L, h1, h2, h3, h4⟩ := h hne
  exact ⟨L, h1, h2, h3.same (e L h2 h3.2.2) hs, fun y hy => ⟨(h4 y hy).1.same e hs, (h4 y hy).2.same e hs⟩⟩
/-- Lists lie one behind the other, apart from v's block. -/
def Ivs (B1 : Nat) (v : Value) (os : List LV) (W : World) : Prop := ∃ lo hi : Nat → Nat, (∀ i x, os[i]? = some x → OvP W (lo i) (hi i) x ∧ B1 ≤ lo i ∧ hi i ≤ W.heap.size) ∧ (∀ i j, i < j → j < os.length → hi i ≤ lo j) ∧ (∀ g, v.ownBlock = some g → ∀ i, i < os.length → ¬ Seg (lo i) (hi i) g)
theorem Ivs.nil (B1 : Nat) (v : Value) (W : World) : Ivs B1 v [] W := ⟨fun _ => 0, fun _ => 0, fun i x h => (by cases h), fun i j _ h => (by cases h), fun _ _ i h => (by cases h)⟩
theorem Ivs.same {B1 : Nat} {v : Value} {os : List LV} {W W' : World} (h : Ivs B1 v os W) (e : ∀ g, B1 ≤ g → g < W.heap.size → v.ownBlock ≠ some g → W'.heap[g]? = W.heap[g]?) (hs : W.heap.size ≤ W'.heap.size) : Ivs B1 v os W' := by
  obtain ⟨lo, hi, h1, h2, h3⟩ := h
  refine ⟨lo, hi, fun i x hx => ?_, h2, h3⟩
  have li := (List.getElem?_eq_some_iff.1 hx).1
  obtain ⟨a1, a2, a3⟩ := h1 i x hx
  exact ⟨a1.same (fun g hg hl => e g (Nat.le_trans a2 hg.1) hl (fun q => h3 g q i li hg)) hs, a2, Nat.le_trans a3 hs⟩
theorem Ivs.step {B1 H4 H5 Pb : Nat} {v v6 : Value} {os : List LV} {y : LV} {W4 W5 W6 W7 : World} (h : Ivs B1 v os W4) (h4 : W4.heap.size = H4) (h5 : W5.heap.size = H5) (hB : Below W4.heap.size W4 W5) (hB6 : Below W5.heap.size W5 W6) (hy : OvP W5 H4 H5 y) (hI : InsL W6 v (os ++ [y]) v6 W7) (hP : Pb < B1) (hB1 : B1 ≤ W4.heap.size) (ho : ∀ g, v.ownBlock = some g → g < W4.heap.size) (u : Value) : Ivs B1 v6 (os ++ [y]) (W7.setCell ⟨Pb, 0, none⟩ u) := by
  obtain ⟨lo, hi, h1, h2, h3⟩ := h
  have O7 : Off (Pb :: v.ownBlock.toList) W6 (W7.setCell ⟨Pb, 0, none⟩ u) := (hI.off.mono (fun b hb => List.mem_cons_of_mem _ hb)).trans (Off.set _ _ _ (by simp))
  have s45 := hB.size
  have s56 := hB6.size
  have s67 := O7.size
  have no : ∀ g, B1 ≤ g → v.ownBlock ≠ some g → g ∉ Pb :: v.ownBlock.toList := fun g hg hn q => by
    rcases List.mem_cons.1 q with q | q
    · omega
    · cases e : v.ownBlock with
      | none => rw [e] at q; cases q
      | some b => rw [e] at q; simp at q; subst q; exact hn e
  refine ⟨fun i => if i = os.length then H4 else lo i, fun i => if i = os.length then H5 else hi i, fun i x hx => ?_, fun i j hij hj => ?_, fun g hg i hi' => ?_⟩
  · dsimp only
    by_cases e : i = os.length
    · subst e
      rw [List.getElem?_append_right (Nat.le_refl _)] at hx
      simp at hx
      subst hx
      simp only [if_true]
      refine ⟨hy.same (fun g hg hl => (O7.block g (by omega) (no g (by have := hg.1; omega) (fun q => by have := ho g q; have := hg.1; omega))).trans (hB6.block g (by omega))) (by omega), by omega, by omega⟩
    · have li := (List.getElem?_eq_some_iff.1 hx).1
      rw [List.length_append, List.length_singleton] at li
      rw [List.getElem?_append_left (by omega)] at hx
      rw [if_neg e, if_neg e]
      obtain ⟨a1, a2, a3⟩ := h1 i x hx
      exact ⟨a1.same (fun g hg hl => (O7.block g (by omega) (no g (by have := hg.1; omega) (fun q => h3 g q i (by omega) hg))).trans ((hB6.block g (by omega)).trans (hB.block g (by omega)))) (by omega), a2, by omega⟩
  · dsimp only
    rw [List.length_append, List.length_singleton] at hj
    by_cases e : j = os.length
    · rw [if_pos e, if_neg (by omega)]
      obtain ⟨x, hx⟩ : ∃ x, os[i]? = some x := ⟨_, List.getElem?_eq_getElem (by omega)⟩
      have := (h1 i x hx).2.2
      omega
    · rw [if_neg e, if_neg (by omega)]
      exact h2 i j hij (by omega)
  · rw [List.length_append, List.length_singleton] at hi'
    intro q
    dsimp only at q
    by_cases e : i = os.length
    · rw [if_pos e, if_pos e] at q
      have a := q.1
      have b := q.2
      rcases hI.blk g hg with z | z
      · have := ho g z; omega
      · omega
    · rw [if_neg e, if_neg e] at q
      rcases hI.blk g hg with z | z
      · exact h3 g z i (by omega) q
      · obtain ⟨x, hx⟩ : ∃ x, os[i]? = some x := ⟨_, List.getElem?_eq_getElem (by omega)⟩
        have a := (h1 i x hx).2.2
        have b := q.2
        omega
/-- What is cut, of pairs alone. -/
def cutD (l : List Pr) (m : Nat) : List (List Pr) := (List.range (ckN l.length m)).map fun k => (l.drop (k * m)).take m
/-- What holds behind k parts. -/
structure CuI (U0 : World) (B1 Bs Bn Pb : Nat) (a : Option Addr) (C m : Nat) (ps : List PV) (k : Nat) (v : Value) (os : List LV) (W : World) : Prop where
  old : Below U0.heap.size U0 W
  cs : W.cell? ⟨Bs, 0, none⟩ = some (.slice a ps.length C)
  cn : W.cell? ⟨Bn, 0, none⟩ = some (.int .i64 (m : Int))
  box : Rec19 W Pb 0 [v]
  own : OwnLs W 0 v os
  low : ∀ g, v.ownBlock = some g → B1 ≤ g
  oks : ∀ x ∈ os, LokN W v.ownBlock.toList x
  prs : prs os = (cutD (ps.map PV.p) m).take k
  len : os.length = k
  sz : B1 ≤ W.heap.size
  iv : Ivs B1 v os W
structure PlcC (U0 : World) (B1 Bs Bn Pb : Nat) : Prop where
  s : U0.heap.size ≤ Bs ∧ Bs < B1
  n : U0.heap.size ≤ Bn ∧ Bn < B1
  p : U0.heap.size ≤ Pb ∧ Pb < B1
  d : Bs ≠ Pb ∧ Bn ≠ Pb
section
variable {U0 : World} {B1 Bs Bn Pb : Nat} {a : Option Addr} {C m : Nat} {ps : List PV} {k : Nat} {v : Value} {os : List LV} {W W' : World}
theorem LokN.cks {W W' : World} {N : List Nat} {x : LV} (h : LokN W N x) (c : Cks W W') : LokN W' N x := ⟨fun y hy => (h.1 y hy).cks c, fun hne => by
  obtain ⟨b, off, ha, hn, hr, hb⟩ := h.2.1 hne
  exact ⟨b, off, ha, hn, fun j v hj => c.cell (hr j v hj), Nat.lt_of_lt_of_le hb c.size⟩, h.2.2⟩
theorem OwnLs.cks {w u : World} {base : Nat} {v : Value} {ls : List LV} (h : OwnLs w base v ls) (k : Cks w u) : OwnLs u base v ls := by
  refine ⟨h.1, ?_⟩
  rcases h.2 with h0 | ⟨g, cap, cur, rfl, hb, hg, rest⟩
  · exact .inl h0
  · exact .inr ⟨g, cap, cur, rfl, hb, k.block g _ hg rfl, rest⟩
theorem row_cks {W W' : World} {g N : Nat} {F : Nat → Int} (hR : IRow W g .u8 N F) (c : Cks W W') (hN : 0 < N) : W'.heap[g]? = W.heap[g]? := by
  obtain ⟨o, ho, hc⟩ := cell_cells (hR.1 0 hN)
  exact (c.block g o ho hc).trans ho.symm
theorem OvS.cks {W W' : World} {S : Nat → Prop} {L : Nat} {s : Value} (h : OvS W S L s) (c : Cks W W') : OvS W' S L s := by
  rcases h with h | ⟨g, n, F, h1, h2, h3, h4, h5, hR⟩
  · exact .inl h
  · by_cases h0 : hsz W g = 0
    · refine .inl (.inr ⟨⟨g, 0, none⟩, ?_⟩)
      rw [h1, h0, show n = 0 by omega]
    · have q := row_cks hR c (by omega)
      have z : hsz W' g = hsz W g := hsz_eq q
      refine .inr ⟨g, n, F, by rw [z]; exact h1, h2, h3, by rw [z]; exact h4, by rw [z]; exact h5, ⟨fun j hj => ?_, fun j => ?_, Nat.lt_of_lt_of_le hR.2.2 c.size⟩⟩
      · rw [z] at hj
        exact c.cell (hR.1 j hj)
      · exact (World.frozen?_of_block (w := W) (a := ⟨g, j, none⟩) q).trans (hR.2.1 j)
theorem Ivs.cks {B1 : Nat} {v : Value} {os : List LV} (h : Ivs B1 v os W) (c : Cks W W') : Ivs B1 v os W' := by
  obtain ⟨lo, hi, h1, h2, h3⟩ := h
  refine ⟨lo, hi, fun i x hx => ?_, h2, h3⟩
  obtain ⟨a1, a2, a3⟩ := h1 i x hx
  refine ⟨fun hne => ?_, a2, Nat.le_trans a3 c.size⟩
  obtain ⟨L, q1, q2, q3, q4⟩ := a1 hne
  exact ⟨L, q1, q2, q3.cks c, fun y hy => ⟨(q4 y hy).1.cks c, (q4 y hy).2.cks c⟩⟩
theorem CuI.cks (h : CuI U0 B1 Bs Bn Pb a C m ps k v os W) (c : Cks W W') (hB : Below U0.heap.size W W') : CuI U0 B1 Bs Bn Pb a C m ps k v os W' :=
  ⟨h.old.trans hB, c.cell h.cs, c.cell h.cn, h.box.cks c, h.own.cks c, h.low, fun x hx => (h.oks x hx).cks c, h.prs, h.len, Nat.le_trans h.sz c.size, h.iv.cks c⟩
theorem CuI.up (h : CuI U0 B1 Bs Bn Pb a C m ps k v os W) (hP : PlcC U0 B1 Bs Bn Pb) (hB : Below W.heap.size W W') : CuI U0 B1 Bs Bn Pb a C m ps k v os W' := h.cks (Cks.below hB) (hB.mono (by have := h.sz; have := hP.s; omega))
theorem take_pr {l : List (List Pr)} {k : Nat} {x : List Pr} (h : l[k]? = some x) : l.take (k + 1) = l.take k ++ [x] := by
  obtain ⟨hk, rfl⟩ := List.getElem?_eq_some_iff.1 h
  rw [List.take_succ_eq_append_getElem hk]
theorem CuI.step {v6 : Value} {W4 W5 W6 W7 : World} {y : LV} (h : CuI U0 B1 Bs Bn Pb a C m ps k v os W4) (hP : PlcC U0 B1 Bs Bn Pb) (hB : Below W4.heap.size W4 W5) (hB6 : Below W5.heap.size W5 W6) (hy : OvP W5 W4.heap.size W5.heap.size y) (hyl : LokN W5 v.ownBlock.toList y) (hyp : LokN W5 [Pb] y) (hI : InsL W6 v (os ++ [y]) v6 W7) (hx : (cutD (ps.map PV.p) m)[k]? = some (y.ps.map PV.p)) :
    CuI U0 B1 Bs Bn Pb a C m ps (k + 1) v6 (os ++ [y]) (W7.setCell ⟨Pb, 0, none⟩ v6) := by
  have dB : Below W4.heap.size W4 W6 := hB.trans (hB6.mono hB.size)
  have h6 := h.up hP dB
  have O7 : Off (Pb :: v.ownBlock.toList) W6 (W7.setCell ⟨Pb, 0, none⟩ v6) := (hI.off.mono (fun b hb => List.mem_cons_of_mem _ hb)).trans (Off.set _ _ _ (by simp))
  have hs := hP.s
  have hn := hP.n
  have hp := hP.p
  have sz := h6.sz
  have inO : ∀ b, b ∈ Pb :: v.ownBlock.toList → b = Pb ∨ (B1 ≤ b ∧ v.ownBlock = some b) := fun b hb => by
    rcases List.mem_cons.1 hb with rfl | hb
    · exact .inl rfl
    · cases e : v.ownBlock with
      | none => rw [e] at hb; cases hb
      | some g => rw [e] at hb; simp at hb; subst hb; exact .inr ⟨h.low _ e, rfl⟩
  have hBB : Below U0.heap.size W6 (W7.setCell ⟨Pb, 0, none⟩ v6) := O7.below (fun b hb => by rcases inO b hb with rfl | q <;> omega) (by omega)
  have nb : ∀ b, b ≠ Pb → b < B1 → b ∉ Pb :: v.ownBlock.toList := fun b h1 h2 hb => by rcases inO b hb with q | q <;> omega
  have low6 : ∀ g, v6.ownBlock = some g → B1 ≤ g := fun g hg => by
    rcases hI.blk g hg with q | q
    · exact h.low g q
    · omega
  have n6 : ∀ b, b ∈ v6.ownBlock.toList → b ∈ Pb :: v.ownBlock.toList ∨ W6.heap.size ≤ b := fun b hb => by
    cases e : v6.ownBlock with
    | none => rw [e] at hb; cases hb
    | some g =>
      rw [e] at hb
      simp at hb
      subst hb
      rcases hI.blk _ e with q | q
      · exact .inl (by rw [q]; simp)
      · exact .inr q
  refine ⟨h6.old.trans hBB, (O7.cell (p := ⟨Bs, 0, none⟩) (by show Bs < _; omega) (nb Bs hP.d.1 hs.2)).trans h6.cs, (O7.cell (p := ⟨Bn, 0, none⟩) (by show Bn < _; omega) (nb Bn hP.d.2 hn.2)).trans h6.cn, ?_, hI.own.off (Off.set (bs := [Pb]) _ _ _ (by simp)) (fun g hg q => by have := low6 g hg; simp at q; omega), low6, fun x hx => ?_, ?_, by simp [h.len], Nat.le_trans sz O7.size, h.iv.step rfl rfl hB hB6 hy hI hp.2 h.sz (fun g hg => (World.ownsRow.lt h.own _ hg).2) v6⟩
  · refine (h6.box.off hI.off (fun hb => ?_)).put 0 v6
    cases e : v.ownBlock with
    | none => rw [e] at hb; cases hb
    | some g => rw [e] at hb; simp at hb; have := h.low _ e; omega
  · have c2 : ∀ z : LV, LokN W6 v.ownBlock.toList z → LokN W6 [Pb] z → LokN W6 (Pb :: v.ownBlock.toList) z := fun z h1 h2 => ⟨fun w hw => ⟨(h1.1 w hw).1.cons (h2.1 w hw).1, (h1.1 w hw).2.cons (h2.1 w hw).2⟩, fun hne => by
      obtain ⟨b, off, ha, hn', hr, hb⟩ := h1.2.1 hne
      obtain ⟨b2, off2, ha2, hn2, _, _⟩ := h2.2.1 hne
      rw [ha] at ha2
      injection ha2 with ha2
      injection ha2 with hb2
      subst hb2
      exact ⟨b, off, ha, fun q => (List.mem_cons.1 q).elim (fun q => hn2 (by simp [q])) hn', hr, hb⟩, h1.2.2⟩
    have a : LokN W6 (Pb :: v.ownBlock.toList) x := by
      rcases List.mem_append.1 hx with hx | hx
      · refine c2 x (h6.oks x hx) ?_
        obtain ⟨i, hi⟩ := List.getElem?_of_mem hx
        obtain ⟨lo, hi', q1, q2, q3⟩ := h6.iv
        obtain ⟨r1, r2, r3⟩ := q1 i x hi
        have ov : ∀ (N : List Nat) (s : Value) (t : ByteArray) (L : Nat), OvS W6 (Seg (lo i) (hi' i)) L s → Txt W6 N s t → Txt W6 [Pb] s t := fun N s t L ho ht => by
          obtain ⟨ta, tC, tf, e1, e2, e3, e4⟩ := ht
          refine ⟨ta, tC, tf, e1, e2, e3, fun h0 q hq hm => ?_⟩
          rcases ho with (ho | ⟨z, ho⟩) | ⟨g, n, F, ho, hg, _⟩
          · rw [e1] at ho; injection ho with _ ho; omega
          · rw [e1] at ho; injection ho with _ ho; omega
          · rw [e1] at ho
            injection ho with ho
            rw [hq] at ho
            injection ho with ho
            subst ho
            have := hg.1
            simp at hm
            omega
        by_cases hne : x.ps = []
        · exact ⟨fun w hw => (by rw [hne] at hw; cases hw), fun q => absurd hne q, (h6.oks x hx).2.2⟩
        · obtain ⟨L, e1, e2, e3, e4⟩ := r1 hne
          refine ⟨fun w hw => ⟨ov _ _ _ L (e4 w hw).1 ((h6.oks x hx).1 w hw).1, ov _ _ _ L (e4 w hw).2 ((h6.oks x hx).1 w hw).2⟩, fun _ => ⟨L, 0, e1, fun q => by have := e2.1; simp at q; omega, e3.1, e3.2.2⟩, (h6.oks x hx).2.2⟩
      · rcases List.mem_singleton.1 hx with rfl
        exact c2 x (hyl.below hB6) (hyp.below hB6)
    exact (a.mono n6).bothL a O7
  · rw [take_pr hx, ← h.prs]
    simp [Go.Proofs.Ytgpafmgncolnmaa.prs]
end
theorem cutD_at (ps : List PV) (m k : Nat) (hk : k < ckN ps.length m) : (cutD (ps.map PV.p) m)[k]? = some (((ps.drop (k * m)).take m).map PV.p) := by
  unfold cutD
  rw [List.getElem?_map, List.getElem?_range (by rw [List.length_map]; exact hk)]
  simp [List.map_take, List.map_drop]
theorem cutD_len (ps : List PV) (m : Nat) : (cutD (ps.map PV.p) m).length = ckN ps.length m := by unfold cutD; simp
/-- A part of a list reads so. -/
theorem lst_part {W : World} {b o : Nat} {ps : List PV} (h : Lst W (some ⟨b, o, none⟩) ps) (i m : Nat) : Lst W (some ⟨b, o + i * 3, none⟩) ((ps.drop i).take m) := by
  refine ⟨fun x hx => h.1 x (List.mem_of_mem_drop (List.mem_of_mem_take hx)), fun hne => ?_⟩
  obtain ⟨b', o', ha, hr, hb⟩ := h.2 (fun q => by rw [q] at hne; simp at hne)
  injection ha with ha
  injection ha with h1 h2
  subst h1 h2
  refine ⟨b, o + i * 3, rfl, fun j v hj => ?_, hb⟩
  rw [← pcs_take, ← pcs_drop, List.getElem?_take] at hj
  split at hj
  · rw [List.getElem?_drop] at hj
    have := hr (i * 3 + j) v hj
    rwa [← Nat.add_assoc] at this
  · cases hj
end Go.Proofs.Ytgpafmgncolnmaa
