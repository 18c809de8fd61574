/-
  Walks, not a claim by itself: what Merge holds while it goes through the pairs. By the verifier.
-/
import Derived.Test.YtgpafmgncolnmaaMgCk
namespace Go.Proofs.Ytgpafmgncolnmaa
open Go.RowKit Go.Shelf
/-- Is a pair kept? -/
def keepP (drop : Bool) (x : PV) : Bool := !(drop && x.p.g)
/-- What holds behind k pairs: bs are the iterator's blocks. -/
structure MrI (U0 : World) (B1 D Ba Lb : Nat) (drop : Bool) (A : Option Addr) (L C : Nat) (os : List PV) (k : Nat) (bs : List Nat) (lv : Value) (qs : List PV) (W : World) : Prop where
  old : Below U0.heap.size U0 W
  cd : W.cell? ⟨D, 0, none⟩ = some (.bool drop)
  ca : W.cell? ⟨Ba, 0, none⟩ = some (.slice A L C)
  box : Rec19 W Lb 0 [lv]
  own : OwnP W 0 lv qs
  low : ∀ g, lv.ownBlock = some g → B1 ≤ g
  frs : ∀ x ∈ qs, FrC W B1 x.k x.p.k ∧ FrC W B1 x.v x.p.v
  oks : ∀ x ∈ qs, PVOk W lv.ownBlock.toList x
  map : qs.map PV.p = ((os.take k).filter (keepP drop)).map PV.p
  few : qs.length ≤ 5000
  sz : B1 ≤ W.heap.size
  bsl : ∀ b ∈ bs, B1 ≤ b ∧ b < W.heap.size ∧ lv.ownBlock ≠ some b
  apt : ∀ x ∈ qs, PVOk W bs x
/-- Where the boxes lie. -/
structure Plc (U0 : World) (B1 D Ba Lb : Nat) : Prop where
  d : U0.heap.size ≤ D ∧ D < B1
  a : U0.heap.size ≤ Ba ∧ Ba < B1
  l : U0.heap.size ≤ Lb ∧ Lb < B1
  da : D ≠ Lb ∧ Ba ≠ Lb
section
variable {U0 : World} {B1 D Ba Lb : Nat} {drop : Bool} {A : Option Addr} {L C : Nat} {os : List PV} {k : Nat} {bs : List Nat} {lv : Value} {qs : List PV} {W W' : World}
theorem MrI.cks (h : MrI U0 B1 D Ba Lb drop A L C os k bs lv qs W) (c : Cks W W') (hB : Below U0.heap.size W W') : MrI U0 B1 D Ba Lb drop A L C os k bs lv qs W' :=
  ⟨h.old.trans hB, c.cell h.cd, c.cell h.ca, h.box.cks c, h.own.cks c, h.low, fun x hx => ⟨(h.frs x hx).1.cks c, (h.frs x hx).2.cks c⟩, fun x hx => (h.oks x hx).cks c, h.map, h.few, Nat.le_trans h.sz c.size, fun b hb => ⟨(h.bsl b hb).1, Nat.lt_of_lt_of_le (h.bsl b hb).2.1 c.size, (h.bsl b hb).2.2⟩, fun x hx => (h.apt x hx).cks c⟩
theorem MrI.up (h : MrI U0 B1 D Ba Lb drop A L C os k bs lv qs W) (hP : Plc U0 B1 D Ba Lb) (hB : Below W.heap.size W W') : MrI U0 B1 D Ba Lb drop A L C os k bs lv qs W' := h.cks (Cks.below hB) (hB.mono (by have := h.sz; have := hP.d; omega))
theorem MrI.offB (h : MrI U0 B1 D Ba Lb drop A L C os k bs lv qs W) (hP : Plc U0 B1 D Ba Lb) (hO : Off bs W W') : MrI U0 B1 D Ba Lb drop A L C os k bs lv qs W' := by
  have n : ∀ b, b < B1 → b ∉ bs := fun b hb q => by have := (h.bsl b q).1; omega
  have hd := hP.d
  have ha := hP.a
  have hl := hP.l
  have sz := h.sz
  have fx : ∀ x ∈ qs, FrC W' B1 x.k x.p.k ∧ FrC W' B1 x.v x.p.v := fun x hx => ⟨(h.frs x hx).1.offT (h.apt x hx).1 hO, (h.frs x hx).2.offT (h.apt x hx).2 hO⟩
  refine ⟨h.old.trans (hO.below (fun b hb => by have := (h.bsl b hb).1; omega) (by omega)), (hO.cell (p := ⟨D, 0, none⟩) (by show D < _; omega) (n D hd.2)).trans h.cd, (hO.cell (p := ⟨Ba, 0, none⟩) (by show Ba < _; omega) (n Ba ha.2)).trans h.ca, h.box.off hO (n Lb hl.2), h.own.off hO (fun g hg q => (h.bsl g q).2.2 hg), h.low, fx, fun x hx => ⟨(h.oks x hx).1.both (h.apt x hx).1 hO, (h.oks x hx).2.both (h.apt x hx).2 hO⟩, h.map, h.few, Nat.le_trans sz hO.size, fun b hb => ⟨(h.bsl b hb).1, Nat.lt_of_lt_of_le (h.bsl b hb).2.1 hO.size, (h.bsl b hb).2.2⟩, fun x hx => (h.apt x hx).off hO⟩
theorem MrI.addB {nb : List Nat} (h : MrI U0 B1 D Ba Lb drop A L C os k bs lv qs W) (hP : Plc U0 B1 D Ba Lb) (hB : Below W.heap.size W W') (hn : ∀ b ∈ nb, W.heap.size ≤ b ∧ b < W'.heap.size) : MrI U0 B1 D Ba Lb drop A L C os k (nb ++ bs) lv qs W' := by
  have u := h.up hP hB
  have sz := h.sz
  refine ⟨u.old, u.cd, u.ca, u.box, u.own, u.low, u.frs, u.oks, u.map, u.few, u.sz, fun b hb => ?_, fun x hx => ?_⟩
  · rcases List.mem_append.1 hb with q | q
    · have := hn b q
      exact ⟨by omega, this.2, fun e => by have := (World.ownsRow.lt h.own _ e).2; omega⟩
    · exact u.bsl b q
  · have a := (h.apt x hx).mono (M := nb ++ bs) (fun b hb => by
      rcases List.mem_append.1 hb with q | q
      · exact .inr (hn b q).1
      · exact .inl q)
    exact a.below hB
theorem keep_more (drop : Bool) (l : List PV) (k : Nat) (x : PV) (h : l[k]? = some x) : ((l.take (k + 1)).filter (keepP drop)).map PV.p = ((l.take k).filter (keepP drop)).map PV.p ++ if keepP drop x then [x.p] else [] := by
  obtain ⟨hk, rfl⟩ := List.getElem?_eq_some_iff.1 h
  rw [List.take_succ_eq_append_getElem hk, List.filter_append, List.map_append]
  congr 1
  by_cases e : keepP drop l[k] = true <;> simp [e]
theorem MrI.skip {x : PV} (h : MrI U0 B1 D Ba Lb drop A L C os k bs lv qs W) (hx : os[k]? = some x) (hk : keepP drop x = false) : MrI U0 B1 D Ba Lb drop A L C os (k + 1) bs lv qs W := by
  refine ⟨h.old, h.cd, h.ca, h.box, h.own, h.low, h.frs, h.oks, ?_, h.few, h.sz, h.bsl, h.apt⟩
  rw [keep_more drop os k x hx, hk, h.map]
  simp
theorem mr_off {W5 W6 : World} {v6 : Value} {ps' : List PV} (hI : Insd W5 lv ps' v6 W6) : Off (Lb :: lv.ownBlock.toList) W5 (W6.setCell ⟨Lb, 0, none⟩ v6) := (hI.off.mono (fun b hb => List.mem_cons_of_mem _ hb)).trans (Off.set _ _ _ (by simp))
theorem MrI.step {v6 : Value} {W5 W6 : World} {y : PV} {H4 : Nat} (h : MrI U0 B1 D Ba Lb drop A L C os k bs lv qs W5) (hP : Plc U0 B1 D Ba Lb) (hI : Insd W5 lv (qs ++ [y]) v6 W6) (hF : FrC W5 H4 y.k y.p.k ∧ FrC W5 H4 y.v y.p.v) (hH : B1 ≤ H4 ∧ (∀ g, lv.ownBlock = some g → g < H4) ∧ (∀ b ∈ bs, b < H4) ∧ H4 ≤ W5.heap.size) (hN : os.length ≤ 4999) (hx : ∃ x, os[k]? = some x ∧ x.p = y.p ∧ keepP drop x = true) :
    MrI U0 B1 D Ba Lb drop A L C os (k + 1) bs v6 (qs ++ [y]) (W6.setCell ⟨Lb, 0, none⟩ v6) := by
  have O7 := mr_off (Lb := Lb) hI
  have hd := hP.d
  have ha := hP.a
  have hl := hP.l
  have sz := h.sz
  have lt5 : ∀ g, lv.ownBlock = some g → g < W5.heap.size := fun g hg => (World.ownsRow.lt h.own _ hg).2
  have inO : ∀ b, b ∈ Lb :: lv.ownBlock.toList → b = Lb ∨ (B1 ≤ b ∧ lv.ownBlock = some b) := fun b hb => by
    rcases List.mem_cons.1 hb with rfl | hb
    · exact .inl rfl
    · cases e : lv.ownBlock with
      | none => rw [e] at hb; cases hb
      | some g => rw [e] at hb; simp at hb; subst hb; exact .inr ⟨h.low _ e, rfl⟩
  have hB : Below U0.heap.size W5 (W6.setCell ⟨Lb, 0, none⟩ v6) := O7.below (fun b hb => by rcases inO b hb with rfl | q <;> omega) (by omega)
  have nb : ∀ b, b ≠ Lb → b < B1 → b ∉ Lb :: lv.ownBlock.toList := fun b h1 h2 hb => by rcases inO b hb with q | q <;> omega
  have nbs : ∀ b ∈ bs, b ∉ Lb :: lv.ownBlock.toList := fun b h1 hb => by
    have := h.bsl b h1
    rcases inO b hb with q | q
    · omega
    · exact this.2.2 q.2
  have low6 : ∀ g, v6.ownBlock = some g → B1 ≤ g := fun g hg => by
    rcases hI.blk g hg with q | q
    · exact h.low g q
    · omega
  have ok5 : ∀ x ∈ qs ++ [y], PVOk W5 (Lb :: lv.ownBlock.toList) x ∧ (FrC W5 B1 x.k x.p.k ∧ FrC W5 B1 x.v x.p.v) ∧ PVOk W5 bs x := fun x hx => by
    rcases List.mem_append.1 hx with hx | hx
    · have h1 := h.oks x hx
      have h2 := h.frs x hx
      exact ⟨⟨h1.1.cons (h2.1.txt (N := [Lb]) (by simp; omega)), h1.2.cons (h2.2.txt (N := [Lb]) (by simp; omega))⟩, h2, h.apt x hx⟩
    · rcases List.mem_singleton.1 hx with rfl
      have lt : ∀ b, b ∈ Lb :: lv.ownBlock.toList → b < H4 := fun b hb => by
        rcases inO b hb with q | q
        · omega
        · exact hH.2.1 b q.2
      exact ⟨⟨hF.1.txt lt, hF.2.txt lt⟩, ⟨hF.1.low hH.1, hF.2.low hH.1⟩, hF.1.txt hH.2.2.1, hF.2.txt hH.2.2.1⟩
  have n6 : ∀ b, b ∈ v6.ownBlock.toList → b ∈ Lb :: lv.ownBlock.toList ∨ W5.heap.size ≤ b := fun b hb => by
    cases e : v6.ownBlock with
    | none => rw [e] at hb; cases hb
    | some g =>
      rw [e] at hb
      simp at hb
      subst hb
      rcases hI.blk _ e with q | q
      · exact .inl (by rw [q]; simp)
      · exact .inr q
  obtain ⟨x, hx1, hx2, hx3⟩ := hx
  have hl2 : (qs ++ [y]).map PV.p = ((os.take (k + 1)).filter (keepP drop)).map PV.p := by rw [keep_more _ _ k x hx1, hx3, List.map_append, h.map, hx2]; rfl
  refine ⟨h.old.trans hB, (O7.cell (p := ⟨D, 0, none⟩) (by show D < _; omega) (nb D hP.da.1 hd.2)).trans h.cd, (O7.cell (p := ⟨Ba, 0, none⟩) (by show Ba < _; omega) (nb Ba hP.da.2 ha.2)).trans h.ca, ?_, hI.own.off (Off.set (bs := [Lb]) _ _ _ (by simp)) (fun g hg q => by have := low6 g hg; simp at q; omega), low6, fun x hx => ?_, fun x hx => ?_, hl2, ?_, Nat.le_trans sz O7.size, fun b hb => ⟨(h.bsl b hb).1, Nat.lt_of_lt_of_le (h.bsl b hb).2.1 O7.size, fun e => ?_⟩, fun x hx => (ok5 x hx).2.2.both (ok5 x hx).1 O7⟩
  · refine (h.box.off hI.off (fun hb => ?_)).put 0 v6
    cases e : lv.ownBlock with
    | none => rw [e] at hb; cases hb
    | some g => rw [e] at hb; simp at hb; have := h.low _ e; omega
  · have a := ok5 x hx
    exact ⟨a.2.1.1.offT a.1.1 O7, a.2.1.2.offT a.1.2 O7⟩
  · have a := (ok5 x hx).1
    exact (a.mono n6).both a O7
  · have e := congrArg List.length hl2
    have l1 := List.length_filter_le (keepP drop) (os.take (k + 1))
    simp only [List.length_map, List.length_take] at e l1
    omega
  · rcases hI.blk b e with q | q
    · exact (h.bsl b hb).2.2 q
    · have := (h.bsl b hb).2.1; omega
end
theorem PVOk.bothU {W W' : World} {N M : List Nat} {x : PV} (h : PVOk W M x) (k : PVOk W N x) (hO : Off N W W') : PVOk W' M x := ⟨h.1.both k.1 hO, h.2.both k.2 hO⟩
theorem counting_in (m : Nat) (A : Option Addr) (L C : Nat) (W : World) :
    CallsIn Fence.wide m Try.prog 33 #[.slice A L C] W fun e w' => e = .returned (.func (.func 44) #[] #[.pointer (some ⟨W.heap.size, 0, none⟩)]) ∧ w' = W.alloc (.cells #[.slice A L C] 22) := by
  refine callsIn_of_wp Try.func33 rfl trivial ?_ rfl
  simp only [Try.ntmps33, List.size_toArray, List.length_cons, List.length_nil, Nat.reduceAdd, Nat.reduceSub, Array.replicate_succ, Array.replicate_zero, List.push_toArray, List.append_toArray, List.nil_append, List.cons_append]
  gi_wp2
  go_ret
  exact ⟨rfl, rfl⟩
end Go.Proofs.Ytgpafmgncolnmaa
