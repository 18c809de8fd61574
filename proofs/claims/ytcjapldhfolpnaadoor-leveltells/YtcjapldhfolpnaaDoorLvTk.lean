/-
  Walks, not a claim by itself: what is told is written over; what the references' Add answers, in two cases. By the verifier.
-/
import Derived.Test.YtcjapldhfolpnaaDoorLvNs
namespace Go.Proofs.YtcjapldhfolpnaaDoor
open Go.RowKit
attribute [-go_sem] Builtin.append_
theorem Rec19.same {W W' : World} {n o : Nat} {cs : List Value} (h : Rec19 W n o cs) (e : W'.heap[n]? = W.heap[n]?) (hs : W.heap.size ≤ W'.heap.size) : Rec19 W' n o cs :=
  ⟨fun j v hj => (World.cell?_of_block (w := W) (a := ⟨n, o + j, none⟩) e).trans (h.1 j v hj), fun j hj => by rw [World.cell?_of_block (w := W) (a := ⟨n, o + j, none⟩) e, World.frozen?_of_block (w := W) (a := ⟨n, o + j, none⟩) e]; exact h.2.1 j hj, Nat.lt_of_lt_of_le h.2.2 hs⟩
theorem OwnR.same {w u : World} {base : Nat} {v : Value} {ps : List RV} (h : OwnR w base v ps) (e : ∀ b, v.ownBlock = some b → u.heap[b]? = w.heap[b]?) : OwnR u base v ps := by
  refine ⟨h.1, ?_⟩
  rcases h.2 with h0 | ⟨g, cap, cur, rfl, hb, hg, rest⟩
  · exact .inl h0
  · exact .inr ⟨g, cap, cur, rfl, hb, (e g rfl).trans hg, rest⟩
/-- What stands while what Add told is written over, level by level. -/
structure WoI (B g : Nat) (lv : Nat → Value) (os : Nat → List RV) (W0 : World) (k : Nat) (wr : World) : Prop where
  rc : Rec19 wr g 0 [lv 0, lv 1, lv 2, lv 3]
  own : ∀ i, k ≤ i → i < 4 → OwnR wr 0 (lv i) (os i)
  new : ∀ i, i < 4 → ∀ b, (lv i).ownBlock = some b → B ≤ b ∧ b ≠ g
  dis : ∀ i j b, i < 4 → j < 4 → (lv i).ownBlock = some b → (lv j).ownBlock = some b → i = j
  ovs : ∀ i, i < 4 → ∀ x ∈ os i, OvS wr (fun b => B ≤ b) (fun b => b ∈ foN g lv) x.f ∧ OvS wr (fun b => B ≤ b) (fun b => b ∈ foN g lv) x.l
  below : Below B W0 wr
  base : B ≤ W0.heap.size
theorem WoI.start {B B1 g : Nat} {lv : Nat → Value} {os : Nat → List RV} {W0 W : World} (h : Fo B1 W g lv os) (hB : B ≤ B1) (hb : Below B W0 W) (h0 : B ≤ W0.heap.size) : WoI B g lv os W0 0 W :=
  ⟨h.rc, fun i _ hi => h.own i hi, fun i hi b hb => ⟨Nat.le_trans hB (h.new i hi b hb).1, (h.new i hi b hb).2⟩, h.dis, fun i hi x hx => ⟨OvS.of (h.oks i hi x hx).1.1 (h.oks i hi x hx).2.1 (fun _ q => q) (fun _ q _ => Nat.le_trans hB q), OvS.of (h.oks i hi x hx).1.2 (h.oks i hi x hx).2.2 (fun _ q => q) (fun _ q _ => Nat.le_trans hB q)⟩, hb, h0⟩
theorem WoI.next {B g : Nat} {lv : Nat → Value} {os : Nat → List RV} {W0 wr w' : World} {k L : Nat} (h : WoI B g lv os W0 k wr) (hk : OvK (fun b => B ≤ b) (fun b => b ∈ foN g lv) L wr w') (hg : g ≠ L) (hL : ∀ i b, k < i → i < 4 → (lv i).ownBlock = some b → b ≠ L) : WoI B g lv os W0 (k + 1) w' :=
  ⟨h.rc.same (hk.blk g (foN_of.2 (.inl rfl)) hg h.rc.2.2) hk.ofs.size, fun i hi h4 => (h.own i (by omega) h4).same (fun b hb => hk.blk b (foN_of.2 (.inr ⟨i, h4, hb⟩)) (hL i b (by omega) h4 hb) ((h.own i (by omega) h4).lt hb)), h.new, h.dis, fun i hi x hx => ⟨hk.keep _ (h.ovs i hi x hx).1, hk.keep _ (h.ovs i hi x hx).2⟩, h.below.trans (hk.ofs.below (fun _ q => q) (Nat.le_trans h.base h.below.size)), h.base⟩
theorem wo_call {B g : Nat} {lv : Nat → Value} {os : Nat → List RV} {W0 wr : World} {k : Nat} (h : WoI B g lv os W0 k wr) (hk : k < 4) (hf : (os k).length ≤ 100000) : Calls Tryd.prog 18 #[lv k] wr fun e w' => e = .returned (.tuple #[]) ∧ WoI B g lv os W0 (k + 1) w' := by
  have ho := h.own k (Nat.le_refl _) hk
  obtain ⟨a, c, hv, _⟩ := ho.sl
  have ho' := ho
  rw [hv] at ho' ⊢
  by_cases h0 : os k = []
  · refine (overRuns_any (S := fun b => B ≤ b) (T := fun b => b ∈ foN g lv) (os k).length c wr.heap.size rfl hf (fun q => absurd h0 q)).mono ?_
    rintro e w' ⟨rfl, hK⟩
    exact ⟨rfl, h.next hK (by have := h.rc.2.2; omega) (fun i b hi h4 hb => by have := (h.own i (by omega) h4).lt hb; omega)⟩
  · rcases ho'.form with ⟨_, q⟩ | ⟨L, cap, hs, _, _, _, hL, hR⟩
    · exact absurd q h0
    · injection hs with ha
      subst ha
      have own : (lv k).ownBlock = some L := by rw [hv]; rfl
      refine (overRuns_any (S := fun b => B ≤ b) (T := fun b => b ∈ foN g lv) (os k).length c L rfl hf (fun _ => ⟨rfl, (h.new k hk L own).1, foN_of.2 (.inr ⟨k, hk, own⟩), hR, fun x hx => h.ovs k hk x hx⟩)).mono ?_
      rintro e w' ⟨rfl, hK⟩
      exact ⟨rfl, h.next hK (fun q => (h.new k hk L own).2 q.symm) (fun i b hi h4 hb q => by subst q; have := h.dis i k b h4 hk hb own; omega)⟩
/-- A list that was told lately may be written over. -/
theorem tell_over {W : World} {base : Nat} {a : Option Addr} {c : Nat} {os : List RV} (h1 : OwnR W 0 (.slice a os.length c) os) (h2 : ∀ b, (Value.slice a os.length c).ownBlock = some b → base ≤ b) (h3 : ∀ x ∈ os, OkT base W (Value.slice a os.length c).ownBlock.toList x) (hb : base ≤ W.heap.size) (hf : os.length ≤ 100000) : Calls Tryd.prog 18 #[.slice a os.length c] W fun e w' => e = .returned (.tuple #[]) ∧ Below base W w' := by
  by_cases h0 : os = []
  · refine (overRuns_any (S := fun b => base ≤ b) (T := fun b => b ∈ (Value.slice a os.length c).ownBlock.toList) os.length c 0 rfl hf (fun q => absurd h0 q)).mono ?_
    rintro e w' ⟨rfl, hK⟩
    exact ⟨rfl, hK.ofs.below (fun _ q => q) hb⟩
  · rcases h1.form with ⟨_, q⟩ | ⟨L, cap, hs, _, _, _, hL, hR⟩
    · exact absurd q h0
    · injection hs with ha
      subst ha
      refine (overRuns_any (S := fun b => base ≤ b) (T := fun b => b ∈ (Value.slice (some ⟨L, 0, none⟩) os.length c).ownBlock.toList) os.length c L rfl hf (fun _ => ⟨rfl, h2 L rfl, by simp [Value.ownBlock], hR, fun x hx => ⟨OvS.of (h3 x hx).1.1 (h3 x hx).2.1 (fun _ q => q) (fun _ q _ => q), OvS.of (h3 x hx).1.2 (h3 x hx).2.2 (fun _ q => q) (fun _ q _ => q)⟩⟩)).mono ?_
      rintro e w' ⟨rfl, hK⟩
      exact ⟨rfl, hK.ofs.below (fun _ q => q) hb⟩
theorem na_no {W : World} {m : List (List Rn)} {r : Rn} {e : Ending} {w' : World} (h : NaPost W m r e w') (hn : (mayB m && sndR r) = false) : e = .returned (.tuple #[.slice none 0 0, .int .i64 2]) ∧ Below W.heap.size W w' := by
  rcases h.2 with ⟨_, q⟩ | ⟨q, _⟩
  · exact ⟨q, h.1⟩
  · rw [hn] at q; cases q
theorem na_yes {W : World} {m : List (List Rn)} {r : Rn} {e : Ending} {w' : World} (h : NaPost W m r e w') (hn : (mayB m && sndR r) = true) : ∃ g lv, e = .returned (.tuple #[.slice (some ⟨g, 0, none⟩) 4 4, .int .i64 0]) ∧ Four w' g lv ∧ (∀ i, i < 4 → (lv i).rs.map RV.r = if i = 0 then r :: fourD m 0 else fourD m i) ∧ Below W.heap.size W w' := by
  rcases h.2 with ⟨q, _⟩ | ⟨_, g, lv, q1, q2, q3⟩
  · rw [hn] at q; cases q
  · exact ⟨g, lv, q1, q2, q3, h.1⟩
theorem rns_sm {ls ms : List LR} (h : rns ms = rns ls) (hs : ∀ x ∈ ls, x.rs.length ≤ 40 ∧ ∀ y ∈ x.rs, SmR y.r) : ∀ x ∈ ms, x.rs.length ≤ 40 ∧ ∀ y ∈ x.rs, SmR y.r := fun x hx => by
  have : x.rs.map RV.r ∈ rns ls := by rw [← h]; exact List.mem_map.2 ⟨x, hx, rfl⟩
  obtain ⟨x', hx', e⟩ := List.mem_map.1 this
  refine ⟨?_, fun y hy => ?_⟩
  · have a := congrArg List.length e
    rw [List.length_map, List.length_map] at a
    have := (hs x' hx').1
    omega
  · have : y.r ∈ x'.rs.map RV.r := by rw [e]; exact List.mem_map.2 ⟨y, hy, rfl⟩
    obtain ⟨y', hy', e'⟩ := List.mem_map.1 this
    rw [← e']
    exact (hs x' hx').2 y' hy'
theorem Fo.same4 {B1 : Nat} {W : World} {g : Nat} {lv : Nat → Value} {os : Nat → List RV} (h : Fo B1 W g lv os) {m : List (List Rn)} {r : Rn} (hm : ∀ i, i < 4 → (os i).map RV.r = if i = 0 then r :: fourD m 0 else fourD m i) : ∃ ls : List LR, ls.length = 4 ∧ Lvs W (some ⟨g, 0, none⟩) ls ∧ rns ls = [r :: fourD m 0, fourD m 1, fourD m 2, fourD m 3] := by
  obtain ⟨ls, h1, h2, _, h4⟩ := h.lvs
  have a0 := hm 0 (by omega)
  have a1 := hm 1 (by omega)
  have a2 := hm 2 (by omega)
  have a3 := hm 3 (by omega)
  simp at a0 a1 a2 a3
  exact ⟨ls, h1, h2, by rw [h4, a0, a1, a2, a3]⟩
end Go.Proofs.YtcjapldhfolpnaaDoor
