/-
  Walks, not a claim by itself: the law of what level tells. By the verifier.
-/
import Derived.Test.YtcjapldhfolpnaaDoorLvNs
namespace Go.Proofs.YtcjapldhfolpnaaDoor
open Go.RowKit
attribute [-go_sem] Builtin.append_
theorem Rec19.same {W W' : World} {n o : Nat} {cs : List Value} (h : Rec19 W n o cs) (e : W'.heap[n]? = W.heap[n]?) (hs : W.heap.size ≤ W'.heap.size) : Rec19 W' n o cs :=
  ⟨fun j v hj => (World.cell?_of_block (w := W) (a := ⟨n, o + j, none⟩) e).trans (h.1 j v hj), fun j hj => by rw [World.cell?_of_block (w := W) (a := ⟨n, o + j, none⟩) e, World.frozen?_of_block (w := W) (a := ⟨n, o + j, none⟩) e]; exact h.2.1 j hj, Nat.lt_of_lt_of_le h.2.2 hs⟩
theorem OwnR.same {w u : World} {base : Nat} {v : Value} {ps : List RV} (h : OwnR w base v ps) (e : ∀ b, v.ownBlock = some b → u.heap[b]? = w.heap[b]?) : OwnR u base v ps := by
  refine ⟨h.1, ?_⟩
  rcases h.2 with h0 | ⟨g, cap, cur, rfl, hb, hg, rest⟩
  · exact .inl h0
  · exact .inr ⟨g, cap, cur, rfl, hb, (e g rfl).trans hg, rest⟩
/-- What stands while what Add told is written over, level by level. -/
structure WoI (B g : Nat) (lv : Nat → Value) (os : Nat → List RV) (W0 : World) (k : Nat) (wr : World) : Prop where
  rc : Rec19 wr g 0 [lv 0, lv 1, lv 2, lv 3]
  own : ∀ i, k ≤ i → i < 4 → OwnR wr 0 (lv i) (os i)
  new : ∀ i, i < 4 → ∀ b, (lv i).ownBlock = some b → B ≤ b ∧ b ≠ g
  dis : ∀ i j b, i < 4 → j < 4 → (lv i).ownBlock = some b → (lv j).ownBlock = some b → i = j
  ovs : ∀ i, i < 4 → ∀ x ∈ os i, OvS wr (fun b => B ≤ b) (fun b => b ∈ foN g lv) x.f ∧ OvS wr (fun b => B ≤ b) (fun b => b ∈ foN g lv) x.l
  below : Below B W0 wr
  base : B ≤ W0.heap.size
theorem WoI.start {B B1 g : Nat} {lv : Nat → Value} {os : Nat → List RV} {W0 W : World} (h : Fo B1 W g lv os) (hB : B ≤ B1) (hb : Below B W0 W) (h0 : B ≤ W0.heap.size) : WoI B g lv os W0 0 W :=
  ⟨h.rc, fun i _ hi => h.own i hi, fun i hi b hb => ⟨Nat.le_trans hB (h.new i hi b hb).1, (h.new i hi b hb).2⟩, h.dis, fun i hi x hx => ⟨OvS.of (h.oks i hi x hx).1.1 (h.oks i hi x hx).2.1 (fun _ q => q) (fun _ q _ => Nat.le_trans hB q), OvS.of (h.oks i hi x hx).1.2 (h.oks i hi x hx).2.2 (fun _ q => q) (fun _ q _ => Nat.le_trans hB q)⟩, hb, h0⟩
theorem WoI.next {B g : Nat} {lv : Nat → Value} {os : Nat → List RV} {W0 wr w' : World} {k L : Nat} (h : WoI B g lv os W0 k wr) (hk : OvK (fun b => B ≤ b) (fun b => b ∈ foN g lv) L wr w') (hg : g ≠ L) (hL : ∀ i b, k < i → i < 4 → (lv i).ownBlock = some b → b ≠ L) : WoI B g lv os W0 (k + 1) w' :=
  ⟨h.rc.same (hk.blk g (foN_of.2 (.inl rfl)) hg h.rc.2.2) hk.ofs.size, fun i hi h4 => (h.own i (by omega) h4).same (fun b hb => hk.blk b (foN_of.2 (.inr ⟨i, h4, hb⟩)) (hL i b (by omega) h4 hb) ((h.own i (by omega) h4).lt hb)), h.new, h.dis, fun i hi x hx => ⟨hk.keep _ (h.ovs i hi x hx).1, hk.keep _ (h.ovs i hi x hx).2⟩, h.below.trans (hk.ofs.below (fun _ q => q) (Nat.le_trans h.base h.below.size)), h.base⟩
theorem wo_call {B g : Nat} {lv : Nat → Value} {os : Nat → List RV} {W0 wr : World} {k : Nat} (h : WoI B g lv os W0 k wr) (hk : k < 4) (hf : (os k).length ≤ 100000) : Calls Tryd.prog 18 #[lv k] wr fun e w' => e = .returned (.tuple #[]) ∧ WoI B g lv os W0 (k + 1) w' := by
  have ho := h.own k (Nat.le_refl _) hk
  obtain ⟨a, c, hv, _⟩ := ho.sl
  have ho' := ho
  rw [hv] at ho' ⊢
  by_cases h0 : os k = []
  · refine (overRuns_any (S := fun b => B ≤ b) (T := fun b => b ∈ foN g lv) (os k).length c wr.heap.size rfl hf (fun q => absurd h0 q)).mono ?_
    rintro e w' ⟨rfl, hK⟩
    exact ⟨rfl, h.next hK (by have := h.rc.2.2; omega) (fun i b hi h4 hb => by have := (h.own i (by omega) h4).lt hb; omega)⟩
  · rcases ho'.form with ⟨_, q⟩ | ⟨L, cap, hs, _, _, _, hL, hR⟩
    · exact absurd q h0
    · injection hs with ha
      subst ha
      have own : (lv k).ownBlock = some L := by rw [hv]; rfl
      refine (overRuns_any (S := fun b => B ≤ b) (T := fun b => b ∈ foN g lv) (os k).length c L rfl hf (fun _ => ⟨rfl, (h.new k hk L own).1, foN_of.2 (.inr ⟨k, hk, own⟩), hR, fun x hx => h.ovs k hk x hx⟩)).mono ?_
      rintro e w' ⟨rfl, hK⟩
      exact ⟨rfl, h.next hK (fun q => (h.new k hk L own).2 q.symm) (fun i b hi h4 hb q => by subst q; have := h.dis i k b h4 hk hb own; omega)⟩
/-- A list that was told lately may be written over. -/
theorem tell_over {W : World} {base : Nat} {a : Option Addr} {c : Nat} {os : List RV} (h1 : OwnR W 0 (.slice a os.length c) os) (h2 : ∀ b, (Value.slice a os.length c).ownBlock = some b → base ≤ b) (h3 : ∀ x ∈ os, OkT base W (Value.slice a os.length c).ownBlock.toList x) (hb : base ≤ W.heap.size) (hf : os.length ≤ 100000) : Calls Tryd.prog 18 #[.slice a os.length c] W fun e w' => e = .returned (.tuple #[]) ∧ Below base W w' := by
  by_cases h0 : os = []
  · refine (overRuns_any (S := fun b => base ≤ b) (T := fun b => b ∈ (Value.slice a os.length c).ownBlock.toList) os.length c 0 rfl hf (fun q => absurd h0 q)).mono ?_
    rintro e w' ⟨rfl, hK⟩
    exact ⟨rfl, hK.ofs.below (fun _ q => q) hb⟩
  · rcases h1.form with ⟨_, q⟩ | ⟨L, cap, hs, _, _, _, hL, hR⟩
    · exact absurd q h0
    · injection hs with ha
      subst ha
      refine (overRuns_any (S := fun b => base ≤ b) (T := fun b => b ∈ (Value.slice (some ⟨L, 0, none⟩) os.length c).ownBlock.toList) os.length c L rfl hf (fun _ => ⟨rfl, h2 L rfl, by simp [Value.ownBlock], hR, fun x hx => ⟨OvS.of (h3 x hx).1.1 (h3 x hx).2.1 (fun _ q => q) (fun _ q _ => q), OvS.of (h3 x hx).1.2 (h3 x hx).2.2 (fun _ q => q) (fun _ q _ => q)⟩⟩)).mono ?_
      rintro e w' ⟨rfl, hK⟩
      exact ⟨rfl, hK.ofs.below (fun _ q => q) hb⟩
theorem na_no {W : World} {m : List (List Rn)} {r : Rn} {e : Ending} {w' : World} (h : NaPost W m r e w') (hn : (mayB m && sndR r) = false) : e = .returned (.tuple #[.slice none 0 0, .int .i64 2]) ∧ Below W.heap.size W w' := by
  rcases h.2 with ⟨_, q⟩ | ⟨q, _⟩
  · exact ⟨q, h.1⟩
  · rw [hn] at q; cases q
theorem na_yes {W : World} {m : List (List Rn)} {r : Rn} {e : Ending} {w' : World} (h : NaPost W m r e w') (hn : (mayB m && sndR r) = true) : ∃ g lv, e = .returned (.tuple #[.slice (some ⟨g, 0, none⟩) 4 4, .int .i64 0]) ∧ Four w' g lv ∧ (∀ i, i < 4 → (lv i).rs.map RV.r = if i = 0 then r :: fourD m 0 else fourD m i) ∧ Below W.heap.size W w' := by
  rcases h.2 with ⟨q, _⟩ | ⟨_, g, lv, q1, q2, q3⟩
  · rw [hn] at q; cases q
  · exact ⟨g, lv, q1, q2, q3, h.1⟩
theorem rns_sm {ls ms : List LR} (h : rns ms = rns ls) (hs : ∀ x ∈ ls, x.rs.length ≤ 40 ∧ ∀ y ∈ x.rs, SmR y.r) : ∀ x ∈ ms, x.rs.length ≤ 40 ∧ ∀ y ∈ x.rs, SmR y.r := fun x hx => by
  have : x.rs.map RV.r ∈ rns ls := by rw [← h]; exact List.mem_map.2 ⟨x, hx, rfl⟩
  obtain ⟨x', hx', e⟩ := List.mem_map.1 this
  refine ⟨?_, fun y hy => ?_⟩
  · have a := congrArg List.length e
    rw [List.length_map, List.length_map] at a
    have := (hs x' hx').1
    omega
  · have : y.r ∈ x'.rs.map RV.r := by rw [e]; exact List.mem_map.2 ⟨y, hy, rfl⟩
    obtain ⟨y', hy', e'⟩ := List.mem_map.1 this
    rw [← e']
    exact (hs x' hx').2 y' hy'
theorem Fo.same4 {B1 : Nat} {W : World} {g : Nat} {lv : Nat → Value} {os : Nat → List RV} (h : Fo B1 W g lv os) {m : List (List Rn)} {r : Rn} (hm : ∀ i, i < 4 → (os i).map RV.r = if i = 0 then r :: fourD m 0 else fourD m i) : ∃ ls : List LR, ls.length = 4 ∧ Lvs W (some ⟨g, 0, none⟩) ls ∧ rns ls = [r :: fourD m 0, fourD m 1, fourD m 2, fourD m 3] := by
  obtain ⟨ls, h1, h2, _, h4⟩ := h.lvs
  have a0 := hm 0 (by omega)
  have a1 := hm 1 (by omega)
  have a2 := hm 2 (by omega)
  have a3 := hm 3 (by omega)
  simp at a0 a1 a2 a3
  exact ⟨ls, h1, h2, by rw [h4, a0, a1, a2, a3]⟩
end Go.Proofs.YtcjapldhfolpnaaDoor
namespace Go.Proofs.YtcjapldhfolpnaaDoor
open Go.RowKit
attribute [-go_sem] Builtin.append_
theorem ov_of {W : World} {m : List (List Rn)} {e : Ending} {w' : World} {o1 : Int} {o2 : Bool} (h : OvPost W m e w') (ho : (o1, o2) = ovD m) : e = .returned (.tuple #[.int .i64 o1, .bool o2]) ∧ Below W.heap.size W w' := by
  unfold OvPost at h
  rw [← ho] at h
  exact h
theorem add_ret {W : World} {m : List (List Rn)} {r : Rn} {e : Ending} {w' : World} (h : AddPost W m r e w') : ∃ v, e = .returned v ∧ Below W.heap.size W w' ∧ (((mayB m && sndR r) = false ∧ v = .tuple #[.slice none 0 0, .int .i64 2]) ∨ ((mayB m && sndR r) = true ∧ ∃ g B1 lv os, v = .tuple #[.slice (some ⟨g, 0, none⟩) 4 4, .int .i64 0] ∧ W.heap.size ≤ g ∧ W.heap.size ≤ B1 ∧ Fo B1 w' g lv os ∧ ∀ i, i < 4 → (os i).map RV.r = if i = 0 then r :: fourD m 0 else fourD m i)) := by
  obtain ⟨hb, ⟨ha, rfl⟩ | ⟨ha, g, B1, lv, os, rfl, hr⟩⟩ := h
  · exact ⟨_, rfl, hb, .inl ⟨ha, rfl⟩⟩
  · exact ⟨_, rfl, hb, .inr ⟨ha, g, B1, lv, os, rfl, hr⟩⟩
theorem lo_few {ls : List LR} {lo : List RV} {f t : ByteArray} (h : lo.map RV.r = (nsL ls f t).map RV.r) (hs : ls.length ≤ 8 ∧ ∀ x ∈ ls, x.rs.length ≤ 40 ∧ ∀ y ∈ x.rs, SmR y.r) : lo.length ≤ 100000 := by
  have a := congrArg List.length h
  rw [List.length_map, List.length_map] at a
  have b := flt_few (ls := ls) (fun x hx => by have := (hs.2 x hx).1; omega) (b := 0)
  have c : (nsL ls f t).length ≤ (flt 0 ls).length := by
    unfold nsL
    split
    · unfold rsL
      refine Nat.le_trans (List.length_filter_le _ _) ?_
      rw [List.length_map]
      exact Nat.le_refl _
    · exact Nat.zero_le _
  omega
set_option maxRecDepth 100000 in
set_option maxHeartbeats 8000000 in
theorem ltells_any {W : World} {A : Option Addr} {ls : List LR} {y : RV} {fv tv : Value} {ft tt : ByteArray} (L C : Nat) (hL : ls.length = L) (h : Lvs W A ls) (hy : RVOk W [] y) (hf : Txt W [] fv ft) (ht : Txt W [] tv tt) (hR : Room W) : Calls Tryd.prog 3 #[.slice A L C, .agg y.cs.toArray, fv, tv] W fun e w' => e = .returned (.bool true) ∧ Below W.heap.size W w' := by
  have HL := hidIt h
  have HN := hidIt hL
  have HF := hidIt hf
  have HT := hidIt ht
  have HR := hidIt hR
  obtain ⟨yf, yl, yr⟩ := y
  have HY := hidIt hy
  obtain ⟨⟨ka, kC, kf, hk, _⟩, va, vC, vf, hv, _⟩ := hy
  simp only at hk hv
  subst hk hv
  obtain ⟨fa, fC, ff, rfl, _⟩ := hf
  obtain ⟨ta, tC, tf, rfl, _⟩ := ht
  clear h hL hR
  by_cases h0 : 200 < (yr.f.size : Int)
  · have c1 : (200 < (yr.f.size : Int)) = True := eq_true h0
    have c1n : (200 < yr.f.size) = True := eq_true (by omega)
    clear h0
    go_enter Tryd.func3, Tryd.ntmps3
    go_wp2_with (first
      | (refine wpList_box_rec rfl 27 (.tmp 1) rfl (RV.mk (.slice ka yr.f.size kC) (.slice va yr.l.size vC) yr).cs rfl W.heap.size rfl ?_; intro W1 R1 B1 z1; have E1 := hidIt B1; have P1 := hidIt R1; obtain ⟨_, _, _, q3, q4⟩ := five_cells R1.1; clear R1 B1 z1)
      | (go_at_call 5; refine (largeLevels_any L C 40 _ rfl (by omega) HN.out (HL.out.below E1.out)).mono ?_; rintro e w2 ⟨bb, rfl, hw, hbb⟩; rw [hw]; clear hw w2; have BB := hidIt hbb; clear hbb; refine Held.out ?_))
    cases bb with
    | true =>
      refine Held.mk ?_
      go_wp2_with fail
      exact bodyPost_ret (v := .bool true) (by simp [results, Tryd.results3, go_sem]) rfl ⟨rfl, E1.out⟩
    | false =>
      refine Held.mk ?_
      go_wp2_with fail
      exact bodyPost_ret (v := .bool true) (by simp [results, Tryd.results3, go_sem]) rfl ⟨rfl, E1.out⟩
  · have c1 : (200 < (yr.f.size : Int)) = False := eq_false h0
    have c1n : (200 < yr.f.size) = False := eq_false (by omega)
    by_cases h1 : 200 < (yr.l.size : Int)
    · have c2 : (200 < (yr.l.size : Int)) = True := eq_true h1
      have c2n : (200 < yr.l.size) = True := eq_true (by omega)
      clear h0 h1
      go_enter Tryd.func3, Tryd.ntmps3
      go_wp2_with (first
        | (refine wpList_box_rec rfl 27 (.tmp 1) rfl (RV.mk (.slice ka yr.f.size kC) (.slice va yr.l.size vC) yr).cs rfl W.heap.size rfl ?_; intro W1 R1 B1 z1; have E1 := hidIt B1; have P1 := hidIt R1; obtain ⟨_, _, _, q3, q4⟩ := five_cells R1.1; clear R1 B1 z1)
        | (go_at_call 5; refine (largeLevels_any L C 40 _ rfl (by omega) HN.out (HL.out.below E1.out)).mono ?_; rintro e w2 ⟨bb, rfl, hw, hbb⟩; rw [hw]; clear hw w2; have BB := hidIt hbb; clear hbb; refine Held.out ?_))
      cases bb with
      | true =>
        refine Held.mk ?_
        go_wp2_with fail
        exact bodyPost_ret (v := .bool true) (by simp [results, Tryd.results3, go_sem]) rfl ⟨rfl, E1.out⟩
      | false =>
        refine Held.mk ?_
        go_wp2_with fail
        exact bodyPost_ret (v := .bool true) (by simp [results, Tryd.results3, go_sem]) rfl ⟨rfl, E1.out⟩
    · have c2 : (200 < (yr.l.size : Int)) = False := eq_false h1
      have c2n : (200 < yr.l.size) = False := eq_false (by omega)
      by_cases h2 : 200 < (ft.size : Int)
      · have c3 : (200 < (ft.size : Int)) = True := eq_true h2
        have c3n : (200 < ft.size) = True := eq_true (by omega)
        clear h0 h1 h2
        go_enter Tryd.func3, Tryd.ntmps3
        go_wp2_with (first
          | (refine wpList_box_rec rfl 27 (.tmp 1) rfl (RV.mk (.slice ka yr.f.size kC) (.slice va yr.l.size vC) yr).cs rfl W.heap.size rfl ?_; intro W1 R1 B1 z1; have E1 := hidIt B1; have P1 := hidIt R1; obtain ⟨_, _, _, q3, q4⟩ := five_cells R1.1; clear R1 B1 z1)
          | (go_at_call 5; refine (largeLevels_any L C 40 _ rfl (by omega) HN.out (HL.out.below E1.out)).mono ?_; rintro e w2 ⟨bb, rfl, hw, hbb⟩; rw [hw]; clear hw w2; have BB := hidIt hbb; clear hbb; refine Held.out ?_))
        cases bb with
        | true =>
          refine Held.mk ?_
          go_wp2_with fail
          exact bodyPost_ret (v := .bool true) (by simp [results, Tryd.results3, go_sem]) rfl ⟨rfl, E1.out⟩
        | false =>
          refine Held.mk ?_
          go_wp2_with fail
          exact bodyPost_ret (v := .bool true) (by simp [results, Tryd.results3, go_sem]) rfl ⟨rfl, E1.out⟩
      · have c3 : (200 < (ft.size : Int)) = False := eq_false h2
        have c3n : (200 < ft.size) = False := eq_false (by omega)
        by_cases h3 : 200 < (tt.size : Int)
        · have c4 : (200 < (tt.size : Int)) = True := eq_true h3
          have c4n : (200 < tt.size) = True := eq_true (by omega)
          clear h0 h1 h2 h3
          go_enter Tryd.func3, Tryd.ntmps3
          go_wp2_with (first
            | (refine wpList_box_rec rfl 27 (.tmp 1) rfl (RV.mk (.slice ka yr.f.size kC) (.slice va yr.l.size vC) yr).cs rfl W.heap.size rfl ?_; intro W1 R1 B1 z1; have E1 := hidIt B1; have P1 := hidIt R1; obtain ⟨_, _, _, q3, q4⟩ := five_cells R1.1; clear R1 B1 z1)
            | (go_at_call 5; refine (largeLevels_any L C 40 _ rfl (by omega) HN.out (HL.out.below E1.out)).mono ?_; rintro e w2 ⟨bb, rfl, hw, hbb⟩; rw [hw]; clear hw w2; have BB := hidIt hbb; clear hbb; refine Held.out ?_))
          cases bb with
          | true =>
            refine Held.mk ?_
            go_wp2_with fail
            exact bodyPost_ret (v := .bool true) (by simp [results, Tryd.results3, go_sem]) rfl ⟨rfl, E1.out⟩
          | false =>
            refine Held.mk ?_
            go_wp2_with fail
            exact bodyPost_ret (v := .bool true) (by simp [results, Tryd.results3, go_sem]) rfl ⟨rfl, E1.out⟩
        · have c4 : (200 < (tt.size : Int)) = False := eq_false h3
          have c4n : (200 < tt.size) = False := eq_false (by omega)
          have YS : Hid (SmR yr) := hidIt ⟨by omega, by omega⟩
          clear h0 h1 h2 h3
          go_enter Tryd.func3, Tryd.ntmps3
          go_wp2_with (first
            | (refine wpList_box_rec rfl 27 (.tmp 1) rfl (RV.mk (.slice ka yr.f.size kC) (.slice va yr.l.size vC) yr).cs rfl W.heap.size rfl ?_; intro W1 R1 B1 z1; have E1 := hidIt B1; have P1 := hidIt R1; obtain ⟨_, _, _, q3, q4⟩ := five_cells R1.1; clear R1 B1 z1)
            | (go_at_call 5; refine (largeLevels_any L C 40 _ rfl (by omega) HN.out (HL.out.below E1.out)).mono ?_; rintro e w2 ⟨bb, rfl, hw, hbb⟩; rw [hw]; clear hw w2; have BB := hidIt hbb; clear hbb; refine Held.out ?_))
          cases bb with
          | true =>
            refine Held.mk ?_
            go_wp2_with fail
            exact bodyPost_ret (v := .bool true) (by simp [results, Tryd.results3, go_sem]) rfl ⟨rfl, E1.out⟩
          | false =>
            have SM := hidIt (BB.out rfl)
            clear BB
            refine Held.mk ?_
            go_wp2_with (first
              | (go_at_call 6; refine (copyLevels_any (N := []) L C HN.out (HL.out.below E1.out) (by have := SM.out.1; have := HN.out; omega) (fun x hx => ⟨by have := (SM.out.2 x hx).1; omega, (SM.out.2 x hx).2⟩) (fun b hb => by cases hb)).mono ?_; rintro e W2 ⟨A2, C2, ms, rfl, hml, hmr, hms, hb⟩; have E2 := hidIt (E1.out.trans (hb.mono E1.out.size)); have P2 := hidIt (P1.out.below hb); have MN := hidIt hml; have MR := hidIt hmr; have MS := hidIt hms; have SMM := hidIt (rns_sm hmr SM.out.2); clear hb hml hmr hms q3 q4)
              | (refine wpList_load_rec rfl 27 (.tmp 5) rfl W.heap.size 0 (RV.mk (.slice ka yr.f.size kC) (.slice va yr.l.size vC) yr).cs rfl _ Tryd.underlying27 rfl run_size P2.out ?_)
              | (go_at_call 8; refine (copyRun_any (M := []) (HY.out.below E2.out) (by have := YS.out; unfold SmR at this; show yr.f.size ≤ 1000000 ∧ yr.l.size ≤ 1000000; omega) (fun b hb => by cases hb)).mono ?_; rintro e W3 ⟨z, hz, rfl, KZ, hb⟩; have E3 := hidIt (E2.out.trans (hb.mono E2.out.size)); have P3 := hidIt (P2.out.below hb); have MS3 := hidIt (MS.out.below hb); have ZR := hidIt hz; have ZK := hidIt KZ; clear hb hz KZ)
              | (go_at_call 7; refine (ladd_any ms.length C2 rfl MS3.out (fun x hx => by have := (SMM.out x hx).1; omega) (fun x hx y hy => by have := (SMM.out x hx).2 y hy; unfold SmR at this; omega) ZK.out (by rw [ZR.out]; have := YS.out; unfold SmR at this; show yr.f.size ≤ 1000000 ∧ yr.l.size ≤ 1000000; omega)).mono ?_; rw [MR.out, ZR.out]; rintro e W4 hadd; obtain ⟨v4, rfl, hb, hc⟩ := add_ret hadd; clear hadd; have E4 := hidIt (E3.out.trans (hb.mono E3.out.size)); have P4 := hidIt (P3.out.below hb); have ML := hidIt (MS3.out.below hb); have B4 := hidIt hb; have RM := hidIt (HR.out.below E4.out); clear hb; refine Held.out ?_))
            have t1 : Hid True := trivial
            have t2 : Hid True := trivial
            obtain ⟨ov, hov⟩ : ∃ ov, ov = ovD (rns ls) := ⟨_, rfl⟩
            have OV := hidIt hov
            obtain ⟨mi, hmi⟩ : ∃ mi, mi = mayI (rns ls) := ⟨_, rfl⟩
            have MI := hidIt hmi
            clear hov hmi
            obtain ⟨o1, o2⟩ := ov
            have u1 : (o1 != o1) = false := by simp
            have u2 : (o2 != o2) = false := by simp
            have u3 : (mi != mi) = false := by simp
            rcases hc with ⟨ha, he⟩ | ⟨ha, g, B1, lv, os, he, hg, hB1, hF, hm⟩
            · subst he
              have AN := hidIt ha
              clear ha
              refine Held.mk ?_
              go_wp2_with (first
                  | (have _q := t1; clear t1 _q; refine wpList_load_rec rfl 27 (.tmp 5) rfl W.heap.size 0 (RV.mk (.slice ka yr.f.size kC) (.slice va yr.l.size vC) yr).cs rfl _ Tryd.underlying27 rfl run_size P4.out ?_)
                  | (go_at_call 9; refine (nadd_any L C HN.out (HL.out.below E4.out) (fun x hx => by have := (SM.out.2 x hx).1; omega) (HY.out.below E4.out)).mono ?_; rintro e W5 hna; obtain ⟨rfl, hb⟩ := na_no hna AN.out; have D5 := hidIt hb; clear hb hna)
                  | (go_at_call 10; refine (lover_any ms.length C2 rfl (ML.out.below D5.out) (fun x hx => by have := (SMM.out x hx).1; omega) (by have := MN.out; have := SM.out.1; omega) (RM.out.below D5.out)).mono ?_; rw [MR.out]; rintro e W6 hov; obtain ⟨rfl, hb⟩ := ov_of hov OV.out; clear hov; have D6 := hidIt (D5.out.trans (hb.mono D5.out.size)); have K6 := hidIt hb; clear hb)
                  | (go_at_call 11; refine (nover_any L C HN.out (HL.out.below (E4.out.trans (D6.out.mono E4.out.size))) (fun x hx => by have := (SM.out.2 x hx).1; omega) (by have := SM.out.1; have := HN.out; omega)).mono ?_; rintro e W7 hov; obtain ⟨rfl, hb⟩ := ov_of hov OV.out; clear hov; have D7 := hidIt (D6.out.trans (hb.mono D6.out.size)); have K7 := hidIt (K6.out.trans (hb.mono K6.out.size)); clear hb)
                  | (go_at_call 12; refine (lspans_any ms.length C2 rfl (ML.out.below D7.out) (fun x hx => by have := (SMM.out x hx).1; omega) (fun x hx y hy => by have := (SMM.out x hx).2 y hy; unfold SmR at this; omega) (HF.out.below (E4.out.trans (D7.out.mono E4.out.size))) (HT.out.below (E4.out.trans (D7.out.mono E4.out.size)))).mono ?_; rw [MR.out]; rintro e W8 ⟨la, lc, lo, rfl, lown, lnew, loks, lmap, hb⟩; have D8 := hidIt (D7.out.trans (hb.mono D7.out.size)); have K8 := hidIt (K7.out.trans (hb.mono K7.out.size)); have LS := hidIt (And.intro lown (And.intro lnew loks)); have LM := hidIt lmap; have S8 := hidIt hb.size; clear hb lown lnew loks lmap)
                  | (go_at_call 13; refine (lcheck_any ms.length C2 rfl (ML.out.below D8.out) (fun x hx => by have := (SMM.out x hx).1; omega)).mono ?_; rw [MR.out, ← MI.out]; rintro e W9 ⟨rfl, hb⟩; have D9 := hidIt (D8.out.trans (hb.mono D8.out.size)); have K9 := hidIt (K8.out.trans (hb.mono K8.out.size)); have J9 := hidIt hb; clear hb)
                  | (go_at_call 14; refine (ncheck_any L C HN.out (HL.out.below (E4.out.trans (D9.out.mono E4.out.size))) (fun x hx => by have := (SM.out.2 x hx).1; omega)).mono ?_; rw [← MI.out]; rintro e W10 ⟨rfl, hb⟩; have D10 := hidIt (D9.out.trans (hb.mono D9.out.size)); have K10 := hidIt (K9.out.trans (hb.mono K9.out.size)); have J10 := hidIt (J9.out.trans (hb.mono J9.out.size)); clear hb)
                  | (go_at_call 15; have _q := t2; clear t2 _q; refine (sameLevels_eq (ls := []) (ms := []) 0 0 0 0 rfl rfl ⟨fun x hx => (by cases hx), fun q => absurd rfl q⟩ ⟨fun x hx => (by cases hx), fun q => absurd rfl q⟩ (by omega) (fun x hx => (by cases hx)) rfl).mono ?_; rintro e W11 ⟨rfl, hb⟩; have D11 := hidIt (D10.out.trans (hb.mono D10.out.size)); have J11 := hidIt (J10.out.trans (hb.mono J10.out.size)); clear hb)
                  | (go_at_call 17; refine (nspans_any L C HN.out (HL.out.below (E4.out.trans (D11.out.mono E4.out.size))) (fun x hx => by have := (SM.out.2 x hx).1; omega) (HF.out.below (E4.out.trans (D11.out.mono E4.out.size))) (HT.out.below (E4.out.trans (D11.out.mono E4.out.size)))).mono ?_; rintro e W12 ⟨na, nc, rfl, hns, hb⟩; have D12 := hidIt (D11.out.trans (hb.mono D11.out.size)); have J12 := hidIt (J11.out.trans (hb.mono J11.out.size)); have NS := hidIt hns; clear hb hns)
                  | (go_at_call 16; refine (sameRuns_eq lo.length (nsL ls ft tt).length lc nc rfl rfl ((LS.out.1.ls (fun x hx => (LS.out.2.2 x hx).2.any)).below J12.out) NS.out (lo_few (LM.out.trans (nsL_spD ls ft tt).symm) (SM.out)) (LM.out.trans (nsL_spD ls ft tt).symm)).mono ?_; rintro e W13 ⟨rfl, hb⟩; have D13 := hidIt (D12.out.trans (hb.mono D12.out.size)); have J13 := hidIt (J12.out.trans (hb.mono J12.out.size)); clear hb)
                  | (go_at_call 18; refine (tell_over (base := W7.heap.size) (LS.out.1.below J13.out) LS.out.2.1 (fun x hx => (LS.out.2.2 x hx).below J13.out) (Nat.le_trans S8.out J13.out.size) (lo_few (LM.out.trans (nsL_spD ls ft tt).symm) (SM.out))).mono ?_; rintro e W14 ⟨rfl, hb⟩; have D14 := hidIt (D13.out.trans (hb.mono D7.out.size)); clear hb))
    
              refine wp_loop_rounds 1 ?_
              rw [rounds_succ]
              have E14 := hidIt (E4.out.trans (D14.out.mono E4.out.size))
              go_wp2_with (first
                | (go_at_call 15; refine (sameLevels_eq ms.length L C2 C rfl HN.out (ML.out.below D14.out) (HL.out.below E14.out) (by have := MN.out; have := SM.out.1; omega) (fun x hx => by have := (SMM.out x hx).1; omega) MR.out).mono ?_; rintro e W16 ⟨rfl, hb⟩; have E16 := hidIt (E14.out.trans (hb.mono E14.out.size)); clear hb)
                | (go_at_call 19; refine (lawake_any _).mono ?_; rintro e W17 ⟨rfl, hb⟩; have E17 := hidIt (E16.out.trans (hb.mono E16.out.size)); clear hb))
              exact bodyPost_ret (v := .bool true) (by simp [results, Tryd.results3, go_sem]) rfl ⟨rfl, E17.out⟩
    
            · subst he
              have AN := hidIt ha
              have F4 := hidIt hF
              have GB := hidIt (And.intro hg hB1)
              have FM := hidIt hm
              have XS : Hid (∀ (g2 : Nat) (lw : Nat → LR) (W5 : World), Four W5 g2 lw → (∀ i, i < 4 → (lw i).rs.map RV.r = if i = 0 then yr :: fourD (rns ls) 0 else fourD (rns ls) i) → ∀ U, Below W4.heap.size W4 U → Below W5.heap.size W5 U → Calls Tryd.prog 15 #[.slice (some ⟨g, 0, none⟩) 4 4, .slice (some ⟨g2, 0, none⟩) 4 4] U fun e w' => e = .returned (.bool true) ∧ Below U.heap.size U w') := hidIt (fun g2 lw W5 h2 hm2 U hU hV => by
                obtain ⟨xs, x1, x2, x3⟩ := (hF.below hU).same4 hm
                refine sameLevels_eq 4 4 4 4 x1 rfl x2 (h2.below hV).lvs (by omega) (fun x hx => ?_) (by rw [x3, four_rns hm2])
                have : x.rs.map RV.r ∈ rns xs := List.mem_map.2 ⟨x, hx, rfl⟩
                rw [x3] at this
                have fl : ∀ i, (fourD (rns ls) i).length ≤ 40 := fun i => by
                  unfold fourD rns
                  rw [List.getElem?_map]
                  cases q : ls[i]? with
                  | none => simp
                  | some x => have := (SM.out.2 x (List.mem_of_getElem? q)).1; simpa using this
                have f0 := fl 0
                have f1 := fl 1
                have f2 := fl 2
                have f3 := fl 3
                simp only [List.mem_cons, List.not_mem_nil, or_false] at this
                rcases this with q | q | q | q <;> (have q := congrArg List.length q; simp at q; omega))
              have OF : Hid (∀ i, i < 4 → (os i).length ≤ 100000) := hidIt (fun i hi => by
                have a := congrArg List.length (hm i hi)
                rw [List.length_map] at a
                have fl : ∀ i, (fourD (rns ls) i).length ≤ 40 := fun i => by
                  unfold fourD rns
                  rw [List.getElem?_map]
                  cases q : ls[i]? with
                  | none => simp
                  | some x => have := (SM.out.2 x (List.mem_of_getElem? q)).1; simpa using this
                have f0 := fl 0
                have f1 := fl i
                split at a <;> first | (simp at a; omega) | omega)
              clear ha hF hg hB1 hm
              refine Held.mk ?_
              go_wp2_with (first
                  | (have _q := t1; clear t1 _q; refine wpList_load_rec rfl 27 (.tmp 5) rfl W.heap.size 0 (RV.mk (.slice ka yr.f.size kC) (.slice va yr.l.size vC) yr).cs rfl _ Tryd.underlying27 rfl run_size P4.out ?_)
                  | (go_at_call 9; refine (nadd_any L C HN.out (HL.out.below E4.out) (fun x hx => by have := (SM.out.2 x hx).1; omega) (HY.out.below E4.out)).mono ?_; rintro e W5 hna; obtain ⟨g2, lw, rfl, hF2, hm2, hb⟩ := na_yes hna AN.out; have D5 := hidIt hb; have Q5 := hidIt hF2; have QM := hidIt hm2; clear hb hna hF2 hm2)
                  | (go_at_call 10; refine (lover_any ms.length C2 rfl (ML.out.below D5.out) (fun x hx => by have := (SMM.out x hx).1; omega) (by have := MN.out; have := SM.out.1; omega) (RM.out.below D5.out)).mono ?_; rw [MR.out]; rintro e W6 hov; obtain ⟨rfl, hb⟩ := ov_of hov OV.out; clear hov; have D6 := hidIt (D5.out.trans (hb.mono D5.out.size)); have K6 := hidIt hb; clear hb)
                  | (go_at_call 11; refine (nover_any L C HN.out (HL.out.below (E4.out.trans (D6.out.mono E4.out.size))) (fun x hx => by have := (SM.out.2 x hx).1; omega) (by have := SM.out.1; have := HN.out; omega)).mono ?_; rintro e W7 hov; obtain ⟨rfl, hb⟩ := ov_of hov OV.out; clear hov; have D7 := hidIt (D6.out.trans (hb.mono D6.out.size)); have K7 := hidIt (K6.out.trans (hb.mono K6.out.size)); clear hb)
                  | (go_at_call 12; refine (lspans_any ms.length C2 rfl (ML.out.below D7.out) (fun x hx => by have := (SMM.out x hx).1; omega) (fun x hx y hy => by have := (SMM.out x hx).2 y hy; unfold SmR at this; omega) (HF.out.below (E4.out.trans (D7.out.mono E4.out.size))) (HT.out.below (E4.out.trans (D7.out.mono E4.out.size)))).mono ?_; rw [MR.out]; rintro e W8 ⟨la, lc, lo, rfl, lown, lnew, loks, lmap, hb⟩; have D8 := hidIt (D7.out.trans (hb.mono D7.out.size)); have K8 := hidIt (K7.out.trans (hb.mono K7.out.size)); have LS := hidIt (And.intro lown (And.intro lnew loks)); have LM := hidIt lmap; have S8 := hidIt hb.size; clear hb lown lnew loks lmap)
                  | (go_at_call 13; refine (lcheck_any ms.length C2 rfl (ML.out.below D8.out) (fun x hx => by have := (SMM.out x hx).1; omega)).mono ?_; rw [MR.out, ← MI.out]; rintro e W9 ⟨rfl, hb⟩; have D9 := hidIt (D8.out.trans (hb.mono D8.out.size)); have K9 := hidIt (K8.out.trans (hb.mono K8.out.size)); have J9 := hidIt hb; clear hb)
                  | (go_at_call 14; refine (ncheck_any L C HN.out (HL.out.below (E4.out.trans (D9.out.mono E4.out.size))) (fun x hx => by have := (SM.out.2 x hx).1; omega)).mono ?_; rw [← MI.out]; rintro e W10 ⟨rfl, hb⟩; have D10 := hidIt (D9.out.trans (hb.mono D9.out.size)); have K10 := hidIt (K9.out.trans (hb.mono K9.out.size)); have J10 := hidIt (J9.out.trans (hb.mono J9.out.size)); clear hb)
                  | (go_at_call 15; have _q := t2; clear t2 _q; refine (XS.out g2 lw W5 Q5.out QM.out W10 D10.out K10.out).mono ?_; rintro e W11 ⟨rfl, hb⟩; have D11 := hidIt (D10.out.trans (hb.mono D10.out.size)); have J11 := hidIt (J10.out.trans (hb.mono J10.out.size)); clear hb)
                  | (go_at_call 17; refine (nspans_any L C HN.out (HL.out.below (E4.out.trans (D11.out.mono E4.out.size))) (fun x hx => by have := (SM.out.2 x hx).1; omega) (HF.out.below (E4.out.trans (D11.out.mono E4.out.size))) (HT.out.below (E4.out.trans (D11.out.mono E4.out.size)))).mono ?_; rintro e W12 ⟨na, nc, rfl, hns, hb⟩; have D12 := hidIt (D11.out.trans (hb.mono D11.out.size)); have J12 := hidIt (J11.out.trans (hb.mono J11.out.size)); have NS := hidIt hns; clear hb hns)
                  | (go_at_call 16; refine (sameRuns_eq lo.length (nsL ls ft tt).length lc nc rfl rfl ((LS.out.1.ls (fun x hx => (LS.out.2.2 x hx).2.any)).below J12.out) NS.out (lo_few (LM.out.trans (nsL_spD ls ft tt).symm) (SM.out)) (LM.out.trans (nsL_spD ls ft tt).symm)).mono ?_; rintro e W13 ⟨rfl, hb⟩; have D13 := hidIt (D12.out.trans (hb.mono D12.out.size)); have J13 := hidIt (J12.out.trans (hb.mono J12.out.size)); clear hb)
                  | (go_at_call 18; refine (tell_over (base := W7.heap.size) (LS.out.1.below J13.out) LS.out.2.1 (fun x hx => (LS.out.2.2 x hx).below J13.out) (Nat.le_trans S8.out J13.out.size) (lo_few (LM.out.trans (nsL_spD ls ft tt).symm) (SM.out))).mono ?_; rintro e W14 ⟨rfl, hb⟩; have D14 := hidIt (D13.out.trans (hb.mono D7.out.size)); clear hb))
    
              have ST : Hid (WoI W3.heap.size g lv os W3 0 W14) := hidIt (WoI.start (F4.out.below D14.out) GB.out.2 (B4.out.trans (D14.out.mono B4.out.size)) (Nat.le_refl _))
              have E3' := hidIt E3.out
              go_loopw [19] (fun iv wr => ∃ k : Nat, k ≤ 4 ∧ iv = .int .i64 (k : Int) ∧ Hid (WoI W3.heap.size g lv os W3 k wr)) (fun iv _ => 4 - (RowKit.intOf iv).toNat)
              case atStart => exact ⟨0, by omega, rfl, ST⟩
              case round =>
                clear ST
                obtain ⟨k, hk, rfl, hI⟩ := hrel
                rename World => wr
                by_cases hlt : k < 4
                · have ck : wr.cell? ⟨g, k, none⟩ = some (lv k) := (hI.out.rc.cel k (lv k) (four_at lv hlt)).1
                  have G := hidIt (wo_call hI.out hlt (OF.out k hlt))
                  obtain ⟨i0, i1, i2, i3, i4⟩ := tb_ar k 4 hlt (by omega)
                  have i0' : ((k : Int) < 4) = True := eq_true (by omega)
                  have i1' : (k < 4) = True := eq_true hlt
                  have LT := hidIt hlt
                  have GO := hidIt i4
                  clear hlt hk i4
                  go_wp2_with (go_at_call 18; refine G.out.mono ?_; rintro e W15 ⟨rfl, hb⟩; have N15 := hidIt hb; clear hb)
                  exact ⟨⟨k + 1, LT.out, rfl, N15⟩, GO.out⟩
                · obtain rfl : k = 4 := by omega
                  have E14 := hidIt (E3.out.trans (hI.out.below.mono E3.out.size))
                  have M14 := hidIt (MS3.out.below hI.out.below)
                  clear hk hlt
                  go_wp2_with (first
                    | (go_at_call 15; refine (sameLevels_eq ms.length L C2 C rfl HN.out M14.out (HL.out.below E14.out) (by have := MN.out; have := SM.out.1; omega) (fun x hx => by have := (SMM.out x hx).1; omega) MR.out).mono ?_; rintro e W16 ⟨rfl, hb⟩; have E16 := hidIt (E14.out.trans (hb.mono E14.out.size)); clear hb)
                    | (go_at_call 19; refine (lawake_any _).mono ?_; rintro e W17 ⟨rfl, hb⟩; have E17 := hidIt (E16.out.trans (hb.mono E16.out.size)); clear hb))
                  exact bodyPost_ret (v := .bool true) (by simp [results, Tryd.results3, go_sem]) rfl ⟨rfl, E17.out⟩
        
end Go.Proofs.YtcjapldhfolpnaaDoor
