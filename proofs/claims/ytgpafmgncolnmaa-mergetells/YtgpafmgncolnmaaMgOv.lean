/-
  Walks, not a claim by itself: the kit's OverBytes and OverPairs of what was told. By the verifier.
-/
import Derived.Test.YtgpafmgncolnmaaMgAw
import Derived.Test.YtgpafmgncolnmaaBOver
namespace Go.Proofs.Ytgpafmgncolnmaa
open Go.RowKit
theorem hsz_set {W : World} {g i : Nat} {u v : Value} (h : W.cell? ⟨g, i, none⟩ = some u) : hsz (W.setCell ⟨g, i, none⟩ v) g = hsz W g := by
  obtain ⟨o, ho, hc⟩ := cell_cells h
  cases o with
  | cells cur t fr =>
    have hg : W.heap[g]? = some (.cells cur t fr) := ho
    rw [setCell_eq_setRow W g i cur t fr v hg]
    unfold hsz
    rw [setRow_heap W g cur _ _ _ hg, hg]
    simp
  | _ => cases hc
def ovRelH (w : World) (g C : Nat) (F : Nat → Int) (i : Value) (wr : World) : Prop := ovRel w g C F i wr ∧ hsz wr g = hsz w g
set_option maxRecDepth 100000 in
set_option maxHeartbeats 1000000 in
theorem over_big (g n C : Nat) (F : Nat → Int) (w : World) (h : IRow w g .u8 C F) (hn : n ≤ C) (hC : C ≤ maxLen) :
    Calls Try.prog 20 #[.slice (some ⟨g, 0, none⟩) n C] w fun e w' => e = .returned (.tuple #[]) ∧ IRow w' g .u8 C (fun j => ov (F j)) ∧ But g w w' ∧ hsz w' g = hsz w g := by
  have ST : Hid (ovRelH w g C F (.int .i64 0) w) := ⟨⟨0, by omega, rfl, h.congr (fun j _ => by unfold ovF; rw [if_neg (by omega)]), But.refl _ _⟩, rfl⟩
  unfold maxLen at hC
  clear h
  have e0 : (0 : Int) ≤ (C : Int) := by omega
  have e1 : (n : Int) ≤ C := by omega
  go_enter Try.func20, Try.ntmps20
  go_wp2_with fail
  go_loopw [3] (fun i wr => ovRelH w g C F i wr) (fun i _ => C - (intOf i).toNat)
  case atStart => exact ST.out
  case round =>
    obtain ⟨⟨k, hk, rfl, hR, hB⟩, hz⟩ := hrel
    have HZ := hidIt hz
    clear ST hz
    have RR : Hid (IRow wr g .u8 C (ovF F k)) := hR
    have BE : Hid (But g w wr) := hB
    clear hB
    by_cases hlt : k < C
    · have c := hR.1 k hlt
      rw [ovF_at] at c
      have fr := hR.2.1 k
      have HS : Hid (∀ v, hsz (wr.setCell ⟨g, k, none⟩ v) g = hsz wr g) := hidIt (fun v => hsz_set c)
      clear hR
      have i0 : (k : Int) < C := by omega
      have i1 : (0 : Int) ≤ (k : Int) := by omega
      have i2 : wrap64 ((k : Int) + 1) = (k : Int) + 1 := by unfold wrap64; omega
      have i3 : IntKind.i64.wrap ((k : Int) + 1) = (k : Int) + 1 := by rw [IntKind.wrap_i64]; omega
      have eo : bits .xor .u8 (F k) 90 = ov (F k) := rfl
      go_wp2_with fail
      exact ⟨⟨⟨k + 1, by omega, by go_num, by rw [← ovF_step]; exact RR.out.set k _, BE.out.trans (But.set _ _ _)⟩, (HS.out _).trans HZ.out⟩, by simp [intOf]; omega⟩
    · obtain rfl : k = C := by omega
      clear hR
      go_wp2_with fail
      exact bodyPost_end (by simp [results, Try.results20, go_sem]) rfl ⟨rfl, RR.out.congr (fun j hj => by unfold ovF; rw [if_pos hj]), BE.out, HZ.out⟩
/-- The worlds are the same but for blocks of S and new ones. -/
structure OfS (S : Nat → Prop) (w w' : World) : Prop where
  os : w'.os = w.os
  tape : w'.tape = w.tape
  output : w'.output = w.output
  size : w.heap.size ≤ w'.heap.size
  block : ∀ k, k < w.heap.size → ¬ S k → w'.heap[k]? = w.heap[k]?
theorem OfS.refl (S : Nat → Prop) (w : World) : OfS S w w := ⟨rfl, rfl, rfl, Nat.le_refl _, fun _ _ _ => rfl⟩
theorem OfS.trans {S : Nat → Prop} {u v w : World} (h : OfS S u v) (k : OfS S v w) : OfS S u w := ⟨k.os.trans h.os, k.tape.trans h.tape, k.output.trans h.output, Nat.le_trans h.size k.size, fun i hi hn => (k.block i (Nat.lt_of_lt_of_le hi h.size) hn).trans (h.block i hi hn)⟩
theorem OfS.but {S : Nat → Prop} {b : Nat} {w w' : World} (h : But b w w') (hb : S b) : OfS S w w' := ⟨h.os, h.tape, h.output, h.size, fun k hk hn => h.block k hk (fun q => hn (q ▸ hb))⟩
theorem OfS.below {S : Nat → Prop} {B : Nat} {w w' : World} (h : OfS S w w') (h1 : ∀ b, S b → B ≤ b) (h2 : B ≤ w.heap.size) : Below B w w' := ⟨h.os, h.tape, h.output, h.size, fun k hk => h.block k (Nat.lt_of_lt_of_le hk h2) (fun q => by have := h1 k q; omega)⟩
theorem OfS.mono {S T : Nat → Prop} {w w' : World} (h : OfS S w w') (hs : ∀ b, S b → T b) : OfS T w w' := ⟨h.os, h.tape, h.output, h.size, fun k hk hn => h.block k hk (fun q => hn (hs k q))⟩
theorem over_zero (q : Addr) (w : World) : Calls Try.prog 20 #[.slice (some q) 0 0] w fun e w' => e = .returned (.tuple #[]) ∧ w' = w := by
  go_enter Try.func20, Try.ntmps20
  go_wp2
  refine wp_loop_rounds 1 ?_
  rw [rounds_succ]
  go_wp2
  exact bodyPost_end (by simp [results, Try.results20, go_sem]) rfl ⟨rfl, rfl⟩
/-- Bytes that may be written over, apart from the block L. -/
def OvS (W : World) (S : Nat → Prop) (L : Nat) (s : Value) : Prop := (s = .slice none 0 0 ∨ ∃ q, s = .slice (some q) 0 0) ∨ ∃ g n F, s = .slice (some ⟨g, 0, none⟩) n (hsz W g) ∧ S g ∧ g ≠ L ∧ n ≤ hsz W g ∧ hsz W g ≤ maxLen ∧ IRow W g .u8 (hsz W g) F
theorem OvS.of {W : World} {S : Nat → Prop} {base L : Nat} {s : Value} {t : ByteArray} {N : List Nat} (h : FrC W base s t) (k : Txt W N s t) (hL : L ∈ N) (hS : ∀ b, base ≤ b → b < W.heap.size → S b) : OvS W S L s := by
  rcases h with (⟨_, h⟩ | ⟨g, F, hs, hb, h0, h1, h2, hR, _, _⟩) | ⟨_, g, h⟩
  · exact .inl (.inl h)
  · refine .inr ⟨g, t.size, F, hs, hS g hb hR.2.2, fun q => ?_, h1, h2, hR⟩
    obtain ⟨a, C, f, hs', _, _, hn⟩ := k
    rw [hs] at hs'
    injection hs' with ha
    exact hn h0 _ ha.symm (by show g ∈ N; rw [q]; exact hL)
  · exact .inl (.inr ⟨_, h⟩)
/-- What writing over does to the world. -/
def OvR (S : Nat → Prop) (L : Nat) (W W' : World) : Prop := W' = W ∨ ∃ g F, S g ∧ g ≠ L ∧ But g W W' ∧ hsz W' g = hsz W g ∧ IRow W' g .u8 (hsz W g) F
theorem OvS.keep {S : Nat → Prop} {L : Nat} {W W' : World} {s : Value} (h : OvS W S L s) (k : OvR S L W W') : OvS W' S L s := by
  rcases k with rfl | ⟨g, F, hb, hl, hB, hz, hR⟩
  · exact h
  · rcases h with h | ⟨g2, n, F2, hs, hb2, hl2, h1, h2, hR2⟩
    · exact .inl h
    · by_cases e : g2 = g
      · subst e
        exact .inr ⟨g2, n, F, by rw [hz]; exact hs, hb2, hl2, by rw [hz]; exact h1, by rw [hz]; exact h2, by rw [hz]; exact hR⟩
      · have q : hsz W' g2 = hsz W g2 := hsz_eq (hB.block g2 hR2.2.2 e)
        exact .inr ⟨g2, n, F2, by rw [q]; exact hs, hb2, hl2, by rw [q]; exact h1, by rw [q]; exact h2, by rw [q]; exact hR2.but hB e⟩
theorem OvR.ofs {S : Nat → Prop} {L : Nat} {W W' : World} (k : OvR S L W W') : OfS S W W' := by
  rcases k with rfl | ⟨g, F, hg, _, hB, _⟩
  · exact OfS.refl _ _
  · exact OfS.but hB hg
theorem OvR.rec {S : Nat → Prop} {L : Nat} {W W' : World} {cs : List Value} (k : OvR S L W W') (h : Rec19 W L 0 cs) : Rec19 W' L 0 cs := by
  rcases k with rfl | ⟨g, F, _, hl, hB, _⟩
  · exact h
  · exact h.but hB (fun q => hl q.symm)
theorem over_s {S : Nat → Prop} {L : Nat} {W : World} {s : Value} (h : OvS W S L s) : Calls Try.prog 20 #[s] W fun e w' => e = .returned (.tuple #[]) ∧ OvR S L W w' := by
  rcases h with (rfl | ⟨q, rfl⟩) | ⟨g, n, F, rfl, hb, hl, h1, h2, hR⟩
  · refine (over_nil W).mono ?_
    rintro e w' ⟨rfl, rfl⟩
    exact ⟨rfl, .inl rfl⟩
  · refine (over_zero q W).mono ?_
    rintro e w' ⟨rfl, rfl⟩
    exact ⟨rfl, .inl rfl⟩
  · refine (over_big g n _ F W hR h1 h2).mono ?_
    rintro e w' ⟨rfl, h3, h4, h5⟩
    exact ⟨rfl, .inr ⟨g, _, hb, hl, h4, h5, h3⟩⟩
theorem laidL_hi (cs : List Value) (o : Nat) (vs : List Value) (h : o + vs.length ≤ cs.length) (j : Nat) (hj : o + vs.length ≤ j) : (laidL cs o vs)[j]? = cs[j]? := by
  unfold laidL
  have hl : (cs.take o ++ vs).length = o + vs.length := by rw [List.length_append, List.length_take]; omega
  rw [List.getElem?_append_right (by omega), hl, List.getElem?_drop]
  congr 1
  omega
/-- What OverPairs' loop keeps. -/
structure OpI (S : Nat → Prop) (L : Nat) (W : World) (os : List PV) (k : Nat) (wr : World) (cs : List Value) : Prop where
  rc : Rec19 wr L 0 cs
  len : cs.length = os.length * 3
  is : ∀ j x q, k ≤ j → os[j]? = some x → q < 3 → cs[j * 3 + q]? = x.cs[q]?
  ovs : ∀ x ∈ os, OvS wr S L x.k ∧ OvS wr S L x.v
  below : OfS S W wr
theorem OpI.over {S : Nat → Prop} {L : Nat} {W wr w' : World} {os : List PV} {k : Nat} {cs : List Value} (h : OpI S L W os k wr cs) (hR : OvR S L wr w') : OpI S L W os k w' cs :=
  ⟨hR.rec h.rc, h.len, h.is, fun x hx => ⟨(h.ovs x hx).1.keep hR, (h.ovs x hx).2.keep hR⟩, h.below.trans hR.ofs⟩
theorem OpI.next {S : Nat → Prop} {L : Nat} {W wr w' : World} {os : List PV} {k : Nat} {cs : List Value} (h : OpI S L W os k wr cs) (hk : k < os.length) (hR : Rec19 w' L 0 (laidL cs (k * 3) [.slice none 0 0, .slice none 0 0, .bool false])) (hB : But L wr w') (hL : S L) (hne : ∀ x ∈ os, OvS wr S L x.k ∧ OvS wr S L x.v → OvS w' S L x.k ∧ OvS w' S L x.v) : OpI S L W os (k + 1) w' (laidL cs (k * 3) [.slice none 0 0, .slice none 0 0, .bool false]) := by
  have hl : k * 3 + 3 ≤ cs.length := by rw [h.len]; omega
  refine ⟨hR, by rw [laidL_len _ _ _ hl]; exact h.len, fun j x q hj hx hq => ?_, fun x hx => hne x hx (h.ovs x hx), h.below.trans (OfS.but hB hL)⟩
  rw [laidL_hi _ _ _ hl _ (by show k * 3 + 3 ≤ _; omega)]
  exact h.is j x q (by omega) hx hq
theorem OvS.but {S : Nat → Prop} {L : Nat} {W W' : World} {s : Value} (h : OvS W S L s) (hB : But L W W') : OvS W' S L s := by
  rcases h with h | ⟨g2, n, F2, hs, hb2, hl2, h1, h2, hR2⟩
  · exact .inl h
  · have q : hsz W' g2 = hsz W g2 := hsz_eq (hB.block g2 hR2.2.2 hl2)
    exact .inr ⟨g2, n, F2, by rw [q]; exact hs, hb2, hl2, by rw [q]; exact h1, by rw [q]; exact h2, by rw [q]; exact hR2.but hB hl2⟩
set_option maxRecDepth 100000 in
set_option maxHeartbeats 2000000 in
theorem overPairs_any {S : Nat → Prop} {W : World} {a : Option Addr} {os : List PV} (n C : Nat) (hn : os.length = n) (hf : n ≤ 100000) (hA : os ≠ [] → ∃ L, a = some ⟨L, 0, none⟩ ∧ S L ∧ Rec19 W L 0 (pcs os) ∧ ∀ x ∈ os, OvS W S L x.k ∧ OvS W S L x.v) : Calls Try.prog 19 #[.slice a n C] W fun e w' => e = .returned (.tuple #[]) ∧ OfS S W w' := by
  by_cases h0 : os = []
  · subst h0
    obtain rfl : n = 0 := by simpa using hn.symm
    clear hA hn hf
    go_enter Try.func19, Try.ntmps19
    go_wp2_with fail
    refine wp_loop_rounds 1 ?_
    rw [rounds_succ]
    go_wp2_with fail
    exact bodyPost_end (by simp [results, Try.results19, go_sem]) rfl ⟨rfl, OfS.refl _ _⟩
  · obtain ⟨L, rfl, hL, hR, hO⟩ := hA h0
    have st : Hid (OpI S L W os 0 W (pcs os)) := hidIt ⟨hR, pcs_len os, fun j x q _ hx hq => pcs_at os j q x hx hq, hO, OfS.refl _ _⟩
    have HN := hidIt hn
    have HF := hidIt hf
    have HL := hidIt hL
    clear hA h0 hR hO hn hf hL
    go_enter Try.func19, Try.ntmps19
    go_wp2_with fail
    go_loopw [2] (fun i wr => ∃ (k : Nat) (cs : List Value), k ≤ n ∧ i = .int .i64 (k : Int) ∧ Hid (OpI S L W os k wr cs)) (fun i _ => n - (RowKit.intOf i).toNat)
    case atStart => exact ⟨0, _, Nat.zero_le _, rfl, st⟩
    case round =>
      clear st
      obtain ⟨k, cs, hk, rfl, hI⟩ := hrel
      by_cases hlt : k < n
      · obtain ⟨x, hx⟩ : ∃ x, os[k]? = some x := ⟨_, List.getElem?_eq_getElem (by have := HN.out; omega)⟩
        have HX := hidIt hx
        have LT := hidIt hlt
        have CE : Hid (∀ U, OpI S L W os k U cs → U.cell? ⟨L, k * 3, none⟩ = some x.k ∧ U.cell? ⟨L, k * 3 + 1, none⟩ = some x.v) := hidIt (fun U hU => by
          have h0 := hU.is k x 0 (Nat.le_refl _) HX.out (by omega)
          have h1 := hU.is k x 1 (Nat.le_refl _) HX.out (by omega)
          have g0 := (hU.rc.cel (k * 3 + 0) x.k h0).1
          have g1 := (hU.rc.cel (k * 3 + 1) x.v h1).1
          exact ⟨g0, g1⟩)
        obtain ⟨i0, i1, i2, i3⟩ := k_ar k n hlt HF.out
        obtain ⟨c0, _⟩ := CE.out _ hI.out
        have na : Hid True := trivial
        clear hx hlt hk
        go_wp2_with (first
          | (go_at_call 20; have _q := na; clear na _q; refine (over_s (hI.out.ovs x (List.mem_of_getElem? HX.out)).1).mono ?_; rintro e W2 ⟨rfl, hr⟩; have I2 := hidIt (hI.out.over hr); clear hr c0; obtain ⟨_, c1⟩ := CE.out _ I2.out)
          | (go_at_call 20; refine (over_s (I2.out.ovs x (List.mem_of_getElem? HX.out)).2).mono ?_; rintro e W3 ⟨rfl, hr⟩; have I3 := hidIt (I2.out.over hr); clear hr c1)
          | (refine wpList_put_rec rfl 32 (.tmp 24) (.tmp 23) rfl L (k * 3) cs [.slice none 0 0, .slice none 0 0, .bool false] _ _ rfl rfl rfl I3.out.rc (by show k * 3 + 3 ≤ cs.length; rw [I3.out.len]; have := LT.out; have := HN.out; omega) rfl (by kernel_rfl) (by intro u hu; simp only [List.mem_cons, List.not_mem_nil, or_false] at hu; rcases hu with rfl | rfl | rfl <;> rfl) ?_; intro W4 R4 B4 z4; have I4 := hidIt (I3.out.next (by have := LT.out; have := HN.out; omega) R4 B4 HL.out (fun y _ hy => ⟨hy.1.but B4, hy.2.but B4⟩)); clear R4 B4 z4))
        exact ⟨⟨k + 1, _, LT.out, rfl, I4⟩, meas_k n k _ rfl LT.out⟩
      · have i0 : ((k : Int) < (n : Int)) = False := eq_false (by omega)
        have BF := hidIt hI.out.below
        clear hlt hk
        go_wp2_with fail
        exact bodyPost_end (by simp [results, Try.results19, go_sem]) rfl ⟨rfl, BF.out⟩
/-- A list that was told lately may be written over. -/
theorem told_over {W : World} {S : Nat → Prop} {base : Nat} {a : Option Addr} {n C : Nat} {os : List PV} (h1 : OwnP W 0 (.slice a n C) os) (h2 : ∀ g, (Value.slice a n C).ownBlock = some g → base ≤ g) (h3 : ∀ x ∈ os, PVOk W (Value.slice a n C).ownBlock.toList x) (h4 : ∀ x ∈ os, FrC W base x.k x.p.k ∧ FrC W base x.v x.p.v) (hS : ∀ b, base ≤ b → b < W.heap.size → S b) : os ≠ [] → ∃ L, a = some ⟨L, 0, none⟩ ∧ S L ∧ Rec19 W L 0 (pcs os) ∧ ∀ x ∈ os, OvS W S L x.k ∧ OvS W S L x.v := fun hne => by
  rcases h1.form with ⟨_, h0⟩ | ⟨g, cap, hv, _, _, _, hg, hR⟩
  · exact absurd h0 hne
  · injection hv with ha q2 q3
    subst ha
    refine ⟨g, rfl, hS g (h2 g rfl) hg, hR, fun x hx => ?_⟩
    exact ⟨OvS.of (h4 x hx).1 (h3 x hx).1 (by simp [Value.ownBlock]) hS, OvS.of (h4 x hx).2 (h3 x hx).2 (by simp [Value.ownBlock]) hS⟩
end Go.Proofs.Ytgpafmgncolnmaa
