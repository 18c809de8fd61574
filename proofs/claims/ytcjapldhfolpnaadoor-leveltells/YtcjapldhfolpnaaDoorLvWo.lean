/-
  Walks, not a claim by itself: the kit's OverBytes and OverRuns of what was told. By the verifier.
-/
import Derived.Test.YtcjapldhfolpnaaDoorLvNa
import Derived.Test.YtcjapldhfolpnaaDoorBOver
namespace Go.Proofs.YtcjapldhfolpnaaDoor
open Go.RowKit
theorem hsz_set {W : World} {g i : Nat} {u v : Value} (h : W.cell? ⟨g, i, none⟩ = some u) : hsz (W.setCell ⟨g, i, none⟩ v) g = hsz W g := by
  obtain ⟨o, ho, hc⟩ := cell_cells h
  cases o with
  | cells cur t fr =>
    have hg : W.heap[g]? = some (.cells cur t fr) := ho
    rw [setCell_eq_setRow W g i cur t fr v hg]
    unfold hsz
    rw [setRow_heap W g cur _ _ _ hg, hg]
    simp
  | _ => cases hc
def ovRelH (w : World) (g C : Nat) (F : Nat → Int) (i : Value) (wr : World) : Prop := ovRel w g C F i wr ∧ hsz wr g = hsz w g
set_option maxRecDepth 100000 in
set_option maxHeartbeats 1000000 in
theorem over_big (g n C : Nat) (F : Nat → Int) (w : World) (h : IRow w g .u8 C F) (hn : n ≤ C) (hC : C ≤ maxLen) :
    Calls Tryd.prog 41 #[.slice (some ⟨g, 0, none⟩) n C] w fun e w' => e = .returned (.tuple #[]) ∧ IRow w' g .u8 C (fun j => ov (F j)) ∧ But g w w' ∧ hsz w' g = hsz w g := by
  have ST : Hid (ovRelH w g C F (.int .i64 0) w) := ⟨⟨0, by omega, rfl, h.congr (fun j _ => by unfold ovF; rw [if_neg (by omega)]), But.refl _ _⟩, rfl⟩
  unfold maxLen at hC
  clear h
  have e0 : (0 : Int) ≤ (C : Int) := by omega
  have e1 : (n : Int) ≤ C := by omega
  go_enter Tryd.func41, Tryd.ntmps41
  go_wp2_with fail
  go_loopw [3] (fun i wr => ovRelH w g C F i wr) (fun i _ => C - (intOf i).toNat)
  case atStart => exact ST.out
  case round =>
    obtain ⟨⟨k, hk, rfl, hR, hB⟩, hz⟩ := hrel
    have HZ := hidIt hz
    clear ST hz
    have RR : Hid (IRow wr g .u8 C (ovF F k)) := hR
    have BE : Hid (But g w wr) := hB
    clear hB
    by_cases hlt : k < C
    · have c := hR.1 k hlt
      rw [ovF_at] at c
      have fr := hR.2.1 k
      have HS : Hid (∀ v, hsz (wr.setCell ⟨g, k, none⟩ v) g = hsz wr g) := hidIt (fun v => hsz_set c)
      clear hR
      have i0 : (k : Int) < C := by omega
      have i1 : (0 : Int) ≤ (k : Int) := by omega
      have i2 : wrap64 ((k : Int) + 1) = (k : Int) + 1 := by unfold wrap64; omega
      have i3 : IntKind.i64.wrap ((k : Int) + 1) = (k : Int) + 1 := by rw [IntKind.wrap_i64]; omega
      have eo : bits .xor .u8 (F k) 90 = ov (F k) := rfl
      go_wp2_with fail
      exact ⟨⟨⟨k + 1, by omega, by go_num, by rw [← ovF_step]; exact RR.out.set k _, BE.out.trans (But.set _ _ _)⟩, (HS.out _).trans HZ.out⟩, by simp [intOf]; omega⟩
    · obtain rfl : k = C := by omega
      clear hR
      go_wp2_with fail
      exact bodyPost_end (by simp [results, Tryd.results41, go_sem]) rfl ⟨rfl, RR.out.congr (fun j hj => by unfold ovF; rw [if_pos hj]), BE.out, HZ.out⟩
/-- The worlds are the same but for blocks of S and new ones. -/
structure OfS (S : Nat → Prop) (w w' : World) : Prop where
  os : w'.os = w.os
  tape : w'.tape = w.tape
  output : w'.output = w.output
  size : w.heap.size ≤ w'.heap.size
  block : ∀ k, k < w.heap.size → ¬ S k → w'.heap[k]? = w.heap[k]?
theorem OfS.refl (S : Nat → Prop) (w : World) : OfS S w w := ⟨rfl, rfl, rfl, Nat.le_refl _, fun _ _ _ => rfl⟩
theorem OfS.trans {S : Nat → Prop} {u v w : World} (h : OfS S u v) (k : OfS S v w) : OfS S u w := ⟨k.os.trans h.os, k.tape.trans h.tape, k.output.trans h.output, Nat.le_trans h.size k.size, fun i hi hn => (k.block i (Nat.lt_of_lt_of_le hi h.size) hn).trans (h.block i hi hn)⟩
theorem OfS.but {S : Nat → Prop} {b : Nat} {w w' : World} (h : But b w w') (hb : S b) : OfS S w w' := ⟨h.os, h.tape, h.output, h.size, fun k hk hn => h.block k hk (fun q => hn (q ▸ hb))⟩
theorem OfS.below {S : Nat → Prop} {B : Nat} {w w' : World} (h : OfS S w w') (h1 : ∀ b, S b → B ≤ b) (h2 : B ≤ w.heap.size) : Below B w w' := ⟨h.os, h.tape, h.output, h.size, fun k hk => h.block k (Nat.lt_of_lt_of_le hk h2) (fun q => by have := h1 k q; omega)⟩
theorem OfS.mono {S T : Nat → Prop} {w w' : World} (h : OfS S w w') (hs : ∀ b, S b → T b) : OfS T w w' := ⟨h.os, h.tape, h.output, h.size, fun k hk hn => h.block k hk (fun q => hn (hs k q))⟩
theorem over_zero (q : Addr) (w : World) : Calls Tryd.prog 41 #[.slice (some q) 0 0] w fun e w' => e = .returned (.tuple #[]) ∧ w' = w := by
  go_enter Tryd.func41, Tryd.ntmps41
  go_wp2
  refine wp_loop_rounds 1 ?_
  rw [rounds_succ]
  go_wp2
  exact bodyPost_end (by simp [results, Tryd.results41, go_sem]) rfl ⟨rfl, rfl⟩
/-- Bytes that may be written over, apart from the blocks of T. -/
def OvS (W : World) (S T : Nat → Prop) (s : Value) : Prop := (s = .slice none 0 0 ∨ ∃ q, s = .slice (some q) 0 0) ∨ ∃ g n F, s = .slice (some ⟨g, 0, none⟩) n (hsz W g) ∧ S g ∧ ¬ T g ∧ n ≤ hsz W g ∧ hsz W g ≤ maxLen ∧ IRow W g .u8 (hsz W g) F
theorem OvS.of {W : World} {S T : Nat → Prop} {base : Nat} {s : Value} {t : ByteArray} {N : List Nat} (h : FrC W base s t) (k : Txt W N s t) (hT : ∀ b, T b → b ∈ N) (hS : ∀ b, base ≤ b → b < W.heap.size → S b) : OvS W S T s := by
  rcases h with (⟨_, h⟩ | ⟨g, F, hs, hb, h0, h1, h2, hR, _, _⟩) | ⟨_, g, h⟩
  · exact .inl (.inl h)
  · refine .inr ⟨g, t.size, F, hs, hS g hb hR.2.2, fun q => ?_, h1, h2, hR⟩
    obtain ⟨a, C, f, hs', _, _, hn⟩ := k
    rw [hs] at hs'
    injection hs' with ha
    exact hn h0 _ ha.symm (hT g q)
  · exact .inl (.inr ⟨_, h⟩)
/-- What writing over does to the world. -/
def OvR (S T : Nat → Prop) (W W' : World) : Prop := W' = W ∨ ∃ g F, S g ∧ ¬ T g ∧ But g W W' ∧ hsz W' g = hsz W g ∧ IRow W' g .u8 (hsz W g) F
theorem OvS.keep {S T : Nat → Prop} {W W' : World} {s : Value} (h : OvS W S T s) (k : OvR S T W W') : OvS W' S T s := by
  rcases k with rfl | ⟨g, F, hb, hl, hB, hz, hR⟩
  · exact h
  · rcases h with h | ⟨g2, n, F2, hs, hb2, hl2, h1, h2, hR2⟩
    · exact .inl h
    · by_cases e : g2 = g
      · subst e
        exact .inr ⟨g2, n, F, by rw [hz]; exact hs, hb2, hl2, by rw [hz]; exact h1, by rw [hz]; exact h2, by rw [hz]; exact hR⟩
      · have q : hsz W' g2 = hsz W g2 := hsz_eq (hB.block g2 hR2.2.2 e)
        exact .inr ⟨g2, n, F2, by rw [q]; exact hs, hb2, hl2, by rw [q]; exact h1, by rw [q]; exact h2, by rw [q]; exact hR2.but hB e⟩
theorem OvR.ofs {S T : Nat → Prop} {W W' : World} (k : OvR S T W W') : OfS S W W' := by
  rcases k with rfl | ⟨g, F, hg, _, hB, _⟩
  · exact OfS.refl _ _
  · exact OfS.but hB hg
theorem OvR.blk {S T : Nat → Prop} {W W' : World} (k : OvR S T W W') {M : Nat} (hM : T M) (hs : M < W.heap.size) : W'.heap[M]? = W.heap[M]? := by
  rcases k with rfl | ⟨g, F, _, hl, hB, _⟩
  · rfl
  · exact hB.block M hs (fun q => hl (q ▸ hM))
theorem OvR.rec {S T : Nat → Prop} {L : Nat} {W W' : World} {cs : List Value} (k : OvR S T W W') (hL : T L) (h : Rec19 W L 0 cs) : Rec19 W' L 0 cs := by
  rcases k with rfl | ⟨g, F, _, hl, hB, _⟩
  · exact h
  · exact h.but hB (fun q => hl (q ▸ hL))
theorem over_s {S T : Nat → Prop} {W : World} {s : Value} (h : OvS W S T s) : Calls Tryd.prog 41 #[s] W fun e w' => e = .returned (.tuple #[]) ∧ OvR S T W w' := by
  rcases h with (rfl | ⟨q, rfl⟩) | ⟨g, n, F, rfl, hb, hl, h1, h2, hR⟩
  · refine (over_nil W).mono ?_
    rintro e w' ⟨rfl, rfl⟩
    exact ⟨rfl, .inl rfl⟩
  · refine (over_zero q W).mono ?_
    rintro e w' ⟨rfl, rfl⟩
    exact ⟨rfl, .inl rfl⟩
  · refine (over_big g n _ F W hR h1 h2).mono ?_
    rintro e w' ⟨rfl, h3, h4, h5⟩
    exact ⟨rfl, .inr ⟨g, _, hb, hl, h4, h5, h3⟩⟩
theorem laidL_hi (cs : List Value) (o : Nat) (vs : List Value) (h : o + vs.length ≤ cs.length) (j : Nat) (hj : o + vs.length ≤ j) : (laidL cs o vs)[j]? = cs[j]? := by
  unfold laidL
  have hl : (cs.take o ++ vs).length = o + vs.length := by rw [List.length_append, List.length_take]; omega
  rw [List.getElem?_append_right (by omega), hl, List.getElem?_drop]
  congr 1
  omega
theorem OvS.but {S T : Nat → Prop} {L : Nat} {W W' : World} {s : Value} (h : OvS W S T s) (hL : T L) (hB : But L W W') : OvS W' S T s := by
  rcases h with h | ⟨g2, n, F2, hs, hb2, hl2, h1, h2, hR2⟩
  · exact .inl h
  · have e : g2 ≠ L := fun q => hl2 (q ▸ hL)
    have q : hsz W' g2 = hsz W g2 := hsz_eq (hB.block g2 hR2.2.2 e)
    exact .inr ⟨g2, n, F2, by rw [q]; exact hs, hb2, hl2, by rw [q]; exact h1, by rw [q]; exact h2, by rw [q]; exact hR2.but hB e⟩
def zrn : List Value := [.int .i64 0, .int .i64 0, .int .i64 0, .slice none 0 0, .slice none 0 0]
/-- What OverRuns keeps of the rest. -/
structure OvK (S T : Nat → Prop) (L : Nat) (W W' : World) : Prop where
  ofs : OfS S W W'
  keep : ∀ s, OvS W S T s → OvS W' S T s
  blk : ∀ M, T M → M ≠ L → M < W.heap.size → W'.heap[M]? = W.heap[M]?
theorem OvK.refl (S T : Nat → Prop) (L : Nat) (W : World) : OvK S T L W W := ⟨OfS.refl _ _, fun _ h => h, fun _ _ _ _ => rfl⟩
theorem OvK.over {S T : Nat → Prop} {L : Nat} {W wr w' : World} (h : OvK S T L W wr) (hR : OvR S T wr w') : OvK S T L W w' := ⟨h.ofs.trans hR.ofs, fun s hs => (h.keep s hs).keep hR, fun M hM hn hs => (hR.blk hM (Nat.lt_of_lt_of_le hs h.ofs.size)).trans (h.blk M hM hn hs)⟩
theorem OvK.but {S T : Nat → Prop} {L : Nat} {W wr w' : World} (h : OvK S T L W wr) (hL : T L) (hS : S L) (hB : But L wr w') : OvK S T L W w' := ⟨h.ofs.trans (OfS.but hB hS), fun s hs => (h.keep s hs).but hL hB, fun M hM hn hs => (hB.block M (Nat.lt_of_lt_of_le hs h.ofs.size) hn).trans (h.blk M hM hn hs)⟩
/-- What OverRuns' loop keeps. -/
structure OpI (S T : Nat → Prop) (L : Nat) (W : World) (os : List RV) (k : Nat) (wr : World) (cs : List Value) : Prop where
  rc : Rec19 wr L 0 cs
  len : cs.length = os.length * 5
  is : ∀ j x q, k ≤ j → os[j]? = some x → q < 5 → cs[j * 5 + q]? = x.cs[q]?
  ovs : ∀ x ∈ os, OvS wr S T x.f ∧ OvS wr S T x.l
  ok : OvK S T L W wr
theorem OpI.over {S T : Nat → Prop} {L : Nat} {W wr w' : World} {os : List RV} {k : Nat} {cs : List Value} (h : OpI S T L W os k wr cs) (hL : T L) (hR : OvR S T wr w') : OpI S T L W os k w' cs :=
  ⟨hR.rec hL h.rc, h.len, h.is, fun x hx => ⟨(h.ovs x hx).1.keep hR, (h.ovs x hx).2.keep hR⟩, h.ok.over hR⟩
theorem OpI.next {S T : Nat → Prop} {L : Nat} {W wr w' : World} {os : List RV} {k : Nat} {cs : List Value} (h : OpI S T L W os k wr cs) (hk : k < os.length) (hT : T L) (hL : S L) (hR : Rec19 w' L 0 (laidL cs (k * 5) zrn)) (hB : But L wr w') : OpI S T L W os (k + 1) w' (laidL cs (k * 5) zrn) := by
  have hl : k * 5 + zrn.length ≤ cs.length := by rw [h.len]; show k * 5 + 5 ≤ _; omega
  refine ⟨hR, by rw [laidL_len _ _ _ hl]; exact h.len, fun j x q hj hx hq => ?_, fun x hx => ⟨(h.ovs x hx).1.but hT hB, (h.ovs x hx).2.but hT hB⟩, h.ok.but hT hL hB⟩
  rw [laidL_hi _ _ _ hl _ (by show k * 5 + 5 ≤ _; omega)]
  exact h.is j x q (by omega) hx hq
set_option maxRecDepth 100000 in
set_option maxHeartbeats 2000000 in
theorem overRuns_any {S T : Nat → Prop} {W : World} {a : Option Addr} {os : List RV} (n C L : Nat) (hn : os.length = n) (hf : n ≤ 100000) (hA : os ≠ [] → a = some ⟨L, 0, none⟩ ∧ S L ∧ T L ∧ Rec19 W L 0 (rcs os) ∧ ∀ x ∈ os, OvS W S T x.f ∧ OvS W S T x.l) : Calls Tryd.prog 18 #[.slice a n C] W fun e w' => e = .returned (.tuple #[]) ∧ OvK S T L W w' := by
  by_cases h0 : os = []
  · subst h0
    obtain rfl : n = 0 := by simpa using hn.symm
    clear hA hn hf
    go_enter Tryd.func18, Tryd.ntmps18
    go_wp2_with fail
    refine wp_loop_rounds 1 ?_
    rw [rounds_succ]
    go_wp2_with fail
    exact bodyPost_end (by simp [results, Tryd.results18, go_sem]) rfl ⟨rfl, OvK.refl _ _ _ _⟩
  · obtain ⟨rfl, hL, hT, hR, hO⟩ := hA h0
    have st : Hid (OpI S T L W os 0 W (rcs os)) := hidIt ⟨hR, rcs_len os, fun j x q _ hx hq => rcs_at os j q x hx hq, hO, OvK.refl _ _ _ _⟩
    have HN := hidIt hn
    have HF := hidIt hf
    have HL := hidIt (And.intro hL hT)
    clear hA h0 hR hO hn hf hL hT
    go_enter Tryd.func18, Tryd.ntmps18
    go_wp2_with fail
    go_loopw [2] (fun i wr => ∃ (k : Nat) (cs : List Value), k ≤ n ∧ i = .int .i64 (k : Int) ∧ Hid (OpI S T L W os k wr cs)) (fun i _ => n - (RowKit.intOf i).toNat)
    case atStart => exact ⟨0, _, Nat.zero_le _, rfl, st⟩
    case round =>
      clear st
      obtain ⟨k, cs, hk, rfl, hI⟩ := hrel
      by_cases hlt : k < n
      · obtain ⟨x, hx⟩ : ∃ x, os[k]? = some x := ⟨_, List.getElem?_eq_getElem (by have := HN.out; omega)⟩
        have HX := hidIt hx
        have LT := hidIt hlt
        have CE : Hid (∀ U, OpI S T L W os k U cs → U.cell? ⟨L, k * 5 + 3, none⟩ = some x.f ∧ U.cell? ⟨L, k * 5 + 4, none⟩ = some x.l) := hidIt (fun U hU => by
          have h0 := hU.is k x 3 (Nat.le_refl _) HX.out (by omega)
          have h1 := hU.is k x 4 (Nat.le_refl _) HX.out (by omega)
          exact ⟨(hU.rc.cel (k * 5 + 3) x.f h0).1, (hU.rc.cel (k * 5 + 4) x.l h1).1⟩)
        obtain ⟨i0, i1, i2, i3, i4⟩ := tb_ar k n hlt HF.out
        have GO := hidIt i4
        obtain ⟨c0, _⟩ := CE.out _ hI.out
        have na : Hid True := trivial
        clear hx hlt hk i4
        go_wp2_with (first
          | (go_at_call 41; have _q := na; clear na _q; refine (over_s (hI.out.ovs x (List.mem_of_getElem? HX.out)).1).mono ?_; rintro e W2 ⟨rfl, hr⟩; have I2 := hidIt (hI.out.over HL.out.2 hr); clear hr c0; obtain ⟨_, c1⟩ := CE.out _ I2.out)
          | (go_at_call 41; refine (over_s (I2.out.ovs x (List.mem_of_getElem? HX.out)).2).mono ?_; rintro e W3 ⟨rfl, hr⟩; have I3 := hidIt (I2.out.over HL.out.2 hr); clear hr c1)
          | (refine wpList_put_rec rfl 27 (.tmp 24) (.tmp 23) rfl L (k * 5) cs zrn _ _ rfl rfl rfl I3.out.rc (by show k * 5 + 5 ≤ cs.length; rw [I3.out.len]; have := LT.out; have := HN.out; omega) rfl (by kernel_rfl) (by intro u hu; simp only [zrn, List.mem_cons, List.not_mem_nil, or_false] at hu; rcases hu with rfl | rfl | rfl | rfl | rfl <;> rfl) ?_; intro W4 R4 B4 z4; have I4 := hidIt (I3.out.next (by have := LT.out; have := HN.out; omega) HL.out.2 HL.out.1 R4 B4); clear R4 B4 z4))
        exact ⟨⟨k + 1, _, LT.out, rfl, I4⟩, GO.out⟩
      · have i0 : ((k : Int) < (n : Int)) = False := eq_false (by omega)
        have BF := hidIt hI.out.ok
        clear hlt hk
        go_wp2_with fail
        exact bodyPost_end (by simp [results, Tryd.results18, go_sem]) rfl ⟨rfl, BF.out⟩
end Go.Proofs.YtcjapldhfolpnaaDoor
