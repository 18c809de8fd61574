/-
  Walks, not a claim by itself: memtable's seek. By the verifier.
-/
import Derived.Test.YtandkedipjmdbaaMtChk
namespace Go.Proofs.Ytandkedipjmdbaa
open Go.RowKit
/-- What holds at the head of the search's loop. -/
def bsR (W : World) (l : List Pr) (t : ByteArray) (n : Nat) (i j : Value) (wr : World) : Prop := ∃ lo hi : Nat, i = .int .i64 (lo : Int) ∧ j = .int .i64 (hi : Int) ∧ lo ≤ hi ∧ hi ≤ n ∧ Below W.heap.size W wr ∧ (∀ k p, k < lo → l[k]? = some p → cmpB p.k t < 0) ∧ (∀ k p, hi ≤ k → l[k]? = some p → 0 ≤ cmpB p.k t)
theorem bs_low {l : List Pr} {t : ByteArray} (hS : Srt l) {m : Nat} {p : Pr} (hp : l[m]? = some p) (h : cmpB p.k t < 0) : ∀ k q, k < m + 1 → l[k]? = some q → cmpB q.k t < 0 := fun k q hk hq => by
  by_cases e : k = m
  · subst e; rw [hp] at hq; injection hq with hq; rw [← hq]; exact h
  · exact c_trans (srt_mono hS (show k < m by omega) hq hp) h
theorem bs_high {l : List Pr} {t : ByteArray} (hS : Srt l) {m : Nat} {p : Pr} (hp : l[m]? = some p) (h : 0 ≤ cmpB p.k t) : ∀ k q, m ≤ k → l[k]? = some q → 0 ≤ cmpB q.k t := fun k q hk hq => by
  by_cases e : k = m
  · subst e; rw [hp] at hq; injection hq with hq; rw [← hq]; exact h
  · exact Int.not_lt.1 fun z => absurd (c_trans (srt_mono hS (show m < k by omega) hp hq) z) (Int.not_lt.2 h)
theorem half_int (lo hi : Nat) (h : lo < hi) (hn : hi ≤ 1000000) : ∃ m : Nat, wrap64 ((lo : Int) + (hi : Int)) = (lo : Int) + (hi : Int) ∧ IntKind.u64.wrap ((lo : Int) + (hi : Int)) = (lo : Int) + (hi : Int) ∧ wrap64 (((lo : Int) + (hi : Int)) / 2) = (m : Int) ∧ wrap64 ((m : Int) + 1) = (m : Int) + 1 ∧ lo ≤ m ∧ m < hi :=
  ⟨(lo + hi) / 2, by unfold wrap64; omega, by rw [IntKind.wrap_u64]; omega, by unfold wrap64; omega, by unfold wrap64; omega, by omega, by omega⟩
theorem bs_go (W w1 : World) (l : List Pr) (t : ByteArray) (n m hi : Nat) (z : Int) (hz : z = (m : Int) + 1) (hm : m < hi) (hn : hi ≤ n) (hB : Below W.heap.size W w1) (h1 : ∀ k p, k < m + 1 → l[k]? = some p → cmpB p.k t < 0) (h2 : ∀ k p, hi ≤ k → l[k]? = some p → 0 ≤ cmpB p.k t) : bsR W l t n (.int .i64 z) (.int .i64 (hi : Int)) w1 :=
  ⟨m + 1, hi, by rw [hz]; rfl, rfl, hm, hn, hB, h1, h2⟩
theorem meas_go (lo m hi : Nat) (z : Int) (hz : z = (m : Int) + 1) (h : lo ≤ m) (k : m < hi) : (RowKit.intOf (.int .i64 (hi : Int)) - RowKit.intOf (.int .i64 z)).toNat < (RowKit.intOf (.int .i64 (hi : Int)) - RowKit.intOf (.int .i64 (lo : Int))).toNat := by
  simp only [RowKit.intOf]
  omega
theorem beq0 (z : Int) : (z == 0) = decide (z = 0) := by by_cases h : z = 0 <;> simp [h]
theorem meas_lo (lo m hi : Nat) (h : lo ≤ m) (k : m < hi) : ((hi : Int) - ((m : Int) + 1)).toNat < ((hi : Int) - (lo : Int)).toNat := by omega
theorem meas_hi (lo m hi : Nat) (h : lo ≤ m) (k : m < hi) : ((m : Int) - (lo : Int)).toNat < ((hi : Int) - (lo : Int)).toNat := by omega
/-- The three cells of a pair. -/
theorem three_cells {W : World} {b o : Nat} {x : PV} (h : W.rangeAt b o x.cs) : W.cell? ⟨b, o, none⟩ = some x.k ∧ W.cell? ⟨b, o + 1, none⟩ = some x.v ∧ W.cell? ⟨b, o + 2, none⟩ = some (.bool x.p.g) := ⟨h 0 _ rfl, h 1 _ rfl, h 2 _ rfl⟩
theorem has_at {l : List Pr} {t : ByteArray} {i : Nat} {p : Pr} (hi : pos l t = i) (hp : l[i]? = some p) : has l t = decide (cmpB p.k t = 0) := by unfold has; rw [hi, hp]
theorem has_end {l : List Pr} {t : ByteArray} {i : Nat} (hi : pos l t = i) (hl : l.length ≤ i) : has l t = false := by unfold has; rw [hi, List.getElem?_eq_none hl]
set_option maxRecDepth 100000 in
set_option maxHeartbeats 1000000 in
theorem bsf_any (W : World) (a : Option Addr) (ps : List PV) (n C : Nat) (N : List Nat) (key : Value) (t : ByteArray) (hn : ps.length = n) (hL : Lst W a ps) (hm : n ≤ 1000000) (hS : Srt (ps.map PV.p)) (hk : Txt W N key t) :
    Calls Try.prog 52 #[.slice a n C, key, .func (.func 53) #[] #[]] W fun e w' => e = .returned (.tuple #[.int .i64 ((pos (ps.map PV.p) t : Nat) : Int), .bool (has (ps.map PV.p) t)]) ∧ Below W.heap.size W w' := by
  have HL := hidIt hL
  have HS := hidIt hS
  have HK := hidIt hk
  have HN := hidIt hn
  have HM := hidIt hm
  have st : Hid (bsR W (ps.map PV.p) t n (.int .i64 0) (.int .i64 (n : Int)) W) := ⟨0, n, rfl, rfl, Nat.zero_le _, Nat.le_refl _, Below.refl _ _, fun k p hk => by omega, fun k p hk hp => by have := (List.getElem?_eq_some_iff.1 hp).1; simp at this; omega⟩
  clear hL hS hk hn hm
  go_enter Try.func52, Try.ntmps52
  go_wp2_with fail
  go_loopw [9, 10] (fun i j wr => bsR W (ps.map PV.p) t n i j wr) (fun i j _ => ((RowKit.intOf j) - (RowKit.intOf i)).toNat)
  case atStart => exact st.out
  case round =>
    clear st
    obtain ⟨lo, hi, rfl, rfl, hlh, hhn, hB, h1, h2⟩ := hrel
    have BB := hidIt hB
    have H1 := hidIt h1
    have H2 := hidIt h2
    clear hB h1 h2
    by_cases hlt : lo < hi
    · obtain ⟨m, em1, em2, em3, em4, m1, m2⟩ := half_int lo hi hlt (by have := HM.out; omega)
      obtain ⟨x, hx⟩ : ∃ x, ps[m]? = some x := ⟨_, List.getElem?_eq_getElem (by have := HN.out; omega)⟩
      have hp : (ps.map PV.p)[m]? = some x.p := by rw [List.getElem?_map, hx]; rfl
      obtain ⟨b, off, ha, hr, _⟩ := (HL.out.below BB.out).at m x hx
      have X := hidIt (And.intro hp (And.intro hx (And.intro m1 m2)))
      have CM := hidIt (seekf_any ((HL.out.1 x (List.mem_of_getElem? hx)).below BB.out) (HK.out.below BB.out))
      subst ha
      have i0 : (lo : Int) < hi := Int.ofNat_lt.2 hlt
      have i1 : (m : Int) < n := Int.ofNat_lt.2 (Nat.lt_of_lt_of_le m2 hhn)
      have i2 : (0 : Int) ≤ (m : Int) := Int.natCast_nonneg m
      have hm4 : ((m + 1 : Nat) : Int) = (m : Int) + 1 := rfl
      have Y := hidIt (And.intro hlh hhn)
      clear hp hx m1 m2 hlh hhn
      by_cases hc : cmpB x.p.k t < 0
      · have c1 : (cmpB x.p.k t < 0) = True := eq_true hc
        clear hc
        as_aux_lemma =>
        go_wp2_with (first
          | (refine wpList_load_mid rfl 47 (.tmp 27) rfl b (off + m * 3) rfl x.cs _ hr Try.underlying47 rfl pair_size ?_)
          | (go_at_call 53; refine CM.out.mono ?_; rintro e w1 ⟨rfl, hb⟩; have B1 := hidIt (BB.out.trans (hb.mono BB.out.size)); clear hb))
        obtain ⟨hp, hx, m1, m2⟩ := X.out
        exact ⟨bs_go W w1 (ps.map PV.p) t n m hi _ em4 m2 Y.out.2 B1.out (bs_low HS.out hp (of_eq_true c1)) H2.out, meas_go lo m hi _ em4 m1 m2⟩
      · have c1 : (cmpB x.p.k t < 0) = False := eq_false hc
        have HC := hidIt (Int.not_lt.1 hc)
        clear hc
        as_aux_lemma =>
        go_wp2_with (first
          | (refine wpList_load_mid rfl 47 (.tmp 27) rfl b (off + m * 3) rfl x.cs _ hr Try.underlying47 rfl pair_size ?_)
          | (go_at_call 53; refine CM.out.mono ?_; rintro e w1 ⟨rfl, hb⟩; have B1 := hidIt (BB.out.trans (hb.mono BB.out.size)); clear hb))
        obtain ⟨hp, hx, m1, m2⟩ := X.out
        refine ⟨⟨lo, m, rfl, rfl, m1, by have := Y.out.2; omega, B1.out, H1.out, bs_high HS.out hp HC.out⟩, ?_⟩
        simp only [RowKit.intOf]
        exact meas_hi lo m hi m1 m2
    · obtain rfl : lo = hi := by omega
      have PO := hidIt (pos_of (ps.map PV.p) t lo (by simp; have := HN.out; omega) H1.out (fun p hp => Int.not_lt.2 (H2.out lo p (Nat.le_refl _) hp)))
      by_cases hl : lo < n
      · obtain ⟨x, hx⟩ : ∃ x, ps[lo]? = some x := ⟨_, List.getElem?_eq_getElem (by have := HN.out; omega)⟩
        have hp : (ps.map PV.p)[lo]? = some x.p := by rw [List.getElem?_map, hx]; rfl
        obtain ⟨b, off, ha, hr, _⟩ := (HL.out.below BB.out).at lo x hx
        have CM := hidIt (seekf_any ((HL.out.1 x (List.mem_of_getElem? hx)).below BB.out) (HK.out.below BB.out))
        have HH := hidIt (has_at PO.out hp)
        subst ha
        have i1 : (lo : Int) < n := by omega
        have i2 : (0 : Int) ≤ (lo : Int) := by omega
        clear hp hx hlh hhn H1 H2 hlt hl
        obtain ⟨k0, k1, k2⟩ := three_cells hr
        clear hr
        as_aux_lemma =>
        go_wp2_with (first
          | (go_at_call 53; refine CM.out.mono ?_; rintro e w1 ⟨rfl, hb⟩; have B1 := hidIt (BB.out.trans (hb.mono BB.out.size)); clear hb))
        go_ret2
        exact ⟨by rw [PO.out, HH.out, ← beq0]; rfl, B1.out⟩
      · have HH := hidIt (has_end PO.out (by simp; have := HN.out; omega))
        have i1 : ((lo : Int) < n) = False := eq_false (by omega)
        clear hlh hhn H1 H2 hlt hl
        as_aux_lemma =>
        go_wp2_with fail
        go_ret2
        exact ⟨by rw [PO.out, HH.out]; rfl, BB.out⟩
/-- A table lies in memory: its pairs, and the blocks that may be written. -/
structure Tab (W : World) (t : Nat) (v : Value) (ps : List PV) : Prop where
  own : OwnP W 0 v ps
  rc : Rec19 W t 0 [.pointer (some ⟨t, 0, none⟩), v]
  apart : ∀ g, v.ownBlock = some g → g ≠ t
  ok : ∀ x ∈ ps, PVOk W (t :: v.ownBlock.toList) x
  mays : ∀ x ∈ ps, may x.p
  srt : Srt (ps.map PV.p)
  few : ps.length ≤ 64
theorem Tab.lt {W : World} {t : Nat} {v : Value} {ps : List PV} (h : Tab W t v ps) : ∀ b, b ∈ t :: v.ownBlock.toList → b < W.heap.size := fun b hb => by
  rcases List.mem_cons.1 hb with rfl | hb
  · exact h.rc.2.2
  · cases e : v.ownBlock with
    | none => rw [e] at hb; cases hb
    | some g => rw [e] at hb; simp at hb; subst hb; exact (World.ownsRow.lt h.own _ e).2
theorem Tab.off {W W' : World} {t : Nat} {v : Value} {ps : List PV} {N : List Nat} (h : Tab W t v ps) (hO : Off N W W') (hN : ∀ b, b ∈ N → b ∉ t :: v.ownBlock.toList) (hP : ∀ x ∈ ps, PVOk W N x) : Tab W' t v ps := by
  have ht : t ∉ N := fun q => hN t q (by simp)
  refine ⟨h.own.off hO (fun g hg q => hN g q (by simp [hg])), h.rc.off hO ht, h.apart, fun x hx => ?_, h.mays, h.srt, h.few⟩
  have h1 := h.ok x hx
  have h2 := hP x hx
  exact ⟨h1.1.both h2.1 hO, h1.2.both h2.2 hO⟩
theorem Tab.below {W W' : World} {t : Nat} {v : Value} {ps : List PV} (h : Tab W t v ps) (hB : Below W.heap.size W W') : Tab W' t v ps :=
  ⟨h.own.below hB, h.rc.below hB, h.apart, fun x hx => (h.ok x hx).below hB, h.mays, h.srt, h.few⟩
theorem Tab.lst {W : World} {t : Nat} {v : Value} {ps : List PV} (h : Tab W t v ps) : ∃ a cap, v = .slice a ps.length cap ∧ Lst W a ps := by
  obtain ⟨a, cap, hv, _⟩ := h.own.slice
  exact ⟨a, cap, hv, OwnP.lst (a := a) (n := ps.length) (cap := cap) (hv ▸ h.own) (fun x hx => (h.ok x hx).mono (fun b hb => by cases hb))⟩
theorem Tab.nil (W : World) (t : Nat) : Rec19 W t 0 [.pointer (some ⟨t, 0, none⟩), .slice none 0 0] → Tab W t (.slice none 0 0) [] := fun h =>
  ⟨OwnP.nil W 0, h, fun g hg => (by cases hg), fun x hx => (by cases hx), fun x hx => (by cases hx), List.Pairwise.nil, by simp⟩
set_option maxRecDepth 100000 in
theorem seek_any {W : World} {N : List Nat} {t : Nat} {v key : Value} {ps : List PV} {k : ByteArray} (h : Tab W t v ps) (hk : Txt W N key k) : Calls Try.prog 42 #[.pointer (some ⟨t, 0, none⟩), key] W fun e w' => e = .returned (.tuple #[.int .i64 ((pos (ps.map PV.p) k : Nat) : Int), .bool (has (ps.map PV.p) k)]) ∧ Below W.heap.size W w' := by
  obtain ⟨a, cap, rfl, hL⟩ := h.lst
  have c1 := (h.rc.cel 1 _ rfl).1
  have B := hidIt (bsf_any W a ps ps.length cap N key k rfl hL (by have := h.few; omega) h.srt hk)
  clear h hk hL
  generalize pos (ps.map PV.p) k = i at B ⊢
  generalize has (ps.map PV.p) k = y at B ⊢
  go_enter Try.func42, Try.ntmps42
  go_wp2_with (go_at_call 52; refine B.out.mono ?_; rintro e w1 ⟨rfl, hb⟩; have B1 := hidIt hb; clear hb)
  go_ret2
  exact ⟨rfl, B1.out⟩
end Go.Proofs.Ytandkedipjmdbaa
