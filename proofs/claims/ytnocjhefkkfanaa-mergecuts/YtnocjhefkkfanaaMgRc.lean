/-
  Walks, not a claim by itself: the reference's Cut. By the verifier.
-/
import Derived.Test.YtnocjhefkkfanaaMgPt
namespace Go.Proofs.Ytnocjhefkkfanaa
open Go.RowKit
attribute [-go_sem] Builtin.append_
theorem run_slice2 (T e : TypeId) (z : Nat) (ht : Try.prog.underlying T = some (.slice e)) (hs : (Try.prog.info? e).map (·.size) = some z) (b o len cap i j : Nat) (hi : i < j) (hj : j ≤ cap) (w : World) :
    (Instr.slice T (.slice (some ⟨b, o, none⟩) len cap) (some (.int .i64 (i : Int))) (some (.int .i64 (j : Int))) none).run Try.prog w = .ok (.slice (some ⟨b, o + i * z, none⟩) (j - i) (cap - i)) w := by
  cases hq : Try.prog.info? e with
  | none => simp [hq] at hs
  | some t =>
    have hz : t.size = z := by simpa [hq] using hs
    have h1 : i ≤ j := by omega
    have h2 : ¬ cap = i := by omega
    simp [Instr.slice, Instr.sliceBounds, run_underlying ht, Instr.sliceBound, asIntOf, h1, hj, h2, sizeOf, typeInfo, hq, hz, Addr.add_mid]
/-- What holds at the head of the loop. -/
structure UcI (W : World) (l : List Pr) (m k : Nat) (wr : World) (v : Value) (os : List LV) : Prop where
  own : OwnLs wr 0 v os
  new : ∀ g, v.ownBlock = some g → W.heap.size ≤ g
  oks : ∀ x ∈ os, LOk W x
  prs : prs os = (cutD l m).take k
  len : os.length = k
  below : Below W.heap.size W wr
theorem UcI.step {W wr w5 W6 : World} {l : List Pr} {m k : Nat} {v v6 : Value} {os : List LV} {y : LV} (h : UcI W l m k wr v os) (hB : Below wr.heap.size wr w5) (hI : InsL w5 v (os ++ [y]) v6 W6) (hy : LOk W y) (hc : (cutD l m)[k]? = some (y.ps.map PV.p)) : UcI W l m (k + 1) W6 v6 (os ++ [y]) := by
  have s5 := Nat.le_trans h.below.size hB.size
  refine ⟨hI.own, fun g hg => ?_, fun x hx => ?_, ?_, by simp [h.len], (h.below.trans (hB.mono h.below.size)).trans (hI.off.below (fun b hb => ?_) s5)⟩
  · rcases hI.blk g hg with q | q
    · exact h.new g q
    · omega
  · rcases List.mem_append.1 hx with hx | hx
    · exact h.oks x hx
    · rcases List.mem_singleton.1 hx with rfl
      exact hy
  · obtain ⟨hk, e⟩ := List.getElem?_eq_some_iff.1 hc
    rw [List.take_succ_eq_append_getElem hk, e, ← h.prs]
    simp [Go.Proofs.Ytnocjhefkkfanaa.prs]
  · cases e : v.ownBlock with
    | none => rw [e] at hb; cases hb
    | some q => rw [e] at hb; simp at hb; subst hb; exact h.new _ e
/-- What the reference's Cut answers. -/
def UcPost (W : World) (l : List (List Pr)) (e : Ending) (w' : World) : Prop := ∃ A C os, e = .returned (.tuple #[.slice A (os : List LV).length C, .int .i64 0]) ∧ Lsts w' A os ∧ prs os = l ∧ Below W.heap.size W w'
theorem add_ar (i m t : Nat) (ht : t = i + m) (h1 : i ≤ 100000) (h2 : m ≤ 64) : wrap64 ((i : Int) + (m : Int)) = (t : Int) ∧ IntKind.i64.wrap ((i : Int) + (m : Int)) = (t : Int) := ⟨by subst ht; unfold wrap64; omega, by subst ht; rw [IntKind.wrap_i64]; omega⟩
set_option maxRecDepth 100000 in
set_option maxHeartbeats 400000 in
theorem ucut_any {W : World} {a : Option Addr} {ps : List PV} (N C m : Nat) (hn : ps.length = N) (hL : Lst W a ps) (hf : N ≤ 10000) (hc : N ≤ C) (hm1 : 1 ≤ m) (hm2 : m ≤ 64) : Calls Try.prog 25 #[.slice a N C, .int .i64 (m : Int)] W (UcPost W (cutD (ps.map PV.p) m)) := by
  have HL := hidIt hL
  have HN := hidIt (And.intro hn (And.intro hf (And.intro hc (And.intro hm1 hm2))))
  have m1 : ((m : Int) < 1) = False := eq_false (by omega)
  have m2 : (64 < (m : Int)) = False := eq_false (by omega)
  have m1' : (m < 1) = False := eq_false (by omega)
  have m1'' : (m = 0) = False := eq_false (by omega)
  have m2' : (64 < m) = False := eq_false (by omega)
  have CL : Hid ((cutD (ps.map PV.p) m).length = ckN N m) := hidIt (by rw [cutD_len, hn])
  have st : Hid (UcI W (ps.map PV.p) m 0 W (.slice none 0 0) []) := hidIt ⟨OwnLs.nil _ _, fun g hg => (by cases hg), fun x hx => (by cases hx), rfl, rfl, Below.refl _ _⟩
  clear hn hL hf hc hm1 hm2
  go_enter Try.func25, Try.ntmps25
  go_wp2_with fail
  clear m1 m2 m1' m1'' m2'
  go_loopw [6, 7] (fun lv iv wr => ∃ (k i : Nat) (os : List LV), i = k * m ∧ k ≤ ckN N m ∧ iv = .int .i64 (i : Int) ∧ Hid (UcI W (ps.map PV.p) m k wr lv os)) (fun _ iv _ => N + 100 - (RowKit.intOf iv).toNat)
  case atStart => exact ⟨0, 0, _, by simp, Nat.zero_le _, rfl, st⟩
  case round =>
    clear st
    obtain ⟨k, i, os, hi, hk, rfl, hI⟩ := hrel
    by_cases hlt : i < N
    · have KL : k < ckN N m := (ck_lt HN.out.2.2.2.1).2 (by omega)
      have hne : ps ≠ [] := fun q => by have := HN.out.1; rw [q] at this; simp at this; omega
      obtain ⟨b, o, ha, _, _⟩ := HL.out.2 hne
      subst ha
      obtain ⟨t, ht⟩ : ∃ t, t = i + m := ⟨_, rfl⟩
      obtain ⟨j, hj⟩ : ∃ j, j = min t N := ⟨_, rfl⟩
      have hnn := HN.out
      have ij : i < j := by omega
      have jN : j ≤ N := by omega
      obtain ⟨y, hy⟩ : ∃ y : List PV, y = (ps.drop (k * m)).take m := ⟨_, rfl⟩
      have yl : y.length = j - i := by rw [hy, List.length_take, List.length_drop, ← hi]; omega
      have hcd : (cutD (ps.map PV.p) m)[k]? = some (y.map PV.p) := by rw [hy]; exact cutD_at ps m k (by rw [hnn.1]; exact KL)
      have LY : LOk W ⟨some ⟨b, o + i * 3, none⟩, C - i, y⟩ := ⟨by rw [hy, hi]; exact lst_part HL.out (k * m) m, by show y.length ≤ C - i; omega⟩
      have h3 := fun w => run_slice2 27 32 3 under_pairs pair_size b o N C i j ij (by omega) w
      rw [← yl] at h3
      obtain ⟨w5, hw5, hl5, b5⟩ := bs_lists wr [⟨some ⟨b, o + i * 3, none⟩, C - i, y⟩] (by intro z hz; rcases List.mem_singleton.1 hz with rfl; exact LY.below hI.out.below)
      have R5 : Rec19 w5 wr.heap.size 0 [.slice (some ⟨b, o + i * 3, none⟩) y.length (C - i)] := by rw [hw5]; exact Rec19.new wr _ _
      have ol : os.length ≤ 10000 := by
        have := hI.out.len
        have := Nat.le_mul_of_pos_right k (show 0 < m by omega)
        omega
      obtain ⟨v6, W6, hr6, I6⟩ := app_lists 22 w5 u6 os [⟨some ⟨b, o + i * 3, none⟩, C - i, y⟩] ⟨wr.heap.size, 0, none⟩ 1 (hI.out.own.below b5) (fun j u hj => by rw [Addr.add_mid]; exact R5.1 j u hj) (lcs_one _) (by simp) (by simp; omega)
      simp only [List.length_singleton] at hr6
      have NX : Hid (UcI W (ps.map PV.p) m (k + 1) W6 v6 (os ++ [⟨some ⟨b, o + i * 3, none⟩, C - i, y⟩])) := hidIt (hI.out.step b5 I6 LY hcd)
      obtain ⟨yn, hyn⟩ : ∃ yn, yn = y.length := ⟨_, rfl⟩
      rw [← hyn] at h3
      have HW5 : Hid (w5 = wr.alloc (.cells #[.slice (some ⟨b, o + i * 3, none⟩) yn (C - i)] 27)) := hidIt (by rw [hw5, hyn]; rfl)
      have TT : Hid (t = (k + 1) * m) := hidIt (by rw [Nat.succ_mul, ht, hi])
      have KK : Hid (k + 1 ≤ ckN N m) := hidIt KL
      have i0 : (i : Int) < (N : Int) := by omega
      have i1 : (0 : Int) ≤ (i : Int) := by omega
      have W12 := hidIt (add_ar i m t ht (by omega) (by omega))
      have ME : Hid (i < t ∧ i < N) := hidIt ⟨by omega, hlt⟩
      have go : ∀ z : Int, z = (t : Int) → N + 100 - (RowKit.intOf (.int .i64 z)).toNat < N + 100 - (RowKit.intOf (.int .i64 (i : Int))).toNat := fun z hz => by
        simp only [RowKit.intOf]
        omega
      have GO := hidIt go
      by_cases hmin : N < t
      · have q1 : (N < t) = True := eq_true hmin
        have q2 : ((N : Int) < (t : Int)) = True := eq_true (by omega)
        obtain rfl : j = N := by omega
        clear hi hk hlt hne hj ht hnn ij jN yl hcd LY hw5 hl5 b5 R5 ol I6 hyn hy KL go hmin
        obtain ⟨w1, w2⟩ := W12.out
        go_wp2_with (first
          | (refine wpList_run_w (by rfl) (.slice (some ⟨wr.heap.size, 0, none⟩) 1 1) w5 (by rw [HW5.out]; exact bsl_run 22 27 1 _ rfl 1 24 _ _ _ under_lists info_list (by decide) (by decide) rfl (by kernel_rfl)) ?_)
          | (at_builtin; refine wpList_append_go rfl (.tmp 21) (.tmp 31) 22 22 rfl _ _ rfl rfl hr6 ?_))
        exact ⟨⟨k + 1, t, _, TT.out, KK.out, rfl, NX⟩, GO.out _ rfl⟩
      · have q1 : (N < t) = False := eq_false hmin
        have q2 : ((N : Int) < (t : Int)) = False := eq_false (by omega)
        obtain rfl : j = t := by omega
        clear hi hk hlt hne hj ht hnn ij jN yl hcd LY hw5 hl5 b5 R5 ol I6 hyn hy KL go hmin
        obtain ⟨w1, w2⟩ := W12.out
        go_wp2_with (first
          | (refine wpList_run_w (by rfl) (.slice (some ⟨wr.heap.size, 0, none⟩) 1 1) w5 (by rw [HW5.out]; exact bsl_run 22 27 1 _ rfl 1 24 _ _ _ under_lists info_list (by decide) (by decide) rfl (by kernel_rfl)) ?_)
          | (at_builtin; refine wpList_append_go rfl (.tmp 21) (.tmp 31) 22 22 rfl _ _ rfl rfl hr6 ?_))
        exact ⟨⟨k + 1, j, _, TT.out, KK.out, rfl, NX⟩, GO.out _ rfl⟩
    · have i0 : ((i : Int) < (N : Int)) = False := eq_false (by omega)
      have ke : k = ckN N m := by
        rcases Nat.lt_or_ge k (ckN N m) with q | q
        · have := (ck_lt HN.out.2.2.2.1).1 q
          omega
        · omega
      obtain ⟨ua, uc, hu⟩ := hI.out.own.sl
      have FIN : Hid (UcPost W (cutD (ps.map PV.p) m) (.returned (.tuple #[u6, .int .i64 0])) wr) := hidIt ⟨ua, uc, os, by rw [hu], OwnLs.lsts (a := ua) (n := os.length) (cap := uc) (hu ▸ hI.out.own) (fun x hx => (hI.out.oks x hx).below hI.out.below), by rw [hI.out.prs, List.take_of_length_le (by rw [CL.out]; omega)], hI.out.below⟩
      clear hlt hk hu hi ke
      go_wp2_with fail
      exact bodyPost_ret (v := .tuple #[u6, .int .i64 0]) (by simp [results, Try.results25, go_sem]) rfl FIN.out
set_option maxRecDepth 100000 in
theorem ucut_bad {W : World} {a : Option Addr} (n C : Nat) (m : Int) (h : ¬ (1 ≤ m ∧ m ≤ 64)) : Calls Try.prog 25 #[.slice a n C, .int .i64 m] W fun e w' => e = .returned (.tuple #[.slice none 0 0, .int .i64 2]) ∧ Below W.heap.size W w' := by
  by_cases h1 : m < 1
  · have c1 : (m < 1) = True := eq_true h1
    clear h h1
    go_enter Try.func25, Try.ntmps25
    go_wp2_with fail
    exact bodyPost_ret (v := .tuple #[.slice none 0 0, .int .i64 2]) (by simp [results, Try.results25, go_sem]) rfl ⟨rfl, Below.refl _ _⟩
  · have c1 : (m < 1) = False := eq_false h1
    have c2 : (64 < m) = True := eq_true (by omega)
    clear h h1
    go_enter Try.func25, Try.ntmps25
    go_wp2_with fail
    exact bodyPost_ret (v := .tuple #[.slice none 0 0, .int .i64 2]) (by simp [results, Try.results25, go_sem]) rfl ⟨rfl, Below.refl _ _⟩
end Go.Proofs.Ytnocjhefkkfanaa
