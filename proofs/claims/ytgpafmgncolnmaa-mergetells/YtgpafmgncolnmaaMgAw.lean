/-
  Walks, not a claim by itself: the chapter's first examples. By the verifier.
-/
import Derived.Test.YtgpafmgncolnmaaMgFi
namespace Go.Proofs.Ytgpafmgncolnmaa
open Go.RowKit
theorem info_list : (Try.prog.info? 27).map (fun i => (i.zero, i.size, i.bytes)) = some (some (.slice none 0 0), 1, 24) := by kernel_rfl
theorem under_lists : Try.prog.underlying 22 = some (.slice 27) := by kernel_rfl
theorem bs_pairs (W : World) (xs : List PV) (h : ∀ x ∈ xs, PVOk W [] x) : ∃ W', W' = W.alloc (.cells (pcs xs).toArray 32) ∧ Lst W' (some ⟨W.heap.size, 0, none⟩) xs ∧ Below W.heap.size W W' := ⟨_, rfl, lst_new W xs h, (Below.refl _ _).alloc (Nat.le_refl _) _⟩
theorem bs_lists (W : World) (ls : List LV) (h : ∀ x ∈ ls, LOk W x) : ∃ W', W' = W.alloc (.cells (ls.map LV.v).toArray 27) ∧ Lsts W' (some ⟨W.heap.size, 0, none⟩) ls ∧ Below W.heap.size W W' := by
  have B : Below W.heap.size W (W.alloc (.cells (ls.map LV.v).toArray 27)) := (Below.refl _ _).alloc (Nat.le_refl _) _
  exact ⟨_, rfl, ⟨fun x hx => (h x hx).below B, fun _ => ⟨W.heap.size, 0, rfl, (Rec19.new W _ (ls.map LV.v)).1, by simp⟩⟩, B⟩
/-! What is told, of pairs alone. -/
def insD : List Pr → Pr → List Pr
  | [], x => [x]
  | a :: r, x => if cmpB a.k x.k < 0 then a :: insD r x else if cmpB a.k x.k = 0 then a :: r else x :: a :: r
theorem insD_map : ∀ (l : List PV) (x : PV), (insA l x).map PV.p = insD (l.map PV.p) x.p
  | [], _ => rfl
  | a :: r, x => by
    have ih := insD_map r x
    simp only [List.map_cons]
    unfold insA insD
    by_cases h : cmpB a.p.k x.p.k < 0
    · rw [if_pos h, if_pos h, List.map_cons, ih]
    · rw [if_neg h, if_neg h]
      by_cases k : cmpB a.p.k x.p.k = 0
      · rw [if_pos k, if_pos k]; rfl
      · rw [if_neg k, if_neg k]; rfl
theorem fold_map : ∀ (l acc : List PV), (l.foldl insA acc).map PV.p = (l.map PV.p).foldl insD (acc.map PV.p)
  | [], _ => rfl
  | x :: r, acc => by rw [List.foldl_cons, fold_map r, insD_map, List.map_cons, List.foldl_cons]
/-- Lists as pairs alone. -/
def prs (ls : List LV) : List (List Pr) := ls.map fun x => x.ps.map PV.p
def mrgD (m : List (List Pr)) (drop : Bool) : List Pr := (m.flatten.foldl insD []).filter fun p => !(drop && p.g)
theorem prs_flat (ls : List LV) : (prs ls).flatten = (allP ls).map PV.p := by
  unfold prs allP
  rw [List.map_flatMap]
  rfl
theorem mrgR_eq (ls : List LV) (drop : Bool) : mrgR ls drop = mrgD (prs ls) drop := by
  unfold mrgR mrgD mrgP
  rw [prs_flat, ← show ([] : List PV).map PV.p = [] from rfl, ← fold_map, List.filter_map]
  rfl
instance srtDec (l : List Pr) : Decidable (Srt l) := by unfold Srt; infer_instance
def chkD (m : List (List Pr)) : Int := if 32 < m.length ∨ 4096 < (m.map List.length).sum then 3 else if ∀ l ∈ m, Srt l then 0 else 2
theorem chkC_eq (ls : List LV) : chkC ls = chkD (prs ls) := by
  have e1 : (prs ls).length = ls.length := by simp [prs]
  have e2 : ((prs ls).map List.length).sum = tot ls := by
    unfold prs tot
    rw [List.map_map]
    congr 1
    exact List.map_congr_left fun x _ => by simp
  have e3 : (∀ x ∈ ls, Chn (x.ps.map PV.p)) ↔ ∀ l ∈ prs ls, Srt l := by
    unfold prs
    constructor
    · intro h l hl
      obtain ⟨x, hx, rfl⟩ := List.mem_map.1 hl
      exact srt_of_chn (h x hx)
    · intro h x hx
      exact chn_of (h _ (List.mem_map.2 ⟨x, hx, rfl⟩))
  unfold chkD
  rw [e1, e2]
  by_cases h : 32 < ls.length ∨ 4096 < tot ls
  · rw [chk_long h, if_pos h]
  · rw [if_neg h]
    by_cases k : ∀ l ∈ prs ls, Srt l
    · rw [if_pos k, chk_ok h (e3.2 k)]
    · rw [if_neg k]
      unfold chkC
      rw [if_neg h, if_neg (fun q => k (e3.1 q))]
/-- The chapter's lists. -/
def TW : List (List Pr) := [[⟨⟨#[97]⟩, ⟨#[49]⟩, false⟩, ⟨⟨#[99]⟩, ⟨#[51]⟩, false⟩], [⟨⟨#[97]⟩, ⟨#[50]⟩, false⟩, ⟨⟨#[98]⟩, .empty, true⟩]]
theorem tw_chk : chkD TW = 0 := by decide
theorem tw_1 : mrgD TW false = [⟨⟨#[97]⟩, ⟨#[49]⟩, false⟩, ⟨⟨#[98]⟩, .empty, true⟩, ⟨⟨#[99]⟩, ⟨#[51]⟩, false⟩] := by decide
theorem tw_2 : mrgD TW true = [⟨⟨#[97]⟩, ⟨#[49]⟩, false⟩, ⟨⟨#[99]⟩, ⟨#[51]⟩, false⟩] := by decide
/-- What two answers. -/
def TwoPost (W : World) (e : Ending) (w' : World) : Prop := ∃ A ls, e = .returned (.slice A 2 2) ∧ ls.length = 2 ∧ Lsts w' A ls ∧ prs ls = TW ∧ Below W.heap.size W w'
set_option maxRecDepth 100000 in
set_option maxHeartbeats 2000000 in
theorem two_any (W : World) : Calls Try.prog 39 #[] W (TwoPost W) := by
  have q0 : Hid True := trivial
  have E : Hid (Below W.heap.size W W) := hidIt (Below.refl _ _)
  go_enter Try.func39, Try.ntmps39
  go_wp2_with (first
    | (go_at_call 26; have _q := q0; clear q0 _q; refine (is_any W ⟨#[97]⟩ ⟨#[49]⟩).mono ?_; rintro e U1 ⟨a0, n0, C0, b0, m0, D0, rfl, hp, hb⟩; replace E := hidIt (E.out.trans (hb.mono E.out.size)); have P0 := hidIt hp; clear hp hb; have q1 : Hid True := trivial)
    | (go_at_call 26; have _q := q1; clear q1 _q; refine (is_any U1 ⟨#[99]⟩ ⟨#[51]⟩).mono ?_; rintro e U2 ⟨a1, n1, C1, b1, m1, D1, rfl, hp, hb⟩; replace P0 := hidIt (P0.out.below hb); replace E := hidIt (E.out.trans (hb.mono E.out.size)); have P1 := hidIt hp; clear hp hb; have q2 : Hid True := trivial)
    | (have _q := q2; clear q2 _q; obtain ⟨U3, hW, hl, hb⟩ := bs_pairs U2 [(PV.mk (.slice a0 n0 C0) (.slice b0 m0 D0) ⟨⟨#[97]⟩, ⟨#[49]⟩, false⟩), (PV.mk (.slice a1 n1 C1) (.slice b1 m1 D1) ⟨⟨#[99]⟩, ⟨#[51]⟩, false⟩)] (by intro x hx; simp only [List.mem_cons, List.not_mem_nil, or_false] at hx; rcases hx with rfl | rfl; exact P0.out; exact P1.out); refine wpList_run_w (by rfl) (.slice (some ⟨U2.heap.size, 0, none⟩) 2 2) U3 (by rw [hW]; exact bsl_run 27 32 2 _ rfl 3 56 _ _ _ under_pairs info_pair (by decide) (by decide) rfl (by kernel_rfl)) ?_; replace P0 := hidIt (P0.out.below hb); replace P1 := hidIt (P1.out.below hb); replace E := hidIt (E.out.trans (hb.mono E.out.size)); have L2 : Hid (LOk U3 ⟨some ⟨U2.heap.size, 0, none⟩, 2, [(PV.mk (.slice a0 n0 C0) (.slice b0 m0 D0) ⟨⟨#[97]⟩, ⟨#[49]⟩, false⟩), (PV.mk (.slice a1 n1 C1) (.slice b1 m1 D1) ⟨⟨#[99]⟩, ⟨#[51]⟩, false⟩)]⟩) := hidIt ⟨hl, Nat.le_refl _⟩; clear hW hl hb; have q3 : Hid True := trivial)
    | (go_at_call 26; have _q := q3; clear q3 _q; refine (is_any U3 ⟨#[97]⟩ ⟨#[50]⟩).mono ?_; rintro e U4 ⟨a3, n3, C3, b3, m3, D3, rfl, hp, hb⟩; replace P0 := hidIt (P0.out.below hb); replace P1 := hidIt (P1.out.below hb); replace L2 := hidIt (L2.out.below hb); replace E := hidIt (E.out.trans (hb.mono E.out.size)); have P3 := hidIt hp; clear hp hb; have q4 : Hid True := trivial)
    | (go_at_call 28; have _q := q4; clear q4 _q; refine (gone_any U4 ⟨#[98]⟩).mono ?_; rintro e U5 ⟨a4, n4, C4, b4, m4, D4, rfl, hp, hb⟩; replace P0 := hidIt (P0.out.below hb); replace P1 := hidIt (P1.out.below hb); replace L2 := hidIt (L2.out.below hb); replace P3 := hidIt (P3.out.below hb); replace E := hidIt (E.out.trans (hb.mono E.out.size)); have P4 := hidIt hp; clear hp hb; have q5 : Hid True := trivial)
    | (have _q := q5; clear q5 _q; obtain ⟨U6, hW, hl, hb⟩ := bs_pairs U5 [(PV.mk (.slice a3 n3 C3) (.slice b3 m3 D3) ⟨⟨#[97]⟩, ⟨#[50]⟩, false⟩), (PV.mk (.slice a4 n4 C4) (.slice b4 m4 D4) ⟨⟨#[98]⟩, .empty, true⟩)] (by intro x hx; simp only [List.mem_cons, List.not_mem_nil, or_false] at hx; rcases hx with rfl | rfl; exact P3.out; exact P4.out); refine wpList_run_w (by rfl) (.slice (some ⟨U5.heap.size, 0, none⟩) 2 2) U6 (by rw [hW]; exact bsl_run 27 32 2 _ rfl 3 56 _ _ _ under_pairs info_pair (by decide) (by decide) rfl (by kernel_rfl)) ?_; replace P0 := hidIt (P0.out.below hb); replace P1 := hidIt (P1.out.below hb); replace L2 := hidIt (L2.out.below hb); replace P3 := hidIt (P3.out.below hb); replace P4 := hidIt (P4.out.below hb); replace E := hidIt (E.out.trans (hb.mono E.out.size)); have L5 : Hid (LOk U6 ⟨some ⟨U5.heap.size, 0, none⟩, 2, [(PV.mk (.slice a3 n3 C3) (.slice b3 m3 D3) ⟨⟨#[97]⟩, ⟨#[50]⟩, false⟩), (PV.mk (.slice a4 n4 C4) (.slice b4 m4 D4) ⟨⟨#[98]⟩, .empty, true⟩)]⟩) := hidIt ⟨hl, Nat.le_refl _⟩; clear hW hl hb; have q6 : Hid True := trivial)
    | (have _q := q6; clear q6 _q; obtain ⟨U7, hW, hl, hb⟩ := bs_lists U6 [(LV.mk (some ⟨U2.heap.size, 0, none⟩) 2 [(PV.mk (.slice a0 n0 C0) (.slice b0 m0 D0) ⟨⟨#[97]⟩, ⟨#[49]⟩, false⟩), (PV.mk (.slice a1 n1 C1) (.slice b1 m1 D1) ⟨⟨#[99]⟩, ⟨#[51]⟩, false⟩)]), (LV.mk (some ⟨U5.heap.size, 0, none⟩) 2 [(PV.mk (.slice a3 n3 C3) (.slice b3 m3 D3) ⟨⟨#[97]⟩, ⟨#[50]⟩, false⟩), (PV.mk (.slice a4 n4 C4) (.slice b4 m4 D4) ⟨⟨#[98]⟩, .empty, true⟩)])] (by intro x hx; simp only [List.mem_cons, List.not_mem_nil, or_false] at hx; rcases hx with rfl | rfl; exact L2.out; exact L5.out); refine wpList_run_w (by rfl) (.slice (some ⟨U6.heap.size, 0, none⟩) 2 2) U7 (by rw [hW]; exact bsl_run 22 27 2 _ rfl 1 24 _ _ _ under_lists info_list (by decide) (by decide) rfl (by kernel_rfl)) ?_; replace P0 := hidIt (P0.out.below hb); replace P1 := hidIt (P1.out.below hb); replace L2 := hidIt (L2.out.below hb); replace P3 := hidIt (P3.out.below hb); replace P4 := hidIt (P4.out.below hb); replace L5 := hidIt (L5.out.below hb); replace E := hidIt (E.out.trans (hb.mono E.out.size)); have S6 : Hid (Lsts U7 (some ⟨U6.heap.size, 0, none⟩) [(LV.mk (some ⟨U2.heap.size, 0, none⟩) 2 [(PV.mk (.slice a0 n0 C0) (.slice b0 m0 D0) ⟨⟨#[97]⟩, ⟨#[49]⟩, false⟩), (PV.mk (.slice a1 n1 C1) (.slice b1 m1 D1) ⟨⟨#[99]⟩, ⟨#[51]⟩, false⟩)]), (LV.mk (some ⟨U5.heap.size, 0, none⟩) 2 [(PV.mk (.slice a3 n3 C3) (.slice b3 m3 D3) ⟨⟨#[97]⟩, ⟨#[50]⟩, false⟩), (PV.mk (.slice a4 n4 C4) (.slice b4 m4 D4) ⟨⟨#[98]⟩, .empty, true⟩)])]) := hidIt hl; clear hW hl hb; have q7 : Hid True := trivial))
  exact bodyPost_ret (v := .slice (some ⟨U6.heap.size, 0, none⟩) 2 2) (by simp [results, Try.results39, go_sem]) rfl ⟨_, [(LV.mk (some ⟨U2.heap.size, 0, none⟩) 2 [(PV.mk (.slice a0 n0 C0) (.slice b0 m0 D0) ⟨⟨#[97]⟩, ⟨#[49]⟩, false⟩), (PV.mk (.slice a1 n1 C1) (.slice b1 m1 D1) ⟨⟨#[99]⟩, ⟨#[51]⟩, false⟩)]), (LV.mk (some ⟨U5.heap.size, 0, none⟩) 2 [(PV.mk (.slice a3 n3 C3) (.slice b3 m3 D3) ⟨⟨#[97]⟩, ⟨#[50]⟩, false⟩), (PV.mk (.slice a4 n4 C4) (.slice b4 m4 D4) ⟨⟨#[98]⟩, .empty, true⟩)])], rfl, rfl, S6.out, rfl, E.out⟩
/-- What LOk lists are in size. -/
theorem two_small {ls : List LV} (h : prs ls = TW) : (∀ x ∈ allP ls, x.p.k.size ≤ 1000000 ∧ x.p.v.size ≤ 1000000) ∧ ∀ x ∈ ls, x.ps.length ≤ 10000 := by
  constructor
  · intro x hx
    have hm : x.p ∈ (prs ls).flatten := by rw [prs_flat]; exact List.mem_map.2 ⟨x, hx, rfl⟩
    rw [h] at hm
    have : ∀ p ∈ TW.flatten, p.k.size ≤ 1000000 ∧ p.v.size ≤ 1000000 := by decide
    exact this _ hm
  · intro x hx
    have hm : x.ps.map PV.p ∈ prs ls := List.mem_map.2 ⟨x, hx, rfl⟩
    rw [h] at hm
    have : ∀ l ∈ TW, l.length ≤ 10000 := by decide
    have := this _ hm
    rwa [List.length_map] at this
theorem own_lst {w' : World} {lv : Value} {qs : List PV} (h : OwnP w' 0 lv qs) (k : ∀ x ∈ qs, PVOk w' lv.ownBlock.toList x) : ∃ a cap, lv = .slice a qs.length cap ∧ Lst w' a qs := BtwPost.lst h k
set_option maxRecDepth 100000 in
set_option maxHeartbeats 2000000 in
theorem merges_any {W : World} {A wa : Option Addr} {ls : List LV} {ws : List PV} {drop : Bool} (L C n wc : Nat) (hL : ls.length = L) (h : Lsts W A ls) (hf : L ≤ 1000) (hz : ∀ x ∈ allP ls, x.p.k.size ≤ 1000000 ∧ x.p.v.size ≤ 1000000) (hs : ∀ x ∈ ls, x.ps.length ≤ 10000) (hn : ws.length = n) (hw : Lst W wa ws) (h0 : chkC ls = 0) (he : mrgR ls drop = ws.map PV.p) :
    Calls Try.prog 38 #[.slice A L C, .bool drop, .slice wa n wc] W fun e w' => e = .returned (.bool true) ∧ Below W.heap.size W w' := by
  have M := hidIt (merge_any (drop := drop) L C hL h hf hz hs)
  have HW := hidIt hw
  have H0 := hidIt h0
  have HE := hidIt he
  have HN := hidIt hn
  clear hL h hf hz hs hn hw h0 he
  go_enter Try.func38, Try.ntmps38
  go_wp2_with (first
    | (go_at_call 12; refine M.out.mono ?_; rintro e W1 ⟨hb, (⟨h, _⟩ | ⟨_, lv, qs, rfl, hO, _, hq, hm, hl⟩)⟩; exact absurd H0.out h; obtain ⟨qa, qc, rfl, hL⟩ := own_lst hO (fun x hx => (hq x hx).2); have hn2 : qs.length = n := (by have := congrArg List.length hm; rw [HE.out] at this; simp only [List.length_map] at this; rw [this, HN.out]); rw [hn2]; have Q1 := hidIt (And.intro hn2 (And.intro hL (And.intro (hm.trans HE.out) hl))); have B1 := hidIt hb; clear hO hq hm hl hL hn2 hb)
    | (go_at_call 16; refine (samePairs_any n n _ _ Q1.out.1 HN.out Q1.out.2.1 (HW.out.below B1.out) (by have := Q1.out.1; have := Q1.out.2.2.2; omega)).mono ?_; rintro e W2 ⟨h1, hb⟩; have h2 : e = .returned (.bool true) := (by rw [h1, Q1.out.2.2.1]; simp); subst h2; clear h1; have B2 := hidIt (B1.out.trans (hb.mono B1.out.size)); clear hb))
  exact bodyPost_ret (v := .bool true) (by simp [results, Try.results38, go_sem]) rfl ⟨rfl, B2.out⟩
set_option maxRecDepth 100000 in
set_option maxHeartbeats 2000000 in
theorem lawake_any (W : World) : Calls Try.prog 21 #[] W fun e w' => e = .returned (.bool true) ∧ Below W.heap.size W w' := by
  have q0 : Hid True := trivial
  have E : Hid (Below W.heap.size W W) := hidIt (Below.refl _ _)
  go_enter Try.func21, Try.ntmps21
  go_wp2_with (first
    | (go_at_call 39; have _q := q0; clear q0 _q; refine (two_any W).mono ?_; rintro e U1 ⟨A1, ls1, rfl, hn, hl, hp, hb⟩; replace E := hidIt (E.out.trans (hb.mono E.out.size)); have T1 := hidIt hl; have X1 := hidIt (And.intro hn hp); clear hn hl hp hb; have q1 : Hid True := trivial)
    | (go_at_call 26; have _q := q1; clear q1 _q; refine (is_any U1 ⟨#[97]⟩ ⟨#[49]⟩).mono ?_; rintro e U2 ⟨a0, n0, C0, b0, m0, D0, rfl, hp, hb⟩; replace T1 := hidIt (T1.out.below hb); replace E := hidIt (E.out.trans (hb.mono E.out.size)); have P0 := hidIt hp; clear hp hb; have q2 : Hid True := trivial)
    | (go_at_call 28; have _q := q2; clear q2 _q; refine (gone_any U2 ⟨#[98]⟩).mono ?_; rintro e U3 ⟨a1, n1, C1, b1, m1, D1, rfl, hp, hb⟩; replace T1 := hidIt (T1.out.below hb); replace P0 := hidIt (P0.out.below hb); replace E := hidIt (E.out.trans (hb.mono E.out.size)); have P1 := hidIt hp; clear hp hb; have q3 : Hid True := trivial)
    | (go_at_call 26; have _q := q3; clear q3 _q; refine (is_any U3 ⟨#[99]⟩ ⟨#[51]⟩).mono ?_; rintro e U4 ⟨a2, n2, C2, b2, m2, D2, rfl, hp, hb⟩; replace T1 := hidIt (T1.out.below hb); replace P0 := hidIt (P0.out.below hb); replace P1 := hidIt (P1.out.below hb); replace E := hidIt (E.out.trans (hb.mono E.out.size)); have P2 := hidIt hp; clear hp hb; have q4 : Hid True := trivial)
    | (have _q := q4; clear q4 _q; obtain ⟨U5, hW, hl, hb⟩ := bs_pairs U4 [(PV.mk (.slice a0 n0 C0) (.slice b0 m0 D0) ⟨⟨#[97]⟩, ⟨#[49]⟩, false⟩), (PV.mk (.slice a1 n1 C1) (.slice b1 m1 D1) ⟨⟨#[98]⟩, .empty, true⟩), (PV.mk (.slice a2 n2 C2) (.slice b2 m2 D2) ⟨⟨#[99]⟩, ⟨#[51]⟩, false⟩)] (by intro x hx; simp only [List.mem_cons, List.not_mem_nil, or_false] at hx; rcases hx with rfl | rfl | rfl; exact P0.out; exact P1.out; exact P2.out); refine wpList_run_w (by rfl) (.slice (some ⟨U4.heap.size, 0, none⟩) 3 3) U5 (by rw [hW]; exact bsl_run 27 32 3 _ rfl 3 56 _ _ _ under_pairs info_pair (by decide) (by decide) rfl (by kernel_rfl)) ?_; replace T1 := hidIt (T1.out.below hb); replace P0 := hidIt (P0.out.below hb); replace P1 := hidIt (P1.out.below hb); replace P2 := hidIt (P2.out.below hb); replace E := hidIt (E.out.trans (hb.mono E.out.size)); have L3 : Hid (LOk U5 ⟨some ⟨U4.heap.size, 0, none⟩, 3, [(PV.mk (.slice a0 n0 C0) (.slice b0 m0 D0) ⟨⟨#[97]⟩, ⟨#[49]⟩, false⟩), (PV.mk (.slice a1 n1 C1) (.slice b1 m1 D1) ⟨⟨#[98]⟩, .empty, true⟩), (PV.mk (.slice a2 n2 C2) (.slice b2 m2 D2) ⟨⟨#[99]⟩, ⟨#[51]⟩, false⟩)]⟩) := hidIt ⟨hl, Nat.le_refl _⟩; clear hW hl hb; have q5 : Hid True := trivial)
    | (go_at_call 38; have _q := q5; clear q5 _q; refine (merges_any 2 2 3 _ X1.out.1 T1.out (by decide) (two_small X1.out.2).1 (two_small X1.out.2).2 rfl L3.out.1 (by rw [chkC_eq, X1.out.2]; exact tw_chk) (by rw [mrgR_eq, X1.out.2]; exact tw_1)).mono ?_; rintro e U6 ⟨rfl, hb⟩; replace T1 := hidIt (T1.out.below hb); replace P0 := hidIt (P0.out.below hb); replace P1 := hidIt (P1.out.below hb); replace P2 := hidIt (P2.out.below hb); replace L3 := hidIt (L3.out.below hb); replace E := hidIt (E.out.trans (hb.mono E.out.size)); clear hb; have q6 : Hid True := trivial)
    | (go_at_call 39; have _q := q6; clear q6 _q; refine (two_any U6).mono ?_; rintro e U7 ⟨A2, ls2, rfl, hn, hl, hp, hb⟩; replace T1 := hidIt (T1.out.below hb); replace P0 := hidIt (P0.out.below hb); replace P1 := hidIt (P1.out.below hb); replace P2 := hidIt (P2.out.below hb); replace L3 := hidIt (L3.out.below hb); replace E := hidIt (E.out.trans (hb.mono E.out.size)); have T2 := hidIt hl; have X2 := hidIt (And.intro hn hp); clear hn hl hp hb; have q7 : Hid True := trivial)
    | (go_at_call 26; have _q := q7; clear q7 _q; refine (is_any U7 ⟨#[97]⟩ ⟨#[49]⟩).mono ?_; rintro e U8 ⟨a4, n4, C4, b4, m4, D4, rfl, hp, hb⟩; replace T1 := hidIt (T1.out.below hb); replace P0 := hidIt (P0.out.below hb); replace P1 := hidIt (P1.out.below hb); replace P2 := hidIt (P2.out.below hb); replace L3 := hidIt (L3.out.below hb); replace T2 := hidIt (T2.out.below hb); replace E := hidIt (E.out.trans (hb.mono E.out.size)); have P4 := hidIt hp; clear hp hb; have q8 : Hid True := trivial)
    | (go_at_call 26; have _q := q8; clear q8 _q; refine (is_any U8 ⟨#[99]⟩ ⟨#[51]⟩).mono ?_; rintro e U9 ⟨a5, n5, C5, b5, m5, D5, rfl, hp, hb⟩; replace T1 := hidIt (T1.out.below hb); replace P0 := hidIt (P0.out.below hb); replace P1 := hidIt (P1.out.below hb); replace P2 := hidIt (P2.out.below hb); replace L3 := hidIt (L3.out.below hb); replace T2 := hidIt (T2.out.below hb); replace P4 := hidIt (P4.out.below hb); replace E := hidIt (E.out.trans (hb.mono E.out.size)); have P5 := hidIt hp; clear hp hb; have q9 : Hid True := trivial)
    | (have _q := q9; clear q9 _q; obtain ⟨U10, hW, hl, hb⟩ := bs_pairs U9 [(PV.mk (.slice a4 n4 C4) (.slice b4 m4 D4) ⟨⟨#[97]⟩, ⟨#[49]⟩, false⟩), (PV.mk (.slice a5 n5 C5) (.slice b5 m5 D5) ⟨⟨#[99]⟩, ⟨#[51]⟩, false⟩)] (by intro x hx; simp only [List.mem_cons, List.not_mem_nil, or_false] at hx; rcases hx with rfl | rfl; exact P4.out; exact P5.out); refine wpList_run_w (by rfl) (.slice (some ⟨U9.heap.size, 0, none⟩) 2 2) U10 (by rw [hW]; exact bsl_run 27 32 2 _ rfl 3 56 _ _ _ under_pairs info_pair (by decide) (by decide) rfl (by kernel_rfl)) ?_; replace T1 := hidIt (T1.out.below hb); replace P0 := hidIt (P0.out.below hb); replace P1 := hidIt (P1.out.below hb); replace P2 := hidIt (P2.out.below hb); replace L3 := hidIt (L3.out.below hb); replace T2 := hidIt (T2.out.below hb); replace P4 := hidIt (P4.out.below hb); replace P5 := hidIt (P5.out.below hb); replace E := hidIt (E.out.trans (hb.mono E.out.size)); have L6 : Hid (LOk U10 ⟨some ⟨U9.heap.size, 0, none⟩, 2, [(PV.mk (.slice a4 n4 C4) (.slice b4 m4 D4) ⟨⟨#[97]⟩, ⟨#[49]⟩, false⟩), (PV.mk (.slice a5 n5 C5) (.slice b5 m5 D5) ⟨⟨#[99]⟩, ⟨#[51]⟩, false⟩)]⟩) := hidIt ⟨hl, Nat.le_refl _⟩; clear hW hl hb; have q10 : Hid True := trivial)
    | (go_at_call 38; have _q := q10; clear q10 _q; refine (merges_any 2 2 2 _ X2.out.1 T2.out (by decide) (two_small X2.out.2).1 (two_small X2.out.2).2 rfl L6.out.1 (by rw [chkC_eq, X2.out.2]; exact tw_chk) (by rw [mrgR_eq, X2.out.2]; exact tw_2)).mono ?_; rintro e U11 ⟨rfl, hb⟩; replace T1 := hidIt (T1.out.below hb); replace P0 := hidIt (P0.out.below hb); replace P1 := hidIt (P1.out.below hb); replace P2 := hidIt (P2.out.below hb); replace L3 := hidIt (L3.out.below hb); replace T2 := hidIt (T2.out.below hb); replace P4 := hidIt (P4.out.below hb); replace P5 := hidIt (P5.out.below hb); replace L6 := hidIt (L6.out.below hb); replace E := hidIt (E.out.trans (hb.mono E.out.size)); clear hb; have q11 : Hid True := trivial))
  exact bodyPost_ret (v := .bool true) (by simp [results, Try.results21, go_sem]) rfl ⟨rfl, E.out⟩
end Go.Proofs.Ytgpafmgncolnmaa
