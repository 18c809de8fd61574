/-
  Walks, not a claim by itself: the statements' awake; tables that nobody made. By the verifier.
-/
import Derived.Test.YtandkedipjmdbaaMtAwk
namespace Go.Proofs.Ytandkedipjmdbaa
open Go.RowKit
theorem l3_all : btwL L3 .empty .empty = [⟨⟨#[97]⟩, ⟨#[50]⟩, false⟩, ⟨⟨#[98]⟩, ⟨#[49]⟩, false⟩, ⟨⟨#[99]⟩, .empty, true⟩] := by decide
theorem BtwPost.lst {w' : World} {lv : Value} {os : List PV} (h : OwnP w' 0 lv os) (k : ∀ x ∈ os, PVOk w' lv.ownBlock.toList x) : ∃ a cap, lv = .slice a os.length cap ∧ Lst w' a os := by
  obtain ⟨a, cap, hv, _⟩ := h.slice
  exact ⟨a, cap, hv, OwnP.lst (a := a) (n := os.length) (cap := cap) (hv ▸ h) (fun x hx => (k x hx).mono (fun b hb => by cases hb))⟩
/-- Pairs that lie in a block of their own. -/
theorem lst_new (W : World) (xs : List PV) (h : ∀ x ∈ xs, PVOk W [] x) : Lst (W.alloc (.cells (pcs xs).toArray 47)) (some ⟨W.heap.size, 0, none⟩) xs := by
  have B : Below W.heap.size W (W.alloc (.cells (pcs xs).toArray 47)) := (Below.refl _ _).alloc (Nat.le_refl _) _
  exact ⟨fun x hx => (h x hx).below B, fun _ => ⟨W.heap.size, 0, rfl, (Rec19.new W _ (pcs xs)).1, by simp⟩⟩
set_option maxRecDepth 100000 in
set_option maxHeartbeats 2000000 in
theorem awake_any (W : World) : Calls Try.prog 10 #[] W fun e w' => e = .returned (.bool true) ∧ Below W.heap.size W w' := by
  go_enter Try.func10, Try.ntmps10
  go_wp2_with (first
    | (go_at_call 28; refine (three_any W).mono ?_; rintro e W1 ⟨t, v, ps, rfl, h1, h2, h3, h4, h5⟩; have T1 := hidIt h3; have M1 := hidIt h4; have G1 := hidIt h5; clear h1 h2 h3 h4 h5; have q1 : Hid True := trivial)
    | (go_at_call 11; refine (tall_ok T1.out).mono ?_; rintro e W2 ⟨lv, os, rfl, h1, h2, h3, h4, h5⟩; rw [M1.out, l3_all] at h4; obtain ⟨a2, c2, rfl, hL⟩ := BtwPost.lst h1 (fun x hx => (h3 x hx).2); have L2 := hidIt hL; have M2 := hidIt h4; have n2 : os.length = 3 := (by have := congrArg List.length h4; simpa using this); rw [n2]; have N2 := hidIt n2; have G2 := hidIt (G1.out.trans (h5.mono G1.out.size)); clear h1 h2 h3 h4 h5 hL n2)
    | (go_at_call 30; have _q := q1; clear q1 _q; refine (is_any W2 ⟨#[97]⟩ ⟨#[50]⟩).mono ?_; rintro e W3 ⟨k1, k2, k3, k4, k5, k6, rfl, hp, hb⟩; have P3 := hidIt hp; have E3 := hidIt hb; clear hp hb)
    | (go_at_call 30; refine (is_any W3 ⟨#[98]⟩ ⟨#[49]⟩).mono ?_; rintro e W4 ⟨k7, k8, k9, k10, k11, k12, rfl, hp, hb⟩; have P4 := hidIt hp; have Q4 := hidIt (P3.out.below hb); have E4 := hidIt (E3.out.trans (hb.mono E3.out.size)); clear hp hb)
    | (go_at_call 29; refine (gone_any W4 ⟨#[99]⟩).mono ?_; rintro e W5 ⟨k13, k14, k15, k16, k17, k18, rfl, hp, hb⟩; have P5 := hidIt hp; have Q5 := hidIt (And.intro (Q4.out.below hb) (P4.out.below hb)); have E5 := hidIt (E4.out.trans (hb.mono E4.out.size)); clear hp hb; have hl5 := lst_new W5 [⟨.slice k1 k2 k3, .slice k4 k5 k6, ⟨⟨#[97]⟩, ⟨#[50]⟩, false⟩⟩, ⟨.slice k7 k8 k9, .slice k10 k11 k12, ⟨⟨#[98]⟩, ⟨#[49]⟩, false⟩⟩, ⟨.slice k13 k14 k15, .slice k16 k17 k18, ⟨⟨#[99]⟩, .empty, true⟩⟩] (by intro x hx; simp only [List.mem_cons, List.not_mem_nil, or_false] at hx; rcases hx with rfl | rfl | rfl; exact Q5.out.1; exact Q5.out.2; exact P5.out); have HL5 := hidIt hl5; clear hl5)
    | (refine wpList_run_w rfl (.slice (some ⟨W5.heap.size, 0, none⟩) 3 3) (W5.alloc (.cells (pcs [⟨.slice k1 k2 k3, .slice k4 k5 k6, ⟨⟨#[97]⟩, ⟨#[50]⟩, false⟩⟩, ⟨.slice k7 k8 k9, .slice k10 k11 k12, ⟨⟨#[98]⟩, ⟨#[49]⟩, false⟩⟩, ⟨.slice k13 k14 k15, .slice k16 k17 k18, ⟨⟨#[99]⟩, .empty, true⟩⟩]).toArray 47)) (bsl_run 27 47 3 _ rfl 3 56 _ _ _ under_pairs info_pair (by decide) (by decide) rfl (by kernel_rfl)) ?_; have E6 := hidIt (E5.out.trans (((Below.refl W5.heap.size W5).alloc (Nat.le_refl _) (.cells (pcs [⟨.slice k1 k2 k3, .slice k4 k5 k6, ⟨⟨#[97]⟩, ⟨#[50]⟩, false⟩⟩, ⟨.slice k7 k8 k9, .slice k10 k11 k12, ⟨⟨#[98]⟩, ⟨#[49]⟩, false⟩⟩, ⟨.slice k13 k14 k15, .slice k16 k17 k18, ⟨⟨#[99]⟩, .empty, true⟩⟩]).toArray 47)).mono E5.out.size)); generalize (W5.alloc (.cells (pcs [⟨.slice k1 k2 k3, .slice k4 k5 k6, ⟨⟨#[97]⟩, ⟨#[50]⟩, false⟩⟩, ⟨.slice k7 k8 k9, .slice k10 k11 k12, ⟨⟨#[98]⟩, ⟨#[49]⟩, false⟩⟩, ⟨.slice k13 k14 k15, .slice k16 k17 k18, ⟨⟨#[99]⟩, .empty, true⟩⟩]).toArray 47)) = W6 at *)
    | (go_at_call 14; refine (samePairs_any 3 3 _ _ N2.out rfl (L2.out.below E6.out) HL5.out (by omega)).mono ?_; rintro e W7 ⟨h1, hb⟩; have h2 : e = .returned (.bool true) := (by rw [h1, M2.out]; simp); subst h2; clear h1; have G7 := hidIt (G2.out.trans ((E6.out.trans (hb.mono E6.out.size)).mono G2.out.size)); clear hb))
  exact bodyPost_ret (v := .bool true) (by simp [results, Try.results10, go_sem]) rfl ⟨rfl, G7.out⟩
/-- A table that is nil, or that nobody made. -/
def NoT (W : World) (p : Value) : Prop := p = .pointer none ∨ ∃ t, p = .pointer (some ⟨t, 0, none⟩) ∧ W.cell? ⟨t, 0, none⟩ = some (.pointer none) ∧ t < W.heap.size
theorem NoT.below {W W' : World} {p : Value} (h : NoT W p) (hB : Below W.heap.size W W') : NoT W' p := by
  rcases h with h | ⟨t, h1, h2, h3⟩
  · exact .inl h
  · exact .inr ⟨t, h1, (hB.cell (p := ⟨t, 0, none⟩) h3).trans h2, Nat.lt_of_lt_of_le h3 hB.size⟩
theorem no_made {W : World} {p : Value} (h : NoT W p) : Calls Try.prog 38 #[p] W fun e w' => e = .returned (.bool false) ∧ w' = W := by
  rcases h with rfl | ⟨t, rfl, h2, _⟩
  · exact tmade_nil W
  · exact tmade_no W t h2
theorem no_size {W : World} {p : Value} (h : NoT W p) : Calls Try.prog 15 #[p] W fun e w' => e = .returned (.int .i64 0) ∧ w' = W := by
  have M := hidIt (no_made h)
  clear h
  go_enter Try.func15, Try.ntmps15
  go_wp2_with (go_at_call 38; refine M.out.mono ?_; rintro e w1 ⟨rfl, hw⟩; rw [hw]; clear hw)
  go_ret
  exact ⟨rfl, rfl⟩
theorem no_clone {W : World} {p : Value} (h : NoT W p) : Calls Try.prog 27 #[p] W fun e w' => e = .returned (.pointer none) ∧ w' = W := by
  have M := hidIt (no_made h)
  clear h
  go_enter Try.func27, Try.ntmps27
  go_wp2_with (go_at_call 38; refine M.out.mono ?_; rintro e w1 ⟨rfl, hw⟩; rw [hw]; clear hw)
  go_ret
  exact ⟨rfl, rfl⟩
theorem no_between {W : World} {p fr to : Value} (h : NoT W p) : Calls Try.prog 26 #[p, fr, to] W fun e w' => e = .returned (.slice none 0 0) ∧ w' = W := by
  have M := hidIt (no_made h)
  clear h
  go_enter Try.func26, Try.ntmps26
  go_wp2_with (go_at_call 38; refine M.out.mono ?_; rintro e w1 ⟨rfl, hw⟩; rw [hw]; clear hw)
  go_ret
  exact ⟨rfl, rfl⟩
theorem no_all {W : World} {p : Value} (h : NoT W p) : Calls Try.prog 11 #[p] W fun e w' => e = .returned (.slice none 0 0) ∧ w' = W := by
  have M := hidIt (no_between (fr := .slice none 0 0) (to := .slice none 0 0) h)
  clear h
  go_enter Try.func11, Try.ntmps11
  go_wp2_with (go_at_call 26; refine M.out.mono ?_; rintro e w1 ⟨rfl, hw⟩; rw [hw]; clear hw)
  go_ret
  exact ⟨rfl, rfl⟩
set_option maxRecDepth 100000 in
theorem no_lay {W : World} {p : Value} {x : PV} (h : NoT W p) : Calls Try.prog 44 #[p, .agg x.cs.toArray] W fun e w' => e = .returned (.int .i64 1) ∧ Below W.heap.size W w' := by
  have HN := hidIt h
  clear h
  go_enter Try.func44, Try.ntmps44
  go_wp2_with (first
    | (refine wpList_box_rec rfl 47 (.tmp 1) rfl x.cs rfl W.heap.size rfl ?_; intro W1 R1 B1 z1; have E1 := hidIt B1; clear R1 B1 z1)
    | (go_at_call 38; refine (no_made (HN.out.below E1.out)).mono ?_; rintro e w1 ⟨rfl, hw⟩; rw [hw]; clear hw))
  go_ret
  exact ⟨rfl, E1.out⟩
theorem no_put {W : World} {N M : List Nat} {p key val : Value} {k b : ByteArray} (h : NoT W p) (hk : Txt W N key k) (hv : Txt W M val b) : Calls Try.prog 24 #[p, key, val] W fun e w' => e = .returned (.int .i64 1) ∧ Below W.heap.size W w' := by
  have L := hidIt (no_lay (x := ⟨key, val, ⟨k, b, false⟩⟩) h)
  obtain ⟨a, C, _, rfl, _⟩ := hk
  obtain ⟨c, D, _, rfl, _⟩ := hv
  clear h
  go_enter Try.func24, Try.ntmps24
  go_wp2_with (go_at_call 44; refine L.out.mono ?_; rintro e w1 ⟨rfl, h⟩; have H1 := hidIt h; clear h)
  go_ret
  exact ⟨rfl, H1.out⟩
theorem no_remove {W : World} {N : List Nat} {p key : Value} {k : ByteArray} (h : NoT W p) (hk : Txt W N key k) : Calls Try.prog 25 #[p, key] W fun e w' => e = .returned (.int .i64 1) ∧ Below W.heap.size W w' := by
  have L := hidIt (no_lay (x := ⟨key, .slice none 0 0, ⟨k, .empty, true⟩⟩) h)
  obtain ⟨a, C, _, rfl, _⟩ := hk
  clear h
  go_enter Try.func25, Try.ntmps25
  go_wp2_with (go_at_call 44; refine L.out.mono ?_; rintro e w1 ⟨rfl, h⟩; have H1 := hidIt h; clear h)
  go_ret
  exact ⟨rfl, H1.out⟩
set_option maxRecDepth 100000 in
theorem no_get {W : World} {p key : Value} (h : NoT W p) : Calls Try.prog 22 #[p, key] W fun e w' => e = .returned (.tuple #[.agg #[.slice none 0 0, .slice none 0 0, .bool false], .int .i64 1]) ∧ Below W.heap.size W w' := by
  have HN := hidIt h
  clear h
  go_enter Try.func22, Try.ntmps22
  go_wp2_with (first
    | (refine wpList_alloc_rec rfl 47 rfl _ W.heap.size rfl pair_zero ?_; intro W1 R1 B1 z1; have E1 := hidIt B1; have P1 := hidIt R1; clear R1 B1 z1)
    | (go_at_call 38; refine (no_made (HN.out.below E1.out)).mono ?_; rintro e w1 ⟨rfl, hw⟩; rw [hw]; clear hw)
    | (refine wpList_store_rec rfl 47 (.tmp 4) (.tmp 11) rfl W.heap.size 0 _ [.slice none 0 0, .slice none 0 0, .bool false] rfl rfl P1.out rfl pair_size (by intro u hu; simp only [List.mem_cons, List.not_mem_nil, or_false] at hu; rcases hu with rfl | rfl | rfl <;> rfl) ?_; intro W3 R3 B3; have E3 := hidIt (E1.out.trans (B3.below (Nat.le_refl _) E1.out.size)); have P3 := hidIt R3; clear R3 B3))
  have hl := P3.out.run_load 47 _ Try.underlying47 rfl pair_size
  exact bodyPost_ret (v := .tuple #[.agg #[.slice none 0 0, .slice none 0 0, .bool false], .int .i64 1]) (by simp [results, Try.results22, asAddr, hl]) rfl ⟨rfl, E3.out⟩
end Go.Proofs.Ytandkedipjmdbaa
