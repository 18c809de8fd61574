/-
  Walks, not a claim by itself: memtable's Put, Remove, Get, All, Size; of tables that nobody made. By the verifier.
-/
import Derived.Test.YtandkedipjmdbaaMtBt1
namespace Go.Proofs.Ytandkedipjmdbaa
open Go.RowKit
theorem tput_ok {W : World} {N M : List Nat} {t : Nat} {v key val : Value} {ps : List PV} {k b : ByteArray} (hT : Tab W t v ps) (hk : Txt W N key k) (hv : Txt W M val b) : Calls Try.prog 24 #[.pointer (some ⟨t, 0, none⟩), key, val] W (LayPost W t v ps ⟨k, b, false⟩) := by
  have L := hidIt (lay_ok (x := ⟨key, val, ⟨k, b, false⟩⟩) hT ⟨hk.any, hv.any⟩)
  obtain ⟨a, C, _, rfl, _⟩ := hk
  obtain ⟨c, D, _, rfl, _⟩ := hv
  clear hT
  go_enter Try.func24, Try.ntmps24
  go_wp2_with (go_at_call 44; refine L.out.mono ?_; rintro e w1 ⟨v', ps', rfl, h⟩; have H1 := hidIt h; clear h)
  exact bodyPost_ret (v := .int .i64 (layC (ps.map PV.p) ⟨k, b, false⟩)) (by simp [results, Try.results24, go_sem]) rfl ⟨v', ps', rfl, H1.out⟩
theorem tremove_ok {W : World} {N : List Nat} {t : Nat} {v key : Value} {ps : List PV} {k : ByteArray} (hT : Tab W t v ps) (hk : Txt W N key k) : Calls Try.prog 25 #[.pointer (some ⟨t, 0, none⟩), key] W (LayPost W t v ps ⟨k, .empty, true⟩) := by
  have L := hidIt (lay_ok (x := ⟨key, .slice none 0 0, ⟨k, .empty, true⟩⟩) hT ⟨hk.any, Txt.nil W [] 0⟩)
  obtain ⟨a, C, _, rfl, _⟩ := hk
  clear hT
  go_enter Try.func25, Try.ntmps25
  go_wp2_with (go_at_call 44; refine L.out.mono ?_; rintro e w1 ⟨v', ps', rfl, h⟩; have H1 := hidIt h; clear h)
  exact bodyPost_ret (v := .int .i64 (layC (ps.map PV.p) ⟨k, .empty, true⟩)) (by simp [results, Try.results25, go_sem]) rfl ⟨v', ps', rfl, H1.out⟩
theorem tall_ok {W : World} {t : Nat} {v : Value} {ps : List PV} (hT : Tab W t v ps) : Calls Try.prog 11 #[.pointer (some ⟨t, 0, none⟩)] W (BtwPost W (ps.map PV.p) .empty .empty) := by
  have L := hidIt (btw_any hT (Txt.nil W [] 0) (Txt.nil W [] 0))
  clear hT
  go_enter Try.func11, Try.ntmps11
  go_wp2_with (go_at_call 26; refine L.out.mono ?_; rintro e w1 ⟨lv, os, rfl, h⟩; have H1 := hidIt h; clear h)
  exact bodyPost_ret (v := lv) (by simp [results, Try.results11, go_sem]) rfl ⟨lv, os, rfl, H1.out⟩
theorem tsize_ok {W : World} {t : Nat} {v : Value} {ps : List PV} (hT : Tab W t v ps) : Calls Try.prog 15 #[.pointer (some ⟨t, 0, none⟩)] W fun e w' => e = .returned (.int .i64 (ps.length : Int)) ∧ w' = W := by
  have M := hidIt (tmade_ok hT)
  obtain ⟨a, cap, rfl, _⟩ := hT.lst
  have c1 := (hT.rc.cel 1 _ rfl).1
  clear hT
  go_enter Try.func15, Try.ntmps15
  go_wp2_with (go_at_call 38; refine M.out.mono ?_; rintro e w1 ⟨rfl, hw⟩; rw [hw]; clear hw)
  go_ret
  exact ⟨rfl, rfl⟩
/-- What Get answers. -/
def GetPost (W : World) (l : List Pr) (k : ByteArray) (e : Ending) (w' : World) : Prop := Below W.heap.size W w' ∧ ((∃ p key val, fnd l k = some p ∧ e = .returned (.tuple #[.agg (PV.mk key val p).cs.toArray, .int .i64 0]) ∧ FrP w' W.heap.size ⟨key, val, p⟩) ∨ (fnd l k = none ∧ e = .returned (.tuple #[.agg #[.slice none 0 0, .slice none 0 0, .bool false], .int .i64 6])))
set_option maxRecDepth 100000 in
set_option maxHeartbeats 1000000 in
theorem tget_ok {W : World} {N : List Nat} {t : Nat} {v key : Value} {ps : List PV} {k : ByteArray} (hT : Tab W t v ps) (hk : Txt W N key k) : Calls Try.prog 22 #[.pointer (some ⟨t, 0, none⟩), key] W (GetPost W (ps.map PV.p) k) := by
  have HT := hidIt hT
  have HK := hidIt hk
  have FN := hidIt (fnd_at (ps.map PV.p) k hT.srt)
  cases hh : has (ps.map PV.p) k with
  | false =>
    have HN : Hid (fnd (ps.map PV.p) k = none) := hidIt (by rw [FN.out, hh]; rfl)
    have HH := hidIt hh
    clear hT hk hh FN
    go_enter Try.func22, Try.ntmps22
    go_wp2_with (first
      | (refine wpList_alloc_rec rfl 47 rfl _ W.heap.size rfl pair_zero ?_; intro W1 R1 B1 z1; have E1 := hidIt B1; have P1 := hidIt R1; have T1 := hidIt (HT.out.below B1); clear R1 B1 z1)
      | (go_at_call 38; refine (tmade_ok T1.out).mono ?_; rintro e w1 ⟨rfl, hw⟩; rw [hw]; clear hw)
      | (go_at_call 42; refine (seek_any T1.out (HK.out.below E1.out)).mono ?_; rintro e W2 ⟨rfl, hb⟩; rw [HH.out]; have E2 := hidIt (E1.out.trans (hb.mono E1.out.size)); have P2 := hidIt (P1.out.below hb); clear hb)
      | (refine wpList_store_rec rfl 47 (.tmp 4) (.tmp 20) rfl W.heap.size 0 _ [.slice none 0 0, .slice none 0 0, .bool false] rfl rfl P2.out rfl pair_size (by intro u hu; simp only [List.mem_cons, List.not_mem_nil, or_false] at hu; rcases hu with rfl | rfl | rfl <;> rfl) ?_; intro W3 R3 B3; have E3 := hidIt (E2.out.trans (B3.below (Nat.le_refl _) E2.out.size)); have P3 := hidIt R3; clear R3 B3))
    have hl := P3.out.run_load 47 _ Try.underlying47 rfl pair_size
    exact bodyPost_ret (v := .tuple #[.agg #[.slice none 0 0, .slice none 0 0, .bool false], .int .i64 6]) (by simp [results, Try.results22, asAddr, hl]) rfl ⟨E3.out, .inr ⟨HN.out, rfl⟩⟩
  | true =>
    obtain ⟨i, hi⟩ : ∃ i, i = pos (ps.map PV.p) k := ⟨_, rfl⟩
    have hpl := has_len _ _ hh
    rw [← hi] at hpl
    obtain ⟨x, hx⟩ : ∃ x, ps[i]? = some x := ⟨_, List.getElem?_eq_getElem (by simpa using hpl)⟩
    have HN : Hid (fnd (ps.map PV.p) k = some x.p) := hidIt (by rw [FN.out, hh, if_pos rfl, ← hi, List.getElem?_map, hx]; rfl)
    have HH := hidIt hh
    have HI := hidIt hi
    have HX := hidIt hx
    obtain ⟨g, cap, rfl, _, hcap, _⟩ := (hT.own.form).resolve_left (fun q => by rw [q.2] at hpl; simp at hpl)
    have i1 : (i : Int) < (ps.length : Int) := by simp at hpl; omega
    have i2 : (0 : Int) ≤ (i : Int) := by omega
    clear hT hk hh FN hpl hi hx hcap
    go_enter Try.func22, Try.ntmps22
    go_wp2_with (first
      | (refine wpList_alloc_rec rfl 47 rfl _ W.heap.size rfl pair_zero ?_; intro W1 R1 B1 z1; have E1 := hidIt B1; have P1 := hidIt R1; have T1 := hidIt (HT.out.below B1); have Z1 := hidIt z1; clear R1 B1 z1)
      | (go_at_call 38; refine (tmade_ok T1.out).mono ?_; rintro e w1 ⟨rfl, hw⟩; rw [hw]; clear hw)
      | (go_at_call 42; refine (seek_any T1.out (HK.out.below E1.out)).mono ?_; rintro e W2 ⟨rfl, hb⟩; rw [HH.out, ← HI.out]; have E2 := hidIt (And.intro (E1.out.trans (hb.mono E1.out.size)) (show W.heap.size + 1 ≤ W2.heap.size by have := hb.size; have := Z1.out; omega)); have P2 := hidIt (P1.out.below hb); have T2 := hidIt (T1.out.below hb); have q1 := (T2.out.rc.cel 1 _ rfl).1; obtain ⟨k0, k1, k2⟩ := cells_at (q := 0) (k := i) T2.out (by rw [Nat.zero_add]; exact HX.out); rw [Nat.zero_mul, Nat.zero_add] at k0 k1 k2; clear hb)
      | (go_at_call 43; refine (copied_any (T2.out.ok x (List.mem_of_getElem? HX.out)) (may_small (T2.out.mays x (List.mem_of_getElem? HX.out))).1 (may_small (T2.out.mays x (List.mem_of_getElem? HX.out))).2).mono ?_; rintro e W3 ⟨key', val', rfl, Fk, Fv, hb⟩; obtain ⟨ka, kn, kC, rfl⟩ := Fk.sl; obtain ⟨va, vn, vC, rfl⟩ := Fv.sl; have E3 := hidIt (E2.out.1.trans (hb.mono (by have := E2.out.2; omega))); have P3 := hidIt (P2.out.below hb); have F3 := hidIt (And.intro (Fk.low (base' := W.heap.size + 1) E2.out.2) (Fv.low (base' := W.heap.size + 1) E2.out.2)); clear hb Fk Fv k0 k1 k2 q1)
      | (refine wpList_store_rec rfl 47 (.tmp 4) (.tmp 28) rfl W.heap.size 0 _ (PV.mk (.slice ka kn kC) (.slice va vn vC) x.p).cs rfl rfl P3.out rfl pair_size (by intro u hu; simp only [PV.cs, List.mem_cons, List.not_mem_nil, or_false] at hu; rcases hu with rfl | rfl | rfl <;> rfl) ?_; intro W4 R4 B4; have E4 := hidIt (E3.out.trans (B4.below (Nat.le_refl _) E3.out.size)); have P4 := hidIt R4; have F4 := hidIt (And.intro (F3.out.1.off (Off.but (bs := [W.heap.size]) B4 (by simp)) (by simp)) (F3.out.2.off (Off.but (bs := [W.heap.size]) B4 (by simp)) (by simp))); clear R4 B4))
    have hl := P4.out.run_load 47 _ Try.underlying47 rfl pair_size
    exact bodyPost_ret (v := .tuple #[.agg (PV.mk (.slice ka kn kC) (.slice va vn vC) x.p).cs.toArray, .int .i64 0]) (by simp [results, Try.results22, asAddr, hl]) rfl ⟨E4.out, .inl ⟨x.p, _, _, HN.out, rfl, F4.out.1.low (by omega), F4.out.2.low (by omega)⟩⟩
end Go.Proofs.Ytandkedipjmdbaa
