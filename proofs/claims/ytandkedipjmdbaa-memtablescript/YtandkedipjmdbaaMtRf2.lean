/-
  Walks, not a claim by itself: the reference's Get, Between, Clone; memtable's Clone. By the verifier.
-/
import Derived.Test.YtandkedipjmdbaaMtRf
import Derived.Test.YtandkedipjmdbaaMtPt
import Derived.Laws.Cover3
namespace Go.Proofs.Ytandkedipjmdbaa
open Go.RowKit
attribute [-go_sem] Builtin.append_
theorem one_of {x : PV} {W : World} {N : List Nat} (h : PVOk W N x) : ∀ u ∈ ([x.k, x.v, .bool x.p.g] : List Value), u.oneCell' = true := h.one
/-- What the reference's Get answers. -/
def RGet (W : World) (rs : List PV) (k : ByteArray) (e : Ending) (w' : World) : Prop := Below W.heap.size W w' ∧ ((∃ x, x ∈ rs ∧ fnd (rs.map PV.p) k = some x.p ∧ e = .returned (.tuple #[.agg x.cs.toArray, .int .i64 0])) ∨ (fnd (rs.map PV.p) k = none ∧ e = .returned (.tuple #[.agg #[.slice none 0 0, .slice none 0 0, .bool false], .int .i64 6])))
set_option maxRecDepth 100000 in
set_option maxHeartbeats 2000000 in
theorem rget_any {W : World} {N : List Nat} {r : Nat} {lv key : Value} {rs : List PV} {k : ByteArray} (h : RT W r lv rs) (hk : Txt W N key k) : Calls Try.prog 35 #[.pointer (some ⟨r, 0, none⟩), key] W (RGet W rs k) := by
  have HR := hidIt h
  have HK := hidIt hk
  have FN := hidIt (fnd_at (rs.map PV.p) k h.srt)
  cases hh : has (rs.map PV.p) k with
  | false =>
    have HN : Hid (fnd (rs.map PV.p) k = none) := hidIt (by rw [FN.out, hh]; rfl)
    have HH := hidIt hh
    clear h hk hh FN
    go_enter Try.func35, Try.ntmps35
    go_wp2_with (first
      | (refine wpList_alloc_rec rfl 47 rfl _ W.heap.size rfl pair_zero ?_; intro W1 R1 B1 z1; have E1 := hidIt B1; have P1 := hidIt R1; have T1 := hidIt (HR.out.below B1); clear R1 B1 z1)
      | (go_at_call 50; refine (rat_any T1.out (HK.out.below E1.out)).mono ?_; rintro e W2 ⟨rfl, hb⟩; rw [HH.out]; have E2 := hidIt (E1.out.trans (hb.mono E1.out.size)); have P2 := hidIt (P1.out.below hb); clear hb)
      | (refine wpList_store_rec rfl 47 (.tmp 4) (.tmp 16) rfl W.heap.size 0 _ [.slice none 0 0, .slice none 0 0, .bool false] rfl rfl P2.out rfl pair_size (by intro u hu; simp only [List.mem_cons, List.not_mem_nil, or_false] at hu; rcases hu with rfl | rfl | rfl <;> rfl) ?_; intro W3 R3 B3; have E3 := hidIt (E2.out.trans (B3.below (Nat.le_refl _) E2.out.size)); have P3 := hidIt R3; clear R3 B3))
    have hl := P3.out.run_load 47 _ Try.underlying47 rfl pair_size
    exact bodyPost_ret (v := .tuple #[.agg #[.slice none 0 0, .slice none 0 0, .bool false], .int .i64 6]) (by simp [results, Try.results35, asAddr, hl]) rfl ⟨E3.out, .inr ⟨HN.out, rfl⟩⟩
  | true =>
    obtain ⟨i, hi⟩ : ∃ i, i = pos (rs.map PV.p) k := ⟨_, rfl⟩
    have hpl := has_len _ _ hh
    rw [← hi] at hpl
    obtain ⟨x, hx⟩ : ∃ x, rs[i]? = some x := ⟨_, List.getElem?_eq_getElem (by simpa using hpl)⟩
    have HN : Hid (fnd (rs.map PV.p) k = some x.p) := hidIt (by rw [FN.out, hh, if_pos rfl, ← hi, List.getElem?_map, hx]; rfl)
    have HH := hidIt hh
    have HI := hidIt hi
    have HX := hidIt hx
    obtain ⟨a, cap, rfl, hL⟩ := h.lst
    obtain ⟨bl, o1, ha, hr1, l1⟩ := hL.at i x hx
    subst ha
    have CE : Hid (∀ U, Below W.heap.size W U → U.cell? ⟨bl, o1 + i * 3, none⟩ = some x.k ∧ U.cell? ⟨bl, o1 + i * 3 + 1, none⟩ = some x.v ∧ U.cell? ⟨bl, o1 + i * 3 + 2, none⟩ = some (.bool x.p.g)) := hidIt (fun U hU => ⟨(hU.cell (p := ⟨bl, o1 + i * 3, none⟩) l1).trans (three_cells hr1).1, (hU.cell (p := ⟨bl, o1 + i * 3 + 1, none⟩) l1).trans (three_cells hr1).2.1, (hU.cell (p := ⟨bl, o1 + i * 3 + 2, none⟩) l1).trans (three_cells hr1).2.2⟩)
    have XO := hidIt (hL.1 x (List.mem_of_getElem? hx))
    have i1 : (i : Int) < (rs.length : Int) := by simp at hpl; omega
    have i2 : (0 : Int) ≤ (i : Int) := by omega
    clear h hk hh FN hpl hi hx hL hr1 l1
    go_enter Try.func35, Try.ntmps35
    go_wp2_with (first
      | (refine wpList_alloc_rec rfl 47 rfl _ W.heap.size rfl pair_zero ?_; intro W1 R1 B1 z1; have E1 := hidIt B1; have P1 := hidIt R1; have T1 := hidIt (HR.out.below B1); clear R1 B1 z1)
      | (go_at_call 50; refine (rat_any T1.out (HK.out.below E1.out)).mono ?_; rintro e W2 ⟨rfl, hb⟩; rw [HH.out, ← HI.out]; have E2 := hidIt (E1.out.trans (hb.mono E1.out.size)); have P2 := hidIt (P1.out.below hb); have q1 := ((T1.out.below hb).rc.cel 0 _ rfl).1; obtain ⟨k0, k1, k2⟩ := CE.out _ E2.out; clear hb)
      | (refine wpList_store_rec rfl 47 (.tmp 4) (.tmp 23) rfl W.heap.size 0 _ [x.k, x.v, .bool x.p.g] rfl rfl P2.out rfl pair_size (one_of XO.out) ?_; intro W3 R3 B3; have E3 := hidIt (E2.out.trans (B3.below (Nat.le_refl _) E2.out.size)); have P3 := hidIt R3; clear R3 B3))
    have hl := P3.out.run_load 47 _ Try.underlying47 rfl pair_size
    exact bodyPost_ret (v := .tuple #[.agg x.cs.toArray, .int .i64 0]) (by simp [results, Try.results35, asAddr, hl, PV.cs]) rfl ⟨E3.out, .inl ⟨x, List.mem_of_getElem? HX.out, HN.out, rfl⟩⟩
theorem eqp_nil (a : Option Addr) (n c : Nat) (b : Bool) (hb : a.isNone = b) (w : World) : (binOp .eql 27 (.slice a n c) (.slice none 0 0)).run Try.prog w = .ok (.bool b) w := by
  subst hb
  have h := run_equal_slice_nil (P := Try.prog) w 27 47 a n c Try.underlying27
  simp only [binOp]
  simp [h]
set_option maxRecDepth 100000 in
/-- slices.Clone of pairs. -/
theorem vclone_any {W : World} {v : Value} {ps : List PV} (h : OwnP W 0 v ps) (hp : ∀ x ∈ ps, PVOk W [] x) (hf : ps.length ≤ 64) : Calls Try.prog 46 #[v] W fun e w' => ∃ a C, e = .returned (.slice a ps.length C) ∧ OwnP w' 0 (.slice a ps.length C) ps ∧ (∀ g, (Value.slice a ps.length C).ownBlock = some g → W.heap.size ≤ g) ∧ Below W.heap.size W w' := by
  rcases h.form with ⟨rfl, rfl⟩ | ⟨g, cap, rfl, _⟩
  · clear h hp hf
    have e0 := eqp_nil none 0 0 true rfl W
    go_enter Try.func46, Try.ntmps46
    go_wp2_with fail
    exact bodyPost_ret (v := .slice none 0 0) (by simp [results, Try.results46, go_sem]) rfl ⟨none, 0, rfl, OwnP.nil _ _, fun g hg => (by cases hg), Below.refl _ _⟩
  · have hL : Lst W (some ⟨g, 0, none⟩) ps := OwnP.lst h hp
    obtain ⟨Y, hY⟩ : ∃ Y, Y = W.alloc (.cells #[] 47) := ⟨_, rfl⟩
    have hZY : Below W.heap.size W Y := by rw [hY]; exact (Below.refl _ _).alloc (Nat.le_refl _) _
    have OW : OwnP Y 0 (.slice (some ⟨W.heap.size, 0, none⟩) 0 0) [] := by rw [hY]; exact own_empty W
    obtain ⟨v5, W5, hr5, I5⟩ := app_any 27 Y _ [] ps (some ⟨g, 0, none⟩) cap OW (hL.below hZY) (by simp; omega)
    have B5 := hidIt (hZY.trans (I5.off.below (by simp [Value.ownBlock]) hZY.size))
    obtain ⟨a5, c5, hv5, _⟩ := I5.own.slice
    have O5 := I5.own
    have N5 := ins_low I5 hZY.size
    rw [List.nil_append] at O5 hv5
    subst hv5
    have F5 : Hid (OwnP W5 0 (.slice a5 ps.length c5) ps ∧ ∀ g, (Value.slice a5 ps.length c5).ownBlock = some g → W.heap.size ≤ g) := hidIt ⟨O5, fun g hg => N5 g (by simp [hg])⟩
    clear h hp hf hL hZY OW I5 O5 N5
    subst hY
    have e0 := eqp_nil (some ⟨g, 0, none⟩) ps.length cap false rfl W
    go_enter Try.func46, Try.ntmps46
    go_wp2_with (refine wpList_run_w (by rfl) (.slice a5 ps.length c5) W5 (app_run (.tmp 5) (.tmp 6) 27 27 rfl _ _ rfl rfl hr5) ?_)
    exact bodyPost_ret (v := .slice a5 ps.length c5) (by simp [results, Try.results46, go_sem]) rfl ⟨a5, c5, rfl, F5.out.1, F5.out.2, B5.out⟩
/-- What Clone answers. -/
def ClPost (W : World) (qs : List PV) (e : Ending) (w' : World) : Prop := ∃ t v, e = .returned (.pointer (some ⟨t, 0, none⟩)) ∧ Tab w' t v qs ∧ W.heap.size ≤ t ∧ (∀ g, v.ownBlock = some g → W.heap.size ≤ g) ∧ Below W.heap.size W w'
theorem tab_of {W W1 W2 : World} {t : Nat} {v : Value} {qs : List PV} {a : Option Addr} {C : Nat} (hT : Tab W t v qs) (hO : OwnP W1 0 (.slice a qs.length C) qs) (hN : ∀ g, (Value.slice a qs.length C).ownBlock = some g → W.heap.size ≤ g) (hB : Below W.heap.size W W1) (hR : Rec19 W2 W1.heap.size 0 [.pointer (some ⟨W1.heap.size, 0, none⟩), .slice a qs.length C]) (hB2 : Below W1.heap.size W1 W2) : Tab W2 W1.heap.size (.slice a qs.length C) qs := by
  refine ⟨hO.below hB2, hR, fun g hg q => ?_, fun x hx => ?_, hT.mays, hT.srt, hT.few⟩
  · have := (World.ownsRow.lt hO g hg).2
    omega
  · have h1 : PVOk W (W1.heap.size :: (Value.slice a qs.length C).ownBlock.toList) x := (hT.ok x hx).mono (fun b hb => by
      rcases List.mem_cons.1 hb with rfl | hb
      · exact .inr hB.size
      · cases e : (Value.slice a qs.length C).ownBlock with
        | none => rw [e] at hb; cases hb
        | some g => rw [e] at hb; simp at hb; subst hb; exact .inr (hN _ e))
    exact (h1.below hB).below hB2
set_option maxRecDepth 100000 in
theorem tclone_any {W : World} {t : Nat} {v : Value} {qs : List PV} (hT : Tab W t v qs) : Calls Try.prog 27 #[.pointer (some ⟨t, 0, none⟩)] W (ClPost W qs) := by
  have M := hidIt (tmade_ok hT)
  have V := hidIt (vclone_any hT.own (fun x hx => (hT.ok x hx).mono (fun b hb => by cases hb)) hT.few)
  have HT := hidIt hT
  obtain ⟨a, cap, hv, _⟩ := hT.lst
  subst hv
  have c1 := (hT.rc.cel 1 _ rfl).1
  clear hT
  go_enter Try.func27, Try.ntmps27
  go_wp2_with (first
    | (go_at_call 38; refine M.out.mono ?_; rintro e w1 ⟨rfl, hw⟩; rw [hw]; clear hw)
    | (go_at_call 46; refine V.out.mono ?_; rintro e W1 ⟨a1, C1, rfl, h1, h2, h3⟩; have F1 := hidIt (And.intro h1 (And.intro h2 h3)); clear h1 h2 h3)
    | (go_at_call 32; refine (build_any W1 a1 qs.length C1).mono ?_; rintro e W2 ⟨rfl, hr, hb⟩; have F2 : Hid (ClPost W qs (.returned (.pointer (some ⟨W1.heap.size, 0, none⟩))) W2) := hidIt ⟨W1.heap.size, _, rfl, tab_of HT.out F1.out.1 F1.out.2.1 F1.out.2.2 hr hb, F1.out.2.2.size, F1.out.2.1, F1.out.2.2.trans (hb.mono F1.out.2.2.size)⟩; clear hr hb))
  exact bodyPost_ret (v := .pointer (some ⟨W1.heap.size, 0, none⟩)) (by simp [results, Try.results27, go_sem]) rfl F2.out
/-- What the reference's Clone answers. -/
def RCl (W : World) (rs : List PV) (e : Ending) (w' : World) : Prop := ∃ r lv, e = .returned (.pointer (some ⟨r, 0, none⟩)) ∧ RT w' r lv rs ∧ W.heap.size ≤ r ∧ (∀ g, lv.ownBlock = some g → W.heap.size ≤ g) ∧ Below W.heap.size W w'
theorem rt_of {W W1 W2 : World} {r : Nat} {lv : Value} {rs : List PV} {a : Option Addr} {C : Nat} (hT : RT W r lv rs) (hO : OwnP W1 0 (.slice a rs.length C) rs) (hN : ∀ g, (Value.slice a rs.length C).ownBlock = some g → W.heap.size ≤ g) (hB : Below W.heap.size W W1) (hR : Rec19 W2 W1.heap.size 0 [.slice a rs.length C]) (hB2 : Below W1.heap.size W1 W2) : RT W2 W1.heap.size (.slice a rs.length C) rs := by
  refine ⟨hO.below hB2, hR, fun g hg q => ?_, fun x hx => ?_, hT.srt, hT.few⟩
  · have := (World.ownsRow.lt hO g hg).2
    omega
  · have h1 : PVOk W (W1.heap.size :: (Value.slice a rs.length C).ownBlock.toList) x := (hT.ok x hx).mono (fun b hb => by
      rcases List.mem_cons.1 hb with rfl | hb
      · exact .inr hB.size
      · cases e : (Value.slice a rs.length C).ownBlock with
        | none => rw [e] at hb; cases hb
        | some g => rw [e] at hb; simp at hb; subst hb; exact .inr (hN _ e))
    exact (h1.below hB).below hB2
set_option maxRecDepth 100000 in
theorem rclone_any {W : World} {r : Nat} {lv : Value} {rs : List PV} (hT : RT W r lv rs) : Calls Try.prog 37 #[.pointer (some ⟨r, 0, none⟩)] W (RCl W rs) := by
  obtain ⟨a, cap, hv, hL⟩ := hT.lst
  subst hv
  have HT := hidIt hT
  obtain ⟨Y, hY⟩ : ∃ Y, Y = W.alloc (.cells #[] 47) := ⟨_, rfl⟩
  have hZY : Below W.heap.size W Y := by rw [hY]; exact (Below.refl _ _).alloc (Nat.le_refl _) _
  have OW : OwnP Y 0 (.slice (some ⟨W.heap.size, 0, none⟩) 0 0) [] := by rw [hY]; exact own_empty W
  obtain ⟨v5, W5, hr5, I5⟩ := app_any 27 Y _ [] rs a cap OW (hL.below hZY) (by have := hT.few; simp; omega)
  have c1 := ((hT.rc.below hZY).cel 0 _ rfl).1
  have B5 := hidIt (hZY.trans (I5.off.below (by simp [Value.ownBlock]) hZY.size))
  obtain ⟨a5, c5, hv5, _⟩ := I5.own.slice
  have O5 := I5.own
  have N5 := ins_low I5 hZY.size
  rw [List.nil_append] at O5 hv5
  subst hv5
  have F5 : Hid (OwnP W5 0 (.slice a5 rs.length c5) rs ∧ ∀ g, (Value.slice a5 rs.length c5).ownBlock = some g → W.heap.size ≤ g) := hidIt ⟨O5, fun g hg => N5 g (by simp [hg])⟩
  clear hT hL hZY I5 O5 N5 OW
  subst hY
  go_enter Try.func37, Try.ntmps37
  go_wp2_with fail
  exact bodyPost_ret (v := .pointer (some ⟨W5.heap.size, 0, none⟩)) (by simp [results, Try.results37, go_sem]) rfl ⟨W5.heap.size, _, rfl, rt_of HT.out F5.out.1 F5.out.2 B5.out (Rec19.new W5 29 [.slice a5 rs.length c5]) ((Below.refl _ _).alloc (Nat.le_refl _) _), B5.out.size, F5.out.2, B5.out.trans (((Below.refl _ _).alloc (Nat.le_refl _) _).mono B5.out.size)⟩
theorem take_one (l : List PV) (k : Nat) (x : PV) (h : l[k]? = some x) : l.take (k + 1) = l.take k ++ [x] := by
  obtain ⟨hk, rfl⟩ := List.getElem?_eq_some_iff.1 h
  rw [List.take_succ_eq_append_getElem hk]
/-- Is a pair between two keys? -/
def inB (f b : ByteArray) (x : PV) : Bool := !decide (cmpB x.p.k f < 0) && blw x.p.k b
theorem inB_map (f b : ByteArray) (l : List PV) : (l.filter (inB f b)).map PV.p = btwF (l.map PV.p) f b := by
  unfold btwF
  rw [List.filter_map]
  rfl
/-- What holds at the head of Between's loop. -/
structure RbI (W : World) (rs : List PV) (f b : ByteArray) (k : Nat) (wr : World) (lv : Value) (os : List PV) : Prop where
  own : OwnP wr 0 lv os
  new : ∀ g, lv.ownBlock = some g → W.heap.size ≤ g
  is : os = (rs.take k).filter (inB f b)
  below : Below W.heap.size W wr
theorem RbI.skip {W wr : World} {rs os : List PV} {f b : ByteArray} {k : Nat} {lv : Value} {x : PV} (h : RbI W rs f b k wr lv os) (hx : rs[k]? = some x) (hi : inB f b x = false) : RbI W rs f b (k + 1) wr lv os :=
  ⟨h.own, h.new, by rw [take_one rs k x hx, List.filter_append, ← h.is, List.filter_cons_of_neg (by rw [hi]; simp), List.filter_nil, List.append_nil], h.below⟩
theorem RbI.put {W wr W7 W8 : World} {rs os : List PV} {f b : ByteArray} {k : Nat} {lv v8 : Value} {x : PV} (h : RbI W rs f b k wr lv os) (hB : Below wr.heap.size wr W7) (hI : Insd W7 lv (os ++ [x]) v8 W8) (hx : rs[k]? = some x) (hi : inB f b x = true) : RbI W rs f b (k + 1) W8 v8 (os ++ [x]) := by
  have b7 := h.below.trans (hB.mono h.below.size)
  refine ⟨hI.own, fun g hg => ?_, by rw [take_one rs k x hx, List.filter_append, ← h.is, List.filter_cons_of_pos hi, List.filter_nil], b7.trans (hI.off.below (fun c hc => ?_) b7.size)⟩
  · rcases hI.blk g hg with q | q
    · exact h.new g q
    · exact Nat.le_trans b7.size q
  · cases e : lv.ownBlock with
    | none => rw [e] at hc; cases hc
    | some g => rw [e] at hc; simp at hc; subst hc; exact h.new _ e
/-- What Between answers. -/
def RBt (W : World) (rs : List PV) (f b : ByteArray) (e : Ending) (w' : World) : Prop := ∃ a C, e = .returned (.slice a (rs.filter (inB f b)).length C) ∧ Lst w' a (rs.filter (inB f b)) ∧ Below W.heap.size W w'
set_option maxRecDepth 100000 in
set_option maxHeartbeats 2000000 in
theorem rbtw_any {W : World} {a : Option Addr} {rs : List PV} (n C : Nat) (hn : rs.length = n) (hL : Lst W a rs) (hf : n ≤ 64) {fr to : Value} {f b : ByteArray} (h1 : Txt W [] fr f) (h2 : Txt W [] to b) : Calls Try.prog 36 #[.slice a n C, fr, to] W (RBt W rs f b) := by
  have HL := hidIt hL
  have HN := hidIt hn
  have HF := hidIt hf
  have H1 := hidIt h1
  have H2 := hidIt h2
  have st : Hid (RbI W rs f b 0 W (.slice none 0 0) []) := hidIt ⟨OwnP.nil _ _, fun g hg => (by cases hg), rfl, Below.refl _ _⟩
  obtain ⟨fa, fC, ff, hfv, _⟩ := h1
  obtain ⟨ta, tC, tf, htv, _⟩ := h2
  subst hfv htv
  clear hL hn hf
  go_enter Try.func36, Try.ntmps36
  go_wp2_with fail
  go_loopw [7, 8] (fun lv i wr => ∃ (k : Nat) (os : List PV), k ≤ n ∧ i = .int .i64 (k : Int) ∧ Hid (RbI W rs f b k wr lv os)) (fun _ i _ => n - (RowKit.intOf i).toNat)
  case atStart => exact ⟨0, _, Nat.zero_le _, rfl, st⟩
  case round =>
    clear st
    obtain ⟨k, os, hk, rfl, hI⟩ := hrel
    by_cases hlt : k < n
    · obtain ⟨x, hx⟩ : ∃ x, rs[k]? = some x := ⟨_, List.getElem?_eq_getElem (by have := HN.out; omega)⟩
      obtain ⟨bl, o1, ha, hr1, l1⟩ := (HL.out.below hI.out.below).at k x hx
      subst ha
      obtain ⟨c0, c1, c2⟩ := three_cells hr1
      have OK := hidIt (HL.out.1 x (List.mem_of_getElem? hx))
      have L1 := hidIt (less_any (OK.out.1.below hI.out.below) (H1.out.below hI.out.below))
      have L2 := hidIt (less_any (OK.out.1.below hI.out.below) (H2.out.below hI.out.below))
      have HX := hidIt hx
      have LT := hidIt hlt
      have na : Hid True := trivial
      obtain ⟨i0, i1, i2, i3⟩ := k_ar k n hlt (by have := HF.out; omega)
      clear hx hr1 l1 hlt hk
      by_cases g1 : cmpB x.p.k f < 0
      · have e1 : decide (cmpB x.p.k f < 0) = true := decide_eq_true g1
        have NX := hidIt (hI.out.skip HX.out (by unfold inB; rw [e1]; rfl))
        clear g1 c1 c2
        go_wp2_with (go_at_call 41; have _q := na; clear na _q; refine L1.out.mono ?_; rintro e w2 ⟨rfl, hw⟩; rw [hw, e1]; clear hw)
        exact ⟨⟨k + 1, _, LT.out, rfl, NX⟩, meas_k n k _ rfl LT.out⟩
      · have e1 : decide (cmpB x.p.k f < 0) = false := decide_eq_false g1
        clear g1
        have PUT : Hid (inB f b x = true → ∃ W7 v8 W8, W7 = wr.alloc (.cells #[x.k, x.v, .bool x.p.g] 47) ∧ (Builtin.append_ #[27, 27] 27 #[u7, .slice (some ⟨wr.heap.size, 0, none⟩) 1 1]).run Try.prog W7 = .ok v8 W8 ∧ RbI W rs f b (k + 1) W8 v8 (os ++ [x])) := hidIt (fun hi => by
          have A7 : Below wr.heap.size wr (wr.alloc (.cells x.cs.toArray 47)) := (Below.refl _ _).alloc (Nat.le_refl _) _
          have L7 : Lone (wr.alloc (.cells x.cs.toArray 47)) wr.heap.size x := ⟨heap_alloc_new wr _, OK.out.one⟩
          have ol : os.length ≤ k := by rw [hI.out.is]; exact Nat.le_trans (List.length_filter_le _ _) (by rw [List.length_take]; exact Nat.min_le_left _ _)
          obtain ⟨v8, W8, hr8, I8⟩ := app_pairs 27 _ u7 os [x] ⟨wr.heap.size, 0, none⟩ 1 (hI.out.own.below A7) (fun j u hj => by rw [pcs_single] at hj; rw [Addr.add_mid, Nat.zero_add]; exact L7.cell j u hj) (by rw [pcs_single]; exact L7.2) (by simp) (by have := LT.out; have := HF.out; simp; omega)
          exact ⟨_, v8, W8, rfl, hr8, hI.out.put A7 I8 HX.out hi⟩)
        by_cases g2 : (b.size : Int) = 0
        · have e2 : ((b.size : Int) == 0) = true := by simpa using g2
          obtain ⟨W7, v8, W8, hW7, hr8, NX0⟩ := PUT.out (by unfold inB; rw [e1]; unfold blw; rw [decide_eq_true (show b.size = 0 by omega)]; rfl)
          subst hW7
          have NX := hidIt NX0
          clear g2 NX0 PUT
          go_wp2_with (go_at_call 41; have _q := na; clear na _q; refine L1.out.mono ?_; rintro e w2 ⟨rfl, hw⟩; rw [hw, e1]; clear hw)
          exact ⟨⟨k + 1, _, LT.out, rfl, NX⟩, meas_k n k _ rfl LT.out⟩
        · have e2 : ((b.size : Int) == 0) = false := by simpa using g2
          by_cases g3 : cmpB x.p.k b < 0
          · have e3 : decide (cmpB x.p.k b < 0) = true := decide_eq_true g3
            obtain ⟨W7, v8, W8, hW7, hr8, NX0⟩ := PUT.out (by unfold inB; rw [e1]; unfold blw; rw [e3]; simp)
            subst hW7
            have NX := hidIt NX0
            clear g2 g3 NX0 PUT
            go_wp2_with (first
              | (go_at_call 41; have _q := na; clear na _q; refine L1.out.mono ?_; rintro e w2 ⟨rfl, hw⟩; rw [hw, e1]; clear hw)
              | (go_at_call 41; refine L2.out.mono ?_; rintro e w2 ⟨rfl, hw⟩; rw [hw, e3]; clear hw))
            exact ⟨⟨k + 1, _, LT.out, rfl, NX⟩, meas_k n k _ rfl LT.out⟩
          · have e3 : decide (cmpB x.p.k b < 0) = false := decide_eq_false g3
            have NX := hidIt (hI.out.skip HX.out (by unfold inB; rw [e1]; unfold blw; rw [e3, decide_eq_false (show ¬ b.size = 0 by omega)]; rfl))
            clear g2 g3 PUT c1 c2
            go_wp2_with (first
              | (go_at_call 41; have _q := na; clear na _q; refine L1.out.mono ?_; rintro e w2 ⟨rfl, hw⟩; rw [hw, e1]; clear hw)
              | (go_at_call 41; refine L2.out.mono ?_; rintro e w2 ⟨rfl, hw⟩; rw [hw, e3]; clear hw))
            exact ⟨⟨k + 1, _, LT.out, rfl, NX⟩, meas_k n k _ rfl LT.out⟩
    · have i0 : ((k : Int) < (n : Int)) = False := eq_false (by omega)
      have io := hI.out.is
      rw [List.take_of_length_le (by have := HN.out; omega)] at io
      obtain ⟨ua, uc, hu, _⟩ := hI.out.own.slice
      have FIN : Hid (RBt W rs f b (.returned u7) wr) := hidIt ⟨ua, uc, by rw [← io, hu], by rw [← io]; exact (OwnP.lst (a := ua) (n := os.length) (cap := uc) (hu ▸ hI.out.own) (fun x hx => (HL.out.1 x (by rw [io] at hx; exact (List.mem_filter.1 hx).1)).below hI.out.below)), hI.out.below⟩
      clear hlt hk hu io
      go_wp2_with fail
      exact bodyPost_ret (v := u7) (by simp [results, Try.results36, go_sem]) rfl FIN.out
end Go.Proofs.Ytandkedipjmdbaa
