/-
  Walks, not a claim by itself: Find. By the verifier.
-/
import Derived.Test.YtgpafmgncolnmaaMgMe
namespace Go.Proofs.Ytgpafmgncolnmaa
open Go.RowKit
theorem merge_any {W0 : World} {A : Option Addr} {ls : List LV} {drop : Bool} (L C : Nat) (hL : ls.length = L) (h : Lsts W0 A ls) (hf : L ≤ 1000) (hz : ∀ x ∈ allP ls, x.p.k.size ≤ 1000000 ∧ x.p.v.size ≤ 1000000) (hs : ∀ x ∈ ls, x.ps.length ≤ 10000) : Calls Try.prog 12 #[.slice A L C, .bool drop] W0 (MgPost W0 ls drop) := by
  by_cases hc : chkC ls = 0
  · exact merge_ok L C hL h hz hs hc
  · exact merge_no L C hL h hf hs hc
/-- What Find answers. -/
def FiPost (W : World) (l : List PV) (k : ByteArray) (e : Ending) (w' : World) : Prop := Below W.heap.size W w' ∧ ((∃ x kk vv, fv l k = some x ∧ e = .returned (.tuple #[.agg (PV.mk kk vv x.p).cs.toArray, .bool true]) ∧ FrC w' W.heap.size kk x.p.k ∧ FrC w' W.heap.size vv x.p.v) ∨ (fv l k = none ∧ e = .returned (.tuple #[.agg (PV.mk (.slice none 0 0) (.slice none 0 0) ⟨.empty, .empty, false⟩).cs.toArray, .bool false])))
theorem allP_succ {ls : List LV} {k : Nat} {x : LV} (h : ls[k]? = some x) : allP (ls.take (k + 1)) = allP (ls.take k) ++ x.ps := by
  obtain ⟨hk, rfl⟩ := List.getElem?_eq_some_iff.1 h
  unfold allP
  rw [List.take_succ_eq_append_getElem hk, List.flatMap_append]
  simp
theorem allP_split {ls : List LV} {k : Nat} {x : LV} (h : ls[k]? = some x) : allP ls = allP (ls.take k) ++ (x.ps ++ allP (ls.drop (k + 1))) := by
  have e := allP_succ h
  rw [← List.append_assoc, ← e]
  unfold allP
  rw [← List.flatMap_append, List.take_append_drop]
theorem fv_take_succ {l : List PV} {j : Nat} {x : PV} {k : ByteArray} (h : l[j]? = some x) (hn : fv (l.take j) k = none) (hk : x.p.k ≠ k) : fv (l.take (j + 1)) k = none := by
  obtain ⟨hj, rfl⟩ := List.getElem?_eq_some_iff.1 h
  rw [List.take_succ_eq_append_getElem hj, fv_app, hn, fv_cons_ne hk]
  rfl
theorem fv_hit {l : List PV} {j : Nat} {x : PV} {k : ByteArray} (h : l[j]? = some x) (hn : fv (l.take j) k = none) (hk : x.p.k = k) : fv l k = some x := by
  obtain ⟨hj, rfl⟩ := List.getElem?_eq_some_iff.1 h
  conv => lhs; rw [← List.take_append_drop j l]
  rw [fv_app, hn, List.drop_eq_getElem_cons hj, fv_cons_eq hk]
  rfl
/-- What holds at the head of the outer loop. -/
def fiR (W : World) (ls : List LV) (k : ByteArray) (L : Nat) (i : Value) (wr : World) : Prop := ∃ n : Nat, n ≤ L ∧ i = .int .i64 (n : Int) ∧ Below W.heap.size W wr ∧ Rec19 wr W.heap.size 0 [.slice none 0 0, .slice none 0 0, .bool false] ∧ fv (allP (ls.take n)) k = none
def fiI (W : World) (ps : List PV) (k : ByteArray) (m : Nat) (i : Value) (wr : World) : Prop := ∃ n : Nat, n ≤ m ∧ i = .int .i64 (n : Int) ∧ Below W.heap.size W wr ∧ Rec19 wr W.heap.size 0 [.slice none 0 0, .slice none 0 0, .bool false] ∧ fv (ps.take n) k = none
set_option maxRecDepth 100000 in
set_option maxHeartbeats 2000000 in
theorem find_any {W : World} {A : Option Addr} {ls : List LV} {N : List Nat} {key : Value} {k : ByteArray} (L C : Nat) (hL : ls.length = L) (h : Lsts W A ls) (hf : L ≤ 1000) (hz : ∀ x ∈ allP ls, x.p.k.size ≤ 1000000 ∧ x.p.v.size ≤ 1000000) (hs : ∀ x ∈ ls, x.ps.length ≤ 10000) (hk : Txt W N key k) : Calls Try.prog 14 #[.slice A L C, key] W (FiPost W (allP ls) k) := by
  have HL := hidIt h
  have HN := hidIt (And.intro hL (And.intro hf (And.intro hs hz)))
  have HK := hidIt hk
  clear h hL hf hz hs hk
  go_enter Try.func14, Try.ntmps14
  go_wp2_with (refine wpList_alloc_rec rfl 32 rfl _ W.heap.size rfl pair_zero ?_; intro W1 R1 B1 z1; have S1 : Hid (fiR W ls k L (.int .i64 0) W1) := hidIt ⟨0, Nat.zero_le _, rfl, B1, R1, rfl⟩; clear R1 B1 z1)
  go_loopw [12] (fun i wr => fiR W ls k L i wr) (fun i _ => L - (RowKit.intOf i).toNat)
  case atStart => exact S1.out
  case round =>
    clear S1
    obtain ⟨n, hn, rfl, hB, hR, hv⟩ := hrel
    have HB := hidIt hB
    have HR := hidIt hR
    have HV := hidIt hv
    by_cases hlt : n < L
    · obtain ⟨x, hx⟩ : ∃ x, ls[n]? = some x := ⟨_, List.getElem?_eq_getElem (by have := HN.out.1; omega)⟩
      obtain ⟨b, o, ha, hc, hb⟩ := (HL.out.below hB).at n x hx
      subst ha
      have LT := hidIt hlt
      have HX := hidIt hx
      have AR := hidIt (k_ar n L hlt (by have := HN.out.2.1; omega))
      have MK := hidIt (meas_k L n _ rfl hlt)
      have S2 : Hid (fiI W x.ps k x.ps.length (.int .i64 0) wr) := hidIt ⟨0, Nat.zero_le _, rfl, hB, hR, rfl⟩
      have OX := hidIt (HL.out.1 x (List.mem_of_getElem? hx))
      have NX := hidIt (HN.out.2.2.1 x (List.mem_of_getElem? hx))
      have AX := hidIt (allP_succ hx)
      have AS := hidIt (allP_split hx)
      have ZX : Hid (∀ y ∈ x.ps, y.p.k.size ≤ 1000000 ∧ y.p.v.size ≤ 1000000) := hidIt (fun y hy => HN.out.2.2.2 y (by rw [AS.out]; simp [hy]))
      unfold LV.v at hc
      clear hb hx hlt hn hB hR hv
      obtain ⟨xa, xc, xps⟩ := x
      simp only at hc S2 OX NX AX AS ZX
      obtain ⟨m, hm⟩ : ∃ m, m = xps.length := ⟨_, rfl⟩
      rw [← hm] at hc S2 NX
      have HM := hidIt hm
      clear hm
      obtain ⟨i0, i1, i2, i3⟩ := AR.out
      go_wp2
      clear i0 i1 i2 i3 hc
      go_loopw [18] (fun i w5 => fiI W xps k m i w5) (fun i _ => m - (RowKit.intOf i).toNat)
      case atStart => exact S2.out
      case round =>
        clear S2
        obtain ⟨j, hj, rfl, hB, hR, hv⟩ := hrel
        rename World => Wi
        have IB := hidIt hB
        have IR := hidIt hR
        have IV := hidIt hv
        by_cases hlt : j < m
        · obtain ⟨y, hy⟩ : ∃ y, xps[j]? = some y := ⟨_, List.getElem?_eq_getElem (by have := HM.out; omega)⟩
          obtain ⟨b2, o2, ha, hr, hb⟩ := ((OX.out.below hB).1).at j y hy
          have OY := hidIt ((OX.out.1.1 y (List.mem_of_getElem? hy)))
          have ZY := hidIt (ZX.out y (List.mem_of_getElem? hy))
          have JT := hidIt hlt
          have YX := hidIt hy
          have JR := hidIt (k_ar j m hlt (by have := NX.out; omega))
          have JK := hidIt (meas_k m j _ rfl hlt)
          simp only at ha
          subst ha
          clear hb hy hlt hj hB hR hv
          obtain ⟨i0, i1, i2, i3⟩ := JR.out
          go_wp2_with (first
            | (refine wpList_load_mid rfl 32 (.tmp 20) rfl b2 (o2 + j * 3) rfl y.cs _ hr Try.underlying32 rfl pair_size ?_; clear hr)
            | (refine wpList_alloc_rec rfl 32 rfl _ Wi.heap.size rfl pair_zero ?_; intro W2 R2 B2 z2; have E2 := hidIt (And.intro B2 z2); have P2 := hidIt R2; clear R2 B2 z2)
            | (refine wpList_store_rec rfl 32 (.tmp 9) (.tmp 21) rfl Wi.heap.size 0 _ y.cs rfl rfl P2.out rfl pair_size (OY.out.one) ?_; intro W3 R3 B3; have E3 := hidIt (E2.out.1.trans (B3.below (Nat.le_refl _) (by have := E2.out.2; omega))); have P3 := hidIt R3; have q0 := (R3.cel 0 _ rfl).1; have IB3 := hidIt (IB.out.trans (E3.out.mono IB.out.size)); have IR3 := hidIt (IR.out.below E3.out); clear R3 B3)
            | (go_at_call 37; refine (equal_any (OY.out.1.below IB3.out) (HK.out.below IB3.out)).mono ?_; rintro e w4 ⟨rfl, hw⟩; rw [hw]; clear hw; refine Held.out ?_))
          clear q0
          by_cases ek : y.p.k = k
          · rw [decide_eq_true ek]
            have FH : Hid (fv (allP ls) k = some y) := hidIt (by rw [AS.out, fv_app, HV.out, fv_app, fv_hit YX.out IV.out ek]; rfl)
            clear ek
            refine Held.mk ?_
            have W3s := hidIt IB3.out.size
            go_wp2_with (first
              | (refine wpList_load_rec rfl 32 (.tmp 9) rfl Wi.heap.size 0 y.cs rfl _ Try.underlying32 rfl pair_size P3.out ?_)
              | (go_at_call 34; refine (ucopied_any (OY.out.below IB3.out) ZY.out.1 ZY.out.2).mono ?_; rintro e W4 ⟨kk, vv, rfl, Fk, Fv, B4⟩; obtain ⟨ka, kn, kC, rfl⟩ := Fk.sl; obtain ⟨va, vn, vC, rfl⟩ := Fv.sl; have IB4 := hidIt (IB3.out.trans (B4.mono IB3.out.size)); have IR4 := hidIt (IR3.out.below B4); have F4 := hidIt (And.intro Fk Fv); clear Fk Fv B4)
              | (refine wpList_store_rec rfl 32 (.tmp 4) (.tmp 27) rfl W.heap.size 0 _ (PV.mk (.slice ka kn kC) (.slice va vn vC) y.p).cs rfl rfl IR4.out rfl pair_size (by intro u hu; simp only [PV.cs, List.mem_cons, List.not_mem_nil, or_false] at hu; rcases hu with rfl | rfl | rfl <;> rfl) ?_; intro W5 R5 B5; have P5 := hidIt R5; have FIN : Hid (FiPost W (allP ls) k (.returned (.tuple #[.agg (PV.mk (.slice ka kn kC) (.slice va vn vC) y.p).cs.toArray, .bool true])) W5) := hidIt (by have s3 := W3s.out; have l0 := IR3.out.2.2; exact ⟨IB4.out.trans (B5.below (Nat.le_refl _) IB4.out.size), .inl ⟨y, _, _, FH.out, rfl, (F4.out.1.off (Off.but (bs := [W.heap.size]) B5 (by simp)) (by simp; exact l0)).low s3, (F4.out.2.off (Off.but (bs := [W.heap.size]) B5 (by simp)) (by simp; exact l0)).low s3⟩⟩); clear R5 B5))
            have hl := P5.out.run_load 32 _ Try.underlying32 rfl pair_size
            exact bodyPost_ret (v := .tuple #[.agg (PV.mk (.slice ka kn kC) (.slice va vn vC) y.p).cs.toArray, .bool true]) (by simp [results, Try.results14, asAddr, hl]) rfl FIN.out
          · rw [decide_eq_false ek]
            have NX2 : Hid (fiI W xps k m (.int .i64 ((j : Int) + 1)) W3) := hidIt ⟨j + 1, JT.out, rfl, IB3.out, IR3.out, fv_take_succ YX.out IV.out ek⟩
            clear ek
            refine Held.mk ?_
            as_aux_lemma =>
              go_wp2_with fail
              go_roundw
              case rel => exact NX2.out
              case measure => exact JK.out
        · obtain rfl : j = m := by omega
          have i0 : ((j : Int) < (j : Int)) = False := eq_false (by omega)
          have NX2 : Hid (fiR W ls k L (.int .i64 ((n : Int) + 1)) Wi) := hidIt ⟨n + 1, LT.out, rfl, hB, hR, by rw [AX.out, fv_app, HV.out]; rw [List.take_of_length_le (by have := HM.out; omega)] at hv; rw [hv]; rfl⟩
          obtain ⟨_, _, i2, i3⟩ := AR.out
          clear hj hlt hB hR hv
          as_aux_lemma =>
            go_wp2_with fail
            go_roundw
            case rel => exact NX2.out
            case measure => exact MK.out
    · obtain rfl : n = L := by omega
      have i0 : ((n : Int) < (n : Int)) = False := eq_false (by omega)
      have FN : Hid (fv (allP ls) k = none) := hidIt (by rw [List.take_of_length_le (by have := HN.out.1; omega)] at hv; exact hv)
      clear hn hlt hB hR hv
      go_wp2_with (refine wpList_store_rec rfl 32 (.tmp 4) (.tmp 30) rfl W.heap.size 0 _ [.slice none 0 0, .slice none 0 0, .bool false] rfl rfl HR.out rfl pair_size (by intro u hu; simp only [List.mem_cons, List.not_mem_nil, or_false] at hu; rcases hu with rfl | rfl | rfl <;> rfl) ?_; intro W5 R5 B5; have P5 := hidIt R5; have E5 := hidIt (HB.out.trans (B5.below (Nat.le_refl _) HB.out.size)); clear R5 B5)
      have hl := P5.out.run_load 32 _ Try.underlying32 rfl pair_size
      exact bodyPost_ret (v := .tuple #[.agg #[.slice none 0 0, .slice none 0 0, .bool false], .bool false]) (by simp [results, Try.results14, asAddr, hl]) rfl ⟨E5.out, .inr ⟨FN.out, rfl⟩⟩
end Go.Proofs.Ytgpafmgncolnmaa
