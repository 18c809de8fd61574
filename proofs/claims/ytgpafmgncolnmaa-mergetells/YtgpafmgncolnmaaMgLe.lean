/-
  Walks, not a claim by itself: the reference's least key. By the verifier.
-/
import Derived.Test.YtgpafmgncolnmaaMgLf
namespace Go.Proofs.Ytgpafmgncolnmaa
open Go.RowKit
theorem take_snoc {xps : List PV} {j : Nat} {y : PV} (h : xps[j]? = some y) (l : List PV) : l ++ xps.take (j + 1) = (l ++ xps.take j) ++ [y] := by
  obtain ⟨hj, rfl⟩ := List.getElem?_eq_some_iff.1 h
  rw [List.take_succ_eq_append_getElem hj, List.append_assoc]
theorem part_ok {W : World} {A : Option Addr} {ls : List LV} {n j : Nat} {x : LV} {z : PV} (h : Lsts W A ls) (hx : x ∈ ls) (hz : z ∈ allP (ls.take n) ++ x.ps.take j) : PVOk W [] z := by
  rcases List.mem_append.1 hz with hz | hz
  · obtain ⟨y, hy, hz⟩ := List.mem_flatMap.1 hz
    exact (h.1 y (List.mem_of_mem_take hy)).1.1 z hz
  · exact (h.1 x hx).1.1 z (List.mem_of_mem_take hz)
/-- What least answers. -/
def LePost (W : World) (l : List PV) (P : ByteArray → Prop) (e : Ending) (w' : World) : Prop := ∃ out met, e = .returned (.tuple #[out, .bool met]) ∧ LsQ P l out met ∧ w' = W
set_option maxRecDepth 100000 in
set_option maxHeartbeats 2000000 in
theorem uleast_any {W : World} {A : Option Addr} {ls : List LV} {N : List Nat} {bv : Value} {b : ByteArray} {f : Bool} (L C : Nat) (hL : ls.length = L) (h : Lsts W A ls) (hf : L ≤ 1000) (hs : ∀ x ∈ ls, x.ps.length ≤ 10000) (hk : Txt W N bv b) : Calls Try.prog 36 #[.slice A L C, bv, .bool f] W (LePost W (allP ls) (BhK b f)) := by
  have HL := hidIt h
  have HN := hidIt (And.intro hL (And.intro hf hs))
  have HK := hidIt hk
  have st : Hid (LsQ (BhK b f) (allP (ls.take 0)) (.slice none 0 0) false) := hidIt (LsQ.nil _)
  clear h hL hf hs hk
  go_enter Try.func36, Try.ntmps36
  go_wp2_with fail
  go_loopw [8, 9, 10] (fun ov mv iv wr => ∃ (n : Nat) (met : Bool), n ≤ L ∧ iv = .int .i64 (n : Int) ∧ mv = .bool met ∧ wr = W ∧ Hid (LsQ (BhK b f) (allP (ls.take n)) ov met)) (fun _ _ iv _ => L - (RowKit.intOf iv).toNat)
  case atStart => exact ⟨0, false, Nat.zero_le _, rfl, rfl, rfl, st⟩
  case round =>
    clear st
    obtain ⟨n, met, hn, rfl, rfl, rfl, hI⟩ := hrel
    by_cases hlt : n < L
    · obtain ⟨x, hx⟩ : ∃ x, ls[n]? = some x := ⟨_, List.getElem?_eq_getElem (by have := HN.out.1; omega)⟩
      obtain ⟨bb, o, ha, hc, hb⟩ := HL.out.at n x hx
      subst ha
      have LT := hidIt hlt
      have AR := hidIt (k_ar n L hlt (by have := HN.out.2.1; omega))
      have MK := hidIt (meas_k L n _ rfl hlt)
      have OX := hidIt (HL.out.1 x (List.mem_of_getElem? hx))
      have NX := hidIt (HN.out.2.2 x (List.mem_of_getElem? hx))
      have AX := hidIt (allP_succ hx)
      have MX := hidIt (List.mem_of_getElem? hx)
      have S2 : Hid (LsQ (BhK b f) (allP (ls.take n) ++ x.ps.take 0) u8 met) := hidIt (by rw [List.take_zero, List.append_nil]; exact hI.out)
      unfold LV.v at hc
      clear hb hx hlt hn hI
      obtain ⟨xa, xc, xps⟩ := x
      simp only at hc OX NX AX S2 MX
      obtain ⟨m, hm⟩ : ∃ m, m = xps.length := ⟨_, rfl⟩
      rw [← hm] at hc NX
      have HM := hidIt hm
      have CX := hidIt hc
      clear hm
      obtain ⟨i0, i1, i2, i3⟩ := AR.out
      go_wp2_with fail
      clear i0 i2 i3
      go_loopw [8, 9, 11] (fun ov mv iv w5 => ∃ (j : Nat) (me : Bool), j ≤ m ∧ iv = .int .i64 (j : Int) ∧ mv = .bool me ∧ w5 = wr ∧ Hid (LsQ (BhK b f) (allP (ls.take n) ++ xps.take j) ov me)) (fun _ _ iv _ => m - (RowKit.intOf iv).toNat)
      case atStart => exact ⟨0, met, Nat.zero_le _, rfl, rfl, rfl, S2⟩
      case round =>
        clear S2
        obtain ⟨j, me, hj, rfl, rfl, rfl, hI⟩ := hrel
        by_cases hlt : j < m
        · obtain ⟨y, hy⟩ : ∃ y, xps[j]? = some y := ⟨_, List.getElem?_eq_getElem (by have := HM.out; omega)⟩
          obtain ⟨b2, o2, ha, hr, hb⟩ := (OX.out.1).at j y hy
          have OY := hidIt ((OX.out.1.1 y (List.mem_of_getElem? hy)))
          have JT := hidIt hlt
          have TS := hidIt (take_snoc hy (allP (ls.take n)))
          have JR := hidIt (k_ar j m hlt (by have := NX.out; omega))
          have JK := hidIt (meas_k m j _ rfl hlt)
          have q1 := key_cell hr
          simp only at ha
          subst ha
          clear hb hy hlt hj hr
          obtain ⟨i0, j1, i2, i3⟩ := JR.out
          obtain ⟨n0, _, _, _⟩ := AR.out
          cases f with
          | true =>
            have PY : Hid (BhK b true y.p.k) := hidIt (.inl rfl)
            cases me with
            | false =>
              have NN : Hid (LsQ (BhK b true) (allP (ls.take n) ++ xps.take (j + 1)) y.k true) := hidIt (by rw [TS.out]; exact hI.out.new PY.out)
              as_aux_lemma =>
                go_wp2_with fail
                go_roundw
                case rel => exact ⟨j + 1, true, JT.out, rfl, rfl, trivial, NN⟩
                case measure => exact JK.out
            | true =>
              obtain ⟨z, rfl, hz⟩ := hI.out.met
              have HZ := hidIt hz
              have CM := hidIt (less_any OY.out.1 (part_ok HL.out MX.out hz.1).1)
              clear hz hI
              by_cases hc : cmpB y.p.k z.p.k < 0
              · have NN : Hid (LsQ (BhK b true) (allP (ls.take n) ++ xps.take (j + 1)) y.k true) := hidIt (by rw [TS.out]; exact HZ.out.less PY.out hc)
                have dc : decide (cmpB y.p.k z.p.k < 0) = true := decide_eq_true hc
                clear hc
                as_aux_lemma =>
                  go_wp2_with (go_at_call 50; refine CM.out.mono ?_; rintro e W2 ⟨rfl, hw⟩; rw [hw, dc]; clear hw)
                  go_roundw
                  case rel => exact ⟨j + 1, true, JT.out, rfl, rfl, trivial, NN⟩
                  case measure => exact JK.out
              · have NN : Hid (LsQ (BhK b true) (allP (ls.take n) ++ xps.take (j + 1)) z.k true) := hidIt (by rw [TS.out]; exact HZ.out.stay hc)
                have dc : decide (cmpB y.p.k z.p.k < 0) = false := decide_eq_false hc
                clear hc
                as_aux_lemma =>
                  go_wp2_with (go_at_call 50; refine CM.out.mono ?_; rintro e W2 ⟨rfl, hw⟩; rw [hw, dc]; clear hw)
                  go_roundw
                  case rel => exact ⟨j + 1, true, JT.out, rfl, rfl, trivial, NN⟩
                  case measure => exact JK.out
          | false =>
            have CB := hidIt (less_any HK.out OY.out.1)
            by_cases hb : cmpB b y.p.k < 0
            · have PY : Hid (BhK b false y.p.k) := hidIt (.inr hb)
              have db : decide (cmpB b y.p.k < 0) = true := decide_eq_true hb
              have t1 : Hid True := trivial
              clear hb
              cases me with
              | false =>
                have NN : Hid (LsQ (BhK b false) (allP (ls.take n) ++ xps.take (j + 1)) y.k true) := hidIt (by rw [TS.out]; exact hI.out.new PY.out)
                as_aux_lemma =>
                  go_wp2_with (go_at_call 50; refine CB.out.mono ?_; rintro e W2 ⟨rfl, hw⟩; rw [hw, db]; clear hw)
                  go_roundw
                  case rel => exact ⟨j + 1, true, JT.out, rfl, rfl, trivial, NN⟩
                  case measure => exact JK.out
              | true =>
                obtain ⟨z, rfl, hz⟩ := hI.out.met
                have HZ := hidIt hz
                have CM := hidIt (less_any OY.out.1 (part_ok HL.out MX.out hz.1).1)
                clear hz hI
                by_cases hc : cmpB y.p.k z.p.k < 0
                · have NN : Hid (LsQ (BhK b false) (allP (ls.take n) ++ xps.take (j + 1)) y.k true) := hidIt (by rw [TS.out]; exact HZ.out.less PY.out hc)
                  have dc : decide (cmpB y.p.k z.p.k < 0) = true := decide_eq_true hc
                  clear hc
                  as_aux_lemma =>
                    go_wp2_with (first
                      | (go_at_call 50; have _q := t1; clear t1 _q; refine CB.out.mono ?_; rintro e W2 ⟨rfl, hw⟩; rw [hw, db]; clear hw)
                      | (go_at_call 50; refine CM.out.mono ?_; rintro e W2 ⟨rfl, hw⟩; rw [hw, dc]; clear hw))
                    go_roundw
                    case rel => exact ⟨j + 1, true, JT.out, rfl, rfl, trivial, NN⟩
                    case measure => exact JK.out
                · have NN : Hid (LsQ (BhK b false) (allP (ls.take n) ++ xps.take (j + 1)) z.k true) := hidIt (by rw [TS.out]; exact HZ.out.stay hc)
                  have dc : decide (cmpB y.p.k z.p.k < 0) = false := decide_eq_false hc
                  clear hc
                  as_aux_lemma =>
                    go_wp2_with (first
                      | (go_at_call 50; have _q := t1; clear t1 _q; refine CB.out.mono ?_; rintro e W2 ⟨rfl, hw⟩; rw [hw, db]; clear hw)
                      | (go_at_call 50; refine CM.out.mono ?_; rintro e W2 ⟨rfl, hw⟩; rw [hw, dc]; clear hw))
                    go_roundw
                    case rel => exact ⟨j + 1, true, JT.out, rfl, rfl, trivial, NN⟩
                    case measure => exact JK.out
            · have NN : Hid (LsQ (BhK b false) (allP (ls.take n) ++ xps.take (j + 1)) u8 me) := hidIt (by rw [TS.out]; exact hI.out.skip (fun q => by rcases q with q | q; cases q; exact hb q))
              have db : decide (cmpB b y.p.k < 0) = false := decide_eq_false hb
              clear hb hI
              as_aux_lemma =>
                go_wp2_with (go_at_call 50; refine CB.out.mono ?_; rintro e W2 ⟨rfl, hw⟩; rw [hw, db]; clear hw)
                go_roundw
                case rel => exact ⟨j + 1, me, JT.out, rfl, rfl, trivial, NN⟩
                case measure => exact JK.out
        · obtain rfl : j = m := by omega
          have i0 : ((j : Int) < (j : Int)) = False := eq_false (by omega)
          have NN : Hid (LsQ (BhK b f) (allP (ls.take (n + 1))) u8 me) := hidIt (by have := hI.out; rw [List.take_of_length_le (l := xps) (by have := HM.out; omega)] at this; rw [AX.out]; exact this)
          obtain ⟨n0, _, i2, i3⟩ := AR.out
          clear hj hlt hI
          as_aux_lemma =>
            go_wp2_with fail
            go_roundw
            case rel => exact ⟨n + 1, me, LT.out, rfl, rfl, trivial, NN⟩
            case measure => exact MK.out
    · obtain rfl : n = L := by omega
      have i0 : ((n : Int) < (n : Int)) = False := eq_false (by omega)
      have FN : Hid (LsQ (BhK b f) (allP ls) u8 met) := hidIt (by have := hI.out; rw [List.take_of_length_le (by have := HN.out.1; omega)] at this; exact this)
      clear hn hlt hI
      go_wp2_with fail
      exact bodyPost_ret (v := .tuple #[u8, .bool met]) (by simp [results, Try.results36, go_sem]) rfl ⟨_, _, rfl, FN.out, rfl⟩
end Go.Proofs.Ytgpafmgncolnmaa
