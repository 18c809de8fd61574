/-
  Walks, not a claim by itself: the law of the parts. By the verifier.
-/
import Derived.Test.YtnocjhefkkfanaaMgTx
namespace Go.Proofs.Ytnocjhefkkfanaa
open Go.RowKit
attribute [-go_sem] Builtin.append_
/-! Plain facts: how long the parts are. -/
theorem cut_lt {l : List Pr} {m k : Nat} (hm : 1 ≤ m) (h : k < (cutD l m).length) : k * m < l.length := by
  have e : (cutD l m).length = ckN l.length m := by unfold cutD; simp
  rw [e] at h
  exact (ck_lt hm).1 h
theorem cut_get {l : List Pr} {m k : Nat} {y : List Pr} (h : (cutD l m)[k]? = some y) : y = (l.drop (k * m)).take m ∧ k < (cutD l m).length := by
  have hk := (List.getElem?_eq_some_iff.1 h).1
  refine ⟨?_, hk⟩
  have e : (cutD l m).length = ckN l.length m := by unfold cutD; simp
  unfold cutD at h
  rw [List.getElem?_map, List.getElem?_range (by rw [e] at hk; exact hk)] at h
  simpa using h.symm
theorem cut_len {l : List Pr} {m k : Nat} {y : List Pr} (hm : 1 ≤ m) (h : (cutD l m)[k]? = some y) : 1 ≤ y.length ∧ y.length ≤ m ∧ (k + 1 < (cutD l m).length → y.length = m) := by
  obtain ⟨rfl, hk⟩ := cut_get h
  have a := cut_lt hm hk
  rw [List.length_take, List.length_drop]
  refine ⟨by omega, by omega, fun q => ?_⟩
  have b := cut_lt hm q
  rw [Nat.succ_mul] at b
  omega
theorem cut_more {l : List Pr} {m k : Nat} {y : List Pr} (h : (cutD l m)[k]? = some y) : l.take ((k + 1) * m) = l.take (k * m) ++ y := by
  obtain ⟨rfl, _⟩ := cut_get h
  rw [Nat.succ_mul, List.take_add]
theorem cut_all {l : List Pr} {m : Nat} (hm : 1 ≤ m) : l.take ((cutD l m).length * m) = l := by
  refine List.take_of_length_le ?_
  have e : (cutD l m).length = ckN l.length m := by unfold cutD; simp
  rcases Nat.lt_or_ge (ckN l.length m * m) l.length with q | q
  · have := (ck_lt (N := l.length) (k := ckN l.length m) hm).2 q
    omega
  · rw [e]; exact q
/-- append of pairs, of none, too. -/
theorem app_prs (ty : TypeId) (W : World) (v : Value) (ps qs : List PV) (a : Option Addr) (C : Nat) (ho : OwnP W 0 v ps) (hq : Lst W a qs) (hm : ps.length + qs.length ≤ 100000) :
    ∃ v' W', (Builtin.append_ #[27, 27] ty #[v, .slice a qs.length C]).run Try.prog W = .ok v' W' ∧ Insd W v (ps ++ qs) v' W' := by
  by_cases h0 : qs = []
  · subst h0
    obtain ⟨i0, hi, hz0, hz1, hz2⟩ := info_parts info_pair
    refine ⟨v, W, ?_, ⟨by rw [List.append_nil]; exact ho, Off.refl _ _, fun _ h => .inl h⟩⟩
    rcases ho.form with ⟨rfl, rfl⟩ | ⟨g, cap, rfl, _, hc, _⟩
    · cases a <;> simp [Builtin.append_, run_underlying under_pairs, sizeOf, typeInfo, hi, Builtin.lenOf, Builtin.firstCells, loadCells, loadCellsFrom]
    · cases a <;> simp [Builtin.append_, run_underlying under_pairs, sizeOf, typeInfo, hi, Builtin.lenOf, Builtin.firstCells, loadCells, loadCellsFrom, hc, storeCells]
  · obtain ⟨b, off, rfl, hr, _⟩ := hq.2 h0
    exact app_pairs ty W v ps qs ⟨b, off, none⟩ C ho (fun j u hj => by rw [Addr.add_mid]; exact hr j u hj) (pcs_one hq.1) (by cases qs with | nil => exact absurd rfl h0 | cons x r => simp) hm
/-- What holds at the head of the loop. -/
structure PtI (W1 : World) (l : List Pr) (m k : Nat) (wr : World) (v : Value) (qs : List PV) : Prop where
  own : OwnP wr 0 v qs
  new : ∀ g, v.ownBlock = some g → W1.heap.size ≤ g
  oks : ∀ x ∈ qs, PVOk W1 [] x
  map : qs.map PV.p = l.take (k * m)
  below : Below W1.heap.size W1 wr
theorem PtI.step {W1 wr W' : World} {l : List Pr} {m k : Nat} {v v' : Value} {qs : List PV} {x : LV} (h : PtI W1 l m k wr v qs) (hI : Insd wr v (qs ++ x.ps) v' W') (hx : ∀ y ∈ x.ps, PVOk W1 [] y) (hc : (cutD l m)[k]? = some (x.ps.map PV.p)) : PtI W1 l m (k + 1) W' v' (qs ++ x.ps) := by
  refine ⟨hI.own, fun g hg => ?_, fun y hy => ?_, ?_, h.below.trans (hI.off.below (fun b hb => ?_) h.below.size)⟩
  · rcases hI.blk g hg with q | q
    · exact h.new g q
    · exact Nat.le_trans h.below.size q
  · rcases List.mem_append.1 hy with hy | hy
    · exact h.oks y hy
    · exact hx y hy
  · rw [List.map_append, h.map, cut_more hc]
  · cases e : v.ownBlock with
    | none => rw [e] at hb; cases hb
    | some q => rw [e] at hb; simp at hb; subst hb; exact h.new _ e
set_option maxRecDepth 100000 in
set_option maxHeartbeats 4000000 in
theorem mparts_any {W : World} {A : Option Addr} {ps : List PV} (N C : Nat) (z : Int) (hn : ps.length = N) (hL : Lst W A ps) (hC : N ≤ C) : Calls Try.prog 8 #[.slice A N C, .int .i64 z] W fun e w' => e = .returned (.bool true) ∧ Below W.heap.size W w' := by
  have HL := hidIt hL
  have HN := hidIt (And.intro hn hC)
  clear hL hn hC
  go_enter Try.func8, Try.ntmps8
  go_wp2_with (first
    | (go_at_call 5; refine (known_any W).mono ?_; rintro e W1 ⟨rfl, hb⟩; have B1 := hidIt hb; clear hb)
    | (go_at_call 22; refine (large_gen N C 300 300 rfl (by decide) HN.out.1 (HL.out.below B1.out)).mono ?_; rintro e w2 ⟨bb, rfl, hw, hbb⟩; rw [hw]; clear hw w2; have BB := hidIt hbb; clear hbb; refine Held.out ?_))
  cases bb with
  | true =>
    refine Held.mk ?_
    go_wp2_with fail
    exact bodyPost_ret (v := .bool true) (by simp [results, Try.results8, go_sem]) rfl ⟨rfl, B1.out⟩
  | false =>
    obtain ⟨n300, hsm⟩ := BB.out rfl
    have SM : Hid (∀ x ∈ ps, x.p.k.size ≤ 1000000 ∧ x.p.v.size ≤ 1000000) := hidIt (fun x hx => by have := hsm x hx; unfold Sm at this; omega)
    have L3 := hidIt (show N ≤ 300 by have := HN.out.1; omega)
    clear n300 hsm BB
    by_cases hz : 1 ≤ z ∧ z ≤ 64
    · obtain ⟨m, rfl⟩ : ∃ m : Nat, z = (m : Int) := ⟨z.toNat, by omega⟩
      have M1 := hidIt (show 1 ≤ m ∧ m ≤ 64 by omega)
      clear hz
      refine Held.mk ?_
      go_wp2_with (go_at_call 24; refine (cut_lsts N C m HN.out.1 (HL.out.below B1.out) (by have := L3.out; omega) HN.out.2 SM.out M1.out.1 M1.out.2).mono ?_; rintro e W2 ⟨oa, oc, os, rfl, hl, hp, hb⟩; have S2 := hidIt hl; have P2 := hidIt hp; have B2 := hidIt (B1.out.trans (hb.mono B1.out.size)); have HL2 := hidIt ((HL.out.below B1.out).below hb); obtain ⟨on, hon⟩ : ∃ on, os.length = on := ⟨_, rfl⟩; rw [hon]; have ON := hidIt hon; clear hl hp hb hon)
      have CL : Hid ((cutD (ps.map PV.p) m).length = on) := hidIt (by rw [← P2.out, ← ON.out]; simp [prs])
      have ONS : Hid (on ≤ 300) := hidIt (by
        rcases Nat.eq_zero_or_pos on with q | q
        · omega
        · have a := cut_lt (l := ps.map PV.p) (k := on - 1) M1.out.1 (by have := CL.out; omega)
          rw [List.length_map] at a
          have b := Nat.le_mul_of_pos_right (on - 1) (show 0 < m by have := M1.out.1; omega)
          have c := L3.out
          have d := HN.out.1
          omega)
      have st : Hid (PtI W2 (ps.map PV.p) m 0 W2 (.slice none 0 0) []) := hidIt ⟨OwnP.nil _ _, fun g hg => (by cases hg), fun x hx => (by cases hx), by simp, Below.refl _ _⟩
      go_loopw [8, 9, 10] (fun lv i _ wr => ∃ (k : Nat) (qs : List PV), k ≤ on ∧ i = .int .i64 (k : Int) ∧ Hid (PtI W2 (ps.map PV.p) m k wr lv qs)) (fun _ i _ _ => on - (RowKit.intOf i).toNat)
      case atStart => exact ⟨0, _, Nat.zero_le _, rfl, st⟩
      case round =>
        clear st
        obtain ⟨k, qs, hk, rfl, hI⟩ := hrel
        by_cases hlt : k < on
        · obtain ⟨x, hx⟩ : ∃ x, os[k]? = some x := ⟨_, List.getElem?_eq_getElem (by have := ON.out; omega)⟩
          obtain ⟨b, o, ha, hc, hb⟩ := (S2.out.below hI.out.below).at k x hx
          subst ha
          have lx : LOk W2 x := S2.out.1 x (List.mem_of_getElem? hx)
          have hcd : (cutD (ps.map PV.p) m)[k]? = some (x.ps.map PV.p) := by rw [← P2.out]; unfold prs; rw [List.getElem?_map, hx]; rfl
          have cl := cut_len M1.out.1 hcd
          rw [CL.out, List.length_map] at cl
          have ql : qs.length ≤ 300 := by
            have e := congrArg List.length hI.out.map
            rw [List.length_map, List.length_take, List.length_map] at e
            have := L3.out
            have := HN.out.1
            omega
          obtain ⟨v6, W6, hr6, I6⟩ := app_prs 27 wr u8 qs x.ps x.a x.c hI.out.own (lx.1.below hI.out.below) (by have := M1.out.2; omega)
          have NX : Hid (PtI W2 (ps.map PV.p) m (k + 1) W6 v6 (qs ++ x.ps)) := hidIt (hI.out.step I6 lx.1.1 hcd)
          have LT := hidIt hlt
          obtain ⟨i0, i1, i2, i3⟩ := k_ar k on hlt (by have := ONS.out; omega)
          unfold LV.v at hc
          obtain ⟨yn, hyn⟩ : ∃ yn, yn = x.ps.length := ⟨_, rfl⟩
          rw [← hyn] at hr6 hc cl
          have c1 : ((yn : Int) < 1) = False := eq_false (by omega)
          have c1' : (yn < 1) = False := eq_false (by omega)
          have c1'' : (yn = 0) = False := eq_false (by omega)
          have c2 : ((m : Int) < (yn : Int)) = False := eq_false (by omega)
          have c2' : (m < yn) = False := eq_false (by omega)
          by_cases hl : k + 1 < on
          · have c3 : ((k : Int) + 1 < (on : Int)) = True := eq_true (by omega)
            have c3' : (k + 1 < on) = True := eq_true hl
            have c4 : ((yn : Int) < (m : Int)) = False := eq_false (by have := cl.2.2 hl; omega)
            have c4' : (yn < m) = False := eq_false (by have := cl.2.2 hl; omega)
            clear hl hb hx hlt hk cl hyn ql I6 lx hcd
            go_wp2_with (at_builtin; refine wpList_append_go rfl (.tmp 62) (.tmp 66) 27 27 rfl _ _ rfl rfl hr6 ?_)
            exact ⟨⟨k + 1, _, LT.out, rfl, NX⟩, meas_k on k _ rfl LT.out⟩
          · have c3 : ((k : Int) + 1 < (on : Int)) = False := eq_false (by omega)
            have c3' : (k + 1 < on) = False := eq_false hl
            clear hl hb hx hlt hk cl hyn ql I6 lx hcd
            go_wp2_with (at_builtin; refine wpList_append_go rfl (.tmp 62) (.tmp 66) 27 27 rfl _ _ rfl rfl hr6 ?_)
            exact ⟨⟨k + 1, _, LT.out, rfl, NX⟩, meas_k on k _ rfl LT.out⟩
        · obtain rfl : k = on := by omega
          have i0 : ((k : Int) < (k : Int)) = False := eq_false (by omega)
          obtain ⟨ua, uc, hu, _⟩ := hI.out.own.slice
          have QL : Hid (Lst wr ua qs) := hidIt (OwnP.lst (a := ua) (n := qs.length) (cap := uc) (hu ▸ hI.out.own) (fun x hx => (hI.out.oks x hx).below hI.out.below))
          have QM : Hid (qs.map PV.p = ps.map PV.p) := hidIt (by rw [hI.out.map, ← CL.out, cut_all M1.out.1])
          have QB : Hid (Below W.heap.size W wr) := hidIt (B2.out.trans (hI.out.below.mono B2.out.size))
          have HLw := hidIt (HL2.out.below hI.out.below)
          have q3 : qs.length ≤ 300 := by
            have e := congrArg List.length QM.out
            rw [List.length_map, List.length_map] at e
            have := L3.out
            have := HN.out.1
            omega
          have Q3 := hidIt q3
          clear hlt hk q3 hI
          subst hu
          obtain ⟨qn, hqn⟩ : ∃ qn, qs.length = qn := ⟨_, rfl⟩
          rw [hqn]
          have QN := hidIt hqn
          clear hqn
          go_wp2_with (go_at_call 16; refine (samePairs_any qn N uc C QN.out HN.out.1 QL.out HLw.out (by have := QN.out; have := Q3.out; omega)).mono ?_; rintro e W8 ⟨h1, hb⟩; have h2 : e = .returned (.bool true) := (by rw [h1, QM.out]; simp); subst h2; clear h1; have B8 := hidIt (QB.out.trans (hb.mono QB.out.size)); clear hb)
          exact bodyPost_ret (v := .bool true) (by simp [results, Try.results8, go_sem]) rfl ⟨rfl, B8.out⟩
    · refine Held.mk ?_
      go_wp2_with (go_at_call 24; refine (cut_bad N C z hz).mono ?_; rintro e W2 ⟨rfl, hb⟩; have B2 := hidIt (B1.out.trans (hb.mono B1.out.size)); clear hb; refine Held.out ?_)
      by_cases h1 : z < 1
      · have c1 : (z < 1) = True := eq_true h1
        clear hz h1
        refine Held.mk ?_
        go_wp2_with fail
        exact bodyPost_ret (v := .bool true) (by simp [results, Try.results8, go_sem]) rfl ⟨rfl, B2.out⟩
      · have c1 : (z < 1) = False := eq_false h1
        have c2 : (64 < z) = True := eq_true (by omega)
        clear hz h1
        refine Held.mk ?_
        go_wp2_with fail
        exact bodyPost_ret (v := .bool true) (by simp [results, Try.results8, go_sem]) rfl ⟨rfl, B2.out⟩
end Go.Proofs.Ytnocjhefkkfanaa
