/-
  Walks, not a claim by itself: may lists be merged? By the verifier.
-/
import Derived.Test.YtgpafmgncolnmaaMgCl
namespace Go.Proofs.Ytgpafmgncolnmaa
open Go.RowKit
/-- How many pairs lists have. -/
def tot (ls : List LV) : Nat := (ls.map fun x => x.ps.length).sum
theorem tot_succ {ls : List LV} {k : Nat} {x : LV} (h : ls[k]? = some x) : tot (ls.take (k + 1)) = tot (ls.take k) + x.ps.length := by
  obtain ⟨hk, rfl⟩ := List.getElem?_eq_some_iff.1 h
  unfold tot
  rw [List.take_succ_eq_append_getElem hk, List.map_append, List.sum_append]
  simp
theorem tot_le {ls : List LV} {B : Nat} (hs : ∀ x ∈ ls, x.ps.length ≤ B) : ∀ k, tot (ls.take k) ≤ k * B
  | 0 => by simp [tot]
  | k + 1 => by
    have ih := tot_le hs k
    rw [Nat.succ_mul]
    by_cases h : k < ls.length
    · have e := tot_succ (List.getElem?_eq_getElem h)
      have := hs _ (List.getElem_mem h)
      omega
    · rw [List.take_of_length_le (by omega)] at ih ⊢
      omega
open Classical in
/-- What check answers. -/
noncomputable def chkC (ls : List LV) : Int := if 32 < ls.length ∨ 4096 < tot ls then 3 else if ∀ x ∈ ls, Chn (x.ps.map PV.p) then 0 else 2
theorem chk_long {ls : List LV} (h : 32 < ls.length ∨ 4096 < tot ls) : chkC ls = 3 := if_pos h
theorem chk_bad {ls : List LV} (h : ¬ (32 < ls.length ∨ 4096 < tot ls)) {x : LV} (hx : x ∈ ls) (hc : ¬ Chn (x.ps.map PV.p)) : chkC ls = 2 := by
  unfold chkC
  rw [if_neg h, if_neg (fun q => hc (q x hx))]
theorem chk_ok {ls : List LV} (h : ¬ (32 < ls.length ∨ 4096 < tot ls)) (hc : ∀ x ∈ ls, Chn (x.ps.map PV.p)) : chkC ls = 0 := by
  unfold chkC
  rw [if_neg h, if_pos hc]
theorem ck_ar (a b u : Nat) (h : a ≤ 20000000) (hb : b ≤ 10000) (hu : u = a + b) : IntKind.i64.wrap ((a : Int) + (b : Int)) = (u : Int) ∧ wrap64 ((a : Int) + (b : Int)) = (u : Int) :=
  ⟨by rw [IntKind.wrap_i64]; omega, by unfold wrap64; omega⟩
set_option maxRecDepth 100000 in
set_option maxHeartbeats 2000000 in
theorem check_any {W : World} {A : Option Addr} {ls : List LV} (L C : Nat) (hL : ls.length = L) (h : Lsts W A ls) (hf : L ≤ 1000) (hs : ∀ x ∈ ls, x.ps.length ≤ 10000) : Calls Try.prog 32 #[.slice A L C] W fun e w' => e = .returned (.int .i64 (chkC ls)) ∧ Below W.heap.size W w' := by
  have HL := hidIt h
  have HN := hidIt (And.intro hL (And.intro hf hs))
  by_cases h1 : 32 < L
  · have CC := hidIt (chk_long (ls := ls) (.inl (by omega)))
    have e1 : (32 < (L : Int)) = True := eq_true (by omega)
    have e1' : (32 < L) = True := eq_true h1
    clear h hf hs HN hL h1
    go_enter Try.func32, Try.ntmps32
    go_wp2
    go_ret
    exact ⟨by rw [CC.out]; rfl, Below.refl _ _⟩
  · have e1 : (32 < (L : Int)) = False := eq_false (by omega)
    have e1' : (32 < L) = False := eq_false h1
    have H1 := hidIt h1
    clear h hf hs hL h1
    go_enter Try.func32, Try.ntmps32
    go_wp2
    clear e1 e1'
    go_loopw [3, 13] (fun s i wr => ∃ k : Nat, k ≤ L ∧ i = .int .i64 (k : Int) ∧ s = .int .i64 ((tot (ls.take k) : Nat) : Int) ∧ wr = W) (fun _ i _ => L - (RowKit.intOf i).toNat)
    case atStart => exact ⟨0, Nat.zero_le _, rfl, rfl, rfl⟩
    case round =>
      obtain ⟨k, hk, rfl, rfl, rfl⟩ := hrel
      by_cases hlt : k < L
      · obtain ⟨x, hx⟩ : ∃ x, ls[k]? = some x := ⟨_, List.getElem?_eq_getElem (by have := HN.out.1; omega)⟩
        obtain ⟨b, o, ha, hc, hb⟩ := HL.out.at k x hx
        subst ha
        have LT := hidIt hlt
        have AR := hidIt (k_ar k L hlt (by have := HN.out.2.1; omega))
        have MK := hidIt (meas_k L k _ rfl hlt)
        have TT := tot_succ hx
        obtain ⟨u, hu⟩ : ∃ u, u = tot (ls.take k) + x.ps.length := ⟨_, rfl⟩
        rw [← hu] at TT
        have AC := hidIt (ck_ar (tot (ls.take k)) x.ps.length u (by have := tot_le HN.out.2.2 k; have := HN.out.2.1; omega) (HN.out.2.2 x (List.mem_of_getElem? hx)) hu)
        clear hu
        unfold LV.v at hc
        generalize x.ps.length = m at *
        generalize tot (ls.take k) = t at *
        clear hb hx hlt hk
        obtain ⟨i0, i1, i2, i3⟩ := AR.out
        obtain ⟨c1, c2⟩ := AC.out
        have TH := hidIt TT
        clear TT
        as_aux_lemma =>
          go_wp2_with fail
          go_roundw
          case rel => exact ⟨k + 1, LT.out, rfl, by rw [TH.out], trivial⟩
          case measure => exact MK.out
      · obtain rfl : k = L := by omega
        have i0 : ((k : Int) < (k : Int)) = False := eq_false (by omega)
        have TE : Hid (tot (ls.take k) = tot ls) := hidIt (by rw [List.take_of_length_le (by have := HN.out.1; omega)])
        rw [TE.out]
        by_cases h2 : 4096 < tot ls
        · have CC := hidIt (chk_long (ls := ls) (.inr h2))
          have e2 : (4096 < ((tot ls : Nat) : Int)) = True := eq_true (by omega)
          have e2' : (4096 < tot ls) = True := eq_true h2
          clear hk hlt h2
          generalize tot ls = t at *
          as_aux_lemma =>
            go_wp2_with fail
            go_ret
            exact ⟨by rw [CC.out]; rfl, Below.refl _ _⟩
        · have e2 : (4096 < ((tot ls : Nat) : Int)) = False := eq_false (by omega)
          have e2' : (4096 < tot ls) = False := eq_false h2
          have NO : Hid (¬ (32 < ls.length ∨ 4096 < tot ls)) := hidIt (by have := H1.out; have := HN.out.1; omega)
          clear hk hlt h2 TE
          obtain ⟨t, ht⟩ : ∃ t, t = tot ls := ⟨_, rfl⟩
          rw [← ht] at e2 e2' ⊢
          clear ht
          go_wp2
          clear e2 e2'
          go_loopw [26] (fun i w5 => ∃ j : Nat, j ≤ k ∧ i = .int .i64 (j : Int) ∧ Below wr.heap.size wr w5 ∧ ∀ t x, t < j → ls[t]? = some x → Chn (x.ps.map PV.p)) (fun i _ => k - (RowKit.intOf i).toNat)
          case atStart => exact ⟨0, Nat.zero_le _, rfl, Below.refl _ _, fun t x h => by omega⟩
          case round =>
            obtain ⟨j, hj, rfl, hB, hC⟩ := hrel
            have HB := hidIt hB
            have HC := hidIt hC
            by_cases hlt : j < k
            · obtain ⟨x, hx⟩ : ∃ x, ls[j]? = some x := ⟨_, List.getElem?_eq_getElem (by have := HN.out.1; omega)⟩
              obtain ⟨b, o, ha, hc, hb⟩ := (HL.out.below hB).at j x hx
              subst ha
              have LT := hidIt hlt
              have HX := hidIt hx
              have AR := hidIt (k_ar j k hlt (by have := HN.out.2.1; omega))
              have MK := hidIt (meas_k k j _ rfl hlt)
              have KS := hidIt (tsorted_any x.ps.length x.c rfl ((HL.out.below hB).1 x (List.mem_of_getElem? hx)).1 (by have := HN.out.2.2 x (List.mem_of_getElem? hx); omega))
              unfold LV.v at hc
              clear hb hx hlt hj hB hC
              obtain ⟨i0, i1, i2, i3⟩ := AR.out
              generalize x.ps.length = m at *
              go_wp2_with (go_at_call 30; refine KS.out.mono ?_; rintro e W5 ⟨bb, rfl, hbb, B5⟩; have BB := hidIt hbb; have E5 := hidIt (HB.out.trans (B5.mono HB.out.size)); clear hbb B5; refine Held.out ?_)
              cases bb with
              | false =>
                have CC := hidIt (chk_bad NO.out (List.mem_of_getElem? HX.out) (fun q => by have := BB.out.2 q; cases this))
                as_aux_lemma =>
                  refine Held.mk ?_
                  go_wp2_with fail
                  go_ret
                  exact ⟨by rw [CC.out]; rfl, E5.out⟩
              | true =>
                have NX : Hid (∀ t y, t < j + 1 → ls[t]? = some y → Chn (y.ps.map PV.p)) := hidIt (fun t y ht hy => by
                  by_cases e : t = j
                  · subst e
                    rw [HX.out] at hy
                    injection hy with hy
                    subst hy
                    exact BB.out.1 rfl
                  · exact HC.out t y (by omega) hy)
                as_aux_lemma =>
                  refine Held.mk ?_
                  go_wp2_with fail
                  go_roundw
                  case rel => exact ⟨j + 1, LT.out, rfl, E5.out, NX.out⟩
                  case measure => exact MK.out
            · obtain rfl : j = k := by omega
              have i0 : ((j : Int) < (j : Int)) = False := eq_false (by omega)
              have CC := hidIt (chk_ok NO.out (fun x hx => by
                obtain ⟨t, ht⟩ := List.getElem?_of_mem hx
                exact hC t x (by have := (List.getElem?_eq_some_iff.1 ht).1; have := HN.out.1; omega) ht))
              clear hj hlt hB hC
              as_aux_lemma =>
                go_wp2_with fail
                go_ret
                exact ⟨by rw [CC.out]; rfl, HB.out⟩
end Go.Proofs.Ytgpafmgncolnmaa
