/-
  Walks, not a claim by itself: MemtableNone's function. By the verifier.
-/
import Derived.Test.YtkjncabjmfekjaaMtAw2
namespace Go.Proofs.Ytkjncabjmfekjaa
open Go.RowKit
/-- A pair of nothing. -/
def pv0 : PV := ⟨.slice none 0 0, .slice none 0 0, ⟨.empty, .empty, false⟩⟩
theorem pv0_ok (W : World) : PVOk W [] pv0 := ⟨Txt.nil W [] 0, Txt.nil W [] 0⟩
set_option maxRecDepth 100000 in
set_option maxHeartbeats 4000000 in
theorem none_any (a : Option Addr) (n C : Nat) (f : Nat → Int) (W : World) (h : Arg W a n f) : Calls Try.prog 5 #[.slice a n C] W fun e w' => e = .returned (.bool true) ∧ Below W.heap.size W w' := by
  have HK : Hid (Txt W [] (.slice a n C) (txtN n f)) := hidIt (Txt.of h)
  clear h
  by_cases hn : 300 < (n : Int)
  · have e1 : (300 < (n : Int)) = True := eq_true hn
    clear hn
    go_enter Try.func5, Try.ntmps5
    go_wp2_with (go_at_call 10; refine (awake_any W).mono ?_; rintro e w1 ⟨rfl, hb⟩; have E1 := hidIt hb; clear hb)
    go_ret
    exact ⟨rfl, E1.out⟩
  · have e1 : (300 < (n : Int)) = False := eq_false hn
    clear hn
    go_enter Try.func5, Try.ntmps5
    go_wp2_with fail
    obtain ⟨W2, hW2⟩ : ∃ W2, W2 = (W.alloc (.cells #[.pointer none, .slice none 0 0] 50)).alloc (.cells #[.pointer none, .pointer (some ⟨W.heap.size, 0, none⟩)] 24) := ⟨_, rfl⟩
    have E2 : Below W.heap.size W W2 := by rw [hW2]; exact ((Below.refl _ _).alloc (Nat.le_refl _) _).alloc (by simp) _
    have c0 : W2.cell? ⟨W.heap.size + 1, 0, none⟩ = some (.pointer none) := by rw [hW2]; simp [go_sem]
    have c1 : W2.cell? ⟨W.heap.size + 1, 1, none⟩ = some (.pointer (some ⟨W.heap.size, 0, none⟩)) := by rw [hW2]; simp [go_sem]
    have c2 : W2.cell? ⟨W.heap.size, 0, none⟩ = some (.pointer none) := by rw [hW2]; simp [go_sem]
    have z2 : W2.heap.size = W.heap.size + 2 := by rw [hW2]; simp
    rw [← hW2]
    clear hW2
    have AL : Hid (∀ k, k < 2 → ∃ pv, ∀ U, Below W2.heap.size W2 U → U.cell? ⟨W.heap.size + 1, k, none⟩ = some pv ∧ NoT U pv ∧ pv.oneCell' = true) := hidIt (fun k hk => by
      match k, hk with
      | 0, _ => exact ⟨.pointer none, fun U hU => ⟨(hU.cell (p := ⟨W.heap.size + 1, 0, none⟩) (by show W.heap.size + 1 < _; omega)).trans c0, .inl rfl, rfl⟩⟩
      | 1, _ => exact ⟨.pointer (some ⟨W.heap.size, 0, none⟩), fun U hU => ⟨(hU.cell (p := ⟨W.heap.size + 1, 1, none⟩) (by show W.heap.size + 1 < _; omega)).trans c1, .inr ⟨W.heap.size, rfl, (hU.cell (p := ⟨W.heap.size, 0, none⟩) (by show W.heap.size < _; omega)).trans c2, by have := hU.size; omega⟩, rfl⟩⟩)
    have EE := hidIt E2
    clear c0 c1 c2 E2 z2
    go_loopw [4] (fun i wr => ∃ k : Nat, k ≤ 2 ∧ i = .int .i64 (k : Int) ∧ Hid (Below W2.heap.size W2 wr)) (fun i _ => 2 - (RowKit.intOf i).toNat)
    case atStart => exact ⟨0, by omega, rfl, hidIt (Below.refl _ _)⟩
    case round =>
      obtain ⟨k, hk, rfl, hB⟩ := hrel
      by_cases hlt : k < 2
      · obtain ⟨pv, hpv⟩ := AL.out k hlt
        have PQ := hidIt hpv
        obtain ⟨i0, i1, i2, i3⟩ := k_ar k 2 hlt (by omega)
        have LT := hidIt hlt
        have d0 := (PQ.out wr hB.out).1
        clear hpv hlt hk
        go_wp2_with (first
          | (go_at_call 22; refine (no_get (PQ.out wr hB.out).2.1).mono ?_; rintro e X1 ⟨rfl, hb⟩; have F1 := hidIt (hB.out.trans (hb.mono hB.out.size)); clear hb d0)
          | (refine wpList_alloc_rec rfl 47 rfl _ X1.heap.size rfl pair_zero ?_; intro X2 R2 B2 y2; have P2 := hidIt R2; have F2 := hidIt (F1.out.trans (B2.mono F1.out.size)); clear R2 B2 y2)
          | (refine wpList_store_rec rfl 47 (.tmp 5) (.tmp 27) rfl X1.heap.size 0 _ pv0.cs rfl rfl P2.out rfl pair_size (pv0_ok X1).one ?_; intro X3 R3 B3; have F3 := hidIt (F2.out.trans (B3.below F1.out.size F2.out.size)); have m0 := (R3.cel 0 (.slice none 0 0) rfl).1; have m1 := (R3.cel 1 (.slice none 0 0) rfl).1; have m2 := (R3.cel 2 (.bool false) rfl).1; clear R3 B3)
          | (go_at_call 23; refine (samePair_any (pv0_ok X3) (pv0_ok X3)).mono ?_; rintro e X4 ⟨rfl, hb⟩; rw [decide_eq_true rfl]; have F4 := hidIt (F3.out.trans (hb.mono F3.out.size)); have d4 := (PQ.out X4 F4.out).1; clear hb m0 m1 m2)
          | (go_at_call 24; refine (no_put (PQ.out X4 F4.out).2.1 (HK.out.below (EE.out.trans (F4.out.mono EE.out.size))) (Txt.nil X4 [] 0)).mono ?_; rintro e X5 ⟨rfl, hb⟩; have F5 := hidIt (F4.out.trans (hb.mono F4.out.size)); have d5 := (PQ.out X5 F5.out).1; clear hb d4)
          | (go_at_call 25; refine (no_remove (PQ.out X5 F5.out).2.1 (HK.out.below (EE.out.trans (F5.out.mono EE.out.size)))).mono ?_; rintro e X6 ⟨rfl, hb⟩; have F6 := hidIt (F5.out.trans (hb.mono F5.out.size)); have d6 := (PQ.out X6 F6.out).1; clear hb d5)
          | (go_at_call 11; refine (no_all (PQ.out X6 F6.out).2.1).mono ?_; rintro e X7 ⟨rfl, hw⟩; rw [hw]; clear hw)
          | (go_at_call 26; refine (no_between (PQ.out X6 F6.out).2.1).mono ?_; rintro e X8 ⟨rfl, hw⟩; rw [hw]; clear hw)
          | (go_at_call 15; refine (no_size (PQ.out X6 F6.out).2.1).mono ?_; rintro e X9 ⟨rfl, hw⟩; rw [hw]; clear hw)
          | (go_at_call 27; refine (no_clone (PQ.out X6 F6.out).2.1).mono ?_; rintro e X10 ⟨rfl, hw⟩; rw [hw]; clear hw))
        exact ⟨⟨k + 1, LT.out, rfl, F6⟩, meas_k 2 k _ rfl LT.out⟩
      · obtain rfl : k = 2 := by omega
        clear hlt hk
        go_wp2_with (go_at_call 10; refine (awake_any wr).mono ?_; rintro e w1 ⟨rfl, hb⟩; have E3 := hidIt (EE.out.trans ((hB.out.trans (hb.mono hB.out.size)).mono EE.out.size)); clear hb)
        exact bodyPost_ret (v := .bool true) (by simp [results, Try.results5, go_sem]) rfl ⟨rfl, E3.out⟩
end Go.Proofs.Ytkjncabjmfekjaa
