/-
  Walks, not a claim by itself: the kit's ApartBytes, walked. By the verifier.
-/
import Derived.Test.YtmlllglgjpmicaaBApart
namespace Go.Proofs.Ytmlllglgjpmicaa
open Go.RowKit
theorem over_ap {w : World} {B lb M wb k i : Nat} {Ls : Nat → Lst} {Fs Gs : Nat → Nat → Int} {wr : World} (h : ApWas w B lb M wb Ls Fs Gs k wr) (hs : ApSep w B lb M Ls) (hi : i < M) :
    Calls Try.prog 32 #[(Ls i).val] wr fun e w' => e = .returned (.tuple #[]) ∧ ApWas w B lb M wb Ls (fun k => if k = i then (fun j => ov (Fs i j)) else Fs k) Gs k w' := by
  obtain ⟨h1, h2, h3, ⟨h4, h5⟩ | ⟨g, h4, h5, h6⟩⟩ := h.inv.ok i hi
  · have e : (Ls i).val = .slice none 0 0 := by unfold Lst.val; rw [h4, h5, show (Ls i).n = 0 by omega]
    rw [e]
    refine (over_nil wr).mono ?_
    rintro e w' ⟨rfl, rfl⟩
    refine ⟨rfl, ⟨h.inv.cells, fun k hk => ?_, h.inv.size, h.inv.below⟩, h.was, h.there, h.free, h.lt, h.ge⟩
    show (Ls k).ok B w' (if k = i then _ else Fs k)
    by_cases e : k = i
    · subst e
      rw [if_pos rfl]
      exact ⟨h1, h2, fun j hj => by omega, .inl ⟨h4, h5⟩⟩
    · rw [if_neg e]; exact h.inv.ok k hk
  · have e : (Ls i).val = .slice (some ⟨g, 0, none⟩) (Ls i).n (Ls i).C := by unfold Lst.val; rw [h4]
    rw [e]
    refine (over_any g (Ls i).n (Ls i).C (Fs i) wr h6 h1 h2).mono ?_
    rintro e w' ⟨rfl, hR, hB⟩
    exact ⟨rfl, h.over hs hi h4 hB hR (fun j hj => ov_byte _ (h3 j hj))⟩
def apRel1 (w : World) (B lb M : Nat) (Ls : Nat → Lst) (Fs : Nat → Nat → Int) (v : Value) (wr : World) : Prop := ∃ i : Nat, i ≤ M ∧ v = .int .i64 i ∧ ApInv w B lb M Ls Fs wr
def apRel2 (w : World) (B lb M wb : Nat) (Ls : Nat → Lst) (Fs : Nat → Nat → Int) (v : Value) (wr : World) : Prop := ∃ k : Nat, k ≤ M ∧ v = .int .i64 k ∧ ApWas w B lb M wb Ls Fs Fs k wr
def apRel3 (w : World) (B lb M wb : Nat) (Ls : Nat → Lst) (Fs Gs : Nat → Nat → Int) (v : Value) (wr : World) : Prop := ∃ k : Nat, k ≤ M ∧ v = .int .i64 k ∧ ApWas w B lb M wb Ls Fs Gs M wr
theorem make_lists (n : Nat) (h : n ≤ 1000) (w : World) : (Instr.makeSlice 37 (.int .i64 (n : Int)) (.int .i64 (n : Int))).run Try.prog w = .ok (.slice (some ⟨w.heap.size, 0, none⟩) n n) (w.alloc (.cells (madeCells #[.slice none 0 0] n) 25)) :=
  run_make_row' 37 25 (.slice none 0 0) 24 Try.underlying37 (by kernel_rfl) rfl .i64 .i64 n (by omega) (by omega) w
theorem made_was {w : World} {B lb M : Nat} {Ls : Nat → Lst} {Fs : Nat → Nat → Int} {wr : World} (h : ApInv w B lb M Ls Fs wr) (hs : ApSep w B lb M Ls) : ApWas w B lb M wr.heap.size Ls Fs Fs 0 (wr.alloc (.cells (madeCells #[.slice none 0 0] M) 25)) := by
  refine ⟨h.next hs ((Below.refl _ _).alloc (Nat.le_refl _) _), fun j hj => by omega, fun j hj => ?_, fun j => by simp [go_sem], by simp, h.size⟩
  rw [World.cell?_alloc_at _ _ _ _ rfl]
  simp [madeCells, hj, Nat.mod_one]
theorem ApWas.argk {w : World} {B lb M wb k g lC : Nat} {Ls : Nat → Lst} {Fs Gs : Nat → Nat → Int} {m : Nat} {wr : World} (h : ApWas w B lb M wb Ls Fs Gs m wr) (hk : k < M) (eg : (Ls k).a = some ⟨g, 0, none⟩) (eC : (Ls k).C = lC) : Arg wr (some ⟨g, 0, none⟩) lC (Fs k) := by
  have := (h.inv.ok k hk).arg
  rwa [eg, eC] at this
theorem ap_byte {w : World} {B lb M k j : Nat} {Ls : Nat → Lst} {Fs : Nat → Nat → Int} {wr : World} (h : ApInv w B lb M Ls Fs wr) (hk : k < M) (hj : j < (Ls k).C) : 0 ≤ Fs k j ∧ Fs k j < 256 := (h.ok k hk).2.2.1 j hj
set_option maxRecDepth 100000 in
set_option maxHeartbeats 2000000 in
theorem apart_any (B lb M CM : Nat) (Ls : Nat → Lst) (Fs : Nat → Nat → Int) (w : World) (h : ApInv w B lb M Ls Fs w) (hs : ApSep w B lb M Ls) (hM : M ≤ 1000) :
    Calls Try.prog 17 #[.slice (some ⟨lb, 0, none⟩) M CM] w fun e w' => e = .returned (.bool true) ∧ Below B w w' := by
  have ST : Hid (apRel1 w B lb M Ls Fs (.int .i64 0) w) := ⟨0, by omega, rfl, h⟩
  have HS : Hid (ApSep w B lb M Ls) := hs
  have FB : Hid (ApInv w B lb M Ls Fs w) := h
  clear h hs
  have hmk := make_lists M hM
  have m0 : (0 : Int) ≤ M := by omega
  go_enter Try.func17, Try.ntmps17
  go_wp2_with fail
  go_loopw [3] (fun v wr => apRel1 w B lb M Ls Fs v wr) (fun v _ => M - (intOf v).toNat)
  case atStart => exact ST.out
  case round =>
    obtain ⟨i, hi, rfl, HI⟩ := hrel
    clear ST
    by_cases hlt : i < M
    · have i0 : (i : Int) < M := by omega
      have W0 : Hid (apRel2 w B lb M wr.heap.size Ls Fs (.int .i64 0) (wr.alloc (.cells (madeCells #[.slice none 0 0] M) 25))) := ⟨0, by omega, rfl, made_was HI HS.out⟩
      clear HI
      go_wp2_with fail
      generalize (wr.alloc (.cells (madeCells #[.slice none 0 0] M) 25)) = W1 at W0 ⊢
      generalize wr.heap.size = wb at W0 ⊢
      go_loopw [5] (fun v wr => apRel2 w B lb M wb Ls Fs v wr) (fun v _ => M - (intOf v).toNat)
      case atStart => exact W0.out
      case round =>
        obtain ⟨k, hk, rfl, HI⟩ := hrel
        clear W0
        by_cases hkt : k < M
        · have k0 : (k : Int) < M := by omega
          have k1 : (0 : Int) ≤ (k : Int) := by omega
          have hc := HI.inv.cells k hkt
          have hw1 := HI.there k hkt
          obtain ⟨u, hu⟩ := Option.isSome_iff_exists.1 hw1
          have hf := HI.free k
          have HH : Hid (ApWas w B lb M wb Ls Fs Fs k wr) := HI
          have hlw : ¬ wb = lb := by have := HI.ge; have := HS.out.1; omega
          rcases (HI.inv.ok k hkt) with ⟨o1, o2, o3, ⟨o4, o5⟩ | ⟨g, eg, o5, o6⟩⟩
          · have hv : (Ls k).val = .slice none 0 0 := by unfold Lst.val; rw [o4, o5, show (Ls k).n = 0 by omega]
            have eC : (Ls k).C = 0 := o5
            rw [hv] at hc
            clear HI hw1 o1 o2 o3 o4 o5
            have SK : ∀ W' W2 : World, (W'.cell? ⟨lb, k, none⟩ = some (.slice none 0 0) ∧ Hid (ApWas w B lb M wb Ls Fs Fs k W')) → Below W'.heap.size W' W2 → (W2.cell? ⟨lb, k, none⟩ = some (.slice none 0 0) ∧ Hid (ApWas w B lb M wb Ls Fs Fs k W2)) := fun W' W2 hS hB => by
              have n := hS.2.out.next HS.out hB
              exact ⟨by rw [← hv]; exact n.inv.cells k hkt, n⟩
            have SKH : Hid (∀ W' W2 : World, (W'.cell? ⟨lb, k, none⟩ = some (.slice none 0 0) ∧ Hid (ApWas w B lb M wb Ls Fs Fs k W')) → Below W'.heap.size W' W2 → (W2.cell? ⟨lb, k, none⟩ = some (.slice none 0 0) ∧ Hid (ApWas w B lb M wb Ls Fs Fs k W2))) := SK
            have SPH : Hid (∀ (W' : World) (v : Value), (W'.cell? ⟨lb, k, none⟩ = some (.slice none 0 0) ∧ Hid (ApWas w B lb M wb Ls Fs Fs k W')) → ((W'.setCell ⟨wb, k, none⟩ v).cell? ⟨lb, k, none⟩ = some (.slice none 0 0) ∧ Hid (ApWas w B lb M wb Ls Fs Fs k (W'.setCell ⟨wb, k, none⟩ v)))) := fun W' v hS => by
              have n := hS.2.out.put (v := v) HS.out hkt
              exact ⟨by rw [← hv]; exact n.inv.cells k hkt, n⟩
            have HV : Hid ((Ls k).val = (.slice none 0 0)) := hv
            clear SK hv
            go_wp2_with fail
            go_region_held3 (fun W' => W'.cell? ⟨lb, k, none⟩ = some (.slice none 0 0) ∧ Hid (ApWas w B lb M wb Ls Fs Fs k W'))
              (first | exact ⟨hc, HH.out.drew HS.out⟩ | exact SKH.out _ _ (by assumption) (by assumption) | exact SPH.out _ _ (by assumption))
              ((go_at_call 23; refine (copy_was none 0 0 (wb + 1) (Fs k) _ (.inl ⟨rfl, .inl rfl⟩) (by omega) (by have := (HH.out.drew HS.out).lt; omega)).mono ?_; rintro e w3 ⟨a3, cap3, rfl, hW3, hB3⟩; have hu3 : ∃ u3, w3.cell? ⟨wb, k, none⟩ = some u3 := Option.isSome_iff_exists.1 (((HH.out.drew HS.out).next HS.out hB3).there k hkt); have hf3 := ((HH.out.drew HS.out).next HS.out hB3).free k; obtain ⟨u3, hu3⟩ := hu3))
            have RN : Hid (apRel2 w B lb M wb Ls Fs (.int .i64 ((k : Int) + 1)) (w3.setCell ⟨wb, k, none⟩ (.slice a3 0 cap3))) := ⟨k + 1, by omega, by go_num, ((HH.out.drew HS.out).next HS.out hB3).step HS.out hkt (by rw [eC]; exact hW3.out)⟩
            clear hu3 hf3 hB3 hW3 hu hf hc
            generalize (w3.setCell ⟨wb, k, none⟩ (.slice a3 0 cap3)) = W9 at RN ⊢
            go_wp2_with fail
            exact ⟨RN.out, by simp [intOf]; omega⟩
          · obtain ⟨ln, en⟩ : ∃ ln, (Ls k).n = ln := ⟨_, rfl⟩
            obtain ⟨lC, eC⟩ : ∃ lC, (Ls k).C = lC := ⟨_, rfl⟩
            have hv : (Ls k).val = .slice (some ⟨g, 0, none⟩) ln lC := by unfold Lst.val; rw [eg, en, eC]
            rw [hv] at hc
            rw [en, eC] at o1
            rw [eC] at o2
            have c0 : (0 : Int) ≤ lC := by omega
            have c1 : (ln : Int) ≤ lC := by omega
            clear HI hw1 o3 o5 o6 en
            have SK : ∀ W' W2 : World, (W'.cell? ⟨lb, k, none⟩ = some (.slice (some ⟨g, 0, none⟩) ln lC) ∧ Hid (ApWas w B lb M wb Ls Fs Fs k W')) → Below W'.heap.size W' W2 → (W2.cell? ⟨lb, k, none⟩ = some (.slice (some ⟨g, 0, none⟩) ln lC) ∧ Hid (ApWas w B lb M wb Ls Fs Fs k W2)) := fun W' W2 hS hB => by
              have n := hS.2.out.next HS.out hB
              exact ⟨by rw [← hv]; exact n.inv.cells k hkt, n⟩
            have SKH : Hid (∀ W' W2 : World, (W'.cell? ⟨lb, k, none⟩ = some (.slice (some ⟨g, 0, none⟩) ln lC) ∧ Hid (ApWas w B lb M wb Ls Fs Fs k W')) → Below W'.heap.size W' W2 → (W2.cell? ⟨lb, k, none⟩ = some (.slice (some ⟨g, 0, none⟩) ln lC) ∧ Hid (ApWas w B lb M wb Ls Fs Fs k W2))) := SK
            have SPH : Hid (∀ (W' : World) (v : Value), (W'.cell? ⟨lb, k, none⟩ = some (.slice (some ⟨g, 0, none⟩) ln lC) ∧ Hid (ApWas w B lb M wb Ls Fs Fs k W')) → ((W'.setCell ⟨wb, k, none⟩ v).cell? ⟨lb, k, none⟩ = some (.slice (some ⟨g, 0, none⟩) ln lC) ∧ Hid (ApWas w B lb M wb Ls Fs Fs k (W'.setCell ⟨wb, k, none⟩ v)))) := fun W' v hS => by
              have n := hS.2.out.put (v := v) HS.out hkt
              exact ⟨by rw [← hv]; exact n.inv.cells k hkt, n⟩
            have HV : Hid ((Ls k).val = (.slice (some ⟨g, 0, none⟩) ln lC)) := hv
            clear SK hv
            go_wp2_with fail
            go_region_held3 (fun W' => W'.cell? ⟨lb, k, none⟩ = some (.slice (some ⟨g, 0, none⟩) ln lC) ∧ Hid (ApWas w B lb M wb Ls Fs Fs k W'))
              (first | exact ⟨hc, HH.out.drew HS.out⟩ | exact SKH.out _ _ (by assumption) (by assumption) | exact SPH.out _ _ (by assumption))
              ((go_at_call 23; refine (copy_was (some ⟨g, 0, none⟩) lC lC (wb + 1) (Fs k) _ ((by assumption : _ ∧ Hid (ApWas w B lb M wb Ls Fs Fs k _)).2.out.argk hkt eg eC) (by omega) (by have := (HH.out.drew HS.out).lt; omega)).mono ?_; rintro e w3 ⟨a3, cap3, rfl, hW3, hB3⟩; have hu3 : ∃ u3, w3.cell? ⟨wb, k, none⟩ = some u3 := Option.isSome_iff_exists.1 (((HH.out.drew HS.out).next HS.out hB3).there k hkt); have hf3 := ((HH.out.drew HS.out).next HS.out hB3).free k; obtain ⟨u3, hu3⟩ := hu3))
            have RN : Hid (apRel2 w B lb M wb Ls Fs (.int .i64 ((k : Int) + 1)) (w3.setCell ⟨wb, k, none⟩ (.slice a3 lC cap3))) := ⟨k + 1, by omega, by go_num, ((HH.out.drew HS.out).next HS.out hB3).step HS.out hkt (by rw [eC]; exact hW3.out)⟩
            clear hu3 hf3 hB3 hW3 hu hf hc
            generalize (w3.setCell ⟨wb, k, none⟩ (.slice a3 lC cap3)) = W9 at RN ⊢
            go_wp2_with fail
            exact ⟨RN.out, by simp [intOf]; omega⟩
        · obtain rfl : k = M := by omega
          have hci := HI.inv.cells i hlt
          have HH : Hid (ApWas w B lb k wb Ls Fs Fs k wr) := HI
          clear HI
          go_wp2_with fail
          refine (over_ap HH.out HS.out hlt).mono ?_
          rintro e w5 ⟨rfl, H5⟩
          clear hci HH
          obtain ⟨Hs, eH⟩ : ∃ Hs : Nat → Nat → Int, (fun k => if k = i then (fun j => ov (Fs i j)) else Fs k) = Hs := ⟨_, rfl⟩
          rw [eH] at H5
          have HE : Hid ((fun k => if k = i then (fun j => ov (Fs i j)) else Fs k) = Hs) := eH
          clear eH
          have W5 : Hid (apRel3 w B lb k wb Ls Hs Fs (.int .i64 0) w5) := ⟨0, by omega, rfl, H5⟩
          clear H5
          go_wp2_with fail
          go_loopw [6] (fun v wr => apRel3 w B lb k wb Ls Hs Fs v wr) (fun v _ => k - (intOf v).toNat)
          case atStart => exact W5.out
          case round =>
            obtain ⟨m, hm, rfl, HI⟩ := hrel
            clear W5
            by_cases hmt : m < k
            · have j0 : (m : Int) < k := by omega
              have j1 : (0 : Int) ≤ (m : Int) := by omega
              by_cases hmi : m = i
              · have hmi' : ((m : Nat) : Int) = (i : Int) := by omega
                have HH : Hid (ApWas w B lb k wb Ls Hs Fs k wr) := HI
                clear HI
                go_wp2_with fail
                go_quiet (fail)
                have HN : Hid (apRel3 w B lb k wb Ls Hs Fs (.int .i64 ((m : Int) + 1)) (wr.drewN nq)) := ⟨m + 1, by omega, by go_num, HH.out.next HS.out (below_drewN (Below.refl _ _) _)⟩
                clear HH
                generalize wr.drewN nq = wq at HN ⊢
                go_wp2_with fail
                rw [← hmi']
                exact ⟨HN.out, by simp [intOf]; omega⟩
              · have hmi' : ¬ ((m : Nat) : Int) = (i : Int) := by omega
                have HM : Hid (Hs m = Fs m) := by rw [← HE.out]; show (if m = i then _ else Fs m) = _; rw [if_neg hmi]
                have hcm := HI.inv.cells m hmt
                obtain ⟨v3, hcw, a3, cap3, rfl, hA3, _⟩ := HI.was m hmt
                have HH : Hid (ApWas w B lb k wb Ls Hs Fs k wr) := HI
                rcases (HI.inv.ok m hmt) with ⟨o1, o2, o3, ⟨o4, o5⟩ | ⟨g, eg, o5, o6⟩⟩
                · have hv : (Ls m).val = .slice none 0 0 := by unfold Lst.val; rw [o4, o5, show (Ls m).n = 0 by omega]
                  rw [hv] at hcm
                  rw [o5] at hcw hA3
                  have A3 : Hid (Arg wr a3 0 (Fs m)) := hA3
                  clear HI hA3 o1 o2 o3 o4 o5 hv
                  have hbd : decide (txtN 0 (Hs m) = txtN 0 (Fs m)) = true := decide_eq_true (by rw [HM.out])
                  go_wp2_with fail
                  go_quiet ((go_at_call 12; exact Calls.quiet_of_same (same_any none a3 0 0 0 cap3 (Hs m) (Fs m) _ (.inl ⟨rfl, .inl rfl⟩) (A3.out.below (below_drewN (Below.refl _ _) _)))))
                  try rw [hbd]
                  have HN : Hid (apRel3 w B lb k wb Ls Hs Fs (.int .i64 ((m : Int) + 1)) (wr.drewN nq)) := ⟨m + 1, by omega, by go_num, HH.out.next HS.out (below_drewN (Below.refl _ _) _)⟩
                  clear hcm hcw hbd
                  generalize wr.drewN nq = wq at HN ⊢
                  go_wp2_with fail
                  exact ⟨HN.out, by simp [intOf]; omega⟩
                · obtain ⟨ln, en⟩ : ∃ ln, (Ls m).n = ln := ⟨_, rfl⟩
                  obtain ⟨lC, eC⟩ : ∃ lC, (Ls m).C = lC := ⟨_, rfl⟩
                  have hv : (Ls m).val = .slice (some ⟨g, 0, none⟩) ln lC := by unfold Lst.val; rw [eg, en, eC]
                  rw [hv] at hcm
                  rw [eC] at hcw hA3
                  rw [en, eC] at o1
                  have c0 : (0 : Int) ≤ lC := by omega
                  have c1 : (ln : Int) ≤ lC := by omega
                  have A3 : Hid (Arg wr a3 lC (Fs m)) := hA3
                  clear HI hA3 o2 o3 o5 o6 hv en
                  have hbd : decide (txtN lC (Hs m) = txtN lC (Fs m)) = true := decide_eq_true (by rw [HM.out])
                  go_wp2_with fail
                  go_quiet ((go_at_call 12; exact Calls.quiet_of_same (same_any (some ⟨g, 0, none⟩) a3 lC lC lC cap3 (Hs m) (Fs m) _ ((HH.out.next HS.out (below_drewN (Below.refl _ _) _)).argk hmt eg eC) (A3.out.below (below_drewN (Below.refl _ _) _)))))
                  try rw [hbd]
                  have HN : Hid (apRel3 w B lb k wb Ls Hs Fs (.int .i64 ((m : Int) + 1)) (wr.drewN nq)) := ⟨m + 1, by omega, by go_num, HH.out.next HS.out (below_drewN (Below.refl _ _) _)⟩
                  clear hcm hcw hbd
                  generalize wr.drewN nq = wq at HN ⊢
                  go_wp2_with fail
                  exact ⟨HN.out, by simp [intOf]; omega⟩
            · obtain rfl : m = k := by omega
              have hci := HI.inv.cells i hlt
              have HH : Hid (ApWas w B lb m wb Ls Hs Fs m wr) := HI
              clear HI
              go_wp2_with fail
              refine (over_ap HH.out HS.out hlt).mono ?_
              rintro e w7 ⟨rfl, H7⟩
              have R7 : Hid (apRel1 w B lb m Ls Fs (.int .i64 ((i : Int) + 1)) w7) := ⟨i + 1, by omega, by go_num, H7.congr (fun k hk j hj => by
                show (if k = i then _ else Hs k) j = Fs k j
                by_cases e : k = i
                · subst e
                  rw [if_pos rfl, ← HE.out]
                  show ov ((if k = k then _ else Fs k) j) = _
                  rw [if_pos rfl]
                  exact ov_ov _ (ap_byte FB.out hk hj)
                · rw [if_neg e, ← HE.out]
                  show (if k = i then _ else Fs k) j = _
                  rw [if_neg e])⟩
              clear hci HH H7
              go_wp2_with fail
              exact ⟨R7.out, by simp [intOf]; omega⟩
    · obtain rfl : i = M := by omega
      go_wp2_with fail
      go_ret
      exact ⟨rfl, HI.below⟩
end Go.Proofs.Ytmlllglgjpmicaa
