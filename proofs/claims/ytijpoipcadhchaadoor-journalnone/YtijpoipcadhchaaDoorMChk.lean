/-
  Walks, not a claim by itself: header.Check. By the verifier.
-/
import Derived.Test.YtijpoipcadhchaaDoorMPtr
import Derived.Test.YtijpoipcadhchaaDoorReg
namespace Go.Proofs.YtijpoipcadhchaaDoor
open Go.RowKit
/-- Where a number stands in the header's bytes. -/
def fat (k : Nat) : Nat := if k < 9 then 32 + 4 * k else if k < 11 then 48 + 4 * k else 56 + 4 * k
/-- The least and the greatest that it may be. -/
def fle (k : Nat) : Int := if k = 0 then 1 else 0
def fmo (k : Nat) : Int := if k = 0 then 31 else if k = 1 then 6 else if k = 2 then 1024 else 1073741824
/-- The table of fields, as it is laid. -/
def Tab (w : World) : Prop := (∀ k, k < 13 → w.cell? ⟨0, k * 3, none⟩ = some (.int .i64 (fat k)) ∧ w.cell? ⟨0, k * 3 + 1, none⟩ = some (.int .i64 (fle k)) ∧ w.cell? ⟨0, k * 3 + 2, none⟩ = some (.int .i64 (fmo k))) ∧ 0 < w.heap.size
theorem Tab.below {w w' : World} {n : Nat} (h : Tab w) (hb : Below n w w') (hn : 0 < n) : Tab w' :=
  ⟨fun k hk => ⟨(hb.cell (p := ⟨0, _, none⟩) hn).trans (h.1 k hk).1, (hb.cell (p := ⟨0, _, none⟩) hn).trans (h.1 k hk).2.1, (hb.cell (p := ⟨0, _, none⟩) hn).trans (h.1 k hk).2.2⟩, Nat.lt_of_lt_of_le h.2 hb.size⟩
/-- The world says all of a header's numbers that are the first k may be. -/
def within (h : Nat → Int) (k : Nat) : Bool := decide (fle k ≤ h (pos k)) && decide (h (pos k) ≤ fmo k)
def okH (h : Nat → Int) : Bool := decide (∀ k ∈ List.range 13, within h k = true)
theorem okH_iff (h : Nat → Int) : okH h = true ↔ ∀ k, k < 13 → within h k = true := by unfold okH; simp [List.mem_range]
/-- What Check answers. -/
def chk (h : Nat → Int) : Int := if okH h = true then 0 else 2
def chkRel (w : World) (b : Nat) (h : Nat → Int) (i : Value) (wr : World) : Prop := ∃ k : Nat, k ≤ 13 ∧ i = .int .i64 k ∧ (∀ j, j < k → within h j = true) ∧ Rec19 wr b 0 (hcs h) ∧ Tab wr ∧ Below w.heap.size w wr
theorem zeroOwn : (Tryd.prog.info? 118).bind (·.zero) = some (.agg (hcs fun _ => 0).toArray) := by kernel_rfl
theorem ptrs_index (b : Nat) (w : World) : ∀ k : Nat, k < 13 → (Instr.index 128 (.agg (ptrs b).toArray) (.int .i64 k)).run Tryd.prog w = .ok (.pointer (some ⟨b, pos k, none⟩)) w
  | 0, _ | 1, _ | 2, _ | 3, _ | 4, _ | 5, _ | 6, _ | 7, _ | 8, _ | 9, _ | 10, _ | 11, _ | 12, _ => by kernel_rfl
  | k + 13, h => absurd h (by omega)
set_option maxRecDepth 100000 in
set_option maxHeartbeats 400000 in
theorem check_any (h : Nat → Int) (w : World) (hT : Tab w) :
    Calls Tryd.prog 66 #[.agg (hcs h).toArray] w fun e w' => e = .returned (.int .i64 (chk h)) ∧ Below w.heap.size w w' := by
  have TT : Hid (Tab w) := hT
  clear hT
  have R0 : Rec19 (w.alloc (.cells (hcs h).toArray 26)) w.heap.size 0 (hcs h) := Rec19.new w _ _
  have B0 : Below w.heap.size w (w.alloc (.cells (hcs h).toArray 26)) := (Below.refl _ _).alloc (Nat.le_refl _) _
  go_enter Tryd.func66, Tryd.ntmps66
  go_wp2_with (first
    | (refine wpList_load_rec rfl 26 (.tmp 1) rfl w.heap.size 0 (hcs h) rfl _ Tryd.underlying26 rfl (by kernel_rfl) R0 ?_)
    | (refine wpList_alloc_rec rfl 118 rfl (hcs fun _ => 0) (w.heap.size + 1) (by simp) zeroOwn ?_; intro W1 hR1 hB1 hz1)
    | (refine wpList_store_rec rfl 118 (.tmp 3) (.tmp 6) rfl (w.heap.size + 1) 0 _ (hcs h) rfl rfl hR1 rfl (by kernel_rfl) (hcs_one h) ?_; intro W2 hR2 hB2)
    | (go_at_call 80; refine (numbers_any (w.heap.size + 1) _).mono ?_; rintro e w3 ⟨rfl, hB3⟩))
  have E2 : Below w.heap.size w W2 := (B0.trans (hB1.mono (by omega))).trans (hB2.below (by omega) (by omega))
  have E3 : Below w.heap.size w w3 := E2.trans (hB3.mono E2.size)
  have ST : Hid (chkRel w (w.heap.size + 1) h (.int .i64 0) w3) := ⟨0, by omega, rfl, fun j hj => by omega, hR2.below hB3, TT.out.below E3 TT.out.2, E3⟩
  clear hR1 hB1 hz1 hR2 hB2 hB3 E2 E3 R0 B0
  generalize w.heap.size + 1 = b at ST ⊢
  go_loopw [8] (fun i wr => chkRel w b h i wr) (fun i _ => 13 - (intOf i).toNat)
  case atStart => exact ST.out
  case round =>
    obtain ⟨k, hk, rfl, hW, hR, hT, hB⟩ := hrel
    clear ST TT
    have WI : Hid (∀ j, j < k → within h j = true) := hW
    have RR : Hid (Rec19 wr b 0 (hcs h)) := hR
    have TT : Hid (Tab wr) := hT
    have BE : Hid (Below w.heap.size w wr) := hB
    clear hW hR hT hB
    by_cases hlt : k < 13
    · have p1 : ∀ w, (Instr.index 128 (.agg (ptrs b).toArray) (.int .i64 k)).run Tryd.prog w = .ok (.pointer (some ⟨b, pos k, none⟩)) w := fun w => ptrs_index b w k hlt
      have c0 : wr.cell? ⟨b, pos k, none⟩ = some (.int .i64 (h (pos k))) := by have := RR.out.1 (pos k) _ (hcs_pos h k hlt); rwa [Nat.zero_add] at this
      obtain ⟨_, c1, c2⟩ := TT.out.1 k hlt
      have e0 : (k : Int) < 13 := by omega
      have hw : Hid (within h k = (decide (fle k ≤ h (pos k)) && decide (h (pos k) ≤ fmo k))) := rfl
      generalize h (pos k) = v at c0 hw
      generalize fle k = lo at c1 hw
      generalize fmo k = hi at c2 hw
      generalize pos k = p at p1 c0
      go_wp2_with fail
      by_cases e1 : v < lo
      · have e1' : Hid (v < lo) := e1
        have hn : okH h = false := Bool.eq_false_iff.2 (fun q => by
          have := (okH_iff h).1 q k hlt
          rw [hw.out] at this
          simp at this
          omega)
        have hc : Hid (chk h = 2) := (by rw [chk, hn]; rfl : chk h = 2)
        refine wp_region_noPanic ?_
        refine wp_region_held_drew (S := fun w' => w'.cell? ⟨b, p, none⟩ = some (.int .i64 v) ∧ w'.cell? ⟨0, k * 3 + 1, none⟩ = some (.int .i64 lo) ∧ w'.cell? ⟨0, k * 3 + 2, none⟩ = some (.int .i64 hi)) (by kernel_rfl) ?_ (fun hHeld => ?_)
        · exact ⟨c0, c1, c2⟩
        refine take_at (i := 0) (v := ?_) (some 12) rfl rfl (by kernel_rfl) (by kernel_rfl) (by kernel_rfl) (fun _ _ _ h => h) (Or.inl ⟨by rfl, ?_⟩) (by assumption) ?_
        rotate_left
        · (intro w hSw; (try dsimp only at hSw); go_simp; try with_reducible rfl)
        simp only [Act.put, List.setIfInBounds_toArray, List.set_cons_zero, List.set_cons_succ]
        refine take_at (i := 1) (v := ?_) (some 13) rfl rfl (by kernel_rfl) (by kernel_rfl) (by kernel_rfl) (fun _ _ _ h => h) (Or.inl ⟨by rfl, ?_⟩) (by assumption) ?_
        rotate_left
        · (intro w hSw; (try dsimp only at hSw); go_simp; try with_reducible rfl)
        simp only [Act.put, List.setIfInBounds_toArray, List.set_cons_zero, List.set_cons_succ]
        refine take_at (i := 2) (v := ?_) (some 14) rfl rfl (by kernel_rfl) (by kernel_rfl) (by kernel_rfl) (fun _ _ _ h => h) (Or.inl ⟨by rfl, ?_⟩) (by assumption) ?_
        rotate_left
        · (intro w hSw; (try dsimp only at hSw); go_simp; try with_reducible rfl)
        simp only [Act.put, List.setIfInBounds_toArray, List.set_cons_zero, List.set_cons_succ]
        refine take_at (i := 3) (v := ?_) (some 15) rfl rfl (by kernel_rfl) (by kernel_rfl) (by kernel_rfl) (fun _ _ _ h => h) (Or.inl ⟨by rfl, ?_⟩) (by assumption) ?_
        rotate_left
        · (intro w hSw; (try dsimp only at hSw); go_simp; try with_reducible rfl)
        simp only [Act.put, List.setIfInBounds_toArray, List.set_cons_zero, List.set_cons_succ]
        refine take_at (i := 4) (v := ?_) (some 16) rfl rfl (by kernel_rfl) (by kernel_rfl) (by kernel_rfl) (fun _ _ _ h => h) (Or.inl ⟨by rfl, ?_⟩) (by assumption) ?_
        rotate_left
        · (intro w hSw; (try dsimp only at hSw); go_simp; try with_reducible rfl)
        simp only [Act.put, List.setIfInBounds_toArray, List.set_cons_zero, List.set_cons_succ]
        refine take_at (i := 5) (v := ?_) (some 17) rfl rfl (by kernel_rfl) (by kernel_rfl) (by kernel_rfl) (fun _ _ _ h => h) (Or.inl ⟨by rfl, ?_⟩) (by assumption) ?_
        rotate_left
        · (intro w hSw; (try dsimp only at hSw); go_simp; try with_reducible rfl)
        simp only [Act.put, List.setIfInBounds_toArray, List.set_cons_zero, List.set_cons_succ]
        refine take_at (i := 6) (v := ?_) (some 18) rfl rfl (by kernel_rfl) (by kernel_rfl) (by kernel_rfl) (fun _ _ _ h => h) (Or.inl ⟨by rfl, ?_⟩) (by assumption) ?_
        rotate_left
        · (intro w hSw; (try dsimp only at hSw); go_simp; try with_reducible rfl)
        simp only [Act.put, List.setIfInBounds_toArray, List.set_cons_zero, List.set_cons_succ]
        refine take_at (i := 7) (v := ?_) (some 19) rfl rfl (by kernel_rfl) (by kernel_rfl) (by kernel_rfl) (fun _ _ _ h => h) (Or.inl ⟨by rfl, ?_⟩) (by assumption) ?_
        rotate_left
        · (intro w hSw; (try dsimp only at hSw); go_simp; try with_reducible rfl)
        simp only [Act.put, List.setIfInBounds_toArray, List.set_cons_zero, List.set_cons_succ]
        refine take_at (i := 8) (v := ?_) (some 20) rfl rfl (by kernel_rfl) (by kernel_rfl) (by kernel_rfl) (fun _ _ _ h => h) (Or.inl ⟨by rfl, ?_⟩) (by assumption) ?_
        rotate_left
        · (intro w hSw; (try dsimp only at hSw); go_simp; try with_reducible rfl)
        simp only [Act.put, List.setIfInBounds_toArray, List.set_cons_zero, List.set_cons_succ]
        refine take_at (i := 9) (v := undef) (some 21) rfl rfl (by kernel_rfl) (by kernel_rfl) (by kernel_rfl) (fun _ _ _ h => h) (Or.inr ⟨by rfl, rfl⟩) (by assumption) ?_
        simp only [Act.put, List.setIfInBounds_toArray, List.set_cons_zero, List.set_cons_succ]
        refine take_at (i := 10) (v := undef) (some 22) rfl rfl (by kernel_rfl) (by kernel_rfl) (by kernel_rfl) (fun _ _ _ h => h) (Or.inr ⟨by rfl, rfl⟩) (by assumption) ?_
        simp only [Act.put, List.setIfInBounds_toArray, List.set_cons_zero, List.set_cons_succ]
        refine take_at (i := 11) (v := undef) (some 23) rfl rfl (by kernel_rfl) (by kernel_rfl) (by kernel_rfl) (fun _ _ _ h => h) (Or.inr ⟨by rfl, rfl⟩) (by assumption) ?_
        simp only [Act.put, List.setIfInBounds_toArray, List.set_cons_zero, List.set_cons_succ]
        refine take_at (i := 12) (v := undef) (some 24) rfl rfl (by kernel_rfl) (by kernel_rfl) (by kernel_rfl) (fun _ _ _ h => h) (Or.inr ⟨by rfl, rfl⟩) (by assumption) ?_
        simp only [Act.put, List.setIfInBounds_toArray, List.set_cons_zero, List.set_cons_succ]
        refine take_at (i := 13) (v := undef) (some 25) rfl rfl (by kernel_rfl) (by kernel_rfl) (by kernel_rfl) (fun _ _ _ h => h) (Or.inr ⟨by rfl, rfl⟩) (by assumption) ?_
        simp only [Act.put, List.setIfInBounds_toArray, List.set_cons_zero, List.set_cons_succ]
        refine take_at (i := 14) (v := undef) (some 26) rfl rfl (by kernel_rfl) (by kernel_rfl) (by kernel_rfl) (fun _ _ _ h => h) (Or.inr ⟨by rfl, rfl⟩) (by assumption) ?_
        simp only [Act.put, List.setIfInBounds_toArray, List.set_cons_zero, List.set_cons_succ]
        refine take_at (i := 15) (v := undef) (some 27) rfl rfl (by kernel_rfl) (by kernel_rfl) (by kernel_rfl) (fun _ _ _ h => h) (Or.inr ⟨by rfl, rfl⟩) (by assumption) ?_
        simp only [Act.put, List.setIfInBounds_toArray, List.set_cons_zero, List.set_cons_succ]
        refine take_at (i := 16) (v := undef) (some 28) rfl rfl (by kernel_rfl) (by kernel_rfl) (by kernel_rfl) (fun _ _ _ h => h) (Or.inr ⟨by rfl, rfl⟩) (by assumption) ?_
        simp only [Act.put, List.setIfInBounds_toArray, List.set_cons_zero, List.set_cons_succ]
        refine take_at (i := 17) (v := ?_) (some 29) rfl rfl (by kernel_rfl) (by kernel_rfl) (by kernel_rfl) (fun _ _ _ h => h) (Or.inl ⟨by rfl, ?_⟩) (by assumption) ?_
        rotate_left
        · (intro w hSw; (try dsimp only at hSw); go_simp; try with_reducible rfl)
        simp only [Act.put, List.setIfInBounds_toArray, List.set_cons_zero, List.set_cons_succ]
        refine wpAnyH_done (by kernel_rfl) ?_ _
        refine NoPanic.normal ?_
        go_wp2_with fail
        go_ret
        exact ⟨by rw [hc.out]; rfl, BE.out.drew⟩
      · by_cases e2 : hi < v
        · have e2' : Hid (hi < v) := e2
          have hn : okH h = false := Bool.eq_false_iff.2 (fun q => by
            have := (okH_iff h).1 q k hlt
            rw [hw.out] at this
            simp at this
            omega)
          have hc : Hid (chk h = 2) := (by rw [chk, hn]; rfl : chk h = 2)
          go_region_held3 (fun w' => w'.cell? ⟨b, p, none⟩ = some (.int .i64 v) ∧ w'.cell? ⟨0, k * 3 + 1, none⟩ = some (.int .i64 lo) ∧ w'.cell? ⟨0, k * 3 + 2, none⟩ = some (.int .i64 hi)) (exact ⟨c0, c1, c2⟩) (fail)
          go_wp2_with fail
          go_ret
          exact ⟨by rw [hc.out]; rfl, BE.out.drew⟩
        · have hy : within h k = true := by rw [hw.out]; simp; omega
          have HY : Hid (within h k = true) := hy
          clear hy
          go_region_held3 (fun w' => w'.cell? ⟨b, p, none⟩ = some (.int .i64 v) ∧ w'.cell? ⟨0, k * 3 + 1, none⟩ = some (.int .i64 lo) ∧ w'.cell? ⟨0, k * 3 + 2, none⟩ = some (.int .i64 hi)) (exact ⟨c0, c1, c2⟩) (fail)
          go_wp2_with fail
          exact ⟨⟨k + 1, by omega, by go_num, fun j hj => by
            by_cases q : j = k
            · rw [q]; exact HY.out
            · exact WI.out j (by omega), RR.out, TT.out, BE.out.drew⟩, by simp [intOf]; omega⟩
    · obtain rfl : k = 13 := by omega
      go_wp2_with fail
      go_ret
      refine ⟨?_, BE.out⟩
      rw [chk, if_pos ((okH_iff _).2 WI.out)]
      rfl
end Go.Proofs.YtijpoipcadhchaaDoor
