/-
  Walks, not a claim by itself: ChecksumSums. By the verifier.
-/
import Derived.Test.YtgcmlnjmfdoomaaCKnown
import Derived.Test.YtgcmlnjmfdoomaaHSum
import Derived.Test.YtgcmlnjmfdoomaaBLent
import Derived.Test.YtgcmlnjmfdoomaaReg
namespace Go.Proofs.Ytgcmlnjmfdoomaa
open Go.RowKit
theorem lent_lies {w : World} {g n : Nat} {f : Nat → Int} (hf : ∀ j, j < n → 0 ≤ f j ∧ f j < 256) (h : IRow w g .u8 (n + 3) (lentF n f 3)) : Lies w g 0 n f :=
  ⟨fun j hj => by rw [Nat.zero_add, h.1 j (by omega), lentF_low n f 3 j hj], hf, h.2.2⟩
/-- All that must live on. -/
def csRest (w : World) (a : Option Addr) (g n : Nat) (f : Nat → Int) (W : World) : Prop := Arg W a n f ∧ IRow W g .u8 (n + 3) (lentF n f 3) ∧ Below w.heap.size w W
theorem csRest.below {w : World} {a : Option Addr} {g n : Nat} {f : Nat → Int} {W W' : World} (h : csRest w a g n f W) (hB : Below W.heap.size W W') : csRest w a g n f W' :=
  ⟨h.1.below hB, h.2.1.below hB, h.2.2.trans (hB.mono h.2.2.size)⟩
/-- What the region's loads read, and all that must live on. -/
def csS (w : World) (a : Option Addr) (g n p q : Nat) (f s t : Nat → Int) (W : World) : Prop := IRow W p .u8 16 s ∧ IRow W q .u8 16 t ∧ csRest w a g n f W
theorem csS.keep {w : World} {a : Option Addr} {g n p q : Nat} {f s t : Nat → Int} {W W' : World} (h : W.rangeAt p 0 (cl .u8 16 s) ∧ W.rangeAt q 0 (cl .u8 16 t) ∧ Hid (csS w a g n p q f s t W)) (hB : Below W.heap.size W W') : W'.rangeAt p 0 (cl .u8 16 s) ∧ W'.rangeAt q 0 (cl .u8 16 t) ∧ Hid (csS w a g n p q f s t W') := by
  obtain ⟨h1, h2, h3⟩ := h.2.2.out
  exact ⟨(h1.below hB).rec.1, (h2.below hB).rec.1, h1.below hB, h2.below hB, h3.below hB⟩
theorem csS.rest {w : World} {a : Option Addr} {g n p q : Nat} {f s t : Nat → Int} {W : World} (h : W.rangeAt p 0 (cl .u8 16 s) ∧ W.rangeAt q 0 (cl .u8 16 t) ∧ Hid (csS w a g n p q f s t W)) : csRest w a g n f W := h.2.2.out.2.2
theorem eqN_comm (N : Nat) (f g : Nat → Int) : eqN N f g = eqN N g f := by
  rw [Bool.eq_iff_iff, eqN_iff, eqN_iff]
  exact ⟨fun h i hi => (h i hi).symm, fun h i hi => (h i hi).symm⟩
theorem eqN_self (N : Nat) (f : Nat → Int) : eqN N f f = true := (eqN_iff _ _ _).2 fun _ _ => rfl
set_option maxHeartbeats 1000000 in
theorem sums_long (a : Option Addr) (n C : Nat) (s : Nat → Int) (w : World) (h : 5000 < n) :
    Calls Try.prog 3 #[.slice a n C, .agg (cl .u8 16 s).toArray] w fun e w' => e = .returned (.bool true) ∧ Below w.heap.size w w' := by
  have e1 : (5000 : Int) < n := by omega
  go_enter Try.func3, Try.ntmps3
  go_wp2_with fail
  go_ret
  exact ⟨rfl, (Below.refl _ _).alloc (Nat.le_refl _) _⟩
set_option maxRecDepth 100000 in
set_option maxHeartbeats 2000000 in
theorem sums_any (a : Option Addr) (n C : Nat) (f s : Nat → Int) (w : World) (h : Arg w a n f) (hn : n ≤ 5000) :
    Calls Try.prog 3 #[.slice a n C, .agg (cl .u8 16 s).toArray] w fun e w' => e = .returned (.bool true) ∧ Below w.heap.size w w' := by
  have e1 : ¬ (5000 : Int) < n := by omega
  have HA : Hid (Arg w a n f) := h
  have FB : Hid (∀ j, j < n → 0 ≤ f j ∧ f j < 256) := h.bytes
  clear h
  go_enter Try.func3, Try.ntmps3
  go_wp2_with fail
  have B0 : Below w.heap.size w (w.alloc (.cells (cl .u8 16 s).toArray 23)) := (Below.refl _ _).alloc (Nat.le_refl _) _
  have S0 := IRow.new w 23 .u8 16 s
  refine (lent_any a n C f _ (HA.out.below B0) (by omega)).mono ?_
  rintro e u1 ⟨g, rfl, hg, R1, K1⟩
  have A1 := (HA.out.below B0).below K1
  have S1 := S0.below K1
  have B1 := B0.trans (K1.mono B0.size)
  clear HA K1 B0 hg S0
  go_wp2_with fail
  refine (hsum_any a n C f _ A1 (by omega)).mono ?_
  rintro e u2 ⟨rfl, K2⟩
  obtain ⟨t, ht⟩ : ∃ t, sealF n f = t := ⟨_, rfl⟩
  have HT : Hid (sealF n f = t) := ht
  rw [ht]
  clear ht
  go_wp2_with (first
    | (refine wpList_alloc_row rfl 23 rfl .u8 16 u2.heap.size rfl zero8_16 ?_; intro u3 hR3 hB3 hz3)
    | (refine wpList_store_row rfl 23 (.tmp 6) _ rfl u2.heap.size .u8 16 t (fun _ => 0) rfl rfl hR3 (by kernel_rfl) ?_; intro u4 hR4 hB4 hz4))
  have K4 : Below u2.heap.size u2 u4 := hB3.trans (hB4.below (Nat.le_refl _) (by omega))
  have hh' : u4.drew.rangeAt w.heap.size 0 (cl .u8 16 s) ∧ u4.drew.rangeAt u2.heap.size 0 (cl .u8 16 t) ∧ Hid (csS w a g n w.heap.size u2.heap.size f s t u4.drew) := by
    have q1 := ((S1.below K2).below K4).drew
    have q2 := hR4.drew
    have B2 := B1.trans (K2.mono B1.size)
    exact ⟨q1.rec.1, q2.rec.1, q1, q2, ((A1.below K2).below K4).below (Below.refl _ _).drew, ((R1.below K2).below K4).drew, (B2.trans (K4.mono B2.size)).drew⟩
  clear hR3 hB3 hz3 hR4 hB4 hz4 K4 K2 R1 A1 S1 B1
  have heq1 : ∀ w, (Op.equalIn 10000 23 (.agg (cl .u8 16 t).toArray) (.agg (cl .u8 16 t).toArray)).run Try.prog w = .ok true w := fun w => by rw [eqIn16, eqN_self]
  have heq2 : ∀ w, (Op.equalIn 10000 23 (.agg (cl .u8 16 s).toArray) (.agg (cl .u8 16 t).toArray)).run Try.prog w = .ok (eqN 16 t s) w := fun w => by rw [eqIn16, eqN_comm]
  have hgd := guard16
  have hu := Try.underlying23
  have hi1 : (Try.prog.info? 23).map (·.size) = some (cl .u8 16 s).length := by rw [cl_len]; kernel_rfl
  have hi2 : (Try.prog.info? 23).map (·.size) = some (cl .u8 16 t).length := by rw [cl_len]; kernel_rfl
  have hcl1 := cl_len .u8 16 s
  have hcl2 := cl_len .u8 16 t
  have hone1 := cl_one .u8 16 s
  have hone2 := cl_one .u8 16 t
  go_wp2_with fail
  refine wp_region_noPanic ?_
  refine wp_region_held_drew (S := fun W' => W'.rangeAt w.heap.size 0 (cl .u8 16 s) ∧ W'.rangeAt u2.heap.size 0 (cl .u8 16 t) ∧ Hid (csS w a g n w.heap.size u2.heap.size f s t W')) (by kernel_rfl) ?_ (fun hHeld => ?_)
  · exact hh'
  refine take_at (i := 0) (v := ?_) (some 14) rfl rfl (by kernel_rfl) (by kernel_rfl) (by kernel_rfl) (fun _ _ _ h => h) (Or.inl ⟨by rfl, ?_⟩) (by assumption) ?_
  rotate_left
  · (intro w hSw; (try dsimp only at hSw); go_simp; try with_reducible rfl)
  simp only [Act.put, List.setIfInBounds_toArray, List.set_cons_zero, List.set_cons_succ]
  refine take_at (i := 2) (v := _) (some 16) rfl rfl (by kernel_rfl) (by kernel_rfl) (by kernel_rfl) (fun _ _ _ h => h) (yieldsIf_load_mid (by rfl) _ _ rfl _ _ rfl _ _ (fun _ h => h.2.1) hu rfl hi2) (by assumption) ?_
  simp only [Act.put, List.setIfInBounds_toArray, List.set_cons_zero, List.set_cons_succ]
  refine call_at (i := 1) (some 15) 10 _ _ rfl rfl rfl (by rfl) (by kernel_rfl) #[.slice (some ⟨g, 0, none⟩) n (n + 3)] rfl Try.func10 (by kernel_rfl) (by kernel_rfl) ?_
  refine (sum_any (some ⟨g, 0, none⟩) n (n + 3) f _ (Arg.of (lent_lies FB.out (csS.rest (by assumption)).2.1)) (by omega) (by omega)).mono ?_; rintro e w' ⟨rfl, hB⟩; rw [HT.out]
  refine ⟨_, rfl, csS.keep (by assumption) hB, fun hHeld => ?_⟩
  simp only [Act.put, List.setIfInBounds_toArray, List.set_cons_zero, List.set_cons_succ]
  refine take_at (i := 3) (v := ?_) (some 17) rfl rfl (by kernel_rfl) (by kernel_rfl) (by kernel_rfl) (fun _ _ _ h => h) (Or.inl ⟨by rfl, ?_⟩) (by assumption) ?_
  rotate_left
  · (intro w hSw; (try dsimp only at hSw); go_simp; try with_reducible rfl)
  simp only [Act.put, List.setIfInBounds_toArray, List.set_cons_zero, List.set_cons_succ]
  refine take_at (i := 4) (v := ?_) (some 18) rfl rfl (by kernel_rfl) (by kernel_rfl) (by kernel_rfl) (fun _ _ _ h => h) (Or.inl ⟨by rfl, ?_⟩) (by assumption) ?_
  rotate_left
  · (intro w hSw; (try dsimp only at hSw); go_simp; try with_reducible rfl)
  simp only [Act.put, List.setIfInBounds_toArray, List.set_cons_zero, List.set_cons_succ]
  refine take_at (i := 5) (v := ?_) (some 19) rfl rfl (by kernel_rfl) (by kernel_rfl) (by kernel_rfl) (fun _ _ _ h => h) (Or.inl ⟨by rfl, ?_⟩) (by assumption) ?_
  rotate_left
  · (intro w hSw; (try dsimp only at hSw); go_simp; try with_reducible rfl)
  simp only [Act.put, List.setIfInBounds_toArray, List.set_cons_zero, List.set_cons_succ]
  refine take_at (i := 6) (v := _) (some 20) rfl rfl (by kernel_rfl) (by kernel_rfl) (by kernel_rfl) (fun _ _ _ h => h) (yieldsIf_load_mid (by rfl) _ _ rfl _ _ rfl _ _ (fun _ h => h.1) hu rfl hi1) (by assumption) ?_
  simp only [Act.put, List.setIfInBounds_toArray, List.set_cons_zero, List.set_cons_succ]
  refine take_at (i := 8) (v := _) (some 22) rfl rfl (by kernel_rfl) (by kernel_rfl) (by kernel_rfl) (fun _ _ _ h => h) (yieldsIf_load_mid (by rfl) _ _ rfl _ _ rfl _ _ (fun _ h => h.1) hu rfl hi1) (by assumption) ?_
  simp only [Act.put, List.setIfInBounds_toArray, List.set_cons_zero, List.set_cons_succ]
  refine take_at (i := 9) (v := _) (some 23) rfl rfl (by kernel_rfl) (by kernel_rfl) (by kernel_rfl) (fun _ _ _ h => h) (yieldsIf_load_mid (by rfl) _ _ rfl _ _ rfl _ _ (fun _ h => h.2.1) hu rfl hi2) (by assumption) ?_
  simp only [Act.put, List.setIfInBounds_toArray, List.set_cons_zero, List.set_cons_succ]
  refine take_at (i := 10) (v := ?_) (some 24) rfl rfl (by kernel_rfl) (by kernel_rfl) (by kernel_rfl) (fun _ _ _ h => h) (Or.inl ⟨by rfl, ?_⟩) (by assumption) ?_
  rotate_left
  · (intro w hSw; (try dsimp only at hSw); go_simp; try with_reducible rfl)
  simp only [Act.put, List.setIfInBounds_toArray, List.set_cons_zero, List.set_cons_succ]
  refine call_at (i := 7) (some 21) 11 _ _ rfl rfl rfl (by rfl) (by kernel_rfl) #[.slice (some ⟨g, 0, none⟩) n (n + 3), .agg (cl .u8 16 s).toArray] rfl Try.func11 (by kernel_rfl) (by kernel_rfl) ?_
  refine (right16 (some ⟨g, 0, none⟩) n (n + 3) f _ _ (Arg.of (lent_lies FB.out (csS.rest (by assumption)).2.1)) (by omega) (by omega)).mono ?_; rintro e w' ⟨rfl, hB⟩; rw [HT.out]
  refine ⟨_, rfl, csS.keep (by assumption) hB, fun hHeld => ?_⟩
  simp only [Act.put, List.setIfInBounds_toArray, List.set_cons_zero, List.set_cons_succ]
  refine take_at (i := 11) (v := ?_) (some 25) rfl rfl (by kernel_rfl) (by kernel_rfl) (by kernel_rfl) (fun _ _ _ h => h) (Or.inl ⟨by rfl, ?_⟩) (by assumption) ?_
  rotate_left
  · (intro w hSw; (try dsimp only at hSw); go_simp; try with_reducible rfl)
  simp only [Act.put, List.setIfInBounds_toArray, List.set_cons_zero, List.set_cons_succ]
  refine take_at (i := 12) (v := ?_) (some 26) rfl rfl (by kernel_rfl) (by kernel_rfl) (by kernel_rfl) (fun _ _ _ h => h) (Or.inl ⟨by rfl, ?_⟩) (by assumption) ?_
  rotate_left
  · (intro w hSw; (try dsimp only at hSw); go_simp; try with_reducible rfl)
  simp only [Act.put, List.setIfInBounds_toArray, List.set_cons_zero, List.set_cons_succ]
  refine take_at (i := 13) (v := ?_) (some 27) rfl rfl (by kernel_rfl) (by kernel_rfl) (by kernel_rfl) (fun _ _ _ h => h) (Or.inl ⟨by rfl, ?_⟩) (by assumption) ?_
  rotate_left
  · (intro w hSw; (try dsimp only at hSw); go_simp; try with_reducible rfl)
  simp only [Act.put, List.setIfInBounds_toArray, List.set_cons_zero, List.set_cons_succ]
  refine take_at (i := 14) (v := ?_) (some 28) rfl rfl (by kernel_rfl) (by kernel_rfl) (by kernel_rfl) (fun _ _ _ h => h) (Or.inl ⟨by rfl, ?_⟩) (by assumption) ?_
  rotate_left
  · (intro w hSw; (try dsimp only at hSw); go_simp; try with_reducible rfl)
  simp only [Act.put, List.setIfInBounds_toArray, List.set_cons_zero, List.set_cons_succ]
  refine take_at (i := 15) (v := _) (some 29) rfl rfl (by kernel_rfl) (by kernel_rfl) (by kernel_rfl) (fun _ _ _ h => h) (yieldsIf_load_mid (by rfl) _ _ rfl _ _ rfl _ _ (fun _ h => h.2.1) hu rfl hi2) (by assumption) ?_
  simp only [Act.put, List.setIfInBounds_toArray, List.set_cons_zero, List.set_cons_succ]
  refine call_at (i := 16) (some 30) 11 _ _ rfl rfl rfl (by rfl) (by kernel_rfl) #[.slice (some ⟨g, 0, none⟩) n (n + 3), .agg (cl .u8 16 t).toArray] rfl Try.func11 (by kernel_rfl) (by kernel_rfl) ?_
  refine (right16 (some ⟨g, 0, none⟩) n (n + 3) f _ _ (Arg.of (lent_lies FB.out (csS.rest (by assumption)).2.1)) (by omega) (by omega)).mono ?_; rintro e w' ⟨rfl, hB⟩; rw [HT.out, eqN_self]
  refine ⟨_, rfl, csS.keep (by assumption) hB, fun hHeld => ?_⟩
  simp only [Act.put, List.setIfInBounds_toArray, List.set_cons_zero, List.set_cons_succ]
  refine take_at (i := 17) (v := ?_) (some 31) rfl rfl (by kernel_rfl) (by kernel_rfl) (by kernel_rfl) (fun _ _ _ h => h) (Or.inl ⟨by rfl, ?_⟩) (by assumption) ?_
  rotate_left
  · (intro w hSw; (try dsimp only at hSw); go_simp; try with_reducible rfl)
  simp only [Act.put, List.setIfInBounds_toArray, List.set_cons_zero, List.set_cons_succ]
  refine take_at (i := 18) (v := ?_) (some 32) rfl rfl (by kernel_rfl) (by kernel_rfl) (by kernel_rfl) (fun _ _ _ h => h) (Or.inl ⟨by rfl, ?_⟩) (by assumption) ?_
  rotate_left
  · (intro w hSw; (try dsimp only at hSw); go_simp; try with_reducible rfl)
  simp only [Act.put, List.setIfInBounds_toArray, List.set_cons_zero, List.set_cons_succ]
  refine take_at (i := 19) (v := ?_) (some 33) rfl rfl (by kernel_rfl) (by kernel_rfl) (by kernel_rfl) (fun _ _ _ h => h) (Or.inl ⟨by rfl, ?_⟩) (by assumption) ?_
  rotate_left
  · (intro w hSw; (try dsimp only at hSw); go_simp; try with_reducible rfl)
  simp only [Act.put, List.setIfInBounds_toArray, List.set_cons_zero, List.set_cons_succ]
  refine take_at (i := 20) (v := ?_) (some 34) rfl rfl (by kernel_rfl) (by kernel_rfl) (by kernel_rfl) (fun _ _ _ h => h) (Or.inl ⟨by rfl, ?_⟩) (by assumption) ?_
  rotate_left
  · (intro w hSw; (try dsimp only at hSw); go_simp; try with_reducible rfl)
  simp only [Act.put, List.setIfInBounds_toArray, List.set_cons_zero, List.set_cons_succ]
  refine call_at (i := 21) (some 35) 12 _ _ rfl rfl rfl (by rfl) (by kernel_rfl) #[.slice (some ⟨g, 0, none⟩) n (n + 3), .slice a n C] rfl Try.func12 (by kernel_rfl) (by kernel_rfl) ?_
  refine (kept_any g a n C f _ (csS.rest (by assumption)).1 (by omega) (csS.rest (by assumption)).2.1).mono ?_; rintro e w' ⟨rfl, hB⟩
  refine ⟨_, rfl, csS.keep (by assumption) hB, fun hHeld => ?_⟩
  simp only [Act.put, List.setIfInBounds_toArray, List.set_cons_zero, List.set_cons_succ]
  refine take_at (i := 22) (v := ?_) (some 36) rfl rfl (by kernel_rfl) (by kernel_rfl) (by kernel_rfl) (fun _ _ _ h => h) (Or.inl ⟨by rfl, ?_⟩) (by assumption) ?_
  rotate_left
  · (intro w hSw; (try dsimp only at hSw); go_simp; try with_reducible rfl)
  simp only [Act.put, List.setIfInBounds_toArray, List.set_cons_zero, List.set_cons_succ]
  refine take_at (i := 23) (v := ?_) (some 37) rfl rfl (by kernel_rfl) (by kernel_rfl) (by kernel_rfl) (fun _ _ _ h => h) (Or.inl ⟨by rfl, ?_⟩) (by assumption) ?_
  rotate_left
  · (intro w hSw; (try dsimp only at hSw); go_simp; try with_reducible rfl)
  simp only [Act.put, List.setIfInBounds_toArray, List.set_cons_zero, List.set_cons_succ]
  refine call_at (i := 24) (some 38) 13 _ _ rfl rfl rfl (by rfl) (by kernel_rfl) #[] rfl Try.func13 (by kernel_rfl) (by kernel_rfl) ?_
  refine (awake_any _).mono ?_; rintro e w' ⟨rfl, hB⟩
  refine ⟨_, rfl, csS.keep (by assumption) hB, fun hHeld => ?_⟩
  simp only [Act.put, List.setIfInBounds_toArray, List.set_cons_zero, List.set_cons_succ]
  refine take_at (i := 25) (v := ?_) (some 39) rfl rfl (by kernel_rfl) (by kernel_rfl) (by kernel_rfl) (fun _ _ _ h => h) (Or.inl ⟨by rfl, ?_⟩) (by assumption) ?_
  rotate_left
  · (intro w hSw; (try dsimp only at hSw); go_simp; try with_reducible rfl)
  simp only [Act.put, List.setIfInBounds_toArray, List.set_cons_zero, List.set_cons_succ]
  refine take_at (i := 26) (v := ?_) (some 4) rfl rfl (by kernel_rfl) (by kernel_rfl) (by kernel_rfl) (fun _ _ _ h => h) (Or.inl ⟨by rfl, ?_⟩) (by assumption) ?_
  rotate_left
  · (intro w hSw; (try dsimp only at hSw); go_simp; try with_reducible rfl)
  simp only [Act.put, List.setIfInBounds_toArray, List.set_cons_zero, List.set_cons_succ]
  refine wpAnyH_done (by kernel_rfl) ?_ _
  refine NoPanic.normal ?_
  go_wp2_with fail
  go_ret
  exact ⟨rfl, (csS.rest (by assumption)).2.2⟩
theorem sums_all (a : Option Addr) (n C : Nat) (f s : Nat → Int) (w : World) (h : Arg w a n f) :
    Calls Try.prog 3 #[.slice a n C, .agg (cl .u8 16 s).toArray] w fun e w' => e = .returned (.bool true) ∧ Below w.heap.size w w' := by
  by_cases h1 : 5000 < n
  · exact sums_long a n C s w h1
  · exact sums_any a n C f s w h (by omega)
end Go.Proofs.Ytgcmlnjmfdoomaa
