/-
  Proved: HeaderSeals: for every message, in whatever memory in which the program's table of fields is as its text lays it, on every schedule, the statement's function returns true: Seal answers the reference's code and the reference's bytes, in new memory, and leaves the message and what lies behind its body as they were. The table is tied to the program's text (the card).
-/
import Derived.Test.YtkmgjpeoognpjaaDoorNSl
import Derived.Test.YtkmgjpeoognpjaaDoorNGate
import Derived.Test.YtkmgjpeoognpjaaDoorMBk
import Derived.Test.YtkmgjpeoognpjaaDoorBLent
import Derived.Test.YtkmgjpeoognpjaaDoorMSeal
import Derived.Test.YtkmgjpeoognpjaaDoorMFrame
import Derived.Test.YtkmgjpeoognpjaaDoorBFrame
import Derived.Test.YtkmgjpeoognpjaaDoorTie
import Derived.Test.YtkmgjpeoognpjaaDoorCards
namespace Go.Proofs.YtkmgjpeoognpjaaDoor
section
open Go.RowKit
/-- What the first region must keep. -/
def hsS (w : World) (h : Nat → Int) (a : Option Addr) (n C : Nat) (f : Nat → Int) (W : World) : Prop := Rec19 W w.heap.size 0 (msg h a n C) ∧ Arg W a n f ∧ Tab W ∧ Below w.heap.size w W
theorem hsS.below {w : World} {h : Nat → Int} {a : Option Addr} {n C : Nat} {f : Nat → Int} {W W' : World} (s : hsS w h a n C f W) (hB : Below W.heap.size W W') : hsS w h a n C f W' :=
  ⟨s.1.below hB, s.2.1.below hB, s.2.2.1.below hB s.2.2.1.2, s.2.2.2.trans (hB.mono s.2.2.2.size)⟩
theorem hsS.held {w : World} {h : Nat → Int} {a : Option Addr} {n C : Nat} {f : Nat → Int} {W : World} (s : hsS w h a n C f W) : W.rangeAt w.heap.size 0 (hcs h) ∧ W.cell? ⟨w.heap.size, 16, none⟩ = some (.slice a n C) ∧ Hid (hsS w h a n C f W) :=
  ⟨s.1.head.1, (s.1.at 16 _ (msg_body h a n C)).1, s⟩
theorem Arg.off {w v : World} {a : Option Addr} {n c B : Nat} {f : Nat → Int} {u : World} (h : Arg u a n f) (hB : Below B u w) (hu : u.heap.size ≤ B) (hb : But c w v) (hc : u.heap.size ≤ c) : Arg v a n f :=
  h.below ((hB.mono hu).trans (hb.below hc (Nat.le_trans (Nat.le_refl _) (hB.mono hu).size)))
theorem hsS.but {w : World} {h : Nat → Int} {a : Option Addr} {n C c : Nat} {f : Nat → Int} {W W' : World} (s : hsS w h a n C f W) (hA : Arg w a n f) (hT0 : 0 < w.heap.size) (hB : But c W W') (hc : w.heap.size < c) : hsS w h a n C f W' := by
  have hb : Below w.heap.size W W' := hB.below (by omega) s.2.2.2.size
  exact ⟨s.1.but hB (by omega), hA.below (s.2.2.2.trans hb), s.2.2.1.below hb hT0, s.2.2.2.trans hb⟩
/-- What the second must. -/
def nbS (w : World) (X g : Nat) (h : Nat → Int) (a : Option Addr) (n C : Nat) (f : Nat → Int) (Lx : Lst) (ay : Option Addr) (F : Nat → Int) (W : World) : Prop := hsS w h a n C f W ∧ Rec19 W X 0 (msg h (some ⟨g, 0, none⟩) n (n + 3)) ∧ IRow W g .u8 (n + 3) (lentF n f 3) ∧ Lx.ok w.heap.size W F ∧ Arg W ay Lx.C F
theorem nbS.below {w : World} {X g : Nat} {h : Nat → Int} {a : Option Addr} {n C : Nat} {f : Nat → Int} {Lx : Lst} {ay : Option Addr} {F : Nat → Int} {W W' : World} (s : nbS w X g h a n C f Lx ay F W) (hB : Below W.heap.size W W') : nbS w X g h a n C f Lx ay F W' :=
  ⟨s.1.below hB, s.2.1.below hB, s.2.2.1.below hB, s.2.2.2.1.below hB, s.2.2.2.2.below hB⟩
theorem nbS.held {w : World} {X g : Nat} {h : Nat → Int} {a : Option Addr} {n C : Nat} {f : Nat → Int} {Lx : Lst} {ay : Option Addr} {F : Nat → Int} {W : World} (s : nbS w X g h a n C f Lx ay F W) :
    W.rangeAt w.heap.size 0 (hcs h) ∧ W.cell? ⟨w.heap.size, 16, none⟩ = some (.slice a n C) ∧ W.cell? ⟨X, 16, none⟩ = some (.slice (some ⟨g, 0, none⟩) n (n + 3)) ∧ Hid (nbS w X g h a n C f Lx ay F W) :=
  ⟨s.1.1.head.1, (s.1.1.at 16 _ (msg_body h a n C)).1, (s.2.1.at 16 _ (msg_body h _ n (n + 3))).1, s⟩
theorem nb_nil {w : World} {X g : Nat} {h : Nat → Int} {a : Option Addr} {n C : Nat} {f : Nat → Int} {W W' : World} (s : hsS w h a n C f W) (v : Rec19 W X 0 (msg h (some ⟨g, 0, none⟩) n (n + 3))) (i : IRow W g .u8 (n + 3) (lentF n f 3)) (hB : Below W.heap.size W W') : nbS w X g h a n C f ⟨none, 0, 0⟩ none (fun _ => 0) W'.drew := by
  have hB' : Below W.heap.size W W'.drew := hB.drew
  refine ⟨s.below hB', v.below hB', i.below hB', ⟨Nat.le_refl _, by show 0 ≤ 1000000; omega, fun j hj => ?_, .inl ⟨rfl, rfl⟩⟩, .inl ⟨rfl, .inl rfl⟩⟩
  have : j < 0 := hj
  omega
theorem nb_ok {w : World} {X g gx gy capy : Nat} {h hh : Nat → Int} {a : Option Addr} {n C : Nat} {f : Nat → Int} {W W' : World} (s : hsS w h a n C f W) (v : Rec19 W X 0 (msg h (some ⟨g, 0, none⟩) n (n + 3))) (i : IRow W g .u8 (n + 3) (lentF n f 3)) (x : IRow W gx .u8 (256 + n) (msgF hh n f)) (hgx : w.heap.size ≤ gx) (hn : n ≤ 1024) (hb : ∀ j, j < n → 0 ≤ f j ∧ f j < 256) (hO : Own W' W.heap.size (.slice (some ⟨gy, 0, none⟩) (256 + n) capy) (256 + n) (msgF hh n f)) (hB : Below W.heap.size W W') : nbS w X g h a n C f ⟨some ⟨gx, 0, none⟩, 256 + n, 256 + n⟩ (some ⟨gy, 0, none⟩) (msgF hh n f) W'.drew := by
  have hB' : Below W.heap.size W W'.drew := hB.drew
  exact ⟨s.below hB', v.below hB', i.below hB', ⟨Nat.le_refl _, by show 256 + n ≤ 1000000; omega, msgF_byte hh n f hb, .inr ⟨gx, rfl, hgx, x.below hB'⟩⟩, (hO.arg (by omega) (msgF_byte hh n f hb)).1⟩
theorem lent_arg {w : World} {g n : Nat} {f : Nat → Int} (h : IRow w g .u8 (n + 3) (lentF n f 3)) (hf : ∀ j, j < n → 0 ≤ f j ∧ f j < 256) : Arg w (some ⟨g, 0, none⟩) n f :=
  Arg.of ⟨fun j hj => by rw [Nat.zero_add, h.1 j (by omega), lentF_low _ _ _ _ hj], hf, h.2.2⟩
set_option maxRecDepth 100000 in
set_option maxHeartbeats 1000000 in
theorem seals_far (h : Nat → Int) (a : Option Addr) (n C : Nat) (w : World) (hn : 3000 < n) : Calls Tryd.prog 3 #[.agg (msg h a n C).toArray] w fun e w' => e = .returned (.bool true) ∧ Below w.heap.size w w' := by
  have e1 : (3000 : Int) < n := by omega
  go_enter Tryd.func3, Tryd.ntmps3
  go_wp2_with (refine wpList_box_rec rfl 29 (.tmp 0) rfl (msg h a n C) rfl w.heap.size rfl ?_; intro W0 R0 B0 z0; obtain ⟨c16, _⟩ := R0.at 16 _ (msg_body h a n C))
  go_ret
  exact ⟨rfl, B0⟩
set_option maxRecDepth 100000 in
set_option maxHeartbeats 1000000 in
theorem seals_long (h : Nat → Int) (a : Option Addr) (n C : Nat) (f : Nat → Int) (w : World) (hT : Tab w) (hA : Arg w a n f) (hn : n ≤ 3000) (hl : 1024 < n) : Calls Tryd.prog 3 #[.agg (msg h a n C).toArray] w fun e w' => e = .returned (.bool true) ∧ Below w.heap.size w w' := by
  have hT0 := hT.2
  have TT : Hid (Tab w) := hT
  have HA : Hid (Arg w a n f) := hA
  have HN : Hid (n ≤ 3000) := hn
  clear hT hA
  have e1 : ¬ (3000 : Int) < n := by omega
  go_enter Tryd.func3, Tryd.ntmps3
  go_wp2_with (refine wpList_box_rec rfl 29 (.tmp 0) rfl (msg h a n C) rfl w.heap.size rfl ?_; intro W0 R0 B0 z0; obtain ⟨c16, _⟩ := R0.at 16 _ (msg_body h a n C))
  have S0 : hsS w h a n C f W0.drew := ⟨R0, HA.out.below B0.drew, TT.out.below B0.drew hT0, B0.drew⟩
  clear R0 B0 z0 c16
  refine wp_region_noPanic ?_
  refine wp_region_held_drew (S := fun W => W.rangeAt w.heap.size 0 (hcs h) ∧ W.cell? ⟨w.heap.size, 16, none⟩ = some (.slice a n C) ∧ Hid (hsS w h a n C f W)) (by kernel_rfl) ?_ (fun hHeld => ?_)
  · exact S0.held
  refine take_at (i := 0) (v := ?_) (some 12) rfl rfl (by kernel_rfl) (by kernel_rfl) (by kernel_rfl) (fun _ _ _ h => h) (Or.inl ⟨by rfl, ?_⟩) (by assumption) ?_
  rotate_left
  · (intro w hSw; (try dsimp only at hSw); go_simp; try with_reducible rfl)
  simp only [Act.put, List.setIfInBounds_toArray, List.set_cons_zero, List.set_cons_succ]
  refine take_at (i := 1) (v := _) (some 13) rfl rfl (by kernel_rfl) (by kernel_rfl) (by kernel_rfl) (fun _ _ _ h => h) (yieldsIf_load_mid (by rfl) _ _ rfl _ _ rfl _ _ (fun _ h => h.1) Tryd.underlying26 rfl (by kernel_rfl)) (by assumption) ?_
  simp only [Act.put, List.setIfInBounds_toArray, List.set_cons_zero, List.set_cons_succ]
  refine take_at (i := 2) (v := ?_) (some 14) rfl rfl (by kernel_rfl) (by kernel_rfl) (by kernel_rfl) (fun _ _ _ h => h) (Or.inl ⟨by rfl, ?_⟩) (by assumption) ?_
  rotate_left
  · (intro w hSw; (try dsimp only at hSw); go_simp; try with_reducible rfl)
  simp only [Act.put, List.setIfInBounds_toArray, List.set_cons_zero, List.set_cons_succ]
  refine take_at (i := 3) (v := ?_) (some 15) rfl rfl (by kernel_rfl) (by kernel_rfl) (by kernel_rfl) (fun _ _ _ h => h) (Or.inl ⟨by rfl, ?_⟩) (by assumption) ?_
  rotate_left
  · (intro w hSw; (try dsimp only at hSw); go_simp; try with_reducible rfl)
  simp only [Act.put, List.setIfInBounds_toArray, List.set_cons_zero, List.set_cons_succ]
  refine wpAnyH_ready (rs := [4, 6]) (by kernel_rfl) (by simp) ?_
  refine all_call (i := 4) (some 16) 8 _ _ rfl rfl rfl (by rfl) #[.slice a n C] rfl Tryd.func8 (by kernel_rfl) (by kernel_rfl) ?_ ?_
  · refine (lent_any a n C f _ hHeld.2.2.out.2.1 (by omega)).mono ?_
    rintro e W5 ⟨g, rfl, hg, G5, hB5⟩
    have S5 := hHeld.2.2.out.below hB5
    have GH : w.heap.size < g := by have := hHeld.2.2.out.1.2.2; omega
    refine ⟨_, rfl, S5.held, fun hHeld => ?_⟩
    simp only [Act.put, List.setIfInBounds_toArray, List.set_cons_zero, List.set_cons_succ]
    refine take_at (i := 5) (v := (.agg (msg h (some ⟨g, 0, none⟩) n (n + 3)).toArray)) (some 17) rfl rfl (by kernel_rfl) (by kernel_rfl) (by kernel_rfl) (fun _ _ _ h => h) (Or.inl ⟨by rfl, fun w _ => (build_run 29 _ rfl (msg h (some ⟨g, 0, none⟩) n (n + 3)).toArray (by kernel_rfl))⟩) (by assumption) ?_
    simp only [Act.put, List.setIfInBounds_toArray, List.set_cons_zero, List.set_cons_succ]
    refine wpAnyH_ready (rs := [6]) (by kernel_rfl) (by simp) ?_
    refine all_alloc_rec (i := 6) (some 3) 29 rfl rfl rfl (by rfl) (msg (fun _ => 0) none 0 0) zeroMsg ?_ AllReadyH.nil
    intro X W6 hX R6 B6
    have S6 := S5.below (by rw [hX]; exact B6)
    have G6 := G5.below (by rw [hX]; exact B6)
    have XH : w.heap.size < X := by have := S5.1.2.2; omega
    have XG : g ≠ X := by have := G5.2.2; omega
    refine ⟨S6.held, fun hHeld => ?_⟩
    simp only [Act.put, List.setIfInBounds_toArray, List.set_cons_zero, List.set_cons_succ]
    refine wpAnyH_ready (rs := [7]) (by kernel_rfl) (by simp) ?_
    refine all_store_rec (i := 7) none 29 (.tmp 3) (.tmp 17) rfl rfl rfl (by rfl) X (msg (fun _ => 0) none 0 0) (msg h (some ⟨g, 0, none⟩) n (n + 3)) rfl rfl R6 rfl (by kernel_rfl) (msg_one _ _ _ _) ?_ AllReadyH.nil
    intro W7 V7' B7
    have S7' := S6.but HA.out hT0 B7 XH
    have G7' := G6.but B7 XG
    refine ⟨S7'.held, fun hHeld => ?_⟩
    simp only [Act.put]
    refine wpAnyH_done (by kernel_rfl) ?_ _
    refine NoPanic.normal ?_
    have S7 : Hid (hsS w h a n C f W7) := S7'
    have G7 : Hid (IRow W7 g .u8 (n + 3) (lentF n f 3)) := G7'
    have V7 : Hid (Rec19 W7 X 0 (msg h (some ⟨g, 0, none⟩) n (n + 3))) := V7'
    have HG : Hid (w.heap.size < g) := GH
    clear S7' G7' V7' B7 R6 S6 G6 XG GH hHeld
    go_wp2_with (first
      | (have _q := G7; clear _q; refine wpList_load_rec rfl 29 (.tmp 3) rfl X 0 (msg h (some ⟨g, 0, none⟩) n (n + 3)) rfl _ Tryd.underlying29 rfl (by kernel_rfl) V7.out ?_)
      | (have _q := G7; clear _q; go_at_call 9; refine (mseal_long h (some ⟨g, 0, none⟩) n (n + 3) _ hl).mono ?_; rintro e W8 ⟨rfl, hB8⟩
         have S8' : Hid (hsS w h a n C f W8) := S7.out.below hB8
         have G8 : Hid (IRow W8 g .u8 (n + 3) (lentF n f 3)) := G7.out.below hB8
         have V8 : Hid (Rec19 W8 X 0 (msg h (some ⟨g, 0, none⟩) n (n + 3))) := V7.out.below hB8
         clear S7 G7 V7 hB8)
      | (have _q := G8; clear _q; refine wpList_load_rec rfl 29 (.tmp 1) rfl w.heap.size 0 (msg h a n C) rfl _ Tryd.underlying29 rfl (by kernel_rfl) S8'.out.1 ?_)
      | (go_at_call 10; refine (nseal_long h a n C _ hl).mono ?_; rintro e W9 ⟨rfl, hB9⟩
         have S9 : Hid (nbS w X g h a n C f ⟨none, 0, 0⟩ none (fun _ => 0) W9.drew) := nb_nil S8'.out V8.out G8.out hB9
         clear hB9 S8' G8 V8))
    refine wp_region_noPanic ?_
    refine wp_region_held_drew (S := fun W => W.rangeAt w.heap.size 0 (hcs h) ∧ W.cell? ⟨w.heap.size, 16, none⟩ = some (.slice a n C) ∧ W.cell? ⟨X, 16, none⟩ = some (.slice (some ⟨g, 0, none⟩) n (n + 3)) ∧ Hid (nbS w X g h a n C f ⟨none, 0, 0⟩ none (fun _ => 0) W)) (by kernel_rfl) ?_ (fun hHeld => ?_)
    · exact S9.out.held
    refine take_at (i := 0) (v := ?_) (some 28) rfl rfl (by kernel_rfl) (by kernel_rfl) (by kernel_rfl) (fun _ _ _ h => h) (Or.inl ⟨by rfl, ?_⟩) (by assumption) ?_
    rotate_left
    · (intro w hSw; (try dsimp only at hSw); go_simp; try with_reducible rfl)
    simp only [Act.put, List.setIfInBounds_toArray, List.set_cons_zero, List.set_cons_succ]
    refine take_at (i := 1) (v := ?_) (some 29) rfl rfl (by kernel_rfl) (by kernel_rfl) (by kernel_rfl) (fun _ _ _ h => h) (Or.inl ⟨by rfl, ?_⟩) (by assumption) ?_
    rotate_left
    · (intro w hSw; (try dsimp only at hSw); go_simp; try with_reducible rfl)
    simp only [Act.put, List.setIfInBounds_toArray, List.set_cons_zero, List.set_cons_succ]
    refine call_at (i := 2) (some 30) 11 _ _ rfl rfl rfl (by rfl) (by kernel_rfl) #[.slice none 0 0, .slice none 0 0] rfl Tryd.func11 (by kernel_rfl) (by kernel_rfl) ?_
    refine (same_any none none 0 0 0 0 (fun _ => 0) (fun _ => 0) _ hHeld.2.2.2.out.2.2.2.1.arg hHeld.2.2.2.out.2.2.2.2).mono ?_; rintro e V1 ⟨rfl, hV1⟩; rw [hV1, decide_eq_true rfl]; clear hV1 V1
    refine ⟨_, rfl, hHeld, fun hHeld => ?_⟩
    simp only [Act.put, List.setIfInBounds_toArray, List.set_cons_zero, List.set_cons_succ]
    refine take_at (i := 3) (v := ?_) (some 31) rfl rfl (by kernel_rfl) (by kernel_rfl) (by kernel_rfl) (fun _ _ _ h => h) (Or.inl ⟨by rfl, ?_⟩) (by assumption) ?_
    rotate_left
    · (intro w hSw; (try dsimp only at hSw); go_simp; try with_reducible rfl)
    simp only [Act.put, List.setIfInBounds_toArray, List.set_cons_zero, List.set_cons_succ]
    refine take_at (i := 4) (v := ?_) (some 32) rfl rfl (by kernel_rfl) (by kernel_rfl) (by kernel_rfl) (fun _ _ _ h => h) (Or.inl ⟨by rfl, ?_⟩) (by assumption) ?_
    rotate_left
    · (intro w hSw; (try dsimp only at hSw); go_simp; try with_reducible rfl)
    simp only [Act.put, List.setIfInBounds_toArray, List.set_cons_zero, List.set_cons_succ]
    refine take_at (i := 5) (v := ?_) (some 33) rfl rfl (by kernel_rfl) (by kernel_rfl) (by kernel_rfl) (fun _ _ _ h => h) (Or.inl ⟨by rfl, ?_⟩) (by assumption) ?_
    rotate_left
    · (intro w hSw; (try dsimp only at hSw); go_simp; try with_reducible rfl)
    simp only [Act.put, List.setIfInBounds_toArray, List.set_cons_zero, List.set_cons_succ]
    refine take_at (i := 6) (v := ?_) (some 34) rfl rfl (by kernel_rfl) (by kernel_rfl) (by kernel_rfl) (fun _ _ _ h => h) (Or.inl ⟨by rfl, ?_⟩) (by assumption) ?_
    rotate_left
    · (intro w hSw; (try dsimp only at hSw); go_simp; try with_reducible rfl)
    simp only [Act.put, List.setIfInBounds_toArray, List.set_cons_zero, List.set_cons_succ]
    refine take_at (i := 7) (v := ?_) (some 35) rfl rfl (by kernel_rfl) (by kernel_rfl) (by kernel_rfl) (fun _ _ _ h => h) (Or.inl ⟨by rfl, ?_⟩) (by assumption) ?_
    rotate_left
    · (intro w hSw; (try dsimp only at hSw); go_simp; try with_reducible rfl)
    simp only [Act.put, List.setIfInBounds_toArray, List.set_cons_zero, List.set_cons_succ]
    refine take_at (i := 8) (v := ?_) (some 36) rfl rfl (by kernel_rfl) (by kernel_rfl) (by kernel_rfl) (fun _ _ _ h => h) (Or.inl ⟨by rfl, ?_⟩) (by assumption) ?_
    rotate_left
    · (intro w hSw; (try dsimp only at hSw); go_simp; try with_reducible rfl)
    simp only [Act.put, List.setIfInBounds_toArray, List.set_cons_zero, List.set_cons_succ]
    refine take_at (i := 9) (v := ?_) (some 37) rfl rfl (by kernel_rfl) (by kernel_rfl) (by kernel_rfl) (fun _ _ _ h => h) (Or.inl ⟨by rfl, ?_⟩) (by assumption) ?_
    rotate_left
    · (intro w hSw; (try dsimp only at hSw); go_simp; try with_reducible rfl)
    simp only [Act.put, List.setIfInBounds_toArray, List.set_cons_zero, List.set_cons_succ]
    refine take_at (i := 10) (v := ?_) (some 38) rfl rfl (by kernel_rfl) (by kernel_rfl) (by kernel_rfl) (fun _ _ _ h => h) (Or.inl ⟨by rfl, ?_⟩) (by assumption) ?_
    rotate_left
    · (intro w hSw; (try dsimp only at hSw); go_simp; try with_reducible rfl)
    simp only [Act.put, List.setIfInBounds_toArray, List.set_cons_zero, List.set_cons_succ]
    refine take_at (i := 11) (v := _) (some 39) rfl rfl (by kernel_rfl) (by kernel_rfl) (by kernel_rfl) (fun _ _ _ h => h) (yieldsIf_load_mid (by rfl) _ _ rfl _ _ rfl _ _ (fun _ h => h.1) Tryd.underlying26 rfl (by kernel_rfl)) (by assumption) ?_
    simp only [Act.put, List.setIfInBounds_toArray, List.set_cons_zero, List.set_cons_succ]
    refine take_at (i := 13) (v := ?_) (some 41) rfl rfl (by kernel_rfl) (by kernel_rfl) (by kernel_rfl) (fun _ _ _ h => h) (Or.inl ⟨by rfl, ?_⟩) (by assumption) ?_
    rotate_left
    · (intro w hSw; (try dsimp only at hSw); go_simp; try with_reducible rfl)
    simp only [Act.put, List.setIfInBounds_toArray, List.set_cons_zero, List.set_cons_succ]
    refine take_at (i := 14) (v := _) (some 42) rfl rfl (by kernel_rfl) (by kernel_rfl) (by kernel_rfl) (fun _ _ _ h => h) (yieldsIf_load_mid (by rfl) _ _ rfl _ _ rfl _ _ (fun _ h => h.1) Tryd.underlying26 rfl (by kernel_rfl)) (by assumption) ?_
    simp only [Act.put, List.setIfInBounds_toArray, List.set_cons_zero, List.set_cons_succ]
    refine call_at (i := 12) (some 40) 12 _ _ rfl rfl rfl (by rfl) (by kernel_rfl) #[.agg (hcs h).toArray] rfl Tryd.func12 (by kernel_rfl) (by kernel_rfl) ?_
    refine (check_any h _ hHeld.2.2.2.out.1.2.2.1).mono ?_; rintro e V2 ⟨rfl, hV2⟩
    refine ⟨_, rfl, (hHeld.2.2.2.out.below hV2).held, fun hHeld => ?_⟩
    simp only [Act.put, List.setIfInBounds_toArray, List.set_cons_zero, List.set_cons_succ]
    refine call_at (i := 15) (some 43) 13 _ _ rfl rfl rfl (by rfl) (by kernel_rfl) #[.agg (hcs h).toArray] rfl Tryd.func13 (by kernel_rfl) (by kernel_rfl) ?_
    refine (ncheck_any h _).mono ?_; rintro e V3 ⟨rfl, hV3⟩
    refine ⟨_, rfl, (hHeld.2.2.2.out.below hV3).held, fun hHeld => ?_⟩
    simp only [Act.put, List.setIfInBounds_toArray, List.set_cons_zero, List.set_cons_succ]
    refine take_at (i := 16) (v := ?_) (some 44) rfl rfl (by kernel_rfl) (by kernel_rfl) (by kernel_rfl) (fun _ _ _ h => h) (Or.inl ⟨by rfl, ?_⟩) (by assumption) ?_
    rotate_left
    · (intro w hSw; (try dsimp only at hSw); go_simp; try with_reducible rfl)
    simp only [Act.put, List.setIfInBounds_toArray, List.set_cons_zero, List.set_cons_succ]
    refine take_at (i := 17) (v := ?_) (some 45) rfl rfl (by kernel_rfl) (by kernel_rfl) (by kernel_rfl) (fun _ _ _ h => h) (Or.inl ⟨by rfl, ?_⟩) (by assumption) ?_
    rotate_left
    · (intro w hSw; (try dsimp only at hSw); go_simp; try with_reducible rfl)
    simp only [Act.put, List.setIfInBounds_toArray, List.set_cons_zero, List.set_cons_succ]
    refine take_at (i := 18) (v := ?_) (some 46) rfl rfl (by kernel_rfl) (by kernel_rfl) (by kernel_rfl) (fun _ _ _ h => h) (Or.inl ⟨by rfl, ?_⟩) (by assumption) ?_
    rotate_left
    · (intro w hSw; (try dsimp only at hSw); go_simp; try with_reducible rfl)
    simp only [Act.put, List.setIfInBounds_toArray, List.set_cons_zero, List.set_cons_succ]
    refine take_at (i := 19) (v := ?_) (some 47) rfl rfl (by kernel_rfl) (by kernel_rfl) (by kernel_rfl) (fun _ _ _ h => h) (Or.inl ⟨by rfl, ?_⟩) (by assumption) ?_
    rotate_left
    · (intro w hSw; (try dsimp only at hSw); go_simp; try with_reducible rfl)
    simp only [Act.put, List.setIfInBounds_toArray, List.set_cons_zero, List.set_cons_succ]
    refine take_at (i := 20) (v := ?_) (some 48) rfl rfl (by kernel_rfl) (by kernel_rfl) (by kernel_rfl) (fun _ _ _ h => h) (Or.inl ⟨by rfl, ?_⟩) (by assumption) ?_
    rotate_left
    · (intro w hSw; (try dsimp only at hSw); go_simp; try with_reducible rfl)
    simp only [Act.put, List.setIfInBounds_toArray, List.set_cons_zero, List.set_cons_succ]
    refine take_at (i := 21) (v := ?_) (some 49) rfl rfl (by kernel_rfl) (by kernel_rfl) (by kernel_rfl) (fun _ _ _ h => h) (Or.inl ⟨by rfl, ?_⟩) (by assumption) ?_
    rotate_left
    · (intro w hSw; (try dsimp only at hSw); go_simp; try with_reducible rfl)
    simp only [Act.put, List.setIfInBounds_toArray, List.set_cons_zero, List.set_cons_succ]
    refine take_at (i := 22) (v := ?_) (some 50) rfl rfl (by kernel_rfl) (by kernel_rfl) (by kernel_rfl) (fun _ _ _ h => h) (Or.inl ⟨by rfl, ?_⟩) (by assumption) ?_
    rotate_left
    · (intro w hSw; (try dsimp only at hSw); go_simp; try with_reducible rfl)
    simp only [Act.put, List.setIfInBounds_toArray, List.set_cons_zero, List.set_cons_succ]
    refine call_at (i := 23) (some 51) 14 _ _ rfl rfl rfl (by rfl) (by kernel_rfl) #[.slice (some ⟨g, 0, none⟩) n (n + 3), .slice a n C] rfl Tryd.func14 (by kernel_rfl) (by kernel_rfl) ?_
    refine (kept_any g a n C f _ hHeld.2.2.2.out.1.2.1 (by omega) hHeld.2.2.2.out.2.2.1).mono ?_; rintro e V4 ⟨rfl, hV4⟩
    refine ⟨_, rfl, (hHeld.2.2.2.out.below hV4).held, fun hHeld => ?_⟩
    simp only [Act.put, List.setIfInBounds_toArray, List.set_cons_zero, List.set_cons_succ]
    refine take_at (i := 24) (v := ?_) (some 52) rfl rfl (by kernel_rfl) (by kernel_rfl) (by kernel_rfl) (fun _ _ _ h => h) (Or.inl ⟨by rfl, ?_⟩) (by assumption) ?_
    rotate_left
    · (intro w hSw; (try dsimp only at hSw); go_simp; try with_reducible rfl)
    simp only [Act.put, List.setIfInBounds_toArray, List.set_cons_zero, List.set_cons_succ]
    refine take_at (i := 25) (v := ?_) (some 53) rfl rfl (by kernel_rfl) (by kernel_rfl) (by kernel_rfl) (fun _ _ _ h => h) (Or.inl ⟨by rfl, ?_⟩) (by assumption) ?_
    rotate_left
    · (intro w hSw; (try dsimp only at hSw); go_simp; try with_reducible rfl)
    simp only [Act.put, List.setIfInBounds_toArray, List.set_cons_zero, List.set_cons_succ]
    refine wpAnyH_done (by kernel_rfl) ?_ _
    refine NoPanic.normal ?_
    have NH := hHeld.2.2.2.out
    have c16 := hHeld.2.2.1
    have GL : g < V4.heap.size := NH.2.2.1.2.2
    have AP := two_apart w.heap.size V4 ⟨none, 0, 0⟩ ⟨some ⟨g, 0, none⟩, n, n + 3⟩ (fun _ => 0) (lentF n f 3) NH.2.2.2.1 ⟨Nat.le_add_right _ _, Nat.le_trans (Nat.add_le_add_right HN.out 3) (by decide), fun j _ => lentF_byte n f 3 HA.out.bytes j, .inr ⟨g, rfl, Nat.le_of_lt HG.out, NH.2.2.1⟩⟩ NH.1.2.2.2.size (fun p hp => by cases hp) (fun p hp => by injection hp with hp; subst hp; exact GL) (fun p q hp _ => by cases hp)
    have AP' : Hid (Calls Tryd.prog 15 #[.slice (some ⟨V4.heap.size, 0, none⟩) 2 2] (V4.alloc (.cells #[.slice none 0 0, .slice (some ⟨g, 0, none⟩) n (n + 3)] 27)) fun e w' => e = .returned (.bool true) ∧ Below w.heap.size V4 w') := AP
    have TV : Hid (Tab V4) := NH.1.2.2.1
    have EV : Hid (Below w.heap.size w V4) := NH.1.2.2.2
    clear AP NH
    go_wp2_with (first
      | (go_at_call 15; refine AP'.out.mono ?_; rintro e Z1 ⟨rfl, hZ1⟩)
      | (go_at_call 16; refine (awake_any _ (TV.out.below hZ1 hT0)).mono ?_; rintro e Z2 ⟨rfl, hZ2⟩))
    go_ret
    have EZ := EV.out.trans hZ1
    exact ⟨rfl, EZ.trans (hZ2.mono EZ.size)⟩
  · refine all_alloc_rec (i := 6) (some 3) 29 rfl rfl rfl (by rfl) (msg (fun _ => 0) none 0 0) zeroMsg ?_ AllReadyH.nil
    intro X W5 hX R5 B5
    have S5 := hHeld.2.2.out.below (by rw [hX]; exact B5)
    have XH : w.heap.size < X := by have := hHeld.2.2.out.1.2.2; omega
    refine ⟨S5.held, fun hHeld => ?_⟩
    simp only [Act.put, List.setIfInBounds_toArray, List.set_cons_zero, List.set_cons_succ]
    refine call_at (i := 4) (some 16) 8 _ _ rfl rfl rfl (by rfl) (by kernel_rfl) #[.slice a n C] rfl Tryd.func8 (by kernel_rfl) (by kernel_rfl) ?_
    refine (lent_any a n C f _ hHeld.2.2.out.2.1 (by omega)).mono ?_
    rintro e W6 ⟨g, rfl, hg, G6, hB6⟩
    have S6 := S5.below hB6
    have R6 := R5.below hB6
    have GH : w.heap.size < g := by have := S5.1.2.2; omega
    have XG : g ≠ X := by have := R5.2.2; omega
    refine ⟨_, rfl, S6.held, fun hHeld => ?_⟩
    simp only [Act.put, List.setIfInBounds_toArray, List.set_cons_zero, List.set_cons_succ]
    refine take_at (i := 5) (v := (.agg (msg h (some ⟨g, 0, none⟩) n (n + 3)).toArray)) (some 17) rfl rfl (by kernel_rfl) (by kernel_rfl) (by kernel_rfl) (fun _ _ _ h => h) (Or.inl ⟨by rfl, fun w _ => (build_run 29 _ rfl (msg h (some ⟨g, 0, none⟩) n (n + 3)).toArray (by kernel_rfl))⟩) (by assumption) ?_
    simp only [Act.put, List.setIfInBounds_toArray, List.set_cons_zero, List.set_cons_succ]
    refine wpAnyH_ready (rs := [7]) (by kernel_rfl) (by simp) ?_
    refine all_store_rec (i := 7) none 29 (.tmp 3) (.tmp 17) rfl rfl rfl (by rfl) X (msg (fun _ => 0) none 0 0) (msg h (some ⟨g, 0, none⟩) n (n + 3)) rfl rfl R6 rfl (by kernel_rfl) (msg_one _ _ _ _) ?_ AllReadyH.nil
    intro W7 V7' B7
    have S7' := S6.but HA.out hT0 B7 XH
    have G7' := G6.but B7 XG
    refine ⟨S7'.held, fun hHeld => ?_⟩
    simp only [Act.put]
    refine wpAnyH_done (by kernel_rfl) ?_ _
    refine NoPanic.normal ?_
    have S7 : Hid (hsS w h a n C f W7) := S7'
    have G7 : Hid (IRow W7 g .u8 (n + 3) (lentF n f 3)) := G7'
    have V7 : Hid (Rec19 W7 X 0 (msg h (some ⟨g, 0, none⟩) n (n + 3))) := V7'
    have HG : Hid (w.heap.size < g) := GH
    clear S7' G7' V7' B7 R6 S6 G6 XG GH hHeld
    go_wp2_with (first
      | (have _q := G7; clear _q; refine wpList_load_rec rfl 29 (.tmp 3) rfl X 0 (msg h (some ⟨g, 0, none⟩) n (n + 3)) rfl _ Tryd.underlying29 rfl (by kernel_rfl) V7.out ?_)
      | (have _q := G7; clear _q; go_at_call 9; refine (mseal_long h (some ⟨g, 0, none⟩) n (n + 3) _ hl).mono ?_; rintro e W8 ⟨rfl, hB8⟩
         have S8' : Hid (hsS w h a n C f W8) := S7.out.below hB8
         have G8 : Hid (IRow W8 g .u8 (n + 3) (lentF n f 3)) := G7.out.below hB8
         have V8 : Hid (Rec19 W8 X 0 (msg h (some ⟨g, 0, none⟩) n (n + 3))) := V7.out.below hB8
         clear S7 G7 V7 hB8)
      | (have _q := G8; clear _q; refine wpList_load_rec rfl 29 (.tmp 1) rfl w.heap.size 0 (msg h a n C) rfl _ Tryd.underlying29 rfl (by kernel_rfl) S8'.out.1 ?_)
      | (go_at_call 10; refine (nseal_long h a n C _ hl).mono ?_; rintro e W9 ⟨rfl, hB9⟩
         have S9 : Hid (nbS w X g h a n C f ⟨none, 0, 0⟩ none (fun _ => 0) W9.drew) := nb_nil S8'.out V8.out G8.out hB9
         clear hB9 S8' G8 V8))
    refine wp_region_noPanic ?_
    refine wp_region_held_drew (S := fun W => W.rangeAt w.heap.size 0 (hcs h) ∧ W.cell? ⟨w.heap.size, 16, none⟩ = some (.slice a n C) ∧ W.cell? ⟨X, 16, none⟩ = some (.slice (some ⟨g, 0, none⟩) n (n + 3)) ∧ Hid (nbS w X g h a n C f ⟨none, 0, 0⟩ none (fun _ => 0) W)) (by kernel_rfl) ?_ (fun hHeld => ?_)
    · exact S9.out.held
    refine take_at (i := 0) (v := ?_) (some 28) rfl rfl (by kernel_rfl) (by kernel_rfl) (by kernel_rfl) (fun _ _ _ h => h) (Or.inl ⟨by rfl, ?_⟩) (by assumption) ?_
    rotate_left
    · (intro w hSw; (try dsimp only at hSw); go_simp; try with_reducible rfl)
    simp only [Act.put, List.setIfInBounds_toArray, List.set_cons_zero, List.set_cons_succ]
    refine take_at (i := 1) (v := ?_) (some 29) rfl rfl (by kernel_rfl) (by kernel_rfl) (by kernel_rfl) (fun _ _ _ h => h) (Or.inl ⟨by rfl, ?_⟩) (by assumption) ?_
    rotate_left
    · (intro w hSw; (try dsimp only at hSw); go_simp; try with_reducible rfl)
    simp only [Act.put, List.setIfInBounds_toArray, List.set_cons_zero, List.set_cons_succ]
    refine call_at (i := 2) (some 30) 11 _ _ rfl rfl rfl (by rfl) (by kernel_rfl) #[.slice none 0 0, .slice none 0 0] rfl Tryd.func11 (by kernel_rfl) (by kernel_rfl) ?_
    refine (same_any none none 0 0 0 0 (fun _ => 0) (fun _ => 0) _ hHeld.2.2.2.out.2.2.2.1.arg hHeld.2.2.2.out.2.2.2.2).mono ?_; rintro e V1 ⟨rfl, hV1⟩; rw [hV1, decide_eq_true rfl]; clear hV1 V1
    refine ⟨_, rfl, hHeld, fun hHeld => ?_⟩
    simp only [Act.put, List.setIfInBounds_toArray, List.set_cons_zero, List.set_cons_succ]
    refine take_at (i := 3) (v := ?_) (some 31) rfl rfl (by kernel_rfl) (by kernel_rfl) (by kernel_rfl) (fun _ _ _ h => h) (Or.inl ⟨by rfl, ?_⟩) (by assumption) ?_
    rotate_left
    · (intro w hSw; (try dsimp only at hSw); go_simp; try with_reducible rfl)
    simp only [Act.put, List.setIfInBounds_toArray, List.set_cons_zero, List.set_cons_succ]
    refine take_at (i := 4) (v := ?_) (some 32) rfl rfl (by kernel_rfl) (by kernel_rfl) (by kernel_rfl) (fun _ _ _ h => h) (Or.inl ⟨by rfl, ?_⟩) (by assumption) ?_
    rotate_left
    · (intro w hSw; (try dsimp only at hSw); go_simp; try with_reducible rfl)
    simp only [Act.put, List.setIfInBounds_toArray, List.set_cons_zero, List.set_cons_succ]
    refine take_at (i := 5) (v := ?_) (some 33) rfl rfl (by kernel_rfl) (by kernel_rfl) (by kernel_rfl) (fun _ _ _ h => h) (Or.inl ⟨by rfl, ?_⟩) (by assumption) ?_
    rotate_left
    · (intro w hSw; (try dsimp only at hSw); go_simp; try with_reducible rfl)
    simp only [Act.put, List.setIfInBounds_toArray, List.set_cons_zero, List.set_cons_succ]
    refine take_at (i := 6) (v := ?_) (some 34) rfl rfl (by kernel_rfl) (by kernel_rfl) (by kernel_rfl) (fun _ _ _ h => h) (Or.inl ⟨by rfl, ?_⟩) (by assumption) ?_
    rotate_left
    · (intro w hSw; (try dsimp only at hSw); go_simp; try with_reducible rfl)
    simp only [Act.put, List.setIfInBounds_toArray, List.set_cons_zero, List.set_cons_succ]
    refine take_at (i := 7) (v := ?_) (some 35) rfl rfl (by kernel_rfl) (by kernel_rfl) (by kernel_rfl) (fun _ _ _ h => h) (Or.inl ⟨by rfl, ?_⟩) (by assumption) ?_
    rotate_left
    · (intro w hSw; (try dsimp only at hSw); go_simp; try with_reducible rfl)
    simp only [Act.put, List.setIfInBounds_toArray, List.set_cons_zero, List.set_cons_succ]
    refine take_at (i := 8) (v := ?_) (some 36) rfl rfl (by kernel_rfl) (by kernel_rfl) (by kernel_rfl) (fun _ _ _ h => h) (Or.inl ⟨by rfl, ?_⟩) (by assumption) ?_
    rotate_left
    · (intro w hSw; (try dsimp only at hSw); go_simp; try with_reducible rfl)
    simp only [Act.put, List.setIfInBounds_toArray, List.set_cons_zero, List.set_cons_succ]
    refine take_at (i := 9) (v := ?_) (some 37) rfl rfl (by kernel_rfl) (by kernel_rfl) (by kernel_rfl) (fun _ _ _ h => h) (Or.inl ⟨by rfl, ?_⟩) (by assumption) ?_
    rotate_left
    · (intro w hSw; (try dsimp only at hSw); go_simp; try with_reducible rfl)
    simp only [Act.put, List.setIfInBounds_toArray, List.set_cons_zero, List.set_cons_succ]
    refine take_at (i := 10) (v := ?_) (some 38) rfl rfl (by kernel_rfl) (by kernel_rfl) (by kernel_rfl) (fun _ _ _ h => h) (Or.inl ⟨by rfl, ?_⟩) (by assumption) ?_
    rotate_left
    · (intro w hSw; (try dsimp only at hSw); go_simp; try with_reducible rfl)
    simp only [Act.put, List.setIfInBounds_toArray, List.set_cons_zero, List.set_cons_succ]
    refine take_at (i := 11) (v := _) (some 39) rfl rfl (by kernel_rfl) (by kernel_rfl) (by kernel_rfl) (fun _ _ _ h => h) (yieldsIf_load_mid (by rfl) _ _ rfl _ _ rfl _ _ (fun _ h => h.1) Tryd.underlying26 rfl (by kernel_rfl)) (by assumption) ?_
    simp only [Act.put, List.setIfInBounds_toArray, List.set_cons_zero, List.set_cons_succ]
    refine take_at (i := 13) (v := ?_) (some 41) rfl rfl (by kernel_rfl) (by kernel_rfl) (by kernel_rfl) (fun _ _ _ h => h) (Or.inl ⟨by rfl, ?_⟩) (by assumption) ?_
    rotate_left
    · (intro w hSw; (try dsimp only at hSw); go_simp; try with_reducible rfl)
    simp only [Act.put, List.setIfInBounds_toArray, List.set_cons_zero, List.set_cons_succ]
    refine take_at (i := 14) (v := _) (some 42) rfl rfl (by kernel_rfl) (by kernel_rfl) (by kernel_rfl) (fun _ _ _ h => h) (yieldsIf_load_mid (by rfl) _ _ rfl _ _ rfl _ _ (fun _ h => h.1) Tryd.underlying26 rfl (by kernel_rfl)) (by assumption) ?_
    simp only [Act.put, List.setIfInBounds_toArray, List.set_cons_zero, List.set_cons_succ]
    refine call_at (i := 12) (some 40) 12 _ _ rfl rfl rfl (by rfl) (by kernel_rfl) #[.agg (hcs h).toArray] rfl Tryd.func12 (by kernel_rfl) (by kernel_rfl) ?_
    refine (check_any h _ hHeld.2.2.2.out.1.2.2.1).mono ?_; rintro e V2 ⟨rfl, hV2⟩
    refine ⟨_, rfl, (hHeld.2.2.2.out.below hV2).held, fun hHeld => ?_⟩
    simp only [Act.put, List.setIfInBounds_toArray, List.set_cons_zero, List.set_cons_succ]
    refine call_at (i := 15) (some 43) 13 _ _ rfl rfl rfl (by rfl) (by kernel_rfl) #[.agg (hcs h).toArray] rfl Tryd.func13 (by kernel_rfl) (by kernel_rfl) ?_
    refine (ncheck_any h _).mono ?_; rintro e V3 ⟨rfl, hV3⟩
    refine ⟨_, rfl, (hHeld.2.2.2.out.below hV3).held, fun hHeld => ?_⟩
    simp only [Act.put, List.setIfInBounds_toArray, List.set_cons_zero, List.set_cons_succ]
    refine take_at (i := 16) (v := ?_) (some 44) rfl rfl (by kernel_rfl) (by kernel_rfl) (by kernel_rfl) (fun _ _ _ h => h) (Or.inl ⟨by rfl, ?_⟩) (by assumption) ?_
    rotate_left
    · (intro w hSw; (try dsimp only at hSw); go_simp; try with_reducible rfl)
    simp only [Act.put, List.setIfInBounds_toArray, List.set_cons_zero, List.set_cons_succ]
    refine take_at (i := 17) (v := ?_) (some 45) rfl rfl (by kernel_rfl) (by kernel_rfl) (by kernel_rfl) (fun _ _ _ h => h) (Or.inl ⟨by rfl, ?_⟩) (by assumption) ?_
    rotate_left
    · (intro w hSw; (try dsimp only at hSw); go_simp; try with_reducible rfl)
    simp only [Act.put, List.setIfInBounds_toArray, List.set_cons_zero, List.set_cons_succ]
    refine take_at (i := 18) (v := ?_) (some 46) rfl rfl (by kernel_rfl) (by kernel_rfl) (by kernel_rfl) (fun _ _ _ h => h) (Or.inl ⟨by rfl, ?_⟩) (by assumption) ?_
    rotate_left
    · (intro w hSw; (try dsimp only at hSw); go_simp; try with_reducible rfl)
    simp only [Act.put, List.setIfInBounds_toArray, List.set_cons_zero, List.set_cons_succ]
    refine take_at (i := 19) (v := ?_) (some 47) rfl rfl (by kernel_rfl) (by kernel_rfl) (by kernel_rfl) (fun _ _ _ h => h) (Or.inl ⟨by rfl, ?_⟩) (by assumption) ?_
    rotate_left
    · (intro w hSw; (try dsimp only at hSw); go_simp; try with_reducible rfl)
    simp only [Act.put, List.setIfInBounds_toArray, List.set_cons_zero, List.set_cons_succ]
    refine take_at (i := 20) (v := ?_) (some 48) rfl rfl (by kernel_rfl) (by kernel_rfl) (by kernel_rfl) (fun _ _ _ h => h) (Or.inl ⟨by rfl, ?_⟩) (by assumption) ?_
    rotate_left
    · (intro w hSw; (try dsimp only at hSw); go_simp; try with_reducible rfl)
    simp only [Act.put, List.setIfInBounds_toArray, List.set_cons_zero, List.set_cons_succ]
    refine take_at (i := 21) (v := ?_) (some 49) rfl rfl (by kernel_rfl) (by kernel_rfl) (by kernel_rfl) (fun _ _ _ h => h) (Or.inl ⟨by rfl, ?_⟩) (by assumption) ?_
    rotate_left
    · (intro w hSw; (try dsimp only at hSw); go_simp; try with_reducible rfl)
    simp only [Act.put, List.setIfInBounds_toArray, List.set_cons_zero, List.set_cons_succ]
    refine take_at (i := 22) (v := ?_) (some 50) rfl rfl (by kernel_rfl) (by kernel_rfl) (by kernel_rfl) (fun _ _ _ h => h) (Or.inl ⟨by rfl, ?_⟩) (by assumption) ?_
    rotate_left
    · (intro w hSw; (try dsimp only at hSw); go_simp; try with_reducible rfl)
    simp only [Act.put, List.setIfInBounds_toArray, List.set_cons_zero, List.set_cons_succ]
    refine call_at (i := 23) (some 51) 14 _ _ rfl rfl rfl (by rfl) (by kernel_rfl) #[.slice (some ⟨g, 0, none⟩) n (n + 3), .slice a n C] rfl Tryd.func14 (by kernel_rfl) (by kernel_rfl) ?_
    refine (kept_any g a n C f _ hHeld.2.2.2.out.1.2.1 (by omega) hHeld.2.2.2.out.2.2.1).mono ?_; rintro e V4 ⟨rfl, hV4⟩
    refine ⟨_, rfl, (hHeld.2.2.2.out.below hV4).held, fun hHeld => ?_⟩
    simp only [Act.put, List.setIfInBounds_toArray, List.set_cons_zero, List.set_cons_succ]
    refine take_at (i := 24) (v := ?_) (some 52) rfl rfl (by kernel_rfl) (by kernel_rfl) (by kernel_rfl) (fun _ _ _ h => h) (Or.inl ⟨by rfl, ?_⟩) (by assumption) ?_
    rotate_left
    · (intro w hSw; (try dsimp only at hSw); go_simp; try with_reducible rfl)
    simp only [Act.put, List.setIfInBounds_toArray, List.set_cons_zero, List.set_cons_succ]
    refine take_at (i := 25) (v := ?_) (some 53) rfl rfl (by kernel_rfl) (by kernel_rfl) (by kernel_rfl) (fun _ _ _ h => h) (Or.inl ⟨by rfl, ?_⟩) (by assumption) ?_
    rotate_left
    · (intro w hSw; (try dsimp only at hSw); go_simp; try with_reducible rfl)
    simp only [Act.put, List.setIfInBounds_toArray, List.set_cons_zero, List.set_cons_succ]
    refine wpAnyH_done (by kernel_rfl) ?_ _
    refine NoPanic.normal ?_
    have NH := hHeld.2.2.2.out
    have c16 := hHeld.2.2.1
    have GL : g < V4.heap.size := NH.2.2.1.2.2
    have AP := two_apart w.heap.size V4 ⟨none, 0, 0⟩ ⟨some ⟨g, 0, none⟩, n, n + 3⟩ (fun _ => 0) (lentF n f 3) NH.2.2.2.1 ⟨Nat.le_add_right _ _, Nat.le_trans (Nat.add_le_add_right HN.out 3) (by decide), fun j _ => lentF_byte n f 3 HA.out.bytes j, .inr ⟨g, rfl, Nat.le_of_lt HG.out, NH.2.2.1⟩⟩ NH.1.2.2.2.size (fun p hp => by cases hp) (fun p hp => by injection hp with hp; subst hp; exact GL) (fun p q hp _ => by cases hp)
    have AP' : Hid (Calls Tryd.prog 15 #[.slice (some ⟨V4.heap.size, 0, none⟩) 2 2] (V4.alloc (.cells #[.slice none 0 0, .slice (some ⟨g, 0, none⟩) n (n + 3)] 27)) fun e w' => e = .returned (.bool true) ∧ Below w.heap.size V4 w') := AP
    have TV : Hid (Tab V4) := NH.1.2.2.1
    have EV : Hid (Below w.heap.size w V4) := NH.1.2.2.2
    clear AP NH
    go_wp2_with (first
      | (go_at_call 15; refine AP'.out.mono ?_; rintro e Z1 ⟨rfl, hZ1⟩)
      | (go_at_call 16; refine (awake_any _ (TV.out.below hZ1 hT0)).mono ?_; rintro e Z2 ⟨rfl, hZ2⟩))
    go_ret
    have EZ := EV.out.trans hZ1
    exact ⟨rfl, EZ.trans (hZ2.mono EZ.size)⟩
set_option maxRecDepth 100000 in
set_option maxHeartbeats 1000000 in
theorem seals_arg (h : Nat → Int) (a : Option Addr) (n C : Nat) (f : Nat → Int) (w : World) (hT : Tab w) (hA : Arg w a n f) (hn : n ≤ 3000) (hl : ¬ 1024 < n) (ho : okH (upd h 2 (n : Nat)) = false) : Calls Tryd.prog 3 #[.agg (msg h a n C).toArray] w fun e w' => e = .returned (.bool true) ∧ Below w.heap.size w w' := by
  have hT0 := hT.2
  have TT : Hid (Tab w) := hT
  have HA : Hid (Arg w a n f) := hA
  have HN : Hid (n ≤ 3000) := hn
  have OK : Hid (okH (upd h 2 (n : Nat)) = false) := ho
  clear ho
  clear hT hA
  have e1 : ¬ (3000 : Int) < n := by omega
  go_enter Tryd.func3, Tryd.ntmps3
  go_wp2_with (refine wpList_box_rec rfl 29 (.tmp 0) rfl (msg h a n C) rfl w.heap.size rfl ?_; intro W0 R0 B0 z0; obtain ⟨c16, _⟩ := R0.at 16 _ (msg_body h a n C))
  have S0 : hsS w h a n C f W0.drew := ⟨R0, HA.out.below B0.drew, TT.out.below B0.drew hT0, B0.drew⟩
  clear R0 B0 z0 c16
  refine wp_region_noPanic ?_
  refine wp_region_held_drew (S := fun W => W.rangeAt w.heap.size 0 (hcs h) ∧ W.cell? ⟨w.heap.size, 16, none⟩ = some (.slice a n C) ∧ Hid (hsS w h a n C f W)) (by kernel_rfl) ?_ (fun hHeld => ?_)
  · exact S0.held
  refine take_at (i := 0) (v := ?_) (some 12) rfl rfl (by kernel_rfl) (by kernel_rfl) (by kernel_rfl) (fun _ _ _ h => h) (Or.inl ⟨by rfl, ?_⟩) (by assumption) ?_
  rotate_left
  · (intro w hSw; (try dsimp only at hSw); go_simp; try with_reducible rfl)
  simp only [Act.put, List.setIfInBounds_toArray, List.set_cons_zero, List.set_cons_succ]
  refine take_at (i := 1) (v := _) (some 13) rfl rfl (by kernel_rfl) (by kernel_rfl) (by kernel_rfl) (fun _ _ _ h => h) (yieldsIf_load_mid (by rfl) _ _ rfl _ _ rfl _ _ (fun _ h => h.1) Tryd.underlying26 rfl (by kernel_rfl)) (by assumption) ?_
  simp only [Act.put, List.setIfInBounds_toArray, List.set_cons_zero, List.set_cons_succ]
  refine take_at (i := 2) (v := ?_) (some 14) rfl rfl (by kernel_rfl) (by kernel_rfl) (by kernel_rfl) (fun _ _ _ h => h) (Or.inl ⟨by rfl, ?_⟩) (by assumption) ?_
  rotate_left
  · (intro w hSw; (try dsimp only at hSw); go_simp; try with_reducible rfl)
  simp only [Act.put, List.setIfInBounds_toArray, List.set_cons_zero, List.set_cons_succ]
  refine take_at (i := 3) (v := ?_) (some 15) rfl rfl (by kernel_rfl) (by kernel_rfl) (by kernel_rfl) (fun _ _ _ h => h) (Or.inl ⟨by rfl, ?_⟩) (by assumption) ?_
  rotate_left
  · (intro w hSw; (try dsimp only at hSw); go_simp; try with_reducible rfl)
  simp only [Act.put, List.setIfInBounds_toArray, List.set_cons_zero, List.set_cons_succ]
  refine wpAnyH_ready (rs := [4, 6]) (by kernel_rfl) (by simp) ?_
  refine all_call (i := 4) (some 16) 8 _ _ rfl rfl rfl (by rfl) #[.slice a n C] rfl Tryd.func8 (by kernel_rfl) (by kernel_rfl) ?_ ?_
  · refine (lent_any a n C f _ hHeld.2.2.out.2.1 (by omega)).mono ?_
    rintro e W5 ⟨g, rfl, hg, G5, hB5⟩
    have S5 := hHeld.2.2.out.below hB5
    have GH : w.heap.size < g := by have := hHeld.2.2.out.1.2.2; omega
    refine ⟨_, rfl, S5.held, fun hHeld => ?_⟩
    simp only [Act.put, List.setIfInBounds_toArray, List.set_cons_zero, List.set_cons_succ]
    refine take_at (i := 5) (v := (.agg (msg h (some ⟨g, 0, none⟩) n (n + 3)).toArray)) (some 17) rfl rfl (by kernel_rfl) (by kernel_rfl) (by kernel_rfl) (fun _ _ _ h => h) (Or.inl ⟨by rfl, fun w _ => (build_run 29 _ rfl (msg h (some ⟨g, 0, none⟩) n (n + 3)).toArray (by kernel_rfl))⟩) (by assumption) ?_
    simp only [Act.put, List.setIfInBounds_toArray, List.set_cons_zero, List.set_cons_succ]
    refine wpAnyH_ready (rs := [6]) (by kernel_rfl) (by simp) ?_
    refine all_alloc_rec (i := 6) (some 3) 29 rfl rfl rfl (by rfl) (msg (fun _ => 0) none 0 0) zeroMsg ?_ AllReadyH.nil
    intro X W6 hX R6 B6
    have S6 := S5.below (by rw [hX]; exact B6)
    have G6 := G5.below (by rw [hX]; exact B6)
    have XH : w.heap.size < X := by have := S5.1.2.2; omega
    have XG : g ≠ X := by have := G5.2.2; omega
    refine ⟨S6.held, fun hHeld => ?_⟩
    simp only [Act.put, List.setIfInBounds_toArray, List.set_cons_zero, List.set_cons_succ]
    refine wpAnyH_ready (rs := [7]) (by kernel_rfl) (by simp) ?_
    refine all_store_rec (i := 7) none 29 (.tmp 3) (.tmp 17) rfl rfl rfl (by rfl) X (msg (fun _ => 0) none 0 0) (msg h (some ⟨g, 0, none⟩) n (n + 3)) rfl rfl R6 rfl (by kernel_rfl) (msg_one _ _ _ _) ?_ AllReadyH.nil
    intro W7 V7' B7
    have S7' := S6.but HA.out hT0 B7 XH
    have G7' := G6.but B7 XG
    refine ⟨S7'.held, fun hHeld => ?_⟩
    simp only [Act.put]
    refine wpAnyH_done (by kernel_rfl) ?_ _
    refine NoPanic.normal ?_
    have S7 : Hid (hsS w h a n C f W7) := S7'
    have G7 : Hid (IRow W7 g .u8 (n + 3) (lentF n f 3)) := G7'
    have V7 : Hid (Rec19 W7 X 0 (msg h (some ⟨g, 0, none⟩) n (n + 3))) := V7'
    have HG : Hid (w.heap.size < g) := GH
    clear S7' G7' V7' B7 R6 S6 G6 XG GH hHeld
    go_wp2_with (first
      | (have _q := G7; clear _q; refine wpList_load_rec rfl 29 (.tmp 3) rfl X 0 (msg h (some ⟨g, 0, none⟩) n (n + 3)) rfl _ Tryd.underlying29 rfl (by kernel_rfl) V7.out ?_)
      | (have _q := G7; clear _q; go_at_call 9; refine (mseal_arg h (some ⟨g, 0, none⟩) n (n + 3) _ (by omega) S7.out.2.2.1 OK.out).mono ?_; rintro e W8 ⟨rfl, hB8⟩
         have S8' : Hid (hsS w h a n C f W8) := S7.out.below hB8
         have G8 : Hid (IRow W8 g .u8 (n + 3) (lentF n f 3)) := G7.out.below hB8
         have V8 : Hid (Rec19 W8 X 0 (msg h (some ⟨g, 0, none⟩) n (n + 3))) := V7.out.below hB8
         clear S7 G7 V7 hB8)
      | (have _q := G8; clear _q; refine wpList_load_rec rfl 29 (.tmp 1) rfl w.heap.size 0 (msg h a n C) rfl _ Tryd.underlying29 rfl (by kernel_rfl) S8'.out.1 ?_)
      | (go_at_call 10; refine (nseal_arg h a n C _ (by omega) OK.out).mono ?_; rintro e W9 ⟨rfl, hB9⟩
         have S9 : Hid (nbS w X g h a n C f ⟨none, 0, 0⟩ none (fun _ => 0) W9.drew) := nb_nil S8'.out V8.out G8.out hB9
         clear hB9 S8' G8 V8))
    refine wp_region_noPanic ?_
    refine wp_region_held_drew (S := fun W => W.rangeAt w.heap.size 0 (hcs h) ∧ W.cell? ⟨w.heap.size, 16, none⟩ = some (.slice a n C) ∧ W.cell? ⟨X, 16, none⟩ = some (.slice (some ⟨g, 0, none⟩) n (n + 3)) ∧ Hid (nbS w X g h a n C f ⟨none, 0, 0⟩ none (fun _ => 0) W)) (by kernel_rfl) ?_ (fun hHeld => ?_)
    · exact S9.out.held
    refine take_at (i := 0) (v := ?_) (some 28) rfl rfl (by kernel_rfl) (by kernel_rfl) (by kernel_rfl) (fun _ _ _ h => h) (Or.inl ⟨by rfl, ?_⟩) (by assumption) ?_
    rotate_left
    · (intro w hSw; (try dsimp only at hSw); go_simp; try with_reducible rfl)
    simp only [Act.put, List.setIfInBounds_toArray, List.set_cons_zero, List.set_cons_succ]
    refine take_at (i := 1) (v := ?_) (some 29) rfl rfl (by kernel_rfl) (by kernel_rfl) (by kernel_rfl) (fun _ _ _ h => h) (Or.inl ⟨by rfl, ?_⟩) (by assumption) ?_
    rotate_left
    · (intro w hSw; (try dsimp only at hSw); go_simp; try with_reducible rfl)
    simp only [Act.put, List.setIfInBounds_toArray, List.set_cons_zero, List.set_cons_succ]
    refine call_at (i := 2) (some 30) 11 _ _ rfl rfl rfl (by rfl) (by kernel_rfl) #[.slice none 0 0, .slice none 0 0] rfl Tryd.func11 (by kernel_rfl) (by kernel_rfl) ?_
    refine (same_any none none 0 0 0 0 (fun _ => 0) (fun _ => 0) _ hHeld.2.2.2.out.2.2.2.1.arg hHeld.2.2.2.out.2.2.2.2).mono ?_; rintro e V1 ⟨rfl, hV1⟩; rw [hV1, decide_eq_true rfl]; clear hV1 V1
    refine ⟨_, rfl, hHeld, fun hHeld => ?_⟩
    simp only [Act.put, List.setIfInBounds_toArray, List.set_cons_zero, List.set_cons_succ]
    refine take_at (i := 3) (v := ?_) (some 31) rfl rfl (by kernel_rfl) (by kernel_rfl) (by kernel_rfl) (fun _ _ _ h => h) (Or.inl ⟨by rfl, ?_⟩) (by assumption) ?_
    rotate_left
    · (intro w hSw; (try dsimp only at hSw); go_simp; try with_reducible rfl)
    simp only [Act.put, List.setIfInBounds_toArray, List.set_cons_zero, List.set_cons_succ]
    refine take_at (i := 4) (v := ?_) (some 32) rfl rfl (by kernel_rfl) (by kernel_rfl) (by kernel_rfl) (fun _ _ _ h => h) (Or.inl ⟨by rfl, ?_⟩) (by assumption) ?_
    rotate_left
    · (intro w hSw; (try dsimp only at hSw); go_simp; try with_reducible rfl)
    simp only [Act.put, List.setIfInBounds_toArray, List.set_cons_zero, List.set_cons_succ]
    refine take_at (i := 5) (v := ?_) (some 33) rfl rfl (by kernel_rfl) (by kernel_rfl) (by kernel_rfl) (fun _ _ _ h => h) (Or.inl ⟨by rfl, ?_⟩) (by assumption) ?_
    rotate_left
    · (intro w hSw; (try dsimp only at hSw); go_simp; try with_reducible rfl)
    simp only [Act.put, List.setIfInBounds_toArray, List.set_cons_zero, List.set_cons_succ]
    refine take_at (i := 6) (v := ?_) (some 34) rfl rfl (by kernel_rfl) (by kernel_rfl) (by kernel_rfl) (fun _ _ _ h => h) (Or.inl ⟨by rfl, ?_⟩) (by assumption) ?_
    rotate_left
    · (intro w hSw; (try dsimp only at hSw); go_simp; try with_reducible rfl)
    simp only [Act.put, List.setIfInBounds_toArray, List.set_cons_zero, List.set_cons_succ]
    refine take_at (i := 7) (v := ?_) (some 35) rfl rfl (by kernel_rfl) (by kernel_rfl) (by kernel_rfl) (fun _ _ _ h => h) (Or.inl ⟨by rfl, ?_⟩) (by assumption) ?_
    rotate_left
    · (intro w hSw; (try dsimp only at hSw); go_simp; try with_reducible rfl)
    simp only [Act.put, List.setIfInBounds_toArray, List.set_cons_zero, List.set_cons_succ]
    refine take_at (i := 8) (v := ?_) (some 36) rfl rfl (by kernel_rfl) (by kernel_rfl) (by kernel_rfl) (fun _ _ _ h => h) (Or.inl ⟨by rfl, ?_⟩) (by assumption) ?_
    rotate_left
    · (intro w hSw; (try dsimp only at hSw); go_simp; try with_reducible rfl)
    simp only [Act.put, List.setIfInBounds_toArray, List.set_cons_zero, List.set_cons_succ]
    refine take_at (i := 9) (v := ?_) (some 37) rfl rfl (by kernel_rfl) (by kernel_rfl) (by kernel_rfl) (fun _ _ _ h => h) (Or.inl ⟨by rfl, ?_⟩) (by assumption) ?_
    rotate_left
    · (intro w hSw; (try dsimp only at hSw); go_simp; try with_reducible rfl)
    simp only [Act.put, List.setIfInBounds_toArray, List.set_cons_zero, List.set_cons_succ]
    refine take_at (i := 10) (v := ?_) (some 38) rfl rfl (by kernel_rfl) (by kernel_rfl) (by kernel_rfl) (fun _ _ _ h => h) (Or.inl ⟨by rfl, ?_⟩) (by assumption) ?_
    rotate_left
    · (intro w hSw; (try dsimp only at hSw); go_simp; try with_reducible rfl)
    simp only [Act.put, List.setIfInBounds_toArray, List.set_cons_zero, List.set_cons_succ]
    refine take_at (i := 11) (v := _) (some 39) rfl rfl (by kernel_rfl) (by kernel_rfl) (by kernel_rfl) (fun _ _ _ h => h) (yieldsIf_load_mid (by rfl) _ _ rfl _ _ rfl _ _ (fun _ h => h.1) Tryd.underlying26 rfl (by kernel_rfl)) (by assumption) ?_
    simp only [Act.put, List.setIfInBounds_toArray, List.set_cons_zero, List.set_cons_succ]
    refine take_at (i := 13) (v := ?_) (some 41) rfl rfl (by kernel_rfl) (by kernel_rfl) (by kernel_rfl) (fun _ _ _ h => h) (Or.inl ⟨by rfl, ?_⟩) (by assumption) ?_
    rotate_left
    · (intro w hSw; (try dsimp only at hSw); go_simp; try with_reducible rfl)
    simp only [Act.put, List.setIfInBounds_toArray, List.set_cons_zero, List.set_cons_succ]
    refine take_at (i := 14) (v := _) (some 42) rfl rfl (by kernel_rfl) (by kernel_rfl) (by kernel_rfl) (fun _ _ _ h => h) (yieldsIf_load_mid (by rfl) _ _ rfl _ _ rfl _ _ (fun _ h => h.1) Tryd.underlying26 rfl (by kernel_rfl)) (by assumption) ?_
    simp only [Act.put, List.setIfInBounds_toArray, List.set_cons_zero, List.set_cons_succ]
    refine call_at (i := 12) (some 40) 12 _ _ rfl rfl rfl (by rfl) (by kernel_rfl) #[.agg (hcs h).toArray] rfl Tryd.func12 (by kernel_rfl) (by kernel_rfl) ?_
    refine (check_any h _ hHeld.2.2.2.out.1.2.2.1).mono ?_; rintro e V2 ⟨rfl, hV2⟩
    refine ⟨_, rfl, (hHeld.2.2.2.out.below hV2).held, fun hHeld => ?_⟩
    simp only [Act.put, List.setIfInBounds_toArray, List.set_cons_zero, List.set_cons_succ]
    refine call_at (i := 15) (some 43) 13 _ _ rfl rfl rfl (by rfl) (by kernel_rfl) #[.agg (hcs h).toArray] rfl Tryd.func13 (by kernel_rfl) (by kernel_rfl) ?_
    refine (ncheck_any h _).mono ?_; rintro e V3 ⟨rfl, hV3⟩
    refine ⟨_, rfl, (hHeld.2.2.2.out.below hV3).held, fun hHeld => ?_⟩
    simp only [Act.put, List.setIfInBounds_toArray, List.set_cons_zero, List.set_cons_succ]
    refine take_at (i := 16) (v := ?_) (some 44) rfl rfl (by kernel_rfl) (by kernel_rfl) (by kernel_rfl) (fun _ _ _ h => h) (Or.inl ⟨by rfl, ?_⟩) (by assumption) ?_
    rotate_left
    · (intro w hSw; (try dsimp only at hSw); go_simp; try with_reducible rfl)
    simp only [Act.put, List.setIfInBounds_toArray, List.set_cons_zero, List.set_cons_succ]
    refine take_at (i := 17) (v := ?_) (some 45) rfl rfl (by kernel_rfl) (by kernel_rfl) (by kernel_rfl) (fun _ _ _ h => h) (Or.inl ⟨by rfl, ?_⟩) (by assumption) ?_
    rotate_left
    · (intro w hSw; (try dsimp only at hSw); go_simp; try with_reducible rfl)
    simp only [Act.put, List.setIfInBounds_toArray, List.set_cons_zero, List.set_cons_succ]
    refine take_at (i := 18) (v := ?_) (some 46) rfl rfl (by kernel_rfl) (by kernel_rfl) (by kernel_rfl) (fun _ _ _ h => h) (Or.inl ⟨by rfl, ?_⟩) (by assumption) ?_
    rotate_left
    · (intro w hSw; (try dsimp only at hSw); go_simp; try with_reducible rfl)
    simp only [Act.put, List.setIfInBounds_toArray, List.set_cons_zero, List.set_cons_succ]
    refine take_at (i := 19) (v := ?_) (some 47) rfl rfl (by kernel_rfl) (by kernel_rfl) (by kernel_rfl) (fun _ _ _ h => h) (Or.inl ⟨by rfl, ?_⟩) (by assumption) ?_
    rotate_left
    · (intro w hSw; (try dsimp only at hSw); go_simp; try with_reducible rfl)
    simp only [Act.put, List.setIfInBounds_toArray, List.set_cons_zero, List.set_cons_succ]
    refine take_at (i := 20) (v := ?_) (some 48) rfl rfl (by kernel_rfl) (by kernel_rfl) (by kernel_rfl) (fun _ _ _ h => h) (Or.inl ⟨by rfl, ?_⟩) (by assumption) ?_
    rotate_left
    · (intro w hSw; (try dsimp only at hSw); go_simp; try with_reducible rfl)
    simp only [Act.put, List.setIfInBounds_toArray, List.set_cons_zero, List.set_cons_succ]
    refine take_at (i := 21) (v := ?_) (some 49) rfl rfl (by kernel_rfl) (by kernel_rfl) (by kernel_rfl) (fun _ _ _ h => h) (Or.inl ⟨by rfl, ?_⟩) (by assumption) ?_
    rotate_left
    · (intro w hSw; (try dsimp only at hSw); go_simp; try with_reducible rfl)
    simp only [Act.put, List.setIfInBounds_toArray, List.set_cons_zero, List.set_cons_succ]
    refine take_at (i := 22) (v := ?_) (some 50) rfl rfl (by kernel_rfl) (by kernel_rfl) (by kernel_rfl) (fun _ _ _ h => h) (Or.inl ⟨by rfl, ?_⟩) (by assumption) ?_
    rotate_left
    · (intro w hSw; (try dsimp only at hSw); go_simp; try with_reducible rfl)
    simp only [Act.put, List.setIfInBounds_toArray, List.set_cons_zero, List.set_cons_succ]
    refine call_at (i := 23) (some 51) 14 _ _ rfl rfl rfl (by rfl) (by kernel_rfl) #[.slice (some ⟨g, 0, none⟩) n (n + 3), .slice a n C] rfl Tryd.func14 (by kernel_rfl) (by kernel_rfl) ?_
    refine (kept_any g a n C f _ hHeld.2.2.2.out.1.2.1 (by omega) hHeld.2.2.2.out.2.2.1).mono ?_; rintro e V4 ⟨rfl, hV4⟩
    refine ⟨_, rfl, (hHeld.2.2.2.out.below hV4).held, fun hHeld => ?_⟩
    simp only [Act.put, List.setIfInBounds_toArray, List.set_cons_zero, List.set_cons_succ]
    refine take_at (i := 24) (v := ?_) (some 52) rfl rfl (by kernel_rfl) (by kernel_rfl) (by kernel_rfl) (fun _ _ _ h => h) (Or.inl ⟨by rfl, ?_⟩) (by assumption) ?_
    rotate_left
    · (intro w hSw; (try dsimp only at hSw); go_simp; try with_reducible rfl)
    simp only [Act.put, List.setIfInBounds_toArray, List.set_cons_zero, List.set_cons_succ]
    refine take_at (i := 25) (v := ?_) (some 53) rfl rfl (by kernel_rfl) (by kernel_rfl) (by kernel_rfl) (fun _ _ _ h => h) (Or.inl ⟨by rfl, ?_⟩) (by assumption) ?_
    rotate_left
    · (intro w hSw; (try dsimp only at hSw); go_simp; try with_reducible rfl)
    simp only [Act.put, List.setIfInBounds_toArray, List.set_cons_zero, List.set_cons_succ]
    refine wpAnyH_done (by kernel_rfl) ?_ _
    refine NoPanic.normal ?_
    have NH := hHeld.2.2.2.out
    have c16 := hHeld.2.2.1
    have GL : g < V4.heap.size := NH.2.2.1.2.2
    have AP := two_apart w.heap.size V4 ⟨none, 0, 0⟩ ⟨some ⟨g, 0, none⟩, n, n + 3⟩ (fun _ => 0) (lentF n f 3) NH.2.2.2.1 ⟨Nat.le_add_right _ _, Nat.le_trans (Nat.add_le_add_right HN.out 3) (by decide), fun j _ => lentF_byte n f 3 HA.out.bytes j, .inr ⟨g, rfl, Nat.le_of_lt HG.out, NH.2.2.1⟩⟩ NH.1.2.2.2.size (fun p hp => by cases hp) (fun p hp => by injection hp with hp; subst hp; exact GL) (fun p q hp _ => by cases hp)
    have AP' : Hid (Calls Tryd.prog 15 #[.slice (some ⟨V4.heap.size, 0, none⟩) 2 2] (V4.alloc (.cells #[.slice none 0 0, .slice (some ⟨g, 0, none⟩) n (n + 3)] 27)) fun e w' => e = .returned (.bool true) ∧ Below w.heap.size V4 w') := AP
    have TV : Hid (Tab V4) := NH.1.2.2.1
    have EV : Hid (Below w.heap.size w V4) := NH.1.2.2.2
    clear AP NH
    go_wp2_with (first
      | (go_at_call 15; refine AP'.out.mono ?_; rintro e Z1 ⟨rfl, hZ1⟩)
      | (go_at_call 16; refine (awake_any _ (TV.out.below hZ1 hT0)).mono ?_; rintro e Z2 ⟨rfl, hZ2⟩))
    go_ret
    have EZ := EV.out.trans hZ1
    exact ⟨rfl, EZ.trans (hZ2.mono EZ.size)⟩
  · refine all_alloc_rec (i := 6) (some 3) 29 rfl rfl rfl (by rfl) (msg (fun _ => 0) none 0 0) zeroMsg ?_ AllReadyH.nil
    intro X W5 hX R5 B5
    have S5 := hHeld.2.2.out.below (by rw [hX]; exact B5)
    have XH : w.heap.size < X := by have := hHeld.2.2.out.1.2.2; omega
    refine ⟨S5.held, fun hHeld => ?_⟩
    simp only [Act.put, List.setIfInBounds_toArray, List.set_cons_zero, List.set_cons_succ]
    refine call_at (i := 4) (some 16) 8 _ _ rfl rfl rfl (by rfl) (by kernel_rfl) #[.slice a n C] rfl Tryd.func8 (by kernel_rfl) (by kernel_rfl) ?_
    refine (lent_any a n C f _ hHeld.2.2.out.2.1 (by omega)).mono ?_
    rintro e W6 ⟨g, rfl, hg, G6, hB6⟩
    have S6 := S5.below hB6
    have R6 := R5.below hB6
    have GH : w.heap.size < g := by have := S5.1.2.2; omega
    have XG : g ≠ X := by have := R5.2.2; omega
    refine ⟨_, rfl, S6.held, fun hHeld => ?_⟩
    simp only [Act.put, List.setIfInBounds_toArray, List.set_cons_zero, List.set_cons_succ]
    refine take_at (i := 5) (v := (.agg (msg h (some ⟨g, 0, none⟩) n (n + 3)).toArray)) (some 17) rfl rfl (by kernel_rfl) (by kernel_rfl) (by kernel_rfl) (fun _ _ _ h => h) (Or.inl ⟨by rfl, fun w _ => (build_run 29 _ rfl (msg h (some ⟨g, 0, none⟩) n (n + 3)).toArray (by kernel_rfl))⟩) (by assumption) ?_
    simp only [Act.put, List.setIfInBounds_toArray, List.set_cons_zero, List.set_cons_succ]
    refine wpAnyH_ready (rs := [7]) (by kernel_rfl) (by simp) ?_
    refine all_store_rec (i := 7) none 29 (.tmp 3) (.tmp 17) rfl rfl rfl (by rfl) X (msg (fun _ => 0) none 0 0) (msg h (some ⟨g, 0, none⟩) n (n + 3)) rfl rfl R6 rfl (by kernel_rfl) (msg_one _ _ _ _) ?_ AllReadyH.nil
    intro W7 V7' B7
    have S7' := S6.but HA.out hT0 B7 XH
    have G7' := G6.but B7 XG
    refine ⟨S7'.held, fun hHeld => ?_⟩
    simp only [Act.put]
    refine wpAnyH_done (by kernel_rfl) ?_ _
    refine NoPanic.normal ?_
    have S7 : Hid (hsS w h a n C f W7) := S7'
    have G7 : Hid (IRow W7 g .u8 (n + 3) (lentF n f 3)) := G7'
    have V7 : Hid (Rec19 W7 X 0 (msg h (some ⟨g, 0, none⟩) n (n + 3))) := V7'
    have HG : Hid (w.heap.size < g) := GH
    clear S7' G7' V7' B7 R6 S6 G6 XG GH hHeld
    go_wp2_with (first
      | (have _q := G7; clear _q; refine wpList_load_rec rfl 29 (.tmp 3) rfl X 0 (msg h (some ⟨g, 0, none⟩) n (n + 3)) rfl _ Tryd.underlying29 rfl (by kernel_rfl) V7.out ?_)
      | (have _q := G7; clear _q; go_at_call 9; refine (mseal_arg h (some ⟨g, 0, none⟩) n (n + 3) _ (by omega) S7.out.2.2.1 OK.out).mono ?_; rintro e W8 ⟨rfl, hB8⟩
         have S8' : Hid (hsS w h a n C f W8) := S7.out.below hB8
         have G8 : Hid (IRow W8 g .u8 (n + 3) (lentF n f 3)) := G7.out.below hB8
         have V8 : Hid (Rec19 W8 X 0 (msg h (some ⟨g, 0, none⟩) n (n + 3))) := V7.out.below hB8
         clear S7 G7 V7 hB8)
      | (have _q := G8; clear _q; refine wpList_load_rec rfl 29 (.tmp 1) rfl w.heap.size 0 (msg h a n C) rfl _ Tryd.underlying29 rfl (by kernel_rfl) S8'.out.1 ?_)
      | (go_at_call 10; refine (nseal_arg h a n C _ (by omega) OK.out).mono ?_; rintro e W9 ⟨rfl, hB9⟩
         have S9 : Hid (nbS w X g h a n C f ⟨none, 0, 0⟩ none (fun _ => 0) W9.drew) := nb_nil S8'.out V8.out G8.out hB9
         clear hB9 S8' G8 V8))
    refine wp_region_noPanic ?_
    refine wp_region_held_drew (S := fun W => W.rangeAt w.heap.size 0 (hcs h) ∧ W.cell? ⟨w.heap.size, 16, none⟩ = some (.slice a n C) ∧ W.cell? ⟨X, 16, none⟩ = some (.slice (some ⟨g, 0, none⟩) n (n + 3)) ∧ Hid (nbS w X g h a n C f ⟨none, 0, 0⟩ none (fun _ => 0) W)) (by kernel_rfl) ?_ (fun hHeld => ?_)
    · exact S9.out.held
    refine take_at (i := 0) (v := ?_) (some 28) rfl rfl (by kernel_rfl) (by kernel_rfl) (by kernel_rfl) (fun _ _ _ h => h) (Or.inl ⟨by rfl, ?_⟩) (by assumption) ?_
    rotate_left
    · (intro w hSw; (try dsimp only at hSw); go_simp; try with_reducible rfl)
    simp only [Act.put, List.setIfInBounds_toArray, List.set_cons_zero, List.set_cons_succ]
    refine take_at (i := 1) (v := ?_) (some 29) rfl rfl (by kernel_rfl) (by kernel_rfl) (by kernel_rfl) (fun _ _ _ h => h) (Or.inl ⟨by rfl, ?_⟩) (by assumption) ?_
    rotate_left
    · (intro w hSw; (try dsimp only at hSw); go_simp; try with_reducible rfl)
    simp only [Act.put, List.setIfInBounds_toArray, List.set_cons_zero, List.set_cons_succ]
    refine call_at (i := 2) (some 30) 11 _ _ rfl rfl rfl (by rfl) (by kernel_rfl) #[.slice none 0 0, .slice none 0 0] rfl Tryd.func11 (by kernel_rfl) (by kernel_rfl) ?_
    refine (same_any none none 0 0 0 0 (fun _ => 0) (fun _ => 0) _ hHeld.2.2.2.out.2.2.2.1.arg hHeld.2.2.2.out.2.2.2.2).mono ?_; rintro e V1 ⟨rfl, hV1⟩; rw [hV1, decide_eq_true rfl]; clear hV1 V1
    refine ⟨_, rfl, hHeld, fun hHeld => ?_⟩
    simp only [Act.put, List.setIfInBounds_toArray, List.set_cons_zero, List.set_cons_succ]
    refine take_at (i := 3) (v := ?_) (some 31) rfl rfl (by kernel_rfl) (by kernel_rfl) (by kernel_rfl) (fun _ _ _ h => h) (Or.inl ⟨by rfl, ?_⟩) (by assumption) ?_
    rotate_left
    · (intro w hSw; (try dsimp only at hSw); go_simp; try with_reducible rfl)
    simp only [Act.put, List.setIfInBounds_toArray, List.set_cons_zero, List.set_cons_succ]
    refine take_at (i := 4) (v := ?_) (some 32) rfl rfl (by kernel_rfl) (by kernel_rfl) (by kernel_rfl) (fun _ _ _ h => h) (Or.inl ⟨by rfl, ?_⟩) (by assumption) ?_
    rotate_left
    · (intro w hSw; (try dsimp only at hSw); go_simp; try with_reducible rfl)
    simp only [Act.put, List.setIfInBounds_toArray, List.set_cons_zero, List.set_cons_succ]
    refine take_at (i := 5) (v := ?_) (some 33) rfl rfl (by kernel_rfl) (by kernel_rfl) (by kernel_rfl) (fun _ _ _ h => h) (Or.inl ⟨by rfl, ?_⟩) (by assumption) ?_
    rotate_left
    · (intro w hSw; (try dsimp only at hSw); go_simp; try with_reducible rfl)
    simp only [Act.put, List.setIfInBounds_toArray, List.set_cons_zero, List.set_cons_succ]
    refine take_at (i := 6) (v := ?_) (some 34) rfl rfl (by kernel_rfl) (by kernel_rfl) (by kernel_rfl) (fun _ _ _ h => h) (Or.inl ⟨by rfl, ?_⟩) (by assumption) ?_
    rotate_left
    · (intro w hSw; (try dsimp only at hSw); go_simp; try with_reducible rfl)
    simp only [Act.put, List.setIfInBounds_toArray, List.set_cons_zero, List.set_cons_succ]
    refine take_at (i := 7) (v := ?_) (some 35) rfl rfl (by kernel_rfl) (by kernel_rfl) (by kernel_rfl) (fun _ _ _ h => h) (Or.inl ⟨by rfl, ?_⟩) (by assumption) ?_
    rotate_left
    · (intro w hSw; (try dsimp only at hSw); go_simp; try with_reducible rfl)
    simp only [Act.put, List.setIfInBounds_toArray, List.set_cons_zero, List.set_cons_succ]
    refine take_at (i := 8) (v := ?_) (some 36) rfl rfl (by kernel_rfl) (by kernel_rfl) (by kernel_rfl) (fun _ _ _ h => h) (Or.inl ⟨by rfl, ?_⟩) (by assumption) ?_
    rotate_left
    · (intro w hSw; (try dsimp only at hSw); go_simp; try with_reducible rfl)
    simp only [Act.put, List.setIfInBounds_toArray, List.set_cons_zero, List.set_cons_succ]
    refine take_at (i := 9) (v := ?_) (some 37) rfl rfl (by kernel_rfl) (by kernel_rfl) (by kernel_rfl) (fun _ _ _ h => h) (Or.inl ⟨by rfl, ?_⟩) (by assumption) ?_
    rotate_left
    · (intro w hSw; (try dsimp only at hSw); go_simp; try with_reducible rfl)
    simp only [Act.put, List.setIfInBounds_toArray, List.set_cons_zero, List.set_cons_succ]
    refine take_at (i := 10) (v := ?_) (some 38) rfl rfl (by kernel_rfl) (by kernel_rfl) (by kernel_rfl) (fun _ _ _ h => h) (Or.inl ⟨by rfl, ?_⟩) (by assumption) ?_
    rotate_left
    · (intro w hSw; (try dsimp only at hSw); go_simp; try with_reducible rfl)
    simp only [Act.put, List.setIfInBounds_toArray, List.set_cons_zero, List.set_cons_succ]
    refine take_at (i := 11) (v := _) (some 39) rfl rfl (by kernel_rfl) (by kernel_rfl) (by kernel_rfl) (fun _ _ _ h => h) (yieldsIf_load_mid (by rfl) _ _ rfl _ _ rfl _ _ (fun _ h => h.1) Tryd.underlying26 rfl (by kernel_rfl)) (by assumption) ?_
    simp only [Act.put, List.setIfInBounds_toArray, List.set_cons_zero, List.set_cons_succ]
    refine take_at (i := 13) (v := ?_) (some 41) rfl rfl (by kernel_rfl) (by kernel_rfl) (by kernel_rfl) (fun _ _ _ h => h) (Or.inl ⟨by rfl, ?_⟩) (by assumption) ?_
    rotate_left
    · (intro w hSw; (try dsimp only at hSw); go_simp; try with_reducible rfl)
    simp only [Act.put, List.setIfInBounds_toArray, List.set_cons_zero, List.set_cons_succ]
    refine take_at (i := 14) (v := _) (some 42) rfl rfl (by kernel_rfl) (by kernel_rfl) (by kernel_rfl) (fun _ _ _ h => h) (yieldsIf_load_mid (by rfl) _ _ rfl _ _ rfl _ _ (fun _ h => h.1) Tryd.underlying26 rfl (by kernel_rfl)) (by assumption) ?_
    simp only [Act.put, List.setIfInBounds_toArray, List.set_cons_zero, List.set_cons_succ]
    refine call_at (i := 12) (some 40) 12 _ _ rfl rfl rfl (by rfl) (by kernel_rfl) #[.agg (hcs h).toArray] rfl Tryd.func12 (by kernel_rfl) (by kernel_rfl) ?_
    refine (check_any h _ hHeld.2.2.2.out.1.2.2.1).mono ?_; rintro e V2 ⟨rfl, hV2⟩
    refine ⟨_, rfl, (hHeld.2.2.2.out.below hV2).held, fun hHeld => ?_⟩
    simp only [Act.put, List.setIfInBounds_toArray, List.set_cons_zero, List.set_cons_succ]
    refine call_at (i := 15) (some 43) 13 _ _ rfl rfl rfl (by rfl) (by kernel_rfl) #[.agg (hcs h).toArray] rfl Tryd.func13 (by kernel_rfl) (by kernel_rfl) ?_
    refine (ncheck_any h _).mono ?_; rintro e V3 ⟨rfl, hV3⟩
    refine ⟨_, rfl, (hHeld.2.2.2.out.below hV3).held, fun hHeld => ?_⟩
    simp only [Act.put, List.setIfInBounds_toArray, List.set_cons_zero, List.set_cons_succ]
    refine take_at (i := 16) (v := ?_) (some 44) rfl rfl (by kernel_rfl) (by kernel_rfl) (by kernel_rfl) (fun _ _ _ h => h) (Or.inl ⟨by rfl, ?_⟩) (by assumption) ?_
    rotate_left
    · (intro w hSw; (try dsimp only at hSw); go_simp; try with_reducible rfl)
    simp only [Act.put, List.setIfInBounds_toArray, List.set_cons_zero, List.set_cons_succ]
    refine take_at (i := 17) (v := ?_) (some 45) rfl rfl (by kernel_rfl) (by kernel_rfl) (by kernel_rfl) (fun _ _ _ h => h) (Or.inl ⟨by rfl, ?_⟩) (by assumption) ?_
    rotate_left
    · (intro w hSw; (try dsimp only at hSw); go_simp; try with_reducible rfl)
    simp only [Act.put, List.setIfInBounds_toArray, List.set_cons_zero, List.set_cons_succ]
    refine take_at (i := 18) (v := ?_) (some 46) rfl rfl (by kernel_rfl) (by kernel_rfl) (by kernel_rfl) (fun _ _ _ h => h) (Or.inl ⟨by rfl, ?_⟩) (by assumption) ?_
    rotate_left
    · (intro w hSw; (try dsimp only at hSw); go_simp; try with_reducible rfl)
    simp only [Act.put, List.setIfInBounds_toArray, List.set_cons_zero, List.set_cons_succ]
    refine take_at (i := 19) (v := ?_) (some 47) rfl rfl (by kernel_rfl) (by kernel_rfl) (by kernel_rfl) (fun _ _ _ h => h) (Or.inl ⟨by rfl, ?_⟩) (by assumption) ?_
    rotate_left
    · (intro w hSw; (try dsimp only at hSw); go_simp; try with_reducible rfl)
    simp only [Act.put, List.setIfInBounds_toArray, List.set_cons_zero, List.set_cons_succ]
    refine take_at (i := 20) (v := ?_) (some 48) rfl rfl (by kernel_rfl) (by kernel_rfl) (by kernel_rfl) (fun _ _ _ h => h) (Or.inl ⟨by rfl, ?_⟩) (by assumption) ?_
    rotate_left
    · (intro w hSw; (try dsimp only at hSw); go_simp; try with_reducible rfl)
    simp only [Act.put, List.setIfInBounds_toArray, List.set_cons_zero, List.set_cons_succ]
    refine take_at (i := 21) (v := ?_) (some 49) rfl rfl (by kernel_rfl) (by kernel_rfl) (by kernel_rfl) (fun _ _ _ h => h) (Or.inl ⟨by rfl, ?_⟩) (by assumption) ?_
    rotate_left
    · (intro w hSw; (try dsimp only at hSw); go_simp; try with_reducible rfl)
    simp only [Act.put, List.setIfInBounds_toArray, List.set_cons_zero, List.set_cons_succ]
    refine take_at (i := 22) (v := ?_) (some 50) rfl rfl (by kernel_rfl) (by kernel_rfl) (by kernel_rfl) (fun _ _ _ h => h) (Or.inl ⟨by rfl, ?_⟩) (by assumption) ?_
    rotate_left
    · (intro w hSw; (try dsimp only at hSw); go_simp; try with_reducible rfl)
    simp only [Act.put, List.setIfInBounds_toArray, List.set_cons_zero, List.set_cons_succ]
    refine call_at (i := 23) (some 51) 14 _ _ rfl rfl rfl (by rfl) (by kernel_rfl) #[.slice (some ⟨g, 0, none⟩) n (n + 3), .slice a n C] rfl Tryd.func14 (by kernel_rfl) (by kernel_rfl) ?_
    refine (kept_any g a n C f _ hHeld.2.2.2.out.1.2.1 (by omega) hHeld.2.2.2.out.2.2.1).mono ?_; rintro e V4 ⟨rfl, hV4⟩
    refine ⟨_, rfl, (hHeld.2.2.2.out.below hV4).held, fun hHeld => ?_⟩
    simp only [Act.put, List.setIfInBounds_toArray, List.set_cons_zero, List.set_cons_succ]
    refine take_at (i := 24) (v := ?_) (some 52) rfl rfl (by kernel_rfl) (by kernel_rfl) (by kernel_rfl) (fun _ _ _ h => h) (Or.inl ⟨by rfl, ?_⟩) (by assumption) ?_
    rotate_left
    · (intro w hSw; (try dsimp only at hSw); go_simp; try with_reducible rfl)
    simp only [Act.put, List.setIfInBounds_toArray, List.set_cons_zero, List.set_cons_succ]
    refine take_at (i := 25) (v := ?_) (some 53) rfl rfl (by kernel_rfl) (by kernel_rfl) (by kernel_rfl) (fun _ _ _ h => h) (Or.inl ⟨by rfl, ?_⟩) (by assumption) ?_
    rotate_left
    · (intro w hSw; (try dsimp only at hSw); go_simp; try with_reducible rfl)
    simp only [Act.put, List.setIfInBounds_toArray, List.set_cons_zero, List.set_cons_succ]
    refine wpAnyH_done (by kernel_rfl) ?_ _
    refine NoPanic.normal ?_
    have NH := hHeld.2.2.2.out
    have c16 := hHeld.2.2.1
    have GL : g < V4.heap.size := NH.2.2.1.2.2
    have AP := two_apart w.heap.size V4 ⟨none, 0, 0⟩ ⟨some ⟨g, 0, none⟩, n, n + 3⟩ (fun _ => 0) (lentF n f 3) NH.2.2.2.1 ⟨Nat.le_add_right _ _, Nat.le_trans (Nat.add_le_add_right HN.out 3) (by decide), fun j _ => lentF_byte n f 3 HA.out.bytes j, .inr ⟨g, rfl, Nat.le_of_lt HG.out, NH.2.2.1⟩⟩ NH.1.2.2.2.size (fun p hp => by cases hp) (fun p hp => by injection hp with hp; subst hp; exact GL) (fun p q hp _ => by cases hp)
    have AP' : Hid (Calls Tryd.prog 15 #[.slice (some ⟨V4.heap.size, 0, none⟩) 2 2] (V4.alloc (.cells #[.slice none 0 0, .slice (some ⟨g, 0, none⟩) n (n + 3)] 27)) fun e w' => e = .returned (.bool true) ∧ Below w.heap.size V4 w') := AP
    have TV : Hid (Tab V4) := NH.1.2.2.1
    have EV : Hid (Below w.heap.size w V4) := NH.1.2.2.2
    clear AP NH
    go_wp2_with (first
      | (go_at_call 15; refine AP'.out.mono ?_; rintro e Z1 ⟨rfl, hZ1⟩)
      | (go_at_call 16; refine (awake_any _ (TV.out.below hZ1 hT0)).mono ?_; rintro e Z2 ⟨rfl, hZ2⟩))
    go_ret
    have EZ := EV.out.trans hZ1
    exact ⟨rfl, EZ.trans (hZ2.mono EZ.size)⟩
set_option maxRecDepth 100000 in
set_option maxHeartbeats 1000000 in
theorem seals_ok (h : Nat → Int) (a : Option Addr) (n C : Nat) (f : Nat → Int) (w : World) (hT : Tab w) (hA : Arg w a n f) (hn : n ≤ 3000) (hl : ¬ 1024 < n) (ho : okH (upd h 2 (n : Nat)) = true) (hW : Words h) : Calls Tryd.prog 3 #[.agg (msg h a n C).toArray] w fun e w' => e = .returned (.bool true) ∧ Below w.heap.size w w' := by
  have hT0 := hT.2
  have TT : Hid (Tab w) := hT
  have HA : Hid (Arg w a n f) := hA
  have HN : Hid (n ≤ 3000) := hn
  have OK : Hid (okH (upd h 2 (n : Nat)) = true) := ho
  have HW : Hid (Words h) := hW
  obtain ⟨hh, hhe⟩ : ∃ x, upd h 2 ((n : Nat) : Int) = x := ⟨_, rfl⟩
  have HH : Hid (upd h 2 ((n : Nat) : Int) = hh) := hhe
  clear ho hhe hW
  clear hT hA
  have e1 : ¬ (3000 : Int) < n := by omega
  go_enter Tryd.func3, Tryd.ntmps3
  go_wp2_with (refine wpList_box_rec rfl 29 (.tmp 0) rfl (msg h a n C) rfl w.heap.size rfl ?_; intro W0 R0 B0 z0; obtain ⟨c16, _⟩ := R0.at 16 _ (msg_body h a n C))
  have S0 : hsS w h a n C f W0.drew := ⟨R0, HA.out.below B0.drew, TT.out.below B0.drew hT0, B0.drew⟩
  clear R0 B0 z0 c16
  refine wp_region_noPanic ?_
  refine wp_region_held_drew (S := fun W => W.rangeAt w.heap.size 0 (hcs h) ∧ W.cell? ⟨w.heap.size, 16, none⟩ = some (.slice a n C) ∧ Hid (hsS w h a n C f W)) (by kernel_rfl) ?_ (fun hHeld => ?_)
  · exact S0.held
  refine take_at (i := 0) (v := ?_) (some 12) rfl rfl (by kernel_rfl) (by kernel_rfl) (by kernel_rfl) (fun _ _ _ h => h) (Or.inl ⟨by rfl, ?_⟩) (by assumption) ?_
  rotate_left
  · (intro w hSw; (try dsimp only at hSw); go_simp; try with_reducible rfl)
  simp only [Act.put, List.setIfInBounds_toArray, List.set_cons_zero, List.set_cons_succ]
  refine take_at (i := 1) (v := _) (some 13) rfl rfl (by kernel_rfl) (by kernel_rfl) (by kernel_rfl) (fun _ _ _ h => h) (yieldsIf_load_mid (by rfl) _ _ rfl _ _ rfl _ _ (fun _ h => h.1) Tryd.underlying26 rfl (by kernel_rfl)) (by assumption) ?_
  simp only [Act.put, List.setIfInBounds_toArray, List.set_cons_zero, List.set_cons_succ]
  refine take_at (i := 2) (v := ?_) (some 14) rfl rfl (by kernel_rfl) (by kernel_rfl) (by kernel_rfl) (fun _ _ _ h => h) (Or.inl ⟨by rfl, ?_⟩) (by assumption) ?_
  rotate_left
  · (intro w hSw; (try dsimp only at hSw); go_simp; try with_reducible rfl)
  simp only [Act.put, List.setIfInBounds_toArray, List.set_cons_zero, List.set_cons_succ]
  refine take_at (i := 3) (v := ?_) (some 15) rfl rfl (by kernel_rfl) (by kernel_rfl) (by kernel_rfl) (fun _ _ _ h => h) (Or.inl ⟨by rfl, ?_⟩) (by assumption) ?_
  rotate_left
  · (intro w hSw; (try dsimp only at hSw); go_simp; try with_reducible rfl)
  simp only [Act.put, List.setIfInBounds_toArray, List.set_cons_zero, List.set_cons_succ]
  refine wpAnyH_ready (rs := [4, 6]) (by kernel_rfl) (by simp) ?_
  refine all_call (i := 4) (some 16) 8 _ _ rfl rfl rfl (by rfl) #[.slice a n C] rfl Tryd.func8 (by kernel_rfl) (by kernel_rfl) ?_ ?_
  · refine (lent_any a n C f _ hHeld.2.2.out.2.1 (by omega)).mono ?_
    rintro e W5 ⟨g, rfl, hg, G5, hB5⟩
    have S5 := hHeld.2.2.out.below hB5
    have GH : w.heap.size < g := by have := hHeld.2.2.out.1.2.2; omega
    refine ⟨_, rfl, S5.held, fun hHeld => ?_⟩
    simp only [Act.put, List.setIfInBounds_toArray, List.set_cons_zero, List.set_cons_succ]
    refine take_at (i := 5) (v := (.agg (msg h (some ⟨g, 0, none⟩) n (n + 3)).toArray)) (some 17) rfl rfl (by kernel_rfl) (by kernel_rfl) (by kernel_rfl) (fun _ _ _ h => h) (Or.inl ⟨by rfl, fun w _ => (build_run 29 _ rfl (msg h (some ⟨g, 0, none⟩) n (n + 3)).toArray (by kernel_rfl))⟩) (by assumption) ?_
    simp only [Act.put, List.setIfInBounds_toArray, List.set_cons_zero, List.set_cons_succ]
    refine wpAnyH_ready (rs := [6]) (by kernel_rfl) (by simp) ?_
    refine all_alloc_rec (i := 6) (some 3) 29 rfl rfl rfl (by rfl) (msg (fun _ => 0) none 0 0) zeroMsg ?_ AllReadyH.nil
    intro X W6 hX R6 B6
    have S6 := S5.below (by rw [hX]; exact B6)
    have G6 := G5.below (by rw [hX]; exact B6)
    have XH : w.heap.size < X := by have := S5.1.2.2; omega
    have XG : g ≠ X := by have := G5.2.2; omega
    refine ⟨S6.held, fun hHeld => ?_⟩
    simp only [Act.put, List.setIfInBounds_toArray, List.set_cons_zero, List.set_cons_succ]
    refine wpAnyH_ready (rs := [7]) (by kernel_rfl) (by simp) ?_
    refine all_store_rec (i := 7) none 29 (.tmp 3) (.tmp 17) rfl rfl rfl (by rfl) X (msg (fun _ => 0) none 0 0) (msg h (some ⟨g, 0, none⟩) n (n + 3)) rfl rfl R6 rfl (by kernel_rfl) (msg_one _ _ _ _) ?_ AllReadyH.nil
    intro W7 V7' B7
    have S7' := S6.but HA.out hT0 B7 XH
    have G7' := G6.but B7 XG
    refine ⟨S7'.held, fun hHeld => ?_⟩
    simp only [Act.put]
    refine wpAnyH_done (by kernel_rfl) ?_ _
    refine NoPanic.normal ?_
    have S7 : Hid (hsS w h a n C f W7) := S7'
    have G7 : Hid (IRow W7 g .u8 (n + 3) (lentF n f 3)) := G7'
    have V7 : Hid (Rec19 W7 X 0 (msg h (some ⟨g, 0, none⟩) n (n + 3))) := V7'
    have HG : Hid (w.heap.size < g) := GH
    clear S7' G7' V7' B7 R6 S6 G6 XG GH hHeld
    go_wp2_with (first
      | (have _q := G7; clear _q; refine wpList_load_rec rfl 29 (.tmp 3) rfl X 0 (msg h (some ⟨g, 0, none⟩) n (n + 3)) rfl _ Tryd.underlying29 rfl (by kernel_rfl) V7.out ?_)
      | (have _q := G7; clear _q; go_at_call 9; refine (mseal_ok h (some ⟨g, 0, none⟩) n (n + 3) f _ (by omega) S7.out.2.2.1 (lent_arg G7.out HA.out.bytes) (by omega) HW.out OK.out).mono ?_; rintro e W8 ⟨gx, rfl, hgx, hX8, hB8⟩
         rw [HH.out] at hX8
         have S8' : Hid (hsS w h a n C f W8) := S7.out.below hB8
         have G8 : Hid (IRow W8 g .u8 (n + 3) (lentF n f 3)) := G7.out.below hB8
         have V8 : Hid (Rec19 W8 X 0 (msg h (some ⟨g, 0, none⟩) n (n + 3))) := V7.out.below hB8
         have X8 : Hid (IRow W8 gx .u8 (256 + n) (msgF hh n f)) := hX8
         have D8 : Hid (g ≠ gx ∧ w.heap.size ≤ gx) := ⟨by have := G7.out.2.2; omega, by have := S7.out.2.2.2.size; omega⟩
         clear S7 G7 V7 hB8 hX8 hgx)
      | (have _q := G8; clear _q; refine wpList_load_rec rfl 29 (.tmp 1) rfl w.heap.size 0 (msg h a n C) rfl _ Tryd.underlying29 rfl (by kernel_rfl) S8'.out.1 ?_)
      | (go_at_call 10; refine (nseal_ok h a n C f _ (by omega) S8'.out.2.1 HW.out OK.out).mono ?_; rintro e W9 ⟨y9, rfl, hO9, hB9⟩
         rw [HH.out] at hO9
         obtain ⟨gy, capy, rfl, hO9'⟩ := hO9.cells' (by omega)
         have S9 : Hid (nbS w X g h a n C f ⟨some ⟨gx, 0, none⟩, 256 + n, 256 + n⟩ (some ⟨gy, 0, none⟩) (msgF hh n f) W9.drew) := nb_ok S8'.out V8.out G8.out X8.out D8.out.2 (by omega) HA.out.bytes hO9' hB9
         clear hO9 hO9' hB9 S8' G8 V8 X8))
    refine wp_region_noPanic ?_
    refine wp_region_held_drew (S := fun W => W.rangeAt w.heap.size 0 (hcs h) ∧ W.cell? ⟨w.heap.size, 16, none⟩ = some (.slice a n C) ∧ W.cell? ⟨X, 16, none⟩ = some (.slice (some ⟨g, 0, none⟩) n (n + 3)) ∧ Hid (nbS w X g h a n C f ⟨some ⟨gx, 0, none⟩, (256 + n), (256 + n)⟩ (some ⟨gy, 0, none⟩) (msgF hh n f) W)) (by kernel_rfl) ?_ (fun hHeld => ?_)
    · exact S9.out.held
    refine take_at (i := 0) (v := ?_) (some 28) rfl rfl (by kernel_rfl) (by kernel_rfl) (by kernel_rfl) (fun _ _ _ h => h) (Or.inl ⟨by rfl, ?_⟩) (by assumption) ?_
    rotate_left
    · (intro w hSw; (try dsimp only at hSw); go_simp; try with_reducible rfl)
    simp only [Act.put, List.setIfInBounds_toArray, List.set_cons_zero, List.set_cons_succ]
    refine take_at (i := 1) (v := ?_) (some 29) rfl rfl (by kernel_rfl) (by kernel_rfl) (by kernel_rfl) (fun _ _ _ h => h) (Or.inl ⟨by rfl, ?_⟩) (by assumption) ?_
    rotate_left
    · (intro w hSw; (try dsimp only at hSw); go_simp; try with_reducible rfl)
    simp only [Act.put, List.setIfInBounds_toArray, List.set_cons_zero, List.set_cons_succ]
    refine call_at (i := 2) (some 30) 11 _ _ rfl rfl rfl (by rfl) (by kernel_rfl) #[.slice (some ⟨gx, 0, none⟩) (256 + n) (256 + n), .slice (some ⟨gy, 0, none⟩) (256 + n) capy] rfl Tryd.func11 (by kernel_rfl) (by kernel_rfl) ?_
    refine (same_any (some ⟨gx, 0, none⟩) (some ⟨gy, 0, none⟩) (256 + n) (256 + n) (256 + n) capy (msgF hh n f) (msgF hh n f) _ hHeld.2.2.2.out.2.2.2.1.arg hHeld.2.2.2.out.2.2.2.2).mono ?_; rintro e V1 ⟨rfl, hV1⟩; rw [hV1, decide_eq_true rfl]; clear hV1 V1
    refine ⟨_, rfl, hHeld, fun hHeld => ?_⟩
    simp only [Act.put, List.setIfInBounds_toArray, List.set_cons_zero, List.set_cons_succ]
    refine take_at (i := 3) (v := ?_) (some 31) rfl rfl (by kernel_rfl) (by kernel_rfl) (by kernel_rfl) (fun _ _ _ h => h) (Or.inl ⟨by rfl, ?_⟩) (by assumption) ?_
    rotate_left
    · (intro w hSw; (try dsimp only at hSw); go_simp; try with_reducible rfl)
    simp only [Act.put, List.setIfInBounds_toArray, List.set_cons_zero, List.set_cons_succ]
    refine take_at (i := 4) (v := ?_) (some 32) rfl rfl (by kernel_rfl) (by kernel_rfl) (by kernel_rfl) (fun _ _ _ h => h) (Or.inl ⟨by rfl, ?_⟩) (by assumption) ?_
    rotate_left
    · (intro w hSw; (try dsimp only at hSw); go_simp; try with_reducible rfl)
    simp only [Act.put, List.setIfInBounds_toArray, List.set_cons_zero, List.set_cons_succ]
    refine take_at (i := 5) (v := ?_) (some 33) rfl rfl (by kernel_rfl) (by kernel_rfl) (by kernel_rfl) (fun _ _ _ h => h) (Or.inl ⟨by rfl, ?_⟩) (by assumption) ?_
    rotate_left
    · (intro w hSw; (try dsimp only at hSw); go_simp; try with_reducible rfl)
    simp only [Act.put, List.setIfInBounds_toArray, List.set_cons_zero, List.set_cons_succ]
    refine take_at (i := 6) (v := ?_) (some 34) rfl rfl (by kernel_rfl) (by kernel_rfl) (by kernel_rfl) (fun _ _ _ h => h) (Or.inl ⟨by rfl, ?_⟩) (by assumption) ?_
    rotate_left
    · (intro w hSw; (try dsimp only at hSw); go_simp; try with_reducible rfl)
    simp only [Act.put, List.setIfInBounds_toArray, List.set_cons_zero, List.set_cons_succ]
    refine take_at (i := 7) (v := ?_) (some 35) rfl rfl (by kernel_rfl) (by kernel_rfl) (by kernel_rfl) (fun _ _ _ h => h) (Or.inl ⟨by rfl, ?_⟩) (by assumption) ?_
    rotate_left
    · (intro w hSw; (try dsimp only at hSw); go_simp; try with_reducible rfl)
    simp only [Act.put, List.setIfInBounds_toArray, List.set_cons_zero, List.set_cons_succ]
    refine take_at (i := 8) (v := ?_) (some 36) rfl rfl (by kernel_rfl) (by kernel_rfl) (by kernel_rfl) (fun _ _ _ h => h) (Or.inl ⟨by rfl, ?_⟩) (by assumption) ?_
    rotate_left
    · (intro w hSw; (try dsimp only at hSw); go_simp; try with_reducible rfl)
    simp only [Act.put, List.setIfInBounds_toArray, List.set_cons_zero, List.set_cons_succ]
    refine take_at (i := 9) (v := ?_) (some 37) rfl rfl (by kernel_rfl) (by kernel_rfl) (by kernel_rfl) (fun _ _ _ h => h) (Or.inl ⟨by rfl, ?_⟩) (by assumption) ?_
    rotate_left
    · (intro w hSw; (try dsimp only at hSw); go_simp; try with_reducible rfl)
    simp only [Act.put, List.setIfInBounds_toArray, List.set_cons_zero, List.set_cons_succ]
    refine take_at (i := 10) (v := ?_) (some 38) rfl rfl (by kernel_rfl) (by kernel_rfl) (by kernel_rfl) (fun _ _ _ h => h) (Or.inl ⟨by rfl, ?_⟩) (by assumption) ?_
    rotate_left
    · (intro w hSw; (try dsimp only at hSw); go_simp; try with_reducible rfl)
    simp only [Act.put, List.setIfInBounds_toArray, List.set_cons_zero, List.set_cons_succ]
    refine take_at (i := 11) (v := _) (some 39) rfl rfl (by kernel_rfl) (by kernel_rfl) (by kernel_rfl) (fun _ _ _ h => h) (yieldsIf_load_mid (by rfl) _ _ rfl _ _ rfl _ _ (fun _ h => h.1) Tryd.underlying26 rfl (by kernel_rfl)) (by assumption) ?_
    simp only [Act.put, List.setIfInBounds_toArray, List.set_cons_zero, List.set_cons_succ]
    refine take_at (i := 13) (v := ?_) (some 41) rfl rfl (by kernel_rfl) (by kernel_rfl) (by kernel_rfl) (fun _ _ _ h => h) (Or.inl ⟨by rfl, ?_⟩) (by assumption) ?_
    rotate_left
    · (intro w hSw; (try dsimp only at hSw); go_simp; try with_reducible rfl)
    simp only [Act.put, List.setIfInBounds_toArray, List.set_cons_zero, List.set_cons_succ]
    refine take_at (i := 14) (v := _) (some 42) rfl rfl (by kernel_rfl) (by kernel_rfl) (by kernel_rfl) (fun _ _ _ h => h) (yieldsIf_load_mid (by rfl) _ _ rfl _ _ rfl _ _ (fun _ h => h.1) Tryd.underlying26 rfl (by kernel_rfl)) (by assumption) ?_
    simp only [Act.put, List.setIfInBounds_toArray, List.set_cons_zero, List.set_cons_succ]
    refine call_at (i := 12) (some 40) 12 _ _ rfl rfl rfl (by rfl) (by kernel_rfl) #[.agg (hcs h).toArray] rfl Tryd.func12 (by kernel_rfl) (by kernel_rfl) ?_
    refine (check_any h _ hHeld.2.2.2.out.1.2.2.1).mono ?_; rintro e V2 ⟨rfl, hV2⟩
    refine ⟨_, rfl, (hHeld.2.2.2.out.below hV2).held, fun hHeld => ?_⟩
    simp only [Act.put, List.setIfInBounds_toArray, List.set_cons_zero, List.set_cons_succ]
    refine call_at (i := 15) (some 43) 13 _ _ rfl rfl rfl (by rfl) (by kernel_rfl) #[.agg (hcs h).toArray] rfl Tryd.func13 (by kernel_rfl) (by kernel_rfl) ?_
    refine (ncheck_any h _).mono ?_; rintro e V3 ⟨rfl, hV3⟩
    refine ⟨_, rfl, (hHeld.2.2.2.out.below hV3).held, fun hHeld => ?_⟩
    simp only [Act.put, List.setIfInBounds_toArray, List.set_cons_zero, List.set_cons_succ]
    refine take_at (i := 16) (v := ?_) (some 44) rfl rfl (by kernel_rfl) (by kernel_rfl) (by kernel_rfl) (fun _ _ _ h => h) (Or.inl ⟨by rfl, ?_⟩) (by assumption) ?_
    rotate_left
    · (intro w hSw; (try dsimp only at hSw); go_simp; try with_reducible rfl)
    simp only [Act.put, List.setIfInBounds_toArray, List.set_cons_zero, List.set_cons_succ]
    refine take_at (i := 17) (v := ?_) (some 45) rfl rfl (by kernel_rfl) (by kernel_rfl) (by kernel_rfl) (fun _ _ _ h => h) (Or.inl ⟨by rfl, ?_⟩) (by assumption) ?_
    rotate_left
    · (intro w hSw; (try dsimp only at hSw); go_simp; try with_reducible rfl)
    simp only [Act.put, List.setIfInBounds_toArray, List.set_cons_zero, List.set_cons_succ]
    refine take_at (i := 18) (v := ?_) (some 46) rfl rfl (by kernel_rfl) (by kernel_rfl) (by kernel_rfl) (fun _ _ _ h => h) (Or.inl ⟨by rfl, ?_⟩) (by assumption) ?_
    rotate_left
    · (intro w hSw; (try dsimp only at hSw); go_simp; try with_reducible rfl)
    simp only [Act.put, List.setIfInBounds_toArray, List.set_cons_zero, List.set_cons_succ]
    refine take_at (i := 19) (v := ?_) (some 47) rfl rfl (by kernel_rfl) (by kernel_rfl) (by kernel_rfl) (fun _ _ _ h => h) (Or.inl ⟨by rfl, ?_⟩) (by assumption) ?_
    rotate_left
    · (intro w hSw; (try dsimp only at hSw); go_simp; try with_reducible rfl)
    simp only [Act.put, List.setIfInBounds_toArray, List.set_cons_zero, List.set_cons_succ]
    refine take_at (i := 20) (v := ?_) (some 48) rfl rfl (by kernel_rfl) (by kernel_rfl) (by kernel_rfl) (fun _ _ _ h => h) (Or.inl ⟨by rfl, ?_⟩) (by assumption) ?_
    rotate_left
    · (intro w hSw; (try dsimp only at hSw); go_simp; try with_reducible rfl)
    simp only [Act.put, List.setIfInBounds_toArray, List.set_cons_zero, List.set_cons_succ]
    refine take_at (i := 21) (v := ?_) (some 49) rfl rfl (by kernel_rfl) (by kernel_rfl) (by kernel_rfl) (fun _ _ _ h => h) (Or.inl ⟨by rfl, ?_⟩) (by assumption) ?_
    rotate_left
    · (intro w hSw; (try dsimp only at hSw); go_simp; try with_reducible rfl)
    simp only [Act.put, List.setIfInBounds_toArray, List.set_cons_zero, List.set_cons_succ]
    refine take_at (i := 22) (v := ?_) (some 50) rfl rfl (by kernel_rfl) (by kernel_rfl) (by kernel_rfl) (fun _ _ _ h => h) (Or.inl ⟨by rfl, ?_⟩) (by assumption) ?_
    rotate_left
    · (intro w hSw; (try dsimp only at hSw); go_simp; try with_reducible rfl)
    simp only [Act.put, List.setIfInBounds_toArray, List.set_cons_zero, List.set_cons_succ]
    refine call_at (i := 23) (some 51) 14 _ _ rfl rfl rfl (by rfl) (by kernel_rfl) #[.slice (some ⟨g, 0, none⟩) n (n + 3), .slice a n C] rfl Tryd.func14 (by kernel_rfl) (by kernel_rfl) ?_
    refine (kept_any g a n C f _ hHeld.2.2.2.out.1.2.1 (by omega) hHeld.2.2.2.out.2.2.1).mono ?_; rintro e V4 ⟨rfl, hV4⟩
    refine ⟨_, rfl, (hHeld.2.2.2.out.below hV4).held, fun hHeld => ?_⟩
    simp only [Act.put, List.setIfInBounds_toArray, List.set_cons_zero, List.set_cons_succ]
    refine take_at (i := 24) (v := ?_) (some 52) rfl rfl (by kernel_rfl) (by kernel_rfl) (by kernel_rfl) (fun _ _ _ h => h) (Or.inl ⟨by rfl, ?_⟩) (by assumption) ?_
    rotate_left
    · (intro w hSw; (try dsimp only at hSw); go_simp; try with_reducible rfl)
    simp only [Act.put, List.setIfInBounds_toArray, List.set_cons_zero, List.set_cons_succ]
    refine take_at (i := 25) (v := ?_) (some 53) rfl rfl (by kernel_rfl) (by kernel_rfl) (by kernel_rfl) (fun _ _ _ h => h) (Or.inl ⟨by rfl, ?_⟩) (by assumption) ?_
    rotate_left
    · (intro w hSw; (try dsimp only at hSw); go_simp; try with_reducible rfl)
    simp only [Act.put, List.setIfInBounds_toArray, List.set_cons_zero, List.set_cons_succ]
    refine wpAnyH_done (by kernel_rfl) ?_ _
    refine NoPanic.normal ?_
    have NH := hHeld.2.2.2.out
    have c16 := hHeld.2.2.1
    have XL : gx < V4.heap.size := (by obtain ⟨_, _, _, q⟩ := hHeld.2.2.2.out.2.2.2.1; rcases q with q | ⟨g', q1, _, q3⟩; (· cases q.1); (· injection q1 with q1; injection q1 with q1; subst q1; exact q3.2.2) : gx < V4.heap.size)
    have GL : g < V4.heap.size := NH.2.2.1.2.2
    have AP := two_apart w.heap.size V4 ⟨some ⟨gx, 0, none⟩, (256 + n), (256 + n)⟩ ⟨some ⟨g, 0, none⟩, n, n + 3⟩ (msgF hh n f) (lentF n f 3) NH.2.2.2.1 ⟨Nat.le_add_right _ _, Nat.le_trans (Nat.add_le_add_right HN.out 3) (by decide), fun j _ => lentF_byte n f 3 HA.out.bytes j, .inr ⟨g, rfl, Nat.le_of_lt HG.out, NH.2.2.1⟩⟩ NH.1.2.2.2.size (fun p hp => by injection hp with hp; subst hp; exact XL) (fun p hp => by injection hp with hp; subst hp; exact GL) (fun p q hp hq => by injection hp with hp; injection hq with hq; subst hp hq; exact Ne.symm D8.out.1)
    have AP' : Hid (Calls Tryd.prog 15 #[.slice (some ⟨V4.heap.size, 0, none⟩) 2 2] (V4.alloc (.cells #[.slice (some ⟨gx, 0, none⟩) (256 + n) (256 + n), .slice (some ⟨g, 0, none⟩) n (n + 3)] 27)) fun e w' => e = .returned (.bool true) ∧ Below w.heap.size V4 w') := AP
    have TV : Hid (Tab V4) := NH.1.2.2.1
    have EV : Hid (Below w.heap.size w V4) := NH.1.2.2.2
    clear AP NH
    go_wp2_with (first
      | (go_at_call 15; refine AP'.out.mono ?_; rintro e Z1 ⟨rfl, hZ1⟩)
      | (go_at_call 16; refine (awake_any _ (TV.out.below hZ1 hT0)).mono ?_; rintro e Z2 ⟨rfl, hZ2⟩))
    go_ret
    have EZ := EV.out.trans hZ1
    exact ⟨rfl, EZ.trans (hZ2.mono EZ.size)⟩
  · refine all_alloc_rec (i := 6) (some 3) 29 rfl rfl rfl (by rfl) (msg (fun _ => 0) none 0 0) zeroMsg ?_ AllReadyH.nil
    intro X W5 hX R5 B5
    have S5 := hHeld.2.2.out.below (by rw [hX]; exact B5)
    have XH : w.heap.size < X := by have := hHeld.2.2.out.1.2.2; omega
    refine ⟨S5.held, fun hHeld => ?_⟩
    simp only [Act.put, List.setIfInBounds_toArray, List.set_cons_zero, List.set_cons_succ]
    refine call_at (i := 4) (some 16) 8 _ _ rfl rfl rfl (by rfl) (by kernel_rfl) #[.slice a n C] rfl Tryd.func8 (by kernel_rfl) (by kernel_rfl) ?_
    refine (lent_any a n C f _ hHeld.2.2.out.2.1 (by omega)).mono ?_
    rintro e W6 ⟨g, rfl, hg, G6, hB6⟩
    have S6 := S5.below hB6
    have R6 := R5.below hB6
    have GH : w.heap.size < g := by have := S5.1.2.2; omega
    have XG : g ≠ X := by have := R5.2.2; omega
    refine ⟨_, rfl, S6.held, fun hHeld => ?_⟩
    simp only [Act.put, List.setIfInBounds_toArray, List.set_cons_zero, List.set_cons_succ]
    refine take_at (i := 5) (v := (.agg (msg h (some ⟨g, 0, none⟩) n (n + 3)).toArray)) (some 17) rfl rfl (by kernel_rfl) (by kernel_rfl) (by kernel_rfl) (fun _ _ _ h => h) (Or.inl ⟨by rfl, fun w _ => (build_run 29 _ rfl (msg h (some ⟨g, 0, none⟩) n (n + 3)).toArray (by kernel_rfl))⟩) (by assumption) ?_
    simp only [Act.put, List.setIfInBounds_toArray, List.set_cons_zero, List.set_cons_succ]
    refine wpAnyH_ready (rs := [7]) (by kernel_rfl) (by simp) ?_
    refine all_store_rec (i := 7) none 29 (.tmp 3) (.tmp 17) rfl rfl rfl (by rfl) X (msg (fun _ => 0) none 0 0) (msg h (some ⟨g, 0, none⟩) n (n + 3)) rfl rfl R6 rfl (by kernel_rfl) (msg_one _ _ _ _) ?_ AllReadyH.nil
    intro W7 V7' B7
    have S7' := S6.but HA.out hT0 B7 XH
    have G7' := G6.but B7 XG
    refine ⟨S7'.held, fun hHeld => ?_⟩
    simp only [Act.put]
    refine wpAnyH_done (by kernel_rfl) ?_ _
    refine NoPanic.normal ?_
    have S7 : Hid (hsS w h a n C f W7) := S7'
    have G7 : Hid (IRow W7 g .u8 (n + 3) (lentF n f 3)) := G7'
    have V7 : Hid (Rec19 W7 X 0 (msg h (some ⟨g, 0, none⟩) n (n + 3))) := V7'
    have HG : Hid (w.heap.size < g) := GH
    clear S7' G7' V7' B7 R6 S6 G6 XG GH hHeld
    go_wp2_with (first
      | (have _q := G7; clear _q; refine wpList_load_rec rfl 29 (.tmp 3) rfl X 0 (msg h (some ⟨g, 0, none⟩) n (n + 3)) rfl _ Tryd.underlying29 rfl (by kernel_rfl) V7.out ?_)
      | (have _q := G7; clear _q; go_at_call 9; refine (mseal_ok h (some ⟨g, 0, none⟩) n (n + 3) f _ (by omega) S7.out.2.2.1 (lent_arg G7.out HA.out.bytes) (by omega) HW.out OK.out).mono ?_; rintro e W8 ⟨gx, rfl, hgx, hX8, hB8⟩
         rw [HH.out] at hX8
         have S8' : Hid (hsS w h a n C f W8) := S7.out.below hB8
         have G8 : Hid (IRow W8 g .u8 (n + 3) (lentF n f 3)) := G7.out.below hB8
         have V8 : Hid (Rec19 W8 X 0 (msg h (some ⟨g, 0, none⟩) n (n + 3))) := V7.out.below hB8
         have X8 : Hid (IRow W8 gx .u8 (256 + n) (msgF hh n f)) := hX8
         have D8 : Hid (g ≠ gx ∧ w.heap.size ≤ gx) := ⟨by have := G7.out.2.2; omega, by have := S7.out.2.2.2.size; omega⟩
         clear S7 G7 V7 hB8 hX8 hgx)
      | (have _q := G8; clear _q; refine wpList_load_rec rfl 29 (.tmp 1) rfl w.heap.size 0 (msg h a n C) rfl _ Tryd.underlying29 rfl (by kernel_rfl) S8'.out.1 ?_)
      | (go_at_call 10; refine (nseal_ok h a n C f _ (by omega) S8'.out.2.1 HW.out OK.out).mono ?_; rintro e W9 ⟨y9, rfl, hO9, hB9⟩
         rw [HH.out] at hO9
         obtain ⟨gy, capy, rfl, hO9'⟩ := hO9.cells' (by omega)
         have S9 : Hid (nbS w X g h a n C f ⟨some ⟨gx, 0, none⟩, 256 + n, 256 + n⟩ (some ⟨gy, 0, none⟩) (msgF hh n f) W9.drew) := nb_ok S8'.out V8.out G8.out X8.out D8.out.2 (by omega) HA.out.bytes hO9' hB9
         clear hO9 hO9' hB9 S8' G8 V8 X8))
    refine wp_region_noPanic ?_
    refine wp_region_held_drew (S := fun W => W.rangeAt w.heap.size 0 (hcs h) ∧ W.cell? ⟨w.heap.size, 16, none⟩ = some (.slice a n C) ∧ W.cell? ⟨X, 16, none⟩ = some (.slice (some ⟨g, 0, none⟩) n (n + 3)) ∧ Hid (nbS w X g h a n C f ⟨some ⟨gx, 0, none⟩, (256 + n), (256 + n)⟩ (some ⟨gy, 0, none⟩) (msgF hh n f) W)) (by kernel_rfl) ?_ (fun hHeld => ?_)
    · exact S9.out.held
    refine take_at (i := 0) (v := ?_) (some 28) rfl rfl (by kernel_rfl) (by kernel_rfl) (by kernel_rfl) (fun _ _ _ h => h) (Or.inl ⟨by rfl, ?_⟩) (by assumption) ?_
    rotate_left
    · (intro w hSw; (try dsimp only at hSw); go_simp; try with_reducible rfl)
    simp only [Act.put, List.setIfInBounds_toArray, List.set_cons_zero, List.set_cons_succ]
    refine take_at (i := 1) (v := ?_) (some 29) rfl rfl (by kernel_rfl) (by kernel_rfl) (by kernel_rfl) (fun _ _ _ h => h) (Or.inl ⟨by rfl, ?_⟩) (by assumption) ?_
    rotate_left
    · (intro w hSw; (try dsimp only at hSw); go_simp; try with_reducible rfl)
    simp only [Act.put, List.setIfInBounds_toArray, List.set_cons_zero, List.set_cons_succ]
    refine call_at (i := 2) (some 30) 11 _ _ rfl rfl rfl (by rfl) (by kernel_rfl) #[.slice (some ⟨gx, 0, none⟩) (256 + n) (256 + n), .slice (some ⟨gy, 0, none⟩) (256 + n) capy] rfl Tryd.func11 (by kernel_rfl) (by kernel_rfl) ?_
    refine (same_any (some ⟨gx, 0, none⟩) (some ⟨gy, 0, none⟩) (256 + n) (256 + n) (256 + n) capy (msgF hh n f) (msgF hh n f) _ hHeld.2.2.2.out.2.2.2.1.arg hHeld.2.2.2.out.2.2.2.2).mono ?_; rintro e V1 ⟨rfl, hV1⟩; rw [hV1, decide_eq_true rfl]; clear hV1 V1
    refine ⟨_, rfl, hHeld, fun hHeld => ?_⟩
    simp only [Act.put, List.setIfInBounds_toArray, List.set_cons_zero, List.set_cons_succ]
    refine take_at (i := 3) (v := ?_) (some 31) rfl rfl (by kernel_rfl) (by kernel_rfl) (by kernel_rfl) (fun _ _ _ h => h) (Or.inl ⟨by rfl, ?_⟩) (by assumption) ?_
    rotate_left
    · (intro w hSw; (try dsimp only at hSw); go_simp; try with_reducible rfl)
    simp only [Act.put, List.setIfInBounds_toArray, List.set_cons_zero, List.set_cons_succ]
    refine take_at (i := 4) (v := ?_) (some 32) rfl rfl (by kernel_rfl) (by kernel_rfl) (by kernel_rfl) (fun _ _ _ h => h) (Or.inl ⟨by rfl, ?_⟩) (by assumption) ?_
    rotate_left
    · (intro w hSw; (try dsimp only at hSw); go_simp; try with_reducible rfl)
    simp only [Act.put, List.setIfInBounds_toArray, List.set_cons_zero, List.set_cons_succ]
    refine take_at (i := 5) (v := ?_) (some 33) rfl rfl (by kernel_rfl) (by kernel_rfl) (by kernel_rfl) (fun _ _ _ h => h) (Or.inl ⟨by rfl, ?_⟩) (by assumption) ?_
    rotate_left
    · (intro w hSw; (try dsimp only at hSw); go_simp; try with_reducible rfl)
    simp only [Act.put, List.setIfInBounds_toArray, List.set_cons_zero, List.set_cons_succ]
    refine take_at (i := 6) (v := ?_) (some 34) rfl rfl (by kernel_rfl) (by kernel_rfl) (by kernel_rfl) (fun _ _ _ h => h) (Or.inl ⟨by rfl, ?_⟩) (by assumption) ?_
    rotate_left
    · (intro w hSw; (try dsimp only at hSw); go_simp; try with_reducible rfl)
    simp only [Act.put, List.setIfInBounds_toArray, List.set_cons_zero, List.set_cons_succ]
    refine take_at (i := 7) (v := ?_) (some 35) rfl rfl (by kernel_rfl) (by kernel_rfl) (by kernel_rfl) (fun _ _ _ h => h) (Or.inl ⟨by rfl, ?_⟩) (by assumption) ?_
    rotate_left
    · (intro w hSw; (try dsimp only at hSw); go_simp; try with_reducible rfl)
    simp only [Act.put, List.setIfInBounds_toArray, List.set_cons_zero, List.set_cons_succ]
    refine take_at (i := 8) (v := ?_) (some 36) rfl rfl (by kernel_rfl) (by kernel_rfl) (by kernel_rfl) (fun _ _ _ h => h) (Or.inl ⟨by rfl, ?_⟩) (by assumption) ?_
    rotate_left
    · (intro w hSw; (try dsimp only at hSw); go_simp; try with_reducible rfl)
    simp only [Act.put, List.setIfInBounds_toArray, List.set_cons_zero, List.set_cons_succ]
    refine take_at (i := 9) (v := ?_) (some 37) rfl rfl (by kernel_rfl) (by kernel_rfl) (by kernel_rfl) (fun _ _ _ h => h) (Or.inl ⟨by rfl, ?_⟩) (by assumption) ?_
    rotate_left
    · (intro w hSw; (try dsimp only at hSw); go_simp; try with_reducible rfl)
    simp only [Act.put, List.setIfInBounds_toArray, List.set_cons_zero, List.set_cons_succ]
    refine take_at (i := 10) (v := ?_) (some 38) rfl rfl (by kernel_rfl) (by kernel_rfl) (by kernel_rfl) (fun _ _ _ h => h) (Or.inl ⟨by rfl, ?_⟩) (by assumption) ?_
    rotate_left
    · (intro w hSw; (try dsimp only at hSw); go_simp; try with_reducible rfl)
    simp only [Act.put, List.setIfInBounds_toArray, List.set_cons_zero, List.set_cons_succ]
    refine take_at (i := 11) (v := _) (some 39) rfl rfl (by kernel_rfl) (by kernel_rfl) (by kernel_rfl) (fun _ _ _ h => h) (yieldsIf_load_mid (by rfl) _ _ rfl _ _ rfl _ _ (fun _ h => h.1) Tryd.underlying26 rfl (by kernel_rfl)) (by assumption) ?_
    simp only [Act.put, List.setIfInBounds_toArray, List.set_cons_zero, List.set_cons_succ]
    refine take_at (i := 13) (v := ?_) (some 41) rfl rfl (by kernel_rfl) (by kernel_rfl) (by kernel_rfl) (fun _ _ _ h => h) (Or.inl ⟨by rfl, ?_⟩) (by assumption) ?_
    rotate_left
    · (intro w hSw; (try dsimp only at hSw); go_simp; try with_reducible rfl)
    simp only [Act.put, List.setIfInBounds_toArray, List.set_cons_zero, List.set_cons_succ]
    refine take_at (i := 14) (v := _) (some 42) rfl rfl (by kernel_rfl) (by kernel_rfl) (by kernel_rfl) (fun _ _ _ h => h) (yieldsIf_load_mid (by rfl) _ _ rfl _ _ rfl _ _ (fun _ h => h.1) Tryd.underlying26 rfl (by kernel_rfl)) (by assumption) ?_
    simp only [Act.put, List.setIfInBounds_toArray, List.set_cons_zero, List.set_cons_succ]
    refine call_at (i := 12) (some 40) 12 _ _ rfl rfl rfl (by rfl) (by kernel_rfl) #[.agg (hcs h).toArray] rfl Tryd.func12 (by kernel_rfl) (by kernel_rfl) ?_
    refine (check_any h _ hHeld.2.2.2.out.1.2.2.1).mono ?_; rintro e V2 ⟨rfl, hV2⟩
    refine ⟨_, rfl, (hHeld.2.2.2.out.below hV2).held, fun hHeld => ?_⟩
    simp only [Act.put, List.setIfInBounds_toArray, List.set_cons_zero, List.set_cons_succ]
    refine call_at (i := 15) (some 43) 13 _ _ rfl rfl rfl (by rfl) (by kernel_rfl) #[.agg (hcs h).toArray] rfl Tryd.func13 (by kernel_rfl) (by kernel_rfl) ?_
    refine (ncheck_any h _).mono ?_; rintro e V3 ⟨rfl, hV3⟩
    refine ⟨_, rfl, (hHeld.2.2.2.out.below hV3).held, fun hHeld => ?_⟩
    simp only [Act.put, List.setIfInBounds_toArray, List.set_cons_zero, List.set_cons_succ]
    refine take_at (i := 16) (v := ?_) (some 44) rfl rfl (by kernel_rfl) (by kernel_rfl) (by kernel_rfl) (fun _ _ _ h => h) (Or.inl ⟨by rfl, ?_⟩) (by assumption) ?_
    rotate_left
    · (intro w hSw; (try dsimp only at hSw); go_simp; try with_reducible rfl)
    simp only [Act.put, List.setIfInBounds_toArray, List.set_cons_zero, List.set_cons_succ]
    refine take_at (i := 17) (v := ?_) (some 45) rfl rfl (by kernel_rfl) (by kernel_rfl) (by kernel_rfl) (fun _ _ _ h => h) (Or.inl ⟨by rfl, ?_⟩) (by assumption) ?_
    rotate_left
    · (intro w hSw; (try dsimp only at hSw); go_simp; try with_reducible rfl)
    simp only [Act.put, List.setIfInBounds_toArray, List.set_cons_zero, List.set_cons_succ]
    refine take_at (i := 18) (v := ?_) (some 46) rfl rfl (by kernel_rfl) (by kernel_rfl) (by kernel_rfl) (fun _ _ _ h => h) (Or.inl ⟨by rfl, ?_⟩) (by assumption) ?_
    rotate_left
    · (intro w hSw; (try dsimp only at hSw); go_simp; try with_reducible rfl)
    simp only [Act.put, List.setIfInBounds_toArray, List.set_cons_zero, List.set_cons_succ]
    refine take_at (i := 19) (v := ?_) (some 47) rfl rfl (by kernel_rfl) (by kernel_rfl) (by kernel_rfl) (fun _ _ _ h => h) (Or.inl ⟨by rfl, ?_⟩) (by assumption) ?_
    rotate_left
    · (intro w hSw; (try dsimp only at hSw); go_simp; try with_reducible rfl)
    simp only [Act.put, List.setIfInBounds_toArray, List.set_cons_zero, List.set_cons_succ]
    refine take_at (i := 20) (v := ?_) (some 48) rfl rfl (by kernel_rfl) (by kernel_rfl) (by kernel_rfl) (fun _ _ _ h => h) (Or.inl ⟨by rfl, ?_⟩) (by assumption) ?_
    rotate_left
    · (intro w hSw; (try dsimp only at hSw); go_simp; try with_reducible rfl)
    simp only [Act.put, List.setIfInBounds_toArray, List.set_cons_zero, List.set_cons_succ]
    refine take_at (i := 21) (v := ?_) (some 49) rfl rfl (by kernel_rfl) (by kernel_rfl) (by kernel_rfl) (fun _ _ _ h => h) (Or.inl ⟨by rfl, ?_⟩) (by assumption) ?_
    rotate_left
    · (intro w hSw; (try dsimp only at hSw); go_simp; try with_reducible rfl)
    simp only [Act.put, List.setIfInBounds_toArray, List.set_cons_zero, List.set_cons_succ]
    refine take_at (i := 22) (v := ?_) (some 50) rfl rfl (by kernel_rfl) (by kernel_rfl) (by kernel_rfl) (fun _ _ _ h => h) (Or.inl ⟨by rfl, ?_⟩) (by assumption) ?_
    rotate_left
    · (intro w hSw; (try dsimp only at hSw); go_simp; try with_reducible rfl)
    simp only [Act.put, List.setIfInBounds_toArray, List.set_cons_zero, List.set_cons_succ]
    refine call_at (i := 23) (some 51) 14 _ _ rfl rfl rfl (by rfl) (by kernel_rfl) #[.slice (some ⟨g, 0, none⟩) n (n + 3), .slice a n C] rfl Tryd.func14 (by kernel_rfl) (by kernel_rfl) ?_
    refine (kept_any g a n C f _ hHeld.2.2.2.out.1.2.1 (by omega) hHeld.2.2.2.out.2.2.1).mono ?_; rintro e V4 ⟨rfl, hV4⟩
    refine ⟨_, rfl, (hHeld.2.2.2.out.below hV4).held, fun hHeld => ?_⟩
    simp only [Act.put, List.setIfInBounds_toArray, List.set_cons_zero, List.set_cons_succ]
    refine take_at (i := 24) (v := ?_) (some 52) rfl rfl (by kernel_rfl) (by kernel_rfl) (by kernel_rfl) (fun _ _ _ h => h) (Or.inl ⟨by rfl, ?_⟩) (by assumption) ?_
    rotate_left
    · (intro w hSw; (try dsimp only at hSw); go_simp; try with_reducible rfl)
    simp only [Act.put, List.setIfInBounds_toArray, List.set_cons_zero, List.set_cons_succ]
    refine take_at (i := 25) (v := ?_) (some 53) rfl rfl (by kernel_rfl) (by kernel_rfl) (by kernel_rfl) (fun _ _ _ h => h) (Or.inl ⟨by rfl, ?_⟩) (by assumption) ?_
    rotate_left
    · (intro w hSw; (try dsimp only at hSw); go_simp; try with_reducible rfl)
    simp only [Act.put, List.setIfInBounds_toArray, List.set_cons_zero, List.set_cons_succ]
    refine wpAnyH_done (by kernel_rfl) ?_ _
    refine NoPanic.normal ?_
    have NH := hHeld.2.2.2.out
    have c16 := hHeld.2.2.1
    have XL : gx < V4.heap.size := (by obtain ⟨_, _, _, q⟩ := hHeld.2.2.2.out.2.2.2.1; rcases q with q | ⟨g', q1, _, q3⟩; (· cases q.1); (· injection q1 with q1; injection q1 with q1; subst q1; exact q3.2.2) : gx < V4.heap.size)
    have GL : g < V4.heap.size := NH.2.2.1.2.2
    have AP := two_apart w.heap.size V4 ⟨some ⟨gx, 0, none⟩, (256 + n), (256 + n)⟩ ⟨some ⟨g, 0, none⟩, n, n + 3⟩ (msgF hh n f) (lentF n f 3) NH.2.2.2.1 ⟨Nat.le_add_right _ _, Nat.le_trans (Nat.add_le_add_right HN.out 3) (by decide), fun j _ => lentF_byte n f 3 HA.out.bytes j, .inr ⟨g, rfl, Nat.le_of_lt HG.out, NH.2.2.1⟩⟩ NH.1.2.2.2.size (fun p hp => by injection hp with hp; subst hp; exact XL) (fun p hp => by injection hp with hp; subst hp; exact GL) (fun p q hp hq => by injection hp with hp; injection hq with hq; subst hp hq; exact Ne.symm D8.out.1)
    have AP' : Hid (Calls Tryd.prog 15 #[.slice (some ⟨V4.heap.size, 0, none⟩) 2 2] (V4.alloc (.cells #[.slice (some ⟨gx, 0, none⟩) (256 + n) (256 + n), .slice (some ⟨g, 0, none⟩) n (n + 3)] 27)) fun e w' => e = .returned (.bool true) ∧ Below w.heap.size V4 w') := AP
    have TV : Hid (Tab V4) := NH.1.2.2.1
    have EV : Hid (Below w.heap.size w V4) := NH.1.2.2.2
    clear AP NH
    go_wp2_with (first
      | (go_at_call 15; refine AP'.out.mono ?_; rintro e Z1 ⟨rfl, hZ1⟩)
      | (go_at_call 16; refine (awake_any _ (TV.out.below hZ1 hT0)).mono ?_; rintro e Z2 ⟨rfl, hZ2⟩))
    go_ret
    have EZ := EV.out.trans hZ1
    exact ⟨rfl, EZ.trans (hZ2.mono EZ.size)⟩
end
section
open Go.ChangeShapes Go.WideShapes Go.ChangeAt Go.RowKit Go.Joins
variable {H : Type} {enc : TypeId × Value → H}
theorem word_of_wf {x : Int} (h : (Lit.int .u64 x).wf = true) : Word x := by
  simp [Lit.wf, IntKind.min, IntKind.max, IntKind.signed, IntKind.bits] at h
  exact ⟨by omega, by omega⟩
theorem int_at {W : World} {L : List Value} {n : Nat} {t : TypeId} {k : IntKind} {y : DataW H × List MemPlace} (o : Nat) (ht : Tryd.prog.underlying t = some (.int k))
    (h : DataW.trod enc Tryd.prog W 0 (fun _ => true) true n t ((L.drop o).take (Tryd.prog.cellsOf t)) = some y) : ∃ x : Int, L[o]? = some (.int k x) ∧ (Lit.int k x).wf = true := by
  obtain ⟨x, e, _, wf⟩ := DataW.trod_int ht h
  exact ⟨x, first_of e, wf⟩
theorem u128_at {W : World} {L : List Value} {n : Nat} {y : DataW H × List MemPlace} (o : Nat)
    (h : DataW.trod enc Tryd.prog W 0 (fun _ => true) true n 24 ((L.drop o).take (Tryd.prog.cellsOf 24)) = some y) : ∃ a b : Int, L[o]? = some (.int .u64 a) ∧ L[o + 1]? = some (.int .u64 b) ∧ Word a ∧ Word b := by
  have h2 : Tryd.prog.cellsOf 24 = 2 := by kernel_rfl
  rw [h2] at h
  obtain ⟨y0, y1, k, _, _, t0, t1⟩ := trod_struct2 Tryd.underlying24 h
  obtain ⟨a, e0, _, wa⟩ := DataW.trod_int Tryd.underlying22 t0
  obtain ⟨b, e1, _, wb⟩ := DataW.trod_int Tryd.underlying22 t1
  have f0 := first_of e0
  have f1 := first_of e1
  simp only [List.getElem?_take, List.getElem?_drop] at f0 f1
  refine ⟨a, b, by simpa using f0, by simpa using f1, word_of_wf wa, word_of_wf wb⟩
set_option maxRecDepth 10000 in
theorem open_hdr {W : World} {L : List Value} {n : Nat} {y : DataW H × List MemPlace} (h : DataW.trod enc Tryd.prog W 0 (fun _ => true) true n 26 L = some y) : ∃ g : Nat → Int, L = hcs g ∧ Words g := by
  obtain ⟨xs, m, _, _, hl, hxl, hel⟩ := DataW.trod_struct Tryd.underlying26 h
  have h16 : Tryd.prog.cellsOf 26 = 16 := by kernel_rfl
  rw [h16] at hl
  have hx : xs.length = 15 := hxl
  have g := fun (i : Nat) (f : Field) hfi (hi : i < 15) => (hel i f hfi).trans (List.getElem?_eq_getElem (l := xs) (i := i) (by omega))
  obtain ⟨x0, c0, _⟩ := int_at 0 Tryd.underlying3 (g 0 _ rfl (by omega))
  obtain ⟨x1, c1, _⟩ := int_at 1 Tryd.underlying3 (g 1 _ rfl (by omega))
  obtain ⟨x2, c2, _⟩ := int_at 2 Tryd.underlying3 (g 2 _ rfl (by omega))
  obtain ⟨x3, c3, _⟩ := int_at 3 Tryd.underlying3 (g 3 _ rfl (by omega))
  obtain ⟨x4, c4, _⟩ := int_at 4 Tryd.underlying3 (g 4 _ rfl (by omega))
  obtain ⟨x5, c5, _⟩ := int_at 5 Tryd.underlying3 (g 5 _ rfl (by omega))
  obtain ⟨x6, c6, _⟩ := int_at 6 Tryd.underlying3 (g 6 _ rfl (by omega))
  obtain ⟨x7, c7, _⟩ := int_at 7 Tryd.underlying3 (g 7 _ rfl (by omega))
  obtain ⟨x8, c8, _⟩ := int_at 8 Tryd.underlying3 (g 8 _ rfl (by omega))
  obtain ⟨x9, x10, c9, c10, w9, w10⟩ := u128_at 9 (g 9 _ rfl (by omega))
  obtain ⟨x11, c11, _⟩ := int_at 11 Tryd.underlying3 (g 10 _ rfl (by omega))
  obtain ⟨x12, c12, _⟩ := int_at 12 Tryd.underlying3 (g 11 _ rfl (by omega))
  obtain ⟨x13, c13, w13⟩ := int_at 13 Tryd.underlying22 (g 12 _ rfl (by omega))
  obtain ⟨x14, c14, _⟩ := int_at 14 Tryd.underlying3 (g 13 _ rfl (by omega))
  obtain ⟨x15, c15, _⟩ := int_at 15 Tryd.underlying3 (g 14 _ rfl (by omega))
  refine ⟨fun j => [x0, x1, x2, x3, x4, x5, x6, x7, x8, x9, x10, x11, x12, x13, x14, x15].getD j 0, ?_, w9, w10, word_of_wf w13⟩
  refine List.ext_getElem? fun j => ?_
  match j with
  | 0 => exact c0
  | 1 => exact c1
  | 2 => exact c2
  | 3 => exact c3
  | 4 => exact c4
  | 5 => exact c5
  | 6 => exact c6
  | 7 => exact c7
  | 8 => exact c8
  | 9 => exact c9
  | 10 => exact c10
  | 11 => exact c11
  | 12 => exact c12
  | 13 => exact c13
  | 14 => exact c14
  | 15 => exact c15
  | j + 16 => rw [List.getElem?_eq_none (by omega), List.getElem?_eq_none (by rw [hcs_len]; omega)]
/-- A message that came in, opened. -/
theorem open_msgarg {W : World} {base : Nat} {v : Value} {d : DataW H} {p : List MemPlace} (hv : Value.okWide Tryd.prog W .any base 29 v) (h : DataW.Trod enc Tryd.prog W 0 (fun _ => true) true 29 v d p) :
    ∃ (g : Nat → Int) (a : Option Addr) (n C : Nat) (zs : List Int), v = .agg (msg g a n C).toArray ∧ Words g ∧ IsRow W a n C zs := by
  obtain ⟨cs, rfl, hsz⟩ := okWide_struct Tryd.underlying29 hv
  have h17 : Tryd.prog.cellsOf 29 = 17 := by kernel_rfl
  rw [h17] at hsz
  obtain ⟨fuel, hf⟩ := h
  obtain ⟨y0, y1, k, _, hl, t0, t1⟩ := trod_struct2 Tryd.underlying29 hf
  have hL : (Value.agg cs).cells.toList = cs.toList := rfl
  rw [hL] at t0 t1
  have h16 : Tryd.prog.cellsOf 26 = 16 := by kernel_rfl
  obtain ⟨g, hg, hw⟩ := open_hdr t0
  have fin : ∀ u : Value, (cs.toList.drop 16).take (Tryd.prog.cellsOf 27) = [u] → cs.toList = hcs g ++ [u] := by
    intro u hu
    have a : cs.toList.take 16 = hcs g := by
      have := hg
      simp only [List.drop_zero, h16] at this
      exact this
    have b : cs.toList.drop 16 = [u] := by
      have c1 : Tryd.prog.cellsOf 27 = 1 := by kernel_rfl
      rw [c1] at hu
      rw [← hu, List.take_of_length_le (by simp; omega)]
    rw [← List.take_append_drop 16 cs.toList, a, b]
  rcases open_ints Tryd.underlying27 Tryd.underlying5 (by kernel_rfl) t1 with ⟨hcs', _⟩ | ⟨x, l, c, zs, hcs', _, hl', hm, hz, _, hcell, hwz⟩
  · exact ⟨g, none, 0, 0, [], by rw [msg, ← fin _ hcs'], hw, .inl ⟨rfl, rfl, rfl, rfl⟩⟩
  · exact ⟨g, some x, l, c, zs, by rw [msg, ← fin _ hcs'], hw, .inr ⟨_, rfl, hl', by simpa using hz, hcell, hwz⟩⟩
end
section
open Go.ChangeShapes Go.WideShapes Go.ChangeAt Go.WideMaps Go.WideElems Go.RowKit Go.Joins

theorem seals_any (h : Nat → Int) (a : Option Addr) (n C : Nat) (f : Nat → Int) (w : World) (hT : Tab w) (hA : Arg w a n f) (hW : Words h) :
    Calls Tryd.prog 3 #[.agg (msg h a n C).toArray] w fun e w' => e = .returned (.bool true) ∧ Below w.heap.size w w' := by
  by_cases l : 3000 < n
  · exact seals_far h a n C w l
  · by_cases hl : 1024 < n
    · exact seals_long h a n C f w hT hA (by omega) hl
    · by_cases ho : okH (upd h 2 (n : Nat)) = true
      · exact seals_ok h a n C f w hT hA (by omega) hl ho hW
      · exact seals_arg h a n C f w hT hA (by omega) hl (by simpa using ho)
/-- The zero message. -/
def zmsg : Value := .agg #[.int .i64 0, .int .i64 0, .int .i64 0, .int .i64 0, .int .i64 0, .int .i64 0, .int .i64 0, .int .i64 0, .int .i64 0, .int .u64 0, .int .u64 0, .int .i64 0, .int .i64 0, .int .u64 0, .int .i64 0, .int .i64 0, .slice none 0 0]
set_option maxRecDepth 100000 in
theorem seals_lifted (os : Os) (started : os.Started) (H : Type) (enc : TypeId × Value → H) :
    ReturnsInHanded {} Tryd.checked os 3 .any (fun w args => (Rows.headerSealsSpec.pre enc Tryd.prog Tryd.f3 [] false w args ∧ laidMetH Tryd.prog laidL w) ∧ sizedMet enc Tryd.prog Tryd.f3 (OpenSpec.ofChange Rows.headerSealsSpec) false w args)
      (Rows.headerSealsSpec.post enc Tryd.prog Tryd.f3 false true false false) := by
  refine returnsInHanded_of_change_and (C := Tryd.checked) (X := fun w _ => laidMetH Tryd.prog laidL w) (fun _ _ _ hh h => h.of_heap hh) own_knob started (by kernel_rfl) Tryd.func3
    (ChangeSpec.witness_shaped (enc := enc) (C := Tryd.checked) (os := os) (X := fun w _ => laidMetH Tryd.prog laidL w) false (World.doorLaid Tryd.prog 400 os) #[zmsg] 8 rfl (World.shaped_of_RefB (by kernel_rfl) (by kernel_rfl)) (by kernel_rfl) (by kernel_rfl) (by kernel_rfl) (door_met os _)) ?_
  intro W base args ds gs before hval0 hW _ _ hL _
  have hval : ∀ (j : Nat) t v, Tryd.f3.params[j]? = some t → args[j]? = some v → Value.okWide Tryd.prog W .any base t v := hval0
  have hW' := hW
  obtain ⟨p, q, hA0, hV, rfl, hfz, hnd⟩ := hW
  have hA : DataW.TrodAll enc Tryd.prog W 0 (fun _ => true) true Tryd.f3.params.toList args.toList ds p := hA0
  rw [Tryd.params3] at hA hval
  obtain ⟨v0, d0, rfl, rfl, h0⟩ := trodAll_one hA
  obtain ⟨rfl, rfl⟩ := trodVars_none hV
  have k0 := h0
  have lt0 : ∀ x ∈ p, x.block < W.heap.size := by obtain ⟨m, hm⟩ := k0; exact DataW.trod_lt m _ _ _ hm
  obtain ⟨g, a, n, C, zs, rfl, hw, r0⟩ := open_msgarg (hval 0 29 v0 rfl rfl) h0
  clear hA0 hval0
  refine (seals_any g a n C _ W (of_laid hL) r0.arg hw).mono fun e W' ⟨he, bel⟩ => ?_
  subst he
  exact ⟨_, rfl, _, _, _, [], _, [], hW', trodAll_mk1 (shut_bool Tryd.underlying4 _), trodAll_mk1 (Below.trod laid_out (by kernel_rfl) (of_decide_eq_true (by kernel_rfl)) k0 bel lt0), rfl, bel.frame _, fun h => by cases h⟩
theorem seals_holds : Rows.HeaderSealsSaid :=
  OpenClaim.holds_of_wide 3 Tryd.f3 rfl rfl rfl rfl rfl rfl rfl ⟨rfl, rfl, rfl, rfl, rfl⟩ rfl rfl rfl rfl rfl (by kernel_rfl) Tryd.func3 (by kernel_rfl)
    (of_decide_eq_true (by kernel_rfl)) (by unfold Func.isWrapper; first | (rw [if_pos (by decide +kernel)]; kernel_rfl) | (rw [if_neg (by decide +kernel)]; exact ⟨rfl, rfl⟩))
    (fun os started H enc _ => seals_lifted os started H enc)
theorem seals_card : Rows.HeaderSealsCardSaid :=
  Claim7.holds_tied_plain_at .later [] [.data] true (true, "cc3ed1c7d1dbcebd47f7302bbe530830782934dc8c687881450630bfe9d439d2") false
    seals_holds (fun _ h => by cases h) (by kernel_rfl) (fun _ h => by cases h) headerSeals_row_tie rfl ⟨rfl, rfl⟩ (by kernel_rfl) rfl
    (fun f fn hf hfn => by
      obtain rfl : f = 3 := Option.some.inj ((show Tryd.prog.funcNamed "exchequer/exchequerlaw04.HeaderSeals" = some 3 by kernel_rfl).symm.trans hf) |>.symm
      obtain rfl : fn = Tryd.f3 := (Option.some.inj (Tryd.func3.symm.trans hfn)).symm
      exact ⟨by kernel_rfl, fun j t ht => by
        rw [Tryd.params3] at ht
        have hm : t ∈ [29] := by simpa using Array.mem_of_getElem? ht
        have hall : ([29].all fun u => !Tryd.prog.wantsStandIn u) = true := by kernel_rfl
        exact (show Tryd.prog.wantsStandIn t = false by simpa using List.all_eq_true.1 hall t hm)⟩)
    (by kernel_rfl)
#print axioms seals_card
end
end Go.Proofs.YtkmgjpeoognpjaaDoor
