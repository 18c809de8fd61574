/-
  Walks, not a claim by itself: SlotWrites. By the verifier.
-/
import Derived.Test.YtfpgkckcifjkcaaDoorOWr0
import Derived.Test.YtfpgkckcifjkcaaDoorNGate
import Derived.Test.YtfpgkckcifjkcaaDoorBLent
namespace Go.Proofs.YtfpgkckcifjkcaaDoor
open Go.RowKit
/-- What the first region must keep. -/
def hsS (w : World) (h : Nat → Int) (a : Option Addr) (n C : Nat) (f : Nat → Int) (W : World) : Prop := Rec19 W w.heap.size 0 (msg h a n C) ∧ Arg W a n f ∧ Tab W ∧ Below w.heap.size w W
theorem hsS.below {w : World} {h : Nat → Int} {a : Option Addr} {n C : Nat} {f : Nat → Int} {W W' : World} (s : hsS w h a n C f W) (hB : Below W.heap.size W W') : hsS w h a n C f W' :=
  ⟨s.1.below hB, s.2.1.below hB, s.2.2.1.below hB s.2.2.1.2, s.2.2.2.trans (hB.mono s.2.2.2.size)⟩
theorem hsS.held {w : World} {h : Nat → Int} {a : Option Addr} {n C : Nat} {f : Nat → Int} {W : World} (s : hsS w h a n C f W) : W.rangeAt w.heap.size 0 (hcs h) ∧ W.cell? ⟨w.heap.size, 16, none⟩ = some (.slice a n C) ∧ Hid (hsS w h a n C f W) :=
  ⟨s.1.head.1, (s.1.at 16 _ (msg_body h a n C)).1, s⟩
theorem Arg.off {w v : World} {a : Option Addr} {n c B : Nat} {f : Nat → Int} {u : World} (h : Arg u a n f) (hB : Below B u w) (hu : u.heap.size ≤ B) (hb : But c w v) (hc : u.heap.size ≤ c) : Arg v a n f :=
  h.below ((hB.mono hu).trans (hb.below hc (Nat.le_trans (Nat.le_refl _) (hB.mono hu).size)))
theorem hsS.but {w : World} {h : Nat → Int} {a : Option Addr} {n C c : Nat} {f : Nat → Int} {W W' : World} (s : hsS w h a n C f W) (hA : Arg w a n f) (hT0 : 0 < w.heap.size) (hB : But c W W') (hc : w.heap.size < c) : hsS w h a n C f W' := by
  have hb : Below w.heap.size W W' := hB.below (by omega) s.2.2.2.size
  exact ⟨s.1.but hB (by omega), hA.below (s.2.2.2.trans hb), s.2.2.1.below hb hT0, s.2.2.2.trans hb⟩
theorem lent_arg {w : World} {g n : Nat} {f : Nat → Int} (h : IRow w g .u8 (n + 3) (lentF n f 3)) (hf : ∀ j, j < n → 0 ≤ f j ∧ f j < 256) : Arg w (some ⟨g, 0, none⟩) n f :=
  Arg.of ⟨fun j hj => by rw [Nat.zero_add, h.1 j (by omega), lentF_low _ _ _ _ hj], hf, h.2.2⟩
theorem build_run {a : Act} {w : World} {o : Oper} (t : TypeId) (parts : Array (Nat × Operand)) (ho : o.op = .build t parts) (cells : Array Value) (hf : Tryd.prog.built t (parts.map fun (i, x) => (i, a.eval x)).toList = some cells) :
    (execOp a.eval o).run Tryd.prog w = .ok (.value (.agg cells)) w := by
  unfold execOp
  simp only [ho, Sem.run_bind, run_build w t _ cells hf, Result.andThen_ok]
  rfl
/-- What the program's call answers: bytes of its own. -/
def PB (w : World) (N : Nat) (F : Nat → Int) (c : Int) (e : Ending) (w' : World) : Prop := ∃ ax, e = .returned (.tuple #[.slice ax N N, .int .i64 c]) ∧ Lst.ok w.heap.size w' ⟨ax, N, N⟩ F ∧ (∀ p, ax = some p → w.heap.size ≤ p.block ∧ p.block < w'.heap.size) ∧ Below w.heap.size w w'
/-- What the reference's answers. -/
def RB (w : World) (N : Nat) (F : Nat → Int) (c : Int) (e : Ending) (w' : World) : Prop := ∃ ay cap, e = .returned (.tuple #[.slice ay N cap, .int .i64 c]) ∧ Arg w' ay N F ∧ Below w.heap.size w w'
theorem PB.nil {w : World} {c : Int} {e : Ending} {w' : World} (h : e = .returned (.tuple #[.slice none 0 0, .int .i64 c]) ∧ Below w.heap.size w w') : PB w 0 (fun _ => 0) c e w' :=
  ⟨none, h.1, ⟨Nat.le_refl _, by show 0 ≤ 1000000; omega, fun j _ => (by show (0 : Int) ≤ 0 ∧ (0 : Int) < 256; omega), .inl ⟨rfl, rfl⟩⟩, fun p hp => (by cases hp), h.2⟩
theorem RB.nil {w : World} {c : Int} {e : Ending} {w' : World} (h : e = .returned (.tuple #[.slice none 0 0, .int .i64 c]) ∧ Below w.heap.size w w') : RB w 0 (fun _ => 0) c e w' :=
  ⟨none, 0, h.1, .inl ⟨rfl, .inl rfl⟩, h.2⟩
theorem PB.row {w : World} {N g : Nat} {F : Nat → Int} {w' : World} (hN : N ≤ 1000000) (hF : ∀ j, j < N → 0 ≤ F j ∧ F j < 256) (hg : w.heap.size ≤ g) (hR : IRow w' g .u8 N F) (hB : Below w.heap.size w w') : PB w N F 0 (.returned (.tuple #[.slice (some ⟨g, 0, none⟩) N N, .int .i64 0])) w' :=
  ⟨some ⟨g, 0, none⟩, rfl, ⟨Nat.le_refl _, hN, hF, .inr ⟨g, rfl, hg, hR⟩⟩, fun p hp => (by injection hp with hp; subst hp; exact ⟨hg, hR.2.2⟩), hB⟩
/-- Both Bytes answer the same. -/
theorem bytes_both (h : Nat → Int) (a : Option Addr) (n C : Nat) (f : Nat → Int) (hW : Words h) (hf : ∀ j, j < n → 0 ≤ f j ∧ f j < 256) : ∃ (N : Nat) (F : Nat → Int) (c : Int), N ≤ 1280 ∧
    (∀ (a' : Option Addr) (C' : Nat) (W : World), Tab W → Arg W a' n f → n ≤ C' → Calls Tryd.prog 9 #[.agg (msg h a' n C').toArray] W (PB W N F c)) ∧
    (∀ W : World, Arg W a n f → Calls Tryd.prog 10 #[.agg (msg h a n C).toArray] W (RB W N F c)) := by
  by_cases l : 1024 < n
  · exact ⟨0, fun _ => 0, 3, by omega, fun a' C' W _ _ _ => (sbytes_long h a' n C' W l).mono fun e w' q => PB.nil q, fun W _ => (rbytes_long h a n C W l).mono fun e w' q => RB.nil q⟩
  · by_cases ho : okH (upd h 2 (n : Nat)) = true
    · by_cases hp : isPrep h (ofI (h 5)) = true
      · refine ⟨1280, slotF h n f, 0, Nat.le_refl _, fun a' C' W hT hA hC => (sbytes_ok h a' n C' f W (by omega) hT hA hC hW ho hp).mono ?_, fun W hA => (rbytes_ok h a n C f W (by omega) hA hW ho hp).mono ?_⟩
        · rintro e w' ⟨g, rfl, hg, hR, hB⟩
          exact PB.row (by omega) (fun j _ => slotF_byte h n f hf j) hg hR hB
        · rintro e w' ⟨g, cap, rfl, hA', hB⟩
          exact ⟨_, cap, rfl, hA', hB⟩
      · have hp' : isPrep h (ofI (h 5)) = false := by simpa using hp
        exact ⟨0, fun _ => 0, 2, by omega, fun a' C' W hT hA hC => (sbytes_not h a' n C' f W (by omega) hT hA hC hW ho hp').mono fun e w' q => PB.nil q, fun W hA => (rbytes_not h a n C f W (by omega) hA hW ho hp').mono fun e w' q => RB.nil q⟩
    · have ho' : okH (upd h 2 (n : Nat)) = false := by simpa using ho
      exact ⟨0, fun _ => 0, 2, by omega, fun a' C' W hT _ _ => (sbytes_arg h a' n C' W (by omega) hT ho').mono fun e w' q => PB.nil q, fun W _ => (rbytes_arg h a n C W (by omega) ho').mono fun e w' q => RB.nil q⟩
/-- Both Unwritten answer the same. -/
theorem unwritten_both (n : Int) : ∃ (N : Nat) (F : Nat → Int) (c : Int), N ≤ 1280 ∧ (∀ W : World, Tab W → Calls Tryd.prog 11 #[.int .i64 n] W (PB W N F c)) ∧ (∀ W : World, Calls Tryd.prog 12 #[.int .i64 n] W (RB W N F c)) := by
  by_cases hs : isSl n = true
  · refine ⟨256, unwF n, 0, by omega, fun W hT => (unwritten_ok n W hT hs).mono ?_, fun W => (runwritten_ok n W hs).mono ?_⟩
    · rintro e w' ⟨g, rfl, hg, hR, hB⟩
      exact PB.row (by omega) (unwF_byte n) hg hR hB
    · rintro e w' ⟨g, cap, rfl, hA, hB⟩
      exact ⟨_, cap, rfl, hA, hB⟩
  · have hs' : isSl n = false := by simpa using hs
    refine ⟨0, fun _ => 0, 5, by omega, fun W hT => (unwritten_no n W hs').mono ?_, fun W => (runwritten_no n W hs').mono ?_⟩
    · rintro e w' ⟨rfl, rfl⟩
      exact PB.nil ⟨rfl, Below.refl _ _⟩
    · rintro e w' ⟨rfl, rfl⟩
      exact RB.nil ⟨rfl, Below.refl _ _⟩
set_option maxRecDepth 100000 in
set_option maxHeartbeats 2000000 in
theorem writes_far (h : Nat → Int) (a : Option Addr) (n C : Nat) (op sn : Int) (w : World) (hn : 3000 < n) : Calls Tryd.prog 3 #[.agg (msg h a n C).toArray, .int .i64 op, .int .i64 sn] w fun e w' => e = .returned (.bool true) ∧ Below w.heap.size w w' := by
  have e1 : (3000 : Int) < n := by omega
  go_enter Tryd.func3, Tryd.ntmps3
  go_wp2_with (refine wpList_box_rec rfl 29 (.tmp 0) rfl (msg h a n C) rfl w.heap.size rfl ?_; intro W0 R0 B0 z0; obtain ⟨c16, _⟩ := R0.at 16 _ (msg_body h a n C))
  go_ret
  exact ⟨rfl, B0⟩
theorem ok_weak {B B' : Nat} {W : World} {L : Lst} {F : Nat → Int} (h : L.ok B W F) (hB : B' ≤ B) : L.ok B' W F := by
  obtain ⟨h1, h2, h3, h4 | ⟨g, h4, h5, h6⟩⟩ := h
  · exact ⟨h1, h2, h3, .inl h4⟩
  · exact ⟨h1, h2, h3, .inr ⟨g, h4, Nat.le_trans hB h5, h6⟩⟩
/-- What is answered, and what was handed in, lie apart. -/
theorem wr_apart {B n g N N2 s8 s9 s0 s1 : Nat} {V4 : World} {ax ap : Option Addr} {f F F2 : Nat → Int} (hn : n ≤ 3000) (hf : ∀ j, j < n → 0 ≤ f j ∧ f j < 256) (hg : B < g) (hB : B ≤ V4.heap.size) (hX : Lst.ok B V4 ⟨ax, N, N⟩ F) (hP : Lst.ok B V4 ⟨ap, N2, N2⟩ F2) (hG : IRow V4 g .u8 (n + 3) (lentF n f 3))
    (dx : (∀ p, ax = some p → g < p.block) ∧ (∀ p, ax = some p → p.block < s8)) (dp : (∀ p, ap = some p → s9 ≤ p.block) ∧ (∀ p, ap = some p → p.block < s0)) (g9 : g < s9) (l9 : s8 ≤ s9) (l1 : s0 ≤ s1) (l2 : s1 ≤ V4.heap.size) :
    Calls Tryd.prog 17 #[.slice (some ⟨V4.heap.size, 0, none⟩) 3 3] (V4.alloc (.cells #[.slice ax N N, .slice ap N2 N2, .slice (some ⟨g, 0, none⟩) n (n + 3)] 27)) fun e w' => e = .returned (.bool true) ∧ Below B V4 w' := by
  refine three_apart B V4 ⟨ax, N, N⟩ ⟨ap, N2, N2⟩ ⟨some ⟨g, 0, none⟩, n, n + 3⟩ F F2 (lentF n f 3) hX hP ⟨Nat.le_add_right _ _, (by show n + 3 ≤ 1000000; omega), fun j _ => lentF_byte n f 3 hf j, .inr ⟨g, rfl, Nat.le_of_lt hg, hG⟩⟩ hB (fun p hp => ?_) (fun p hp => ?_) (fun p hp => ?_) (fun p q hp hq => ?_) (fun p q hp hq => ?_) (fun p q hp hq => ?_)
  · rcases hX with ⟨_, _, _, ⟨h4, _⟩ | ⟨g', h4, _, h6⟩⟩
    · rw [show ax = none from h4] at hp; cases hp
    · rw [show ax = some ⟨g', 0, none⟩ from h4] at hp; injection hp with hp; subst hp; exact h6.2.2
  · have := dp.2 p hp; omega
  · injection hp with hp; subst hp; exact hG.2.2
  · have := dx.2 p hp; have := dp.1 q hq; omega
  · injection hq with hq; subst hq; have := dx.1 p hp; show p.block ≠ g; omega
  · injection hq with hq; subst hq; have := dp.1 p hp; show p.block ≠ g; omega
set_option maxRecDepth 100000 in
set_option maxHeartbeats 2000000 in
theorem writes_main (h : Nat → Int) (a : Option Addr) (n C : Nat) (f : Nat → Int) (op sn : Int) (w : World) (hT : Tab w) (hA : Arg w a n f) (hn : n ≤ 3000) (hW : Words h) : Calls Tryd.prog 3 #[.agg (msg h a n C).toArray, .int .i64 op, .int .i64 sn] w fun e w' => e = .returned (.bool true) ∧ Below w.heap.size w w' := by
  have hT0 := hT.2
  have TT : Hid (Tab w) := hT
  have HA : Hid (Arg w a n f) := hA
  have HN : Hid (n ≤ 3000) := hn
  obtain ⟨N, F, c, hN, hBP, hBR⟩ := bytes_both h a n C f hW hA.bytes
  obtain ⟨N2, F2, c2, hN2, hUP, hUR⟩ := unwritten_both sn
  have BP : Hid (∀ (a' : Option Addr) (C' : Nat) (W : World), Tab W → Arg W a' n f → n ≤ C' → Calls Tryd.prog 9 #[.agg (msg h a' n C').toArray] W (PB W N F c)) := hBP
  have BR : Hid (∀ W : World, Arg W a n f → Calls Tryd.prog 10 #[.agg (msg h a n C).toArray] W (RB W N F c)) := hBR
  have UP : Hid (∀ W : World, Tab W → Calls Tryd.prog 11 #[.int .i64 sn] W (PB W N2 F2 c2)) := hUP
  have UR : Hid (∀ W : World, Calls Tryd.prog 12 #[.int .i64 sn] W (RB W N2 F2 c2)) := hUR
  clear hT hA hBP hBR hUP hUR hW hN hN2
  have e1 : ¬ (3000 : Int) < n := by omega
  go_enter Tryd.func3, Tryd.ntmps3
  go_wp2_with (refine wpList_box_rec rfl 29 (.tmp 0) rfl (msg h a n C) rfl w.heap.size rfl ?_; intro W0 R0 B0 z0; obtain ⟨c16, _⟩ := R0.at 16 _ (msg_body h a n C))
  have S0 : hsS w h a n C f W0.drew := ⟨R0, HA.out.below B0.drew, TT.out.below B0.drew hT0, B0.drew⟩
  clear R0 B0 z0 c16
  refine wp_region_noPanic ?_
  refine wp_region_held_drew (S := fun W => W.rangeAt w.heap.size 0 (hcs h) ∧ W.cell? ⟨w.heap.size, 16, none⟩ = some (.slice a n C) ∧ Hid (hsS w h a n C f W)) (by kernel_rfl) ?_ (fun hHeld => ?_)
  · exact S0.held
  refine take_at (i := 0) (v := ?_) (some 20) rfl rfl (by kernel_rfl) (by kernel_rfl) (by kernel_rfl) (fun _ _ _ h => h) (Or.inl ⟨by rfl, ?_⟩) (by assumption) ?_
  rotate_left
  · (intro w hSw; (try dsimp only at hSw); go_simp; try with_reducible rfl)
  simp only [Act.put, List.setIfInBounds_toArray, List.set_cons_zero, List.set_cons_succ]
  refine take_at (i := 1) (v := _) (some 21) rfl rfl (by kernel_rfl) (by kernel_rfl) (by kernel_rfl) (fun _ _ _ h => h) (yieldsIf_load_mid (by rfl) _ _ rfl _ _ rfl _ _ (fun _ h => h.1) Tryd.underlying26 rfl (by kernel_rfl)) (by assumption) ?_
  simp only [Act.put, List.setIfInBounds_toArray, List.set_cons_zero, List.set_cons_succ]
  refine take_at (i := 2) (v := ?_) (some 22) rfl rfl (by kernel_rfl) (by kernel_rfl) (by kernel_rfl) (fun _ _ _ h => h) (Or.inl ⟨by rfl, ?_⟩) (by assumption) ?_
  rotate_left
  · (intro w hSw; (try dsimp only at hSw); go_simp; try with_reducible rfl)
  simp only [Act.put, List.setIfInBounds_toArray, List.set_cons_zero, List.set_cons_succ]
  refine take_at (i := 3) (v := ?_) (some 23) rfl rfl (by kernel_rfl) (by kernel_rfl) (by kernel_rfl) (fun _ _ _ h => h) (Or.inl ⟨by rfl, ?_⟩) (by assumption) ?_
  rotate_left
  · (intro w hSw; (try dsimp only at hSw); go_simp; try with_reducible rfl)
  simp only [Act.put, List.setIfInBounds_toArray, List.set_cons_zero, List.set_cons_succ]
  refine wpAnyH_ready (rs := [4, 6]) (by kernel_rfl) (by simp) ?_
  refine all_call (i := 4) (some 24) 8 _ _ rfl rfl rfl (by rfl) #[.slice a n C] rfl Tryd.func8 (by kernel_rfl) (by kernel_rfl) ?_ ?_
  · refine (lent_any a n C f _ hHeld.2.2.out.2.1 (by omega)).mono ?_
    rintro e W5 ⟨g, rfl, hg, G5, hB5⟩
    have S5 := hHeld.2.2.out.below hB5
    have GH : w.heap.size < g := by have := hHeld.2.2.out.1.2.2; omega
    refine ⟨_, rfl, S5.held, fun hHeld => ?_⟩
    simp only [Act.put, List.setIfInBounds_toArray, List.set_cons_zero, List.set_cons_succ]
    refine take_at (i := 5) (v := (.agg (msg h (some ⟨g, 0, none⟩) n (n + 3)).toArray)) (some 25) rfl rfl (by kernel_rfl) (by kernel_rfl) (by kernel_rfl) (fun _ _ _ h => h) (Or.inl ⟨by rfl, fun w _ => (build_run 29 _ rfl (msg h (some ⟨g, 0, none⟩) n (n + 3)).toArray (by kernel_rfl))⟩) (by assumption) ?_
    simp only [Act.put, List.setIfInBounds_toArray, List.set_cons_zero, List.set_cons_succ]
    refine wpAnyH_ready (rs := [6]) (by kernel_rfl) (by simp) ?_
    refine all_alloc_rec (i := 6) (some 7) 29 rfl rfl rfl (by rfl) (msg (fun _ => 0) none 0 0) zeroMsg ?_ AllReadyH.nil
    intro X W6 hX R6 B6
    have S6 := S5.below (by rw [hX]; exact B6)
    have G6 := G5.below (by rw [hX]; exact B6)
    have XH : w.heap.size < X := by have := S5.1.2.2; omega
    have XG : g ≠ X := by have := G5.2.2; omega
    refine ⟨S6.held, fun hHeld => ?_⟩
    simp only [Act.put, List.setIfInBounds_toArray, List.set_cons_zero, List.set_cons_succ]
    refine wpAnyH_ready (rs := [7]) (by kernel_rfl) (by simp) ?_
    refine all_store_rec (i := 7) none 29 (.tmp 7) (.tmp 25) rfl rfl rfl (by rfl) X (msg (fun _ => 0) none 0 0) (msg h (some ⟨g, 0, none⟩) n (n + 3)) rfl rfl R6 rfl (by kernel_rfl) (msg_one _ _ _ _) ?_ AllReadyH.nil
    intro W7 V7' B7
    have S7' := S6.but HA.out hT0 B7 XH
    have G7' := G6.but B7 XG
    refine ⟨S7'.held, fun hHeld => ?_⟩
    simp only [Act.put]
    refine wpAnyH_done (by kernel_rfl) ?_ _
    refine NoPanic.normal ?_
    have S7 : Hid (hsS w h a n C f W7) := S7'
    have G7 : Hid (IRow W7 g .u8 (n + 3) (lentF n f 3)) := G7'
    have V7 : Hid (Rec19 W7 X 0 (msg h (some ⟨g, 0, none⟩) n (n + 3))) := V7'
    have HG : Hid (w.heap.size < g) := GH
    clear S7' G7' V7' B7 R6 S6 G6 XG GH hHeld
    go_wp2_with (first
      | (have _q := G7; clear _q; refine wpList_load_rec rfl 29 (.tmp 7) rfl X 0 (msg h (some ⟨g, 0, none⟩) n (n + 3)) rfl _ Tryd.underlying29 rfl (by kernel_rfl) V7.out ?_)
      | (have _q := G7; clear _q; go_at_call 9; refine (BP.out (some ⟨g, 0, none⟩) (n + 3) _ S7.out.2.2.1 (lent_arg G7.out HA.out.bytes) (by omega)).mono ?_; rintro e W8 ⟨ax, rfl, hX, hpx, hB⟩
         have X8 : Hid (Lst.ok w.heap.size W8 ⟨ax, N, N⟩ F) := ok_weak hX S7.out.2.2.2.size
         have DX : Hid ((∀ p, ax = some p → g < p.block) ∧ (∀ p, ax = some p → p.block < W8.heap.size)) := ⟨fun p hp => Nat.lt_of_lt_of_le G7.out.2.2 (hpx p hp).1, fun p hp => (hpx p hp).2⟩
         clear hX hpx
         have S8 : Hid (hsS w h a n C f W8) := S7.out.below hB
         have G8 : Hid (IRow W8 g .u8 (n + 3) (lentF n f 3)) := G7.out.below hB
         have V8 : Hid (Rec19 W8 X 0 (msg h (some ⟨g, 0, none⟩) n (n + 3))) := V7.out.below hB
         clear hB S7 G7 V7)
      | (have _q := G8; clear _q; refine wpList_load_rec rfl 29 (.tmp 3) rfl w.heap.size 0 (msg h a n C) rfl _ Tryd.underlying29 rfl (by kernel_rfl) S8.out.1 ?_)
      | (have _q := G8; clear _q; go_at_call 10; refine (BR.out _ S8.out.2.1).mono ?_; rintro e W9 ⟨ay, cay, rfl, hY, hB⟩
         have Y9 : Hid (Arg W9 ay N F) := hY
         have L9 : Hid (W8.heap.size ≤ W9.heap.size) := hB.size
         clear hY
         have S9 : Hid (hsS w h a n C f W9) := S8.out.below hB
         have G9 : Hid (IRow W9 g .u8 (n + 3) (lentF n f 3)) := G8.out.below hB
         have V9 : Hid (Rec19 W9 X 0 (msg h (some ⟨g, 0, none⟩) n (n + 3))) := V8.out.below hB
         have X9 : Hid (Lst.ok w.heap.size W9 ⟨ax, N, N⟩ F) := X8.out.below hB
         clear hB S8 G8 V8 X8)
      | (have _q := G9; clear _q; go_at_call 11; refine (UP.out _ S9.out.2.2.1).mono ?_; rintro e U0 ⟨ap, rfl, hP, hpp, hB⟩
         have P10 : Hid (Lst.ok w.heap.size U0 ⟨ap, N2, N2⟩ F2) := ok_weak hP S9.out.2.2.2.size
         have DP : Hid ((∀ p, ap = some p → W9.heap.size ≤ p.block) ∧ (∀ p, ap = some p → p.block < U0.heap.size)) := ⟨fun p hp => (hpp p hp).1, fun p hp => (hpp p hp).2⟩
         have G0 : Hid (g < W9.heap.size) := G9.out.2.2
         clear hP hpp
         have S10 : Hid (hsS w h a n C f U0) := S9.out.below hB
         have G10 : Hid (IRow U0 g .u8 (n + 3) (lentF n f 3)) := G9.out.below hB
         have V10 : Hid (Rec19 U0 X 0 (msg h (some ⟨g, 0, none⟩) n (n + 3))) := V9.out.below hB
         have X10 : Hid (Lst.ok w.heap.size U0 ⟨ax, N, N⟩ F) := X9.out.below hB
         have Y10 : Hid (Arg U0 ay N F) := Y9.out.below hB
         clear hB S9 G9 V9 X9 Y9)
      | (have _q := G10; clear _q; go_at_call 12; refine (UR.out _).mono ?_; rintro e U1 ⟨aq, caq, rfl, hQ, hB⟩
         have Q11 : Hid (Arg U1 aq N2 F2) := hQ
         have L11 : Hid (U0.heap.size ≤ U1.heap.size) := hB.size
         have T1 : Hid True := trivial
         clear hQ
         have S11 : Hid (hsS w h a n C f U1) := S10.out.below hB
         have G11 : Hid (IRow U1 g .u8 (n + 3) (lentF n f 3)) := G10.out.below hB
         have V11 : Hid (Rec19 U1 X 0 (msg h (some ⟨g, 0, none⟩) n (n + 3))) := V10.out.below hB
         have X11 : Hid (Lst.ok w.heap.size U1 ⟨ax, N, N⟩ F) := X10.out.below hB
         have Y11 : Hid (Arg U1 ay N F) := Y10.out.below hB
         have P11 : Hid (Lst.ok w.heap.size U1 ⟨ap, N2, N2⟩ F2) := P10.out.below hB
         clear hB S10 G10 V10 X10 Y10 P10)
      | (have _q := T1; clear _q; go_at_call 13; refine (same_any ax ay N N N cay F F _ X11.out.arg Y11.out).mono ?_; rintro e V1 ⟨rfl, hV1⟩; rw [hV1, decide_eq_true rfl]; clear hV1 V1 T1; have T2 : Hid True := trivial)
      | (have _q := T2; clear _q; go_at_call 13; refine (same_any ap aq N2 N2 N2 caq F2 F2 _ P11.out.arg Q11.out).mono ?_; rintro e V1 ⟨rfl, hV1⟩; rw [hV1, decide_eq_true rfl]; clear hV1 V1 T2)
      | (have _q := G11; clear _q; go_at_call 14; refine (of_any op _).mono ?_; rintro e V1 ⟨rfl, hV1⟩; rw [hV1]; clear hV1 V1)
      | (have _q := G11; clear _q; go_at_call 15; refine (rof_any op _).mono ?_; rintro e V1 ⟨rfl, hV1⟩; rw [hV1]; clear hV1 V1
         have x16 := (V11.out.at 16 _ (msg_body h _ n (n + 3))).1
         have c16 := (S11.out.1.at 16 _ (msg_body h a n C)).1)
      | (have _q := G11; clear _q; go_at_call 16; refine (kept_any g a n C f _ S11.out.2.1 (by omega) G11.out).mono ?_; rintro e V4 ⟨rfl, hB⟩
         have L12 : Hid (U1.heap.size ≤ V4.heap.size) := hB.size
         clear x16 c16
         have S12 : Hid (hsS w h a n C f V4) := S11.out.below hB
         have G12 : Hid (IRow V4 g .u8 (n + 3) (lentF n f 3)) := G11.out.below hB
         have V12 : Hid (Rec19 V4 X 0 (msg h (some ⟨g, 0, none⟩) n (n + 3))) := V11.out.below hB
         have X12 : Hid (Lst.ok w.heap.size V4 ⟨ax, N, N⟩ F) := X11.out.below hB
         have P12 : Hid (Lst.ok w.heap.size V4 ⟨ap, N2, N2⟩ F2) := P11.out.below hB
         clear hB S11 G11 V11 X11 P11
         have x16 := (V12.out.at 16 _ (msg_body h _ n (n + 3))).1
         have AP : Hid (Calls Tryd.prog 17 #[.slice (some ⟨V4.heap.size, 0, none⟩) 3 3] (V4.alloc (.cells #[.slice ax N N, .slice ap N2 N2, .slice (some ⟨g, 0, none⟩) n (n + 3)] 27)) fun e w' => e = .returned (.bool true) ∧ Below w.heap.size V4 w') := wr_apart HN.out HA.out.bytes HG.out S12.out.2.2.2.size X12.out P12.out G12.out DX.out DP.out G0.out L9.out L11.out L12.out)
      | (have _q := AP; clear _q; go_at_call 17; refine AP.out.mono ?_; rintro e Z1 ⟨rfl, hZ1⟩
         have EZ : Hid (Below w.heap.size w Z1) := S12.out.2.2.2.trans hZ1
         clear hZ1 AP)
      | (have _q := EZ; clear _q; go_at_call 18; refine (awake_ok _ (TT.out.below EZ.out hT0)).mono ?_; rintro e Z2 ⟨rfl, hZ2⟩))
    go_ret
    exact ⟨rfl, EZ.out.trans (hZ2.mono EZ.out.size)⟩
  · refine all_alloc_rec (i := 6) (some 7) 29 rfl rfl rfl (by rfl) (msg (fun _ => 0) none 0 0) zeroMsg ?_ AllReadyH.nil
    intro X W5 hX R5 B5
    have S5 := hHeld.2.2.out.below (by rw [hX]; exact B5)
    have XH : w.heap.size < X := by have := hHeld.2.2.out.1.2.2; omega
    refine ⟨S5.held, fun hHeld => ?_⟩
    simp only [Act.put, List.setIfInBounds_toArray, List.set_cons_zero, List.set_cons_succ]
    refine call_at (i := 4) (some 24) 8 _ _ rfl rfl rfl (by rfl) (by kernel_rfl) #[.slice a n C] rfl Tryd.func8 (by kernel_rfl) (by kernel_rfl) ?_
    refine (lent_any a n C f _ hHeld.2.2.out.2.1 (by omega)).mono ?_
    rintro e W6 ⟨g, rfl, hg, G6, hB6⟩
    have S6 := S5.below hB6
    have R6 := R5.below hB6
    have GH : w.heap.size < g := by have := S5.1.2.2; omega
    have XG : g ≠ X := by have := R5.2.2; omega
    refine ⟨_, rfl, S6.held, fun hHeld => ?_⟩
    simp only [Act.put, List.setIfInBounds_toArray, List.set_cons_zero, List.set_cons_succ]
    refine take_at (i := 5) (v := (.agg (msg h (some ⟨g, 0, none⟩) n (n + 3)).toArray)) (some 25) rfl rfl (by kernel_rfl) (by kernel_rfl) (by kernel_rfl) (fun _ _ _ h => h) (Or.inl ⟨by rfl, fun w _ => (build_run 29 _ rfl (msg h (some ⟨g, 0, none⟩) n (n + 3)).toArray (by kernel_rfl))⟩) (by assumption) ?_
    simp only [Act.put, List.setIfInBounds_toArray, List.set_cons_zero, List.set_cons_succ]
    refine wpAnyH_ready (rs := [7]) (by kernel_rfl) (by simp) ?_
    refine all_store_rec (i := 7) none 29 (.tmp 7) (.tmp 25) rfl rfl rfl (by rfl) X (msg (fun _ => 0) none 0 0) (msg h (some ⟨g, 0, none⟩) n (n + 3)) rfl rfl R6 rfl (by kernel_rfl) (msg_one _ _ _ _) ?_ AllReadyH.nil
    intro W7 V7' B7
    have S7' := S6.but HA.out hT0 B7 XH
    have G7' := G6.but B7 XG
    refine ⟨S7'.held, fun hHeld => ?_⟩
    simp only [Act.put]
    refine wpAnyH_done (by kernel_rfl) ?_ _
    refine NoPanic.normal ?_
    have S7 : Hid (hsS w h a n C f W7) := S7'
    have G7 : Hid (IRow W7 g .u8 (n + 3) (lentF n f 3)) := G7'
    have V7 : Hid (Rec19 W7 X 0 (msg h (some ⟨g, 0, none⟩) n (n + 3))) := V7'
    have HG : Hid (w.heap.size < g) := GH
    clear S7' G7' V7' B7 R6 S6 G6 XG GH hHeld
    go_wp2_with (first
      | (have _q := G7; clear _q; refine wpList_load_rec rfl 29 (.tmp 7) rfl X 0 (msg h (some ⟨g, 0, none⟩) n (n + 3)) rfl _ Tryd.underlying29 rfl (by kernel_rfl) V7.out ?_)
      | (have _q := G7; clear _q; go_at_call 9; refine (BP.out (some ⟨g, 0, none⟩) (n + 3) _ S7.out.2.2.1 (lent_arg G7.out HA.out.bytes) (by omega)).mono ?_; rintro e W8 ⟨ax, rfl, hX, hpx, hB⟩
         have X8 : Hid (Lst.ok w.heap.size W8 ⟨ax, N, N⟩ F) := ok_weak hX S7.out.2.2.2.size
         have DX : Hid ((∀ p, ax = some p → g < p.block) ∧ (∀ p, ax = some p → p.block < W8.heap.size)) := ⟨fun p hp => Nat.lt_of_lt_of_le G7.out.2.2 (hpx p hp).1, fun p hp => (hpx p hp).2⟩
         clear hX hpx
         have S8 : Hid (hsS w h a n C f W8) := S7.out.below hB
         have G8 : Hid (IRow W8 g .u8 (n + 3) (lentF n f 3)) := G7.out.below hB
         have V8 : Hid (Rec19 W8 X 0 (msg h (some ⟨g, 0, none⟩) n (n + 3))) := V7.out.below hB
         clear hB S7 G7 V7)
      | (have _q := G8; clear _q; refine wpList_load_rec rfl 29 (.tmp 3) rfl w.heap.size 0 (msg h a n C) rfl _ Tryd.underlying29 rfl (by kernel_rfl) S8.out.1 ?_)
      | (have _q := G8; clear _q; go_at_call 10; refine (BR.out _ S8.out.2.1).mono ?_; rintro e W9 ⟨ay, cay, rfl, hY, hB⟩
         have Y9 : Hid (Arg W9 ay N F) := hY
         have L9 : Hid (W8.heap.size ≤ W9.heap.size) := hB.size
         clear hY
         have S9 : Hid (hsS w h a n C f W9) := S8.out.below hB
         have G9 : Hid (IRow W9 g .u8 (n + 3) (lentF n f 3)) := G8.out.below hB
         have V9 : Hid (Rec19 W9 X 0 (msg h (some ⟨g, 0, none⟩) n (n + 3))) := V8.out.below hB
         have X9 : Hid (Lst.ok w.heap.size W9 ⟨ax, N, N⟩ F) := X8.out.below hB
         clear hB S8 G8 V8 X8)
      | (have _q := G9; clear _q; go_at_call 11; refine (UP.out _ S9.out.2.2.1).mono ?_; rintro e U0 ⟨ap, rfl, hP, hpp, hB⟩
         have P10 : Hid (Lst.ok w.heap.size U0 ⟨ap, N2, N2⟩ F2) := ok_weak hP S9.out.2.2.2.size
         have DP : Hid ((∀ p, ap = some p → W9.heap.size ≤ p.block) ∧ (∀ p, ap = some p → p.block < U0.heap.size)) := ⟨fun p hp => (hpp p hp).1, fun p hp => (hpp p hp).2⟩
         have G0 : Hid (g < W9.heap.size) := G9.out.2.2
         clear hP hpp
         have S10 : Hid (hsS w h a n C f U0) := S9.out.below hB
         have G10 : Hid (IRow U0 g .u8 (n + 3) (lentF n f 3)) := G9.out.below hB
         have V10 : Hid (Rec19 U0 X 0 (msg h (some ⟨g, 0, none⟩) n (n + 3))) := V9.out.below hB
         have X10 : Hid (Lst.ok w.heap.size U0 ⟨ax, N, N⟩ F) := X9.out.below hB
         have Y10 : Hid (Arg U0 ay N F) := Y9.out.below hB
         clear hB S9 G9 V9 X9 Y9)
      | (have _q := G10; clear _q; go_at_call 12; refine (UR.out _).mono ?_; rintro e U1 ⟨aq, caq, rfl, hQ, hB⟩
         have Q11 : Hid (Arg U1 aq N2 F2) := hQ
         have L11 : Hid (U0.heap.size ≤ U1.heap.size) := hB.size
         have T1 : Hid True := trivial
         clear hQ
         have S11 : Hid (hsS w h a n C f U1) := S10.out.below hB
         have G11 : Hid (IRow U1 g .u8 (n + 3) (lentF n f 3)) := G10.out.below hB
         have V11 : Hid (Rec19 U1 X 0 (msg h (some ⟨g, 0, none⟩) n (n + 3))) := V10.out.below hB
         have X11 : Hid (Lst.ok w.heap.size U1 ⟨ax, N, N⟩ F) := X10.out.below hB
         have Y11 : Hid (Arg U1 ay N F) := Y10.out.below hB
         have P11 : Hid (Lst.ok w.heap.size U1 ⟨ap, N2, N2⟩ F2) := P10.out.below hB
         clear hB S10 G10 V10 X10 Y10 P10)
      | (have _q := T1; clear _q; go_at_call 13; refine (same_any ax ay N N N cay F F _ X11.out.arg Y11.out).mono ?_; rintro e V1 ⟨rfl, hV1⟩; rw [hV1, decide_eq_true rfl]; clear hV1 V1 T1; have T2 : Hid True := trivial)
      | (have _q := T2; clear _q; go_at_call 13; refine (same_any ap aq N2 N2 N2 caq F2 F2 _ P11.out.arg Q11.out).mono ?_; rintro e V1 ⟨rfl, hV1⟩; rw [hV1, decide_eq_true rfl]; clear hV1 V1 T2)
      | (have _q := G11; clear _q; go_at_call 14; refine (of_any op _).mono ?_; rintro e V1 ⟨rfl, hV1⟩; rw [hV1]; clear hV1 V1)
      | (have _q := G11; clear _q; go_at_call 15; refine (rof_any op _).mono ?_; rintro e V1 ⟨rfl, hV1⟩; rw [hV1]; clear hV1 V1
         have x16 := (V11.out.at 16 _ (msg_body h _ n (n + 3))).1
         have c16 := (S11.out.1.at 16 _ (msg_body h a n C)).1)
      | (have _q := G11; clear _q; go_at_call 16; refine (kept_any g a n C f _ S11.out.2.1 (by omega) G11.out).mono ?_; rintro e V4 ⟨rfl, hB⟩
         have L12 : Hid (U1.heap.size ≤ V4.heap.size) := hB.size
         clear x16 c16
         have S12 : Hid (hsS w h a n C f V4) := S11.out.below hB
         have G12 : Hid (IRow V4 g .u8 (n + 3) (lentF n f 3)) := G11.out.below hB
         have V12 : Hid (Rec19 V4 X 0 (msg h (some ⟨g, 0, none⟩) n (n + 3))) := V11.out.below hB
         have X12 : Hid (Lst.ok w.heap.size V4 ⟨ax, N, N⟩ F) := X11.out.below hB
         have P12 : Hid (Lst.ok w.heap.size V4 ⟨ap, N2, N2⟩ F2) := P11.out.below hB
         clear hB S11 G11 V11 X11 P11
         have x16 := (V12.out.at 16 _ (msg_body h _ n (n + 3))).1
         have AP : Hid (Calls Tryd.prog 17 #[.slice (some ⟨V4.heap.size, 0, none⟩) 3 3] (V4.alloc (.cells #[.slice ax N N, .slice ap N2 N2, .slice (some ⟨g, 0, none⟩) n (n + 3)] 27)) fun e w' => e = .returned (.bool true) ∧ Below w.heap.size V4 w') := wr_apart HN.out HA.out.bytes HG.out S12.out.2.2.2.size X12.out P12.out G12.out DX.out DP.out G0.out L9.out L11.out L12.out)
      | (have _q := AP; clear _q; go_at_call 17; refine AP.out.mono ?_; rintro e Z1 ⟨rfl, hZ1⟩
         have EZ : Hid (Below w.heap.size w Z1) := S12.out.2.2.2.trans hZ1
         clear hZ1 AP)
      | (have _q := EZ; clear _q; go_at_call 18; refine (awake_ok _ (TT.out.below EZ.out hT0)).mono ?_; rintro e Z2 ⟨rfl, hZ2⟩))
    go_ret
    exact ⟨rfl, EZ.out.trans (hZ2.mono EZ.out.size)⟩
end Go.Proofs.YtfpgkckcifjkcaaDoor
