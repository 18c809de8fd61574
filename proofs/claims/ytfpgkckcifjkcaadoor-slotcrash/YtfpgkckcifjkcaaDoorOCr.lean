/-
  Walks, not a claim by itself: SlotCrash. By the verifier.
-/
import Derived.Test.YtfpgkckcifjkcaaDoorOCr0
namespace Go.Proofs.YtfpgkckcifjkcaaDoor
open Go.RowKit
/-- What stays at first. -/
def ckS (w : World) (h : Nat → Int) (a : Option Addr) (n C : Nat) (W : World) : Prop := Rec19 W w.heap.size 0 (msg h a n C) ∧ Tab W ∧ Below w.heap.size w W
theorem ckS.below {w : World} {h : Nat → Int} {a : Option Addr} {n C : Nat} {W W' : World} (s : ckS w h a n C W) (hB : Below W.heap.size W W') : ckS w h a n C W' :=
  ⟨s.1.below hB, s.2.1.below hB s.2.1.2, s.2.2.trans (hB.mono s.2.2.size)⟩
theorem is_of2 (s1 o1 v1 : Int) (m1 : Bool) (s2 o2 v2 : Int) (m2 : Bool) (h : s1 = s2 ∧ o1 = o2 ∧ v1 = v2 ∧ m1 = m2) (w : World) : Calls Tryd.prog 25 #[.agg (ss s1 o1 v1 m1).toArray, .int .i64 s2, .int .i64 o2, .int .i64 v2, .bool m2] w fun e w' => e = .returned (.bool true) ∧ Below w.heap.size w w' := by
  obtain ⟨rfl, rfl, rfl, rfl⟩ := h
  exact is_true _ _ _ _ w
set_option maxRecDepth 100000 in
set_option maxHeartbeats 1000000 in
theorem cr_far_a (h : Nat → Int) (a t : Option Addr) (n C m C' : Nat) (tear : Int) (w : World) (hT : Tab w) (hl : 1024 < n) : Calls Tryd.prog 6 #[.agg (msg h a n C).toArray, .slice t m C', .int .i64 tear] w fun e w' => e = .returned (.bool true) ∧ Below w.heap.size w w' := by
  have hT0 := hT.2
  have TT : Hid (Tab w) := hT
  have T0 : Hid True := trivial
  have e1 : (1024 : Int) < n := by omega
  clear hT
  go_enter Tryd.func6, Tryd.ntmps6
  go_wp2_with (first
    | (have _q := T0; clear _q; refine wpList_box_rec rfl 29 (.tmp 0) rfl (msg h a n C) rfl w.heap.size rfl ?_; intro W0 R0 B0 z0
       have S0 : Hid (ckS w h a n C W0) := ⟨R0, TT.out.below B0 hT0, B0⟩
       clear R0 B0 z0 T0)
    | (have _q := S0; clear _q; go_at_call 5; refine (known_ok _ S0.out.2.1).mono ?_; rintro e W1 ⟨rfl, hB1⟩
       have S1 : Hid (ckS w h a n C W1) := S0.out.below hB1
       have c16 := (S1.out.1.at 16 _ (msg_body h a n C)).1
       clear hB1 S0))
  go_ret
  exact ⟨rfl, S1.out.2.2⟩
set_option maxRecDepth 100000 in
set_option maxHeartbeats 1000000 in
theorem cr_far_b (h : Nat → Int) (a t : Option Addr) (n C m C' : Nat) (tear : Int) (w : World) (hT : Tab w) (hl : n ≤ 1024) (hm : 10 < m) : Calls Tryd.prog 6 #[.agg (msg h a n C).toArray, .slice t m C', .int .i64 tear] w fun e w' => e = .returned (.bool true) ∧ Below w.heap.size w w' := by
  have hT0 := hT.2
  have TT : Hid (Tab w) := hT
  have T0 : Hid True := trivial
  have e0 : ¬ (1024 : Int) < n := by omega
  have e1 : (10 : Int) < m := by omega
  clear hT
  go_enter Tryd.func6, Tryd.ntmps6
  go_wp2_with (first
    | (have _q := T0; clear _q; refine wpList_box_rec rfl 29 (.tmp 0) rfl (msg h a n C) rfl w.heap.size rfl ?_; intro W0 R0 B0 z0
       have S0 : Hid (ckS w h a n C W0) := ⟨R0, TT.out.below B0 hT0, B0⟩
       clear R0 B0 z0 T0)
    | (have _q := S0; clear _q; go_at_call 5; refine (known_ok _ S0.out.2.1).mono ?_; rintro e W1 ⟨rfl, hB1⟩
       have S1 : Hid (ckS w h a n C W1) := S0.out.below hB1
       have c16 := (S1.out.1.at 16 _ (msg_body h a n C)).1
       clear hB1 S0))
  go_ret
  exact ⟨rfl, S1.out.2.2⟩
set_option maxRecDepth 100000 in
set_option maxHeartbeats 1000000 in
theorem cr_arg (h : Nat → Int) (a t : Option Addr) (n C m C' : Nat) (tear : Int) (w : World) (hT : Tab w) (hl : n ≤ 1024) (hm : m ≤ 10) (ho : okH (upd h 2 n) = false) : Calls Tryd.prog 6 #[.agg (msg h a n C).toArray, .slice t m C', .int .i64 tear] w fun e w' => e = .returned (.bool true) ∧ Below w.heap.size w w' := by
  have hT0 := hT.2
  have TT : Hid (Tab w) := hT
  have T0 : Hid True := trivial
  have e0 : ¬ (1024 : Int) < n := by omega
  have e1 : ¬ (10 : Int) < m := by omega
  have HO : Hid (okH (upd h 2 n) = false) := ho
  clear hT ho
  go_enter Tryd.func6, Tryd.ntmps6
  go_wp2_with (first
    | (have _q := T0; clear _q; refine wpList_box_rec rfl 29 (.tmp 0) rfl (msg h a n C) rfl w.heap.size rfl ?_; intro W0 R0 B0 z0
       have S0 : Hid (ckS w h a n C W0) := ⟨R0, TT.out.below B0 hT0, B0⟩
       clear R0 B0 z0 T0)
    | (have _q := S0; clear _q; go_at_call 5; refine (known_ok _ S0.out.2.1).mono ?_; rintro e W1 ⟨rfl, hB1⟩
       have S1 : Hid (ckS w h a n C W1) := S0.out.below hB1
       have c16 := (S1.out.1.at 16 _ (msg_body h a n C)).1
       clear hB1 S0)
    | (have _q := S1; clear _q; refine wpList_load_rec rfl 29 (.tmp 3) rfl w.heap.size 0 (msg h a n C) rfl _ Tryd.underlying29 rfl (by kernel_rfl) S1.out.1 ?_)
    | (have _q := S1; clear _q; go_at_call 9; refine (sbytes_arg h a n C _ hl S1.out.2.1 HO.out).mono ?_; rintro e W2 ⟨rfl, hB2⟩
       have S2 : Hid (ckS w h a n C W2) := S1.out.below hB2
       have c5 := (S2.out.1.at 5 (.int .i64 (h 5)) rfl).1
       clear hB2 S1)
    | (have _q := S2; clear _q; go_at_call 14; refine (of_any (h 5) _).mono ?_; rintro e w3 ⟨rfl, rfl⟩)
    | (have _q := S2; clear _q; go_at_call 11; refine (unwritten_ok (ofI (h 5)) _ S2.out.2.1 (isSl_of _)).mono ?_; rintro e W3 ⟨u, rfl, hu, hR3, hB3⟩
       have S3 : Hid (ckS w h a n C W3) := S2.out.below hB3
       clear hu hR3 hB3 S2 c5))
  go_ret
  exact ⟨rfl, S3.out.2.2⟩
set_option maxRecDepth 100000 in
set_option maxHeartbeats 1000000 in
theorem cr_not (h : Nat → Int) (a t : Option Addr) (n C m C' : Nat) (tear : Int) (f : Nat → Int) (w : World) (hT : Tab w) (hA : Arg w a n f) (hC : n ≤ C) (hW : Words h) (hl : n ≤ 1024) (hm : m ≤ 10) (ho : okH (upd h 2 (n : Nat)) = true) (hp : isPrep h (ofI (h 5)) = false) : Calls Tryd.prog 6 #[.agg (msg h a n C).toArray, .slice t m C', .int .i64 tear] w fun e w' => e = .returned (.bool true) ∧ Below w.heap.size w w' := by
  have hT0 := hT.2
  have TT : Hid (Tab w) := hT
  have T0 : Hid True := trivial
  have e0 : ¬ (1024 : Int) < n := by omega
  have e1 : ¬ (10 : Int) < m := by omega
  have HO : Hid (okH (upd h 2 (n : Nat)) = true) := ho
  have HA : Hid (Arg w a n f) := hA
  have HW : Hid (Words h) := hW
  have HP : Hid (isPrep h (ofI (h 5)) = false) := hp
  clear hT ho hA hW hp
  go_enter Tryd.func6, Tryd.ntmps6
  go_wp2_with (first
    | (have _q := T0; clear _q; refine wpList_box_rec rfl 29 (.tmp 0) rfl (msg h a n C) rfl w.heap.size rfl ?_; intro W0 R0 B0 z0
       have S0 : Hid (ckS w h a n C W0) := ⟨R0, TT.out.below B0 hT0, B0⟩
       clear R0 B0 z0 T0)
    | (have _q := S0; clear _q; go_at_call 5; refine (known_ok _ S0.out.2.1).mono ?_; rintro e W1 ⟨rfl, hB1⟩
       have S1 : Hid (ckS w h a n C W1) := S0.out.below hB1
       have c16 := (S1.out.1.at 16 _ (msg_body h a n C)).1
       clear hB1 S0)
    | (have _q := S1; clear _q; refine wpList_load_rec rfl 29 (.tmp 3) rfl w.heap.size 0 (msg h a n C) rfl _ Tryd.underlying29 rfl (by kernel_rfl) S1.out.1 ?_)
    | (have _q := S1; clear _q; go_at_call 9; refine (sbytes_not h a n C f _ hl S1.out.2.1 (HA.out.below S1.out.2.2) hC HW.out HO.out HP.out).mono ?_; rintro e W2 ⟨rfl, hB2⟩
       have S2 : Hid (ckS w h a n C W2) := S1.out.below hB2
       have c5 := (S2.out.1.at 5 (.int .i64 (h 5)) rfl).1
       clear hB2 S1)
    | (have _q := S2; clear _q; go_at_call 14; refine (of_any (h 5) _).mono ?_; rintro e w3 ⟨rfl, rfl⟩)
    | (have _q := S2; clear _q; go_at_call 11; refine (unwritten_ok (ofI (h 5)) _ S2.out.2.1 (isSl_of _)).mono ?_; rintro e W3 ⟨u, rfl, hu, hR3, hB3⟩
       have S3 : Hid (ckS w h a n C W3) := S2.out.below hB3
       clear hu hR3 hB3 S2 c5))
  go_ret
  exact ⟨rfl, S3.out.2.2⟩
/-- The prepare of a slot's bytes as they were written. -/
theorem prep_at {h f : Nat → Int} {n : Nat} {k : Int} {S hh : Nat → Int} (hn : n ≤ 1024) (hok : okH (upd h 2 (n : Nat)) = true) (hw : Words h) (hp : isPrep h k = true) (hS : ∀ j, 0 ≤ S j ∧ S j < 256) (eS : slotF h n f = S) (eH : upd h 2 ((n : Nat) : Int) = hh) (g : Nat) (w : World) (hT : Tab w) (hR : IRow w g .u8 1280 S) :
    Calls Tryd.prog 19 #[.slice (some ⟨g, 0, none⟩) 1280 1280, .int .i64 k] w fun e w' => ∃ x, e = .returned (.tuple #[.agg (msg hh (some ⟨x, 0, none⟩) n n).toArray, .bool true]) ∧ Arg w' (some ⟨x, 0, none⟩) n f ∧ Below w.heap.size w w' := by
  subst eS eH
  exact prep_same hn hok hw hp hS (fun _ _ => rfl) g w hT hR
/-- A struct is built, wanted or not guarded. -/
theorem wpList_build_w {ops : Array Oper} {rest : List Oper} {op : Oper} {a : Act} {w : World} {Q : Exit → Act → World → Prop} (hw : Region.wanted op (yielded ops a.tmps) = true) (t : TypeId) (parts : Array (Nat × Operand)) (ho : op.op = .build t parts)
    (cells : Array Value) (hf : Tryd.prog.built t (parts.map fun (i, x) => (i, a.eval x)).toList = some cells)
    (h : wpList Tryd.prog ops Q rest (a.put op.dst (.agg cells)) w) : wpList Tryd.prog ops Q (op :: rest) a w := by
  refine wpList_step fun K hK' => ?_
  rw [if_pos hw]
  exact wp_build t parts ho (by rw [hf]; rfl) (by rw [hf]; exact hK' _ _ h)
set_option maxRecDepth 100000 in
set_option maxHeartbeats 6000000 in
theorem cr_main (h : Nat → Int) (a t : Option Addr) (n C m C' : Nat) (tear : Int) (f : Nat → Int) (K : Nat → Bool) (w : World) (hT : Tab w) (hA : Arg w a n f) (hC : n ≤ C) (hK : KArg w t m K) (hW : Words h) (hl : n ≤ 1024) (hm : m ≤ 10) (ho : okH (upd h 2 (n : Nat)) = true) (hp : isPrep h (ofI (h 5)) = true) : Calls Tryd.prog 6 #[.agg (msg h a n C).toArray, .slice t m C', .int .i64 tear] w fun e w' => e = .returned (.bool true) ∧ Below w.heap.size w w' := by
  have hT0 := hT.2
  have TT : Hid (Tab w) := hT
  have T0 : Hid True := trivial
  have e0 : ¬ (1024 : Int) < n := by omega
  have e1 : ¬ (10 : Int) < m := by omega
  have OK : Hid (okH (upd h 2 (n : Nat)) = true) := ho
  have HA : Hid (Arg w a n f) := hA
  have HW : Hid (Words h) := hW
  have HKp : Hid (KArg w t m K) := hK
  obtain ⟨k, hk⟩ : ∃ k, ofI (h 5) = k := ⟨_, rfl⟩
  have HK : Hid (ofI (h 5) = k) := hk
  have SK : Hid (isSl k = true) := (by rw [← hk]; exact isSl_of _ : isSl k = true)
  have HP : Hid (isPrep h k = true) := (by rw [← hk]; exact hp : isPrep h k = true)
  have HP0 : Hid (isPrep h (ofI (h 5)) = true) := hp
  obtain ⟨hh, hhe⟩ : ∃ x, upd h 2 ((n : Nat) : Int) = x := ⟨_, rfl⟩
  have HH : Hid (upd h 2 ((n : Nat) : Int) = hh) := hhe
  obtain ⟨S, hS⟩ : ∃ S, slotF h n f = S := ⟨_, rfl⟩
  have HS : Hid (slotF h n f = S) := hS
  have BS : Hid (∀ j, 0 ≤ S j ∧ S j < 256) := (by rw [← hS]; exact fun j => slotF_byte h n f hA.bytes j : ∀ j, 0 ≤ S j ∧ S j < 256)
  clear hT ho hA hW hp hK hk hhe hS
  go_enter Tryd.func6, Tryd.ntmps6
  go_wp2_with (first
    | (have _q := T0; clear _q; refine wpList_box_rec rfl 29 (.tmp 0) rfl (msg h a n C) rfl w.heap.size rfl ?_; intro W0 R0 B0 z0
       have S0 : Hid (ckS w h a n C W0) := ⟨R0, TT.out.below B0 hT0, B0⟩
       clear R0 B0 z0 T0)
    | (have _q := S0; clear _q; go_at_call 5; refine (known_ok _ S0.out.2.1).mono ?_; rintro e W1 ⟨rfl, hB1⟩
       have S1 : Hid (ckS w h a n C W1) := S0.out.below hB1
       have c16 := (S1.out.1.at 16 _ (msg_body h a n C)).1
       clear hB1 S0)
    | (have _q := S1; clear _q; refine wpList_load_rec rfl 29 (.tmp 3) rfl w.heap.size 0 (msg h a n C) rfl _ Tryd.underlying29 rfl (by kernel_rfl) S1.out.1 ?_)
    | (have _q := S1; clear _q; go_at_call 9; refine (sbytes_ok h a n C f _ hl S1.out.2.1 (HA.out.below S1.out.2.2) hC HW.out OK.out HP0.out).mono ?_; rintro e W2 ⟨g, rfl, hg, hR2, hB2⟩
       rw [HS.out] at hR2
       have S2 : Hid (ckS w h a n C W2) := S1.out.below hB2
       have G2 : Hid (IRow W2 g .u8 1280 S) := hR2
       have N2 : Hid (w.heap.size < g) := Nat.lt_of_lt_of_le S1.out.1.2.2 hg
       have c5 := (S2.out.1.at 5 (.int .i64 (h 5)) rfl).1
       clear hg hR2 hB2 S1 c16)
    | (have _q := S2; clear _q; go_at_call 14; refine (of_any (h 5) _).mono ?_; rintro e w3 ⟨rfl, rfl⟩; rw [HK.out])
    | (have _q := S2; clear _q; go_at_call 11; refine (unwritten_ok k _ S2.out.2.1 SK.out).mono ?_; rintro e W3 ⟨u, rfl, hu, hR3, hB3⟩
       have S3 := S2.out.below hB3
       have nu : w.heap.size < u := Nat.lt_of_lt_of_le S2.out.1.2.2 hu
       have ng := N2.out
       have P4 : Hid (cS w g u hh a n C S k (W3.setCell ⟨w.heap.size, 2, none⟩ (.int .i64 n))) := ⟨(by rw [← HH.out, ← msg_size]; exact S3.1.set 2 (.int .i64 n) (by rw [msg_len]; omega)), (G2.out.below hB3).but (But.set _ _ _) (by omega), hR3.but (But.set _ _ _) (by omega), S3.2.1.below ((Below.refl w.heap.size W3).setCell (Nat.le_refl _) _) hT0, S3.2.2.setCell (Nat.le_refl _) _⟩
       have c16' := (S3.1.at 16 _ (msg_body h a n C)).1
       obtain ⟨c2, f2⟩ := S3.1.at 2 (.int .i64 (h 2)) rfl
       clear hu hR3 hB3 S3 nu ng S2 G2 c5)
    | (have _q := P4; clear _q; refine wpList_make rfl (.const (.int .i64 1280)) (.const (.int .i64 1280)) rfl 1280 W3.heap.size (by simp [World.setCell]) _ rfl rfl (by omega) (by omega) ?_; intro W5 r5 b5 z5
       have hB : Below (W3.setCell ⟨w.heap.size, 2, none⟩ (.int .i64 n)).heap.size (W3.setCell ⟨w.heap.size, 2, none⟩ (.int .i64 n)) W5 := (by rw [show (W3.setCell ⟨w.heap.size, 2, none⟩ (.int .i64 n)).heap.size = W3.heap.size from by simp [World.setCell]]; exact b5)
       have P5 : Hid (cS w g u hh a n C S k W5) := P4.out.below hB
       have Z5 : Hid (IRow W5 W3.heap.size .u8 1280 (fun _ => 0)) := r5
       clear hB r5 b5 z5 P4 c16' c2 f2)
    | (have _q := P5; clear _q; go_at_call 26; refine (part_any (some ⟨W3.heap.size, 0, none⟩) 1280 5 1280 1280 g m C' t (fun _ => 0) S K tear _ rfl (by omega) (by omega) (Z5.out.front (fun _ => ⟨by omega, by omega⟩) 1280 (by omega)) (fun _ => ⟨by omega, by omega⟩) (P5.out.2.1.lies (fun j _ => BS.out j)) BS.out (by omega) (HKp.out.below P5.out.2.2.2.2)).mono ?_; rintro e X0 ⟨l, cl, L, rfl, _, hcl, hL, hLb, hB⟩
       have LR0 : Hid (IRow X0 l .u8 1280 L) := hL
       have BL : Hid (∀ j, 0 ≤ L j ∧ L j < 256) := hLb
       have P0 : Hid (cS w g u hh a n C S k X0) := P5.out.below hB
       clear hL hLb hB P5 Z5))
  by_cases hpn : prepOK 1280 L k = true
  · have PN : Hid (prepOK 1280 L k = true) := hpn
    obtain ⟨st, op, vw, mm, hj, hJ⟩ : ∃ st op vw mm, (st = 1 ∧ op = hdrF L 5 ∧ vw = hdrF L 3 ∧ mm = true) ∧ judgeL 256 (unwF k) 1280 L k = ss st op vw mm := ⟨_, _, _, _, ⟨rfl, rfl, rfl, rfl⟩, unw_whole SK.out hpn⟩
    have JL : Hid (judgeL 256 (unwF k) 1280 L k = ss st op vw mm) := hJ
    have IH : Hid (st = 1 ∧ op = hdrF L 5 ∧ vw = hdrF L 3 ∧ mm = true) := hj
    clear hpn hJ hj
    go_wp2_with (first
        | (have _q := P0; clear _q; go_at_call 22; refine (judge_row2 u l 256 cl (unwF k) L k _ _ P0.out.2.2.2.1 (Arg.of (P0.out.2.2.1.lies (unwF_byte k))) (LR0.out.front BL.out 1280 (by omega)) (by omega) hcl JL.out).mono ?_; rintro e' X1 ⟨rfl, hB⟩
           have P1 : Hid (cS w g u hh a n C S k X1) := P0.out.below hB
           have LR1 : Hid (IRow X1 l .u8 1280 L) := LR0.out.below hB
           clear hB P0 LR0)
        | (have _q := P1; clear _q; refine wpList_alloc_rec rfl 45 rfl (ss 0 0 0 false) X1.heap.size rfl zeroSs ?_; intro X2 r2 b2 z2)
        | (have _q := P1; clear _q; refine wpList_store_rec rfl 45 (.tmp 14) (.tmp 79) rfl X1.heap.size 0 _ (ss st op vw mm) rfl rfl r2 rfl (by kernel_rfl) (ss_one _ _ _ _) ?_; intro X3 r3 b3
           have hB : Below X1.heap.size X1 X3 := b2.trans (b3.below (Nat.le_refl _) (by omega))
           have P3 : Hid (cS w g u hh a n C S k X3) := P1.out.below hB
           have LR3 : Hid (IRow X3 l .u8 1280 L) := LR1.out.below hB
           have D3 : Hid (Rec19 X3 X1.heap.size 0 (ss st op vw mm)) := r3
           have ND : Hid (w.heap.size < X1.heap.size ∧ g < X1.heap.size ∧ u < X1.heap.size) := ⟨P1.out.1.2.2, P1.out.2.1.2.2, P1.out.2.2.1.2.2⟩
           clear hB b2 b3 r2 r3 z2 P1 LR1
           generalize X1.heap.size = d at D3 ND ⊢)
        | (have _q := P3; clear _q; go_at_call 19; refine (prep_ok (some ⟨l, 0, none⟩) 1280 cl L k _ P3.out.2.2.2.1 (LR3.out.front BL.out 1280 (by omega)) hcl (by omega) PN.out).mono ?_; rintro e' X4 ⟨x, rfl, hx, hX, hB⟩; have XB4 : Hid (Arg X4 (some ⟨x, 0, none⟩) (hdrF L 2).toNat (fun j => L (256 + j))) := Arg.of (hX.lies (fun j _ => BL.out _)); clear hx hX
           have P4 : Hid (cS w g u hh a n C S k X4) := P3.out.below hB
           have D4 : Hid (Rec19 X4 d 0 (ss st op vw mm)) := D3.out.below hB
           clear hB P3 D3; clear LR3)
        | (have _q := P4; clear _q; refine wpList_alloc_rec rfl 29 rfl (msg (fun _ => 0) none 0 0) X4.heap.size rfl zeroMsg ?_; intro X5 r5 b5 z5)
        | (have _q := P4; clear _q; refine wpList_store_rec rfl 29 (.tmp 15) (.tmp 84) rfl X4.heap.size 0 _ (msg (hdrF L) (some ⟨x, 0, none⟩) (hdrF L 2).toNat (hdrF L 2).toNat) rfl rfl r5 rfl (by kernel_rfl) (msg_one _ _ _ _) ?_; intro X6 r6 b6
           have hB : Below X4.heap.size X4 X6 := b5.trans (b6.below (Nat.le_refl _) (by omega))
           have P6 : Hid (cS w g u hh a n C S k X6) := P4.out.below hB
           have D6 : Hid (Rec19 X6 d 0 (ss st op vw mm)) := D4.out.below hB
           have M6 : Hid (Rec19 X6 X4.heap.size 0 (msg (hdrF L) (some ⟨x, 0, none⟩) (hdrF L 2).toNat (hdrF L 2).toNat)) := r6
           have XB6 : Hid (Arg X6 (some ⟨x, 0, none⟩) (hdrF L 2).toNat (fun j => L (256 + j))) := XB4.out.below hB
           clear XB4
           clear hB b5 b6 r5 r6 z5 P4 D4
           generalize X4.heap.size = xm at M6 ⊢
           have TM : Hid True := trivial)
        | (have _q := TM; clear _q; refine wpList_load_w (by rfl) 29 (.tmp 15) rfl xm 0 (msg (hdrF L) (some ⟨x, 0, none⟩) (hdrF L 2).toNat (hdrF L 2).toNat) rfl _ Tryd.underlying29 rfl (by kernel_rfl) M6.out ?_)
        | (have _q := TM; clear _q; refine wpList_load_w (by rfl) 29 (.tmp 3) rfl w.heap.size 0 (msg hh a n C) rfl _ Tryd.underlying29 rfl (by kernel_rfl) P6.out.1 ?_))

    obtain ⟨b1, hb1, hcall⟩ := sameMsg_gen (hdrF L) hh (some ⟨x, 0, none⟩) a (hdrF L 2).toNat n (hdrF L 2).toNat C (fun j => L (256 + j)) f _ XB6.out (HA.out.below P6.out.2.2.2.2)
    refine hcall.mono ?_
    rintro e' X7 ⟨rfl, hB⟩
    have P7 : Hid (cS w g u hh a n C S k X7) := P6.out.below hB
    have D7 : Hid (Rec19 X7 d 0 (ss st op vw mm)) := D6.out.below hB
    clear hB P6 D6 M6 XB6 TM hcall
    cases b1 with
    | false =>
      go_wp2_with fail
      go_ret
      exact ⟨rfl, P7.out.2.2.2.2⟩
    | true =>
      have EE := hb1 rfl
      have IS : Hid (st = 1 ∧ op = hh 5 ∧ vw = hh 3 ∧ mm = true) := ⟨IH.out.1, IH.out.2.1.trans (EE 5 (by omega)), IH.out.2.2.1.trans (EE 3 (by omega)), IH.out.2.2.2⟩
      have s4 : st ≠ 4 := by rw [IH.out.1]; decide
      have s2 : st ≠ 2 := by rw [IH.out.1]; decide
      have H4 : Hid (st ≠ 4) := s4
      have H2 : Hid (st ≠ 2) := s2
      have c5 := (P7.out.1.at 5 (.int .i64 (hh 5)) rfl).1
      have c3 := (P7.out.1.at 3 (.int .i64 (hh 3)) rfl).1
      clear hb1 EE s4 s2
      go_wp2_with (first
        | (have _q := P7; clear _q; refine wpList_load_w (by rfl) 45 (.tmp 14) rfl d 0 (ss st op vw mm) rfl _ Tryd.underlying45 rfl (by kernel_rfl) D7.out ?_)
        | (have _q := P7; clear _q; refine wpList_build_w (by rfl) 45 #[(0, .const (.int .i64 4))] rfl (ss 4 0 0 false).toArray (by kernel_rfl) ?_)
        | (have _q := P7; clear _q; refine wpList_build_w (by rfl) 45 #[(0, .const (.int .i64 2))] rfl (ss 2 0 0 false).toArray (by kernel_rfl) ?_)
        | (have _q := P7; clear _q; refine wpList_eql_b (by rfl) 45 45 (.tmp 94) (.tmp 95) rfl (ss st op vw mm).toArray (ss 4 0 0 false).toArray rfl rfl false (eql_ss_no _ _ _ _ _ _ _ _ H4.out) guard_ss ?_)
        | (have _q := P7; clear _q; refine wpList_eql_b (by rfl) 45 45 (.tmp 98) (.tmp 99) rfl (ss st op vw mm).toArray (ss 2 0 0 false).toArray rfl rfl false (eql_ss_no _ _ _ _ _ _ _ _ H2.out) guard_ss ?_)
        | (have _q := P7; clear _q; go_at_call 25; refine (is_of2 _ _ _ _ _ _ _ _ IS.out _).mono ?_; rintro e' X8 ⟨rfl, hB⟩
           have P8 : Hid (cS w g u hh a n C S k X8) := P7.out.below hB
           have D8 : Hid (Rec19 X8 d 0 (ss st op vw mm)) := D7.out.below hB
           clear hB P7 D7; clear c5 c3)
        | (have _q := P8; clear _q; go_at_call 26; refine (part_any (some ⟨u, 0, none⟩) 256 1 256 1280 g m C' t (unwF k) S K tear _ rfl (by omega) (by omega) (Arg.of (P8.out.2.2.1.lies (unwF_byte k))) (unwF_all k) ((P8.out.2.1.lies (fun j _ => BS.out j)).part 0 256 (by omega)).zero BS.out (by omega) (HKp.out.below P8.out.2.2.2.2)).mono ?_; rintro e' Y1 ⟨c, cc, F, rfl, _, hcc, hF, hFb, hB⟩
           have CR1 : Hid (IRow Y1 c .u8 256 F) := hF
           have BC : Hid (∀ j, 0 ≤ F j ∧ F j < 256) := hFb
           clear hF hFb
           have Q1 : Hid (cS w g u hh a n C S k Y1) := P8.out.below hB
           have E1 : Hid (Rec19 Y1 d 0 (ss st op vw mm)) := D8.out.below hB
           clear hB P8 D8))
      obtain ⟨hv, hve⟩ : ∃ x, headV 256 F = x := ⟨_, rfl⟩
      have HV : Hid (headV 256 F = hv) := hve
      clear hve
      by_cases hc : headC 256 F = 0
      · have HC : Hid (headC 256 F = 0) := hc
        clear hc
        by_cases hu : ∀ j, j < 256 → F j = unwF k j
        · have EU : Hid (decide (txtN 256 F = txtN 256 (unwF k)) = true) := decide_eq_true ((head_txt BC.out (unwF_all k)).2 hu)
          obtain ⟨mc, hJ⟩ : ∃ mc, judgeL 256 F 1280 S k = ss 1 (hh 5) (hh 3) mc := ⟨true, (by rw [← HH.out, ← HS.out]; exact cut_unw SK.out hl OK.out HW.out HP.out hu)⟩
          have JC : Hid (judgeL 256 F 1280 S k = ss 1 (hh 5) (hh 3) mc) := hJ
          clear hu hJ
          go_wp2_with (first
              | (have _q := Q1; clear _q; go_at_call 27; refine (head_gen (some ⟨c, 0, none⟩) 256 cc F _ Q1.out.2.2.2.1 (CR1.out.front BC.out 256 (by omega)) hcc).mono ?_; rintro e' Y2 ⟨rfl, hB⟩; rw [HV.out, HC.out]
                 have Q2 : Hid (cS w g u hh a n C S k Y2) := Q1.out.below hB
                 have E2 : Hid (Rec19 Y2 d 0 (ss st op vw mm)) := E1.out.below hB
                 have CR2 : Hid (IRow Y2 c .u8 256 F) := CR1.out.below hB
                 clear hB Q1 E1 CR1)
              | (have _q := Q2; clear _q; refine wpList_alloc_rec rfl 26 rfl (hcs fun _ => 0) Y2.heap.size rfl zeroHdr ?_; intro Y3 r3 b3 z3)
              | (have _q := Q2; clear _q; refine wpList_store_rec rfl 26 (.tmp 19) (.tmp 128) rfl Y2.heap.size 0 _ (hcs hv) rfl rfl r3 rfl (by kernel_rfl) (hcs_one _) ?_; intro Y4 r4 b4
                 have hB : Below Y2.heap.size Y2 Y4 := b3.trans (b4.below (Nat.le_refl _) (by omega))
                 have Q4 : Hid (cS w g u hh a n C S k Y4) := Q2.out.below hB
                 have E4 : Hid (Rec19 Y4 d 0 (ss st op vw mm)) := E2.out.below hB
                 have CR4 : Hid (IRow Y4 c .u8 256 F) := CR2.out.below hB
                 have TU : Hid True := trivial
                 clear hB b3 b4 r3 r4 z3 Q2 E2 CR2)
              | (have _q := TU; clear _q; go_at_call 13; refine (same_any (some ⟨c, 0, none⟩) (some ⟨u, 0, none⟩) 256 256 cc 256 F (unwF k) _ (CR4.out.front BC.out 256 (by omega)) (Arg.of (Q4.out.2.2.1.lies (unwF_byte k)))).mono ?_; rintro e' Y5 ⟨rfl, rfl⟩; rw [EU.out]
                 have TB : Hid True := trivial
                 clear TU)
              | (have _q := Q4; clear _q; go_at_call 22; refine (judge_row2 c g cc 1280 F S k _ _ Q4.out.2.2.2.1 (CR4.out.front BC.out 256 (by omega)) (Q4.out.2.1.front BS.out 1280 (by omega)) hcc (by omega) JC.out).mono ?_; rintro e' Y6 ⟨rfl, hB⟩
                 have Q6 : Hid (cS w g u hh a n C S k Y6) := Q4.out.below hB
                 have E6 : Hid (Rec19 Y6 d 0 (ss st op vw mm)) := E4.out.below hB
                 clear hB Q4 E4; clear CR4)
              | (have _q := Q6; clear _q; refine wpList_store_rec rfl 45 (.tmp 14) (.tmp 149) rfl d 0 _ (ss 1 (hh 5) (hh 3) mc) rfl rfl E6.out rfl (by kernel_rfl) (ss_one _ _ _ _) ?_; intro Y7 r7 b7
                 have nd := ND.out
                 have Q7 : Hid (cS w g u hh a n C S k Y7) := ⟨Q6.out.1.but b7 (by omega), Q6.out.2.1.but b7 (by omega), Q6.out.2.2.1.but b7 (by omega), Q6.out.2.2.2.1.below (b7.below (by omega) Q6.out.2.2.2.2.size) hT0, Q6.out.2.2.2.2.trans (b7.below (by omega) Q6.out.2.2.2.2.size)⟩
                 have E7 : Hid (Rec19 Y7 d 0 (ss 1 (hh 5) (hh 3) mc)) := r7
                 clear nd r7 b7 Q6 E6)
              | (have _q := Q7; clear _q; go_at_call 19; refine (prep_at hl OK.out HW.out HP.out BS.out HS.out HH.out g _ Q7.out.2.2.2.1 Q7.out.2.1).mono ?_; rintro e' Y8 ⟨y, rfl, hYB, hB⟩
                 have YB8 : Hid (Arg Y8 (some ⟨y, 0, none⟩) n f) := hYB
                 have Q8 : Hid (cS w g u hh a n C S k Y8) := Q7.out.below hB
                 have E8 : Hid (Rec19 Y8 d 0 (ss 1 (hh 5) (hh 3) mc)) := E7.out.below hB
                 clear hYB hB Q7 E7)
              | (have _q := Q8; clear _q; refine wpList_alloc_rec rfl 29 rfl (msg (fun _ => 0) none 0 0) Y8.heap.size rfl zeroMsg ?_; intro Y9 r9 b9 z9)
              | (have _q := Q8; clear _q; refine wpList_store_rec rfl 29 (.tmp 21) (.tmp 154) rfl Y8.heap.size 0 _ (msg hh (some ⟨y, 0, none⟩) n n) rfl rfl r9 rfl (by kernel_rfl) (msg_one _ _ _ _) ?_; intro U1 v1 s1
                 have hB : Below Y8.heap.size Y8 U1 := b9.trans (s1.below (Nat.le_refl _) (by omega))
                 have QA : Hid (cS w g u hh a n C S k U1) := Q8.out.below hB
                 have EA : Hid (Rec19 U1 d 0 (ss 1 (hh 5) (hh 3) mc)) := E8.out.below hB
                 have MA : Hid (Rec19 U1 Y8.heap.size 0 (msg hh (some ⟨y, 0, none⟩) n n)) := v1
                 have YA : Hid (Arg U1 (some ⟨y, 0, none⟩) n f) := YB8.out.below hB
                 clear hB b9 r9 z9 v1 s1 Q8 E8 YB8
                 generalize Y8.heap.size = ym at MA ⊢)
              | (have _q := QA; clear _q; refine wpList_load_w (by rfl) 29 (.tmp 21) rfl ym 0 (msg hh (some ⟨y, 0, none⟩) n n) rfl _ Tryd.underlying29 rfl (by kernel_rfl) MA.out ?_)
              | (have _q := QA; clear _q; refine wpList_load_w (by rfl) 29 (.tmp 3) rfl w.heap.size 0 (msg hh a n C) rfl _ Tryd.underlying29 rfl (by kernel_rfl) QA.out.1 ?_)
              | (have _q := QA; clear _q; go_at_call 21; refine (sameMsg_any hh (some ⟨y, 0, none⟩) a n n n C f f _ YA.out (HA.out.below QA.out.2.2.2.2) rfl (fun _ _ => rfl)).mono ?_; rintro e' U2 ⟨rfl, hB⟩
                 have QB : Hid (cS w g u hh a n C S k U2) := QA.out.below hB
                 have EB2 : Rec19 U2 d 0 (ss 1 (hh 5) (hh 3) mc) := EA.out.below hB
                 have d0 := (EB2.at 0 (.int .i64 1) rfl).1
                 have d1 := (EB2.at 1 (.int .i64 (hh 5)) rfl).1
                 have d2 := (EB2.at 2 (.int .i64 (hh 3)) rfl).1
                 have c5 := (QB.out.1.at 5 (.int .i64 (hh 5)) rfl).1
                 have c3 := (QB.out.1.at 3 (.int .i64 (hh 3)) rfl).1
                 clear hB QA EA MA YA EB2))
          go_ret
          exact ⟨rfl, QB.out.2.2.2.2⟩
        · have EU : Hid (decide (txtN 256 F = txtN 256 (unwF k)) = false) := decide_eq_false (fun q => hu ((head_txt BC.out (unwF_all k)).1 q))
          clear hu
          by_cases hb : ∀ j, j < 256 → F j = S j
          · have EB : Hid (decide (txtN 256 F = txtN 256 S) = true) := decide_eq_true ((head_txt BC.out BS.out).2 hb)
            obtain ⟨mc, hJ⟩ : ∃ mc, judgeL 256 F 1280 S k = ss 1 (hh 5) (hh 3) mc := ⟨false, (by rw [← HH.out]; exact turn_jB (h := h) (f := f) (n := n) SK.out hl OK.out HW.out HP.out (by rw [HS.out]; exact fun _ _ => rfl) (by rw [HS.out]; exact hb))⟩
            have JC : Hid (judgeL 256 F 1280 S k = ss 1 (hh 5) (hh 3) mc) := hJ
            clear hb hJ
            go_wp2_with (first
                | (have _q := Q1; clear _q; go_at_call 27; refine (head_gen (some ⟨c, 0, none⟩) 256 cc F _ Q1.out.2.2.2.1 (CR1.out.front BC.out 256 (by omega)) hcc).mono ?_; rintro e' Y2 ⟨rfl, hB⟩; rw [HV.out, HC.out]
                   have Q2 : Hid (cS w g u hh a n C S k Y2) := Q1.out.below hB
                   have E2 : Hid (Rec19 Y2 d 0 (ss st op vw mm)) := E1.out.below hB
                   have CR2 : Hid (IRow Y2 c .u8 256 F) := CR1.out.below hB
                   clear hB Q1 E1 CR1)
                | (have _q := Q2; clear _q; refine wpList_alloc_rec rfl 26 rfl (hcs fun _ => 0) Y2.heap.size rfl zeroHdr ?_; intro Y3 r3 b3 z3)
                | (have _q := Q2; clear _q; refine wpList_store_rec rfl 26 (.tmp 19) (.tmp 128) rfl Y2.heap.size 0 _ (hcs hv) rfl rfl r3 rfl (by kernel_rfl) (hcs_one _) ?_; intro Y4 r4 b4
                   have hB : Below Y2.heap.size Y2 Y4 := b3.trans (b4.below (Nat.le_refl _) (by omega))
                   have Q4 : Hid (cS w g u hh a n C S k Y4) := Q2.out.below hB
                   have E4 : Hid (Rec19 Y4 d 0 (ss st op vw mm)) := E2.out.below hB
                   have CR4 : Hid (IRow Y4 c .u8 256 F) := CR2.out.below hB
                   have TU : Hid True := trivial
                   clear hB b3 b4 r3 r4 z3 Q2 E2 CR2)
                | (have _q := TU; clear _q; go_at_call 13; refine (same_any (some ⟨c, 0, none⟩) (some ⟨u, 0, none⟩) 256 256 cc 256 F (unwF k) _ (CR4.out.front BC.out 256 (by omega)) (Arg.of (Q4.out.2.2.1.lies (unwF_byte k)))).mono ?_; rintro e' Y5 ⟨rfl, rfl⟩; rw [EU.out]
                   have TB : Hid True := trivial
                   clear TU)
                | (have _q := TB; clear _q; go_at_call 13; refine (same_any (some ⟨c, 0, none⟩) (some ⟨g, 0, none⟩) 256 256 cc 1280 F S _ (CR4.out.front BC.out 256 (by omega)) (Q4.out.2.1.front BS.out 256 (by omega))).mono ?_; rintro e' Y5 ⟨rfl, rfl⟩; rw [EB.out]; clear TB)
                | (have _q := Q4; clear _q; go_at_call 22; refine (judge_row2 c g cc 1280 F S k _ _ Q4.out.2.2.2.1 (CR4.out.front BC.out 256 (by omega)) (Q4.out.2.1.front BS.out 1280 (by omega)) hcc (by omega) JC.out).mono ?_; rintro e' Y6 ⟨rfl, hB⟩
                   have Q6 : Hid (cS w g u hh a n C S k Y6) := Q4.out.below hB
                   have E6 : Hid (Rec19 Y6 d 0 (ss st op vw mm)) := E4.out.below hB
                   clear hB Q4 E4; clear CR4)
                | (have _q := Q6; clear _q; refine wpList_store_rec rfl 45 (.tmp 14) (.tmp 149) rfl d 0 _ (ss 1 (hh 5) (hh 3) mc) rfl rfl E6.out rfl (by kernel_rfl) (ss_one _ _ _ _) ?_; intro Y7 r7 b7
                   have nd := ND.out
                   have Q7 : Hid (cS w g u hh a n C S k Y7) := ⟨Q6.out.1.but b7 (by omega), Q6.out.2.1.but b7 (by omega), Q6.out.2.2.1.but b7 (by omega), Q6.out.2.2.2.1.below (b7.below (by omega) Q6.out.2.2.2.2.size) hT0, Q6.out.2.2.2.2.trans (b7.below (by omega) Q6.out.2.2.2.2.size)⟩
                   have E7 : Hid (Rec19 Y7 d 0 (ss 1 (hh 5) (hh 3) mc)) := r7
                   clear nd r7 b7 Q6 E6)
                | (have _q := Q7; clear _q; go_at_call 19; refine (prep_at hl OK.out HW.out HP.out BS.out HS.out HH.out g _ Q7.out.2.2.2.1 Q7.out.2.1).mono ?_; rintro e' Y8 ⟨y, rfl, hYB, hB⟩
                   have YB8 : Hid (Arg Y8 (some ⟨y, 0, none⟩) n f) := hYB
                   have Q8 : Hid (cS w g u hh a n C S k Y8) := Q7.out.below hB
                   have E8 : Hid (Rec19 Y8 d 0 (ss 1 (hh 5) (hh 3) mc)) := E7.out.below hB
                   clear hYB hB Q7 E7)
                | (have _q := Q8; clear _q; refine wpList_alloc_rec rfl 29 rfl (msg (fun _ => 0) none 0 0) Y8.heap.size rfl zeroMsg ?_; intro Y9 r9 b9 z9)
                | (have _q := Q8; clear _q; refine wpList_store_rec rfl 29 (.tmp 21) (.tmp 154) rfl Y8.heap.size 0 _ (msg hh (some ⟨y, 0, none⟩) n n) rfl rfl r9 rfl (by kernel_rfl) (msg_one _ _ _ _) ?_; intro U1 v1 s1
                   have hB : Below Y8.heap.size Y8 U1 := b9.trans (s1.below (Nat.le_refl _) (by omega))
                   have QA : Hid (cS w g u hh a n C S k U1) := Q8.out.below hB
                   have EA : Hid (Rec19 U1 d 0 (ss 1 (hh 5) (hh 3) mc)) := E8.out.below hB
                   have MA : Hid (Rec19 U1 Y8.heap.size 0 (msg hh (some ⟨y, 0, none⟩) n n)) := v1
                   have YA : Hid (Arg U1 (some ⟨y, 0, none⟩) n f) := YB8.out.below hB
                   clear hB b9 r9 z9 v1 s1 Q8 E8 YB8
                   generalize Y8.heap.size = ym at MA ⊢)
                | (have _q := QA; clear _q; refine wpList_load_w (by rfl) 29 (.tmp 21) rfl ym 0 (msg hh (some ⟨y, 0, none⟩) n n) rfl _ Tryd.underlying29 rfl (by kernel_rfl) MA.out ?_)
                | (have _q := QA; clear _q; refine wpList_load_w (by rfl) 29 (.tmp 3) rfl w.heap.size 0 (msg hh a n C) rfl _ Tryd.underlying29 rfl (by kernel_rfl) QA.out.1 ?_)
                | (have _q := QA; clear _q; go_at_call 21; refine (sameMsg_any hh (some ⟨y, 0, none⟩) a n n n C f f _ YA.out (HA.out.below QA.out.2.2.2.2) rfl (fun _ _ => rfl)).mono ?_; rintro e' U2 ⟨rfl, hB⟩
                   have QB : Hid (cS w g u hh a n C S k U2) := QA.out.below hB
                   have EB2 : Rec19 U2 d 0 (ss 1 (hh 5) (hh 3) mc) := EA.out.below hB
                   have d0 := (EB2.at 0 (.int .i64 1) rfl).1
                   have d1 := (EB2.at 1 (.int .i64 (hh 5)) rfl).1
                   have d2 := (EB2.at 2 (.int .i64 (hh 3)) rfl).1
                   have c5 := (QB.out.1.at 5 (.int .i64 (hh 5)) rfl).1
                   have c3 := (QB.out.1.at 3 (.int .i64 (hh 3)) rfl).1
                   clear hB QA EA MA YA EB2))
            go_ret
            exact ⟨rfl, QB.out.2.2.2.2⟩
          · have EB : Hid (decide (txtN 256 F = txtN 256 S) = false) := decide_eq_false (fun q => hb ((head_txt BC.out BS.out).1 q))
            clear hb
            go_wp2_with (first
                | (have _q := Q1; clear _q; go_at_call 27; refine (head_gen (some ⟨c, 0, none⟩) 256 cc F _ Q1.out.2.2.2.1 (CR1.out.front BC.out 256 (by omega)) hcc).mono ?_; rintro e' Y2 ⟨rfl, hB⟩; rw [HV.out, HC.out]
                   have Q2 : Hid (cS w g u hh a n C S k Y2) := Q1.out.below hB
                   have E2 : Hid (Rec19 Y2 d 0 (ss st op vw mm)) := E1.out.below hB
                   have CR2 : Hid (IRow Y2 c .u8 256 F) := CR1.out.below hB
                   clear hB Q1 E1 CR1)
                | (have _q := Q2; clear _q; refine wpList_alloc_rec rfl 26 rfl (hcs fun _ => 0) Y2.heap.size rfl zeroHdr ?_; intro Y3 r3 b3 z3)
                | (have _q := Q2; clear _q; refine wpList_store_rec rfl 26 (.tmp 19) (.tmp 128) rfl Y2.heap.size 0 _ (hcs hv) rfl rfl r3 rfl (by kernel_rfl) (hcs_one _) ?_; intro Y4 r4 b4
                   have hB : Below Y2.heap.size Y2 Y4 := b3.trans (b4.below (Nat.le_refl _) (by omega))
                   have Q4 : Hid (cS w g u hh a n C S k Y4) := Q2.out.below hB
                   have E4 : Hid (Rec19 Y4 d 0 (ss st op vw mm)) := E2.out.below hB
                   have CR4 : Hid (IRow Y4 c .u8 256 F) := CR2.out.below hB
                   have TU : Hid True := trivial
                   clear hB b3 b4 r3 r4 z3 Q2 E2 CR2)
                | (have _q := TU; clear _q; go_at_call 13; refine (same_any (some ⟨c, 0, none⟩) (some ⟨u, 0, none⟩) 256 256 cc 256 F (unwF k) _ (CR4.out.front BC.out 256 (by omega)) (Arg.of (Q4.out.2.2.1.lies (unwF_byte k)))).mono ?_; rintro e' Y5 ⟨rfl, rfl⟩; rw [EU.out]
                   have TB : Hid True := trivial
                   clear TU)
                | (have _q := TB; clear _q; go_at_call 13; refine (same_any (some ⟨c, 0, none⟩) (some ⟨g, 0, none⟩) 256 256 cc 1280 F S _ (CR4.out.front BC.out 256 (by omega)) (Q4.out.2.1.front BS.out 256 (by omega))).mono ?_; rintro e' Y5 ⟨rfl, rfl⟩; rw [EB.out]; clear TB))
            go_ret
            exact ⟨rfl, Q4.out.2.2.2.2⟩
      · obtain ⟨hc0, hce⟩ : ∃ x, headC 256 F = x := ⟨_, rfl⟩
        have HC : Hid (headC 256 F = hc0) := hce
        have z1 : (hc0 == 0) = false := by rw [hce] at hc; simpa using hc
        obtain ⟨mc, hJ⟩ : ∃ mc, judgeL 256 F 1280 S k = ss 1 (hh 5) (hh 3) mc := ⟨true, (by rw [← HH.out]; exact turn_jC (h := h) (f := f) (n := n) SK.out hl OK.out HW.out HP.out (by rw [HS.out]; exact fun _ _ => rfl) hc)⟩
        have JC : Hid (judgeL 256 F 1280 S k = ss 1 (hh 5) (hh 3) mc) := hJ
        clear hce hc hJ
        go_wp2_with (first
            | (have _q := Q1; clear _q; go_at_call 27; refine (head_gen (some ⟨c, 0, none⟩) 256 cc F _ Q1.out.2.2.2.1 (CR1.out.front BC.out 256 (by omega)) hcc).mono ?_; rintro e' Y2 ⟨rfl, hB⟩; rw [HV.out, HC.out]
               have Q2 : Hid (cS w g u hh a n C S k Y2) := Q1.out.below hB
               have E2 : Hid (Rec19 Y2 d 0 (ss st op vw mm)) := E1.out.below hB
               have CR2 : Hid (IRow Y2 c .u8 256 F) := CR1.out.below hB
               clear hB Q1 E1 CR1)
            | (have _q := Q2; clear _q; refine wpList_alloc_rec rfl 26 rfl (hcs fun _ => 0) Y2.heap.size rfl zeroHdr ?_; intro Y3 r3 b3 z3)
            | (have _q := Q2; clear _q; refine wpList_store_rec rfl 26 (.tmp 19) (.tmp 128) rfl Y2.heap.size 0 _ (hcs hv) rfl rfl r3 rfl (by kernel_rfl) (hcs_one _) ?_; intro Y4 r4 b4
               have hB : Below Y2.heap.size Y2 Y4 := b3.trans (b4.below (Nat.le_refl _) (by omega))
               have Q4 : Hid (cS w g u hh a n C S k Y4) := Q2.out.below hB
               have E4 : Hid (Rec19 Y4 d 0 (ss st op vw mm)) := E2.out.below hB
               have CR4 : Hid (IRow Y4 c .u8 256 F) := CR2.out.below hB
               have TU : Hid True := trivial
               clear hB b3 b4 r3 r4 z3 Q2 E2 CR2)
            | (have _q := Q4; clear _q; go_at_call 22; refine (judge_row2 c g cc 1280 F S k _ _ Q4.out.2.2.2.1 (CR4.out.front BC.out 256 (by omega)) (Q4.out.2.1.front BS.out 1280 (by omega)) hcc (by omega) JC.out).mono ?_; rintro e' Y6 ⟨rfl, hB⟩
               have Q6 : Hid (cS w g u hh a n C S k Y6) := Q4.out.below hB
               have E6 : Hid (Rec19 Y6 d 0 (ss st op vw mm)) := E4.out.below hB
               clear hB Q4 E4; clear CR4)
            | (have _q := Q6; clear _q; refine wpList_store_rec rfl 45 (.tmp 14) (.tmp 149) rfl d 0 _ (ss 1 (hh 5) (hh 3) mc) rfl rfl E6.out rfl (by kernel_rfl) (ss_one _ _ _ _) ?_; intro Y7 r7 b7
               have nd := ND.out
               have Q7 : Hid (cS w g u hh a n C S k Y7) := ⟨Q6.out.1.but b7 (by omega), Q6.out.2.1.but b7 (by omega), Q6.out.2.2.1.but b7 (by omega), Q6.out.2.2.2.1.below (b7.below (by omega) Q6.out.2.2.2.2.size) hT0, Q6.out.2.2.2.2.trans (b7.below (by omega) Q6.out.2.2.2.2.size)⟩
               have E7 : Hid (Rec19 Y7 d 0 (ss 1 (hh 5) (hh 3) mc)) := r7
               clear nd r7 b7 Q6 E6)
            | (have _q := Q7; clear _q; go_at_call 19; refine (prep_at hl OK.out HW.out HP.out BS.out HS.out HH.out g _ Q7.out.2.2.2.1 Q7.out.2.1).mono ?_; rintro e' Y8 ⟨y, rfl, hYB, hB⟩
               have YB8 : Hid (Arg Y8 (some ⟨y, 0, none⟩) n f) := hYB
               have Q8 : Hid (cS w g u hh a n C S k Y8) := Q7.out.below hB
               have E8 : Hid (Rec19 Y8 d 0 (ss 1 (hh 5) (hh 3) mc)) := E7.out.below hB
               clear hYB hB Q7 E7)
            | (have _q := Q8; clear _q; refine wpList_alloc_rec rfl 29 rfl (msg (fun _ => 0) none 0 0) Y8.heap.size rfl zeroMsg ?_; intro Y9 r9 b9 z9)
            | (have _q := Q8; clear _q; refine wpList_store_rec rfl 29 (.tmp 21) (.tmp 154) rfl Y8.heap.size 0 _ (msg hh (some ⟨y, 0, none⟩) n n) rfl rfl r9 rfl (by kernel_rfl) (msg_one _ _ _ _) ?_; intro U1 v1 s1
               have hB : Below Y8.heap.size Y8 U1 := b9.trans (s1.below (Nat.le_refl _) (by omega))
               have QA : Hid (cS w g u hh a n C S k U1) := Q8.out.below hB
               have EA : Hid (Rec19 U1 d 0 (ss 1 (hh 5) (hh 3) mc)) := E8.out.below hB
               have MA : Hid (Rec19 U1 Y8.heap.size 0 (msg hh (some ⟨y, 0, none⟩) n n)) := v1
               have YA : Hid (Arg U1 (some ⟨y, 0, none⟩) n f) := YB8.out.below hB
               clear hB b9 r9 z9 v1 s1 Q8 E8 YB8
               generalize Y8.heap.size = ym at MA ⊢)
            | (have _q := QA; clear _q; refine wpList_load_w (by rfl) 29 (.tmp 21) rfl ym 0 (msg hh (some ⟨y, 0, none⟩) n n) rfl _ Tryd.underlying29 rfl (by kernel_rfl) MA.out ?_)
            | (have _q := QA; clear _q; refine wpList_load_w (by rfl) 29 (.tmp 3) rfl w.heap.size 0 (msg hh a n C) rfl _ Tryd.underlying29 rfl (by kernel_rfl) QA.out.1 ?_)
            | (have _q := QA; clear _q; go_at_call 21; refine (sameMsg_any hh (some ⟨y, 0, none⟩) a n n n C f f _ YA.out (HA.out.below QA.out.2.2.2.2) rfl (fun _ _ => rfl)).mono ?_; rintro e' U2 ⟨rfl, hB⟩
               have QB : Hid (cS w g u hh a n C S k U2) := QA.out.below hB
               have EB2 : Rec19 U2 d 0 (ss 1 (hh 5) (hh 3) mc) := EA.out.below hB
               have d0 := (EB2.at 0 (.int .i64 1) rfl).1
               have d1 := (EB2.at 1 (.int .i64 (hh 5)) rfl).1
               have d2 := (EB2.at 2 (.int .i64 (hh 3)) rfl).1
               have c5 := (QB.out.1.at 5 (.int .i64 (hh 5)) rfl).1
               have c3 := (QB.out.1.at 3 (.int .i64 (hh 3)) rfl).1
               clear hB QA EA MA YA EB2))
        go_ret
        exact ⟨rfl, QB.out.2.2.2.2⟩
  · have pn : prepOK 1280 L k = false := by simpa using hpn
    have PN : Hid (prepOK 1280 L k = false) := pn
    clear hpn
    by_cases hz : zeroN 1280 L = true
    · have JL : Hid (judgeL 256 (unwF k) 1280 L k = ss 4 0 0 false) := unw_empty SK.out pn hz
      clear pn hz
      go_wp2_with (first
          | (have _q := P0; clear _q; go_at_call 22; refine (judge_row2 u l 256 cl (unwF k) L k _ _ P0.out.2.2.2.1 (Arg.of (P0.out.2.2.1.lies (unwF_byte k))) (LR0.out.front BL.out 1280 (by omega)) (by omega) hcl JL.out).mono ?_; rintro e' X1 ⟨rfl, hB⟩
             have P1 : Hid (cS w g u hh a n C S k X1) := P0.out.below hB
             have LR1 : Hid (IRow X1 l .u8 1280 L) := LR0.out.below hB
             clear hB P0 LR0)
          | (have _q := P1; clear _q; refine wpList_alloc_rec rfl 45 rfl (ss 0 0 0 false) X1.heap.size rfl zeroSs ?_; intro X2 r2 b2 z2)
          | (have _q := P1; clear _q; refine wpList_store_rec rfl 45 (.tmp 14) (.tmp 79) rfl X1.heap.size 0 _ (ss 4 0 0 false) rfl rfl r2 rfl (by kernel_rfl) (ss_one _ _ _ _) ?_; intro X3 r3 b3
             have hB : Below X1.heap.size X1 X3 := b2.trans (b3.below (Nat.le_refl _) (by omega))
             have P3 : Hid (cS w g u hh a n C S k X3) := P1.out.below hB
             have LR3 : Hid (IRow X3 l .u8 1280 L) := LR1.out.below hB
             have D3 : Hid (Rec19 X3 X1.heap.size 0 (ss 4 0 0 false)) := r3
             have ND : Hid (w.heap.size < X1.heap.size ∧ g < X1.heap.size ∧ u < X1.heap.size) := ⟨P1.out.1.2.2, P1.out.2.1.2.2, P1.out.2.2.1.2.2⟩
             clear hB b2 b3 r2 r3 z2 P1 LR1
             generalize X1.heap.size = d at D3 ND ⊢)
          | (have _q := P3; clear _q; go_at_call 19; refine (prep_no (some ⟨l, 0, none⟩) 1280 cl L k _ P3.out.2.2.2.1 (LR3.out.front BL.out 1280 (by omega)) hcl (by omega) PN.out).mono ?_; rintro e' X4 ⟨rfl, hB⟩
             have P4 : Hid (cS w g u hh a n C S k X4) := P3.out.below hB
             have D4 : Hid (Rec19 X4 d 0 (ss 4 0 0 false)) := D3.out.below hB
             clear hB P3 D3; clear LR3)
          | (have _q := P4; clear _q; refine wpList_alloc_rec rfl 29 rfl (msg (fun _ => 0) none 0 0) X4.heap.size rfl zeroMsg ?_; intro X5 r5 b5 z5)
          | (have _q := P4; clear _q; refine wpList_store_rec rfl 29 (.tmp 15) (.tmp 84) rfl X4.heap.size 0 _ (msg (fun _ => 0) none 0 0) rfl rfl r5 rfl (by kernel_rfl) (msg_one _ _ _ _) ?_; intro X6 r6 b6
             have hB : Below X4.heap.size X4 X6 := b5.trans (b6.below (Nat.le_refl _) (by omega))
             have P6 : Hid (cS w g u hh a n C S k X6) := P4.out.below hB
             have D6 : Hid (Rec19 X6 d 0 (ss 4 0 0 false)) := D4.out.below hB
             have M6 : Hid (Rec19 X6 X4.heap.size 0 (msg (fun _ => 0) none 0 0)) := r6
             clear hB b5 b6 r5 r6 z5 P4 D4
             generalize X4.heap.size = xm at M6 ⊢)
          | (have _q := P6; clear _q; refine wpList_load_rec rfl 45 (.tmp 14) rfl d 0 (ss 4 0 0 false) rfl _ Tryd.underlying45 rfl (by kernel_rfl) D6.out ?_)
          | (have _q := P6; clear _q; refine wpList_build_w (by rfl) 45 _ rfl (ss 4 0 0 false).toArray (by kernel_rfl) ?_)
          | (have _q := P6; clear _q; refine wpList_eql_w (by rfl) 45 45 (.tmp 94) (.tmp 95) rfl (ss 4 0 0 false).toArray rfl rfl (eql_ss 4 0 0 false) guard_ss ?_)
          | (have _q := P6; clear _q; go_at_call 26; refine (part_any (some ⟨u, 0, none⟩) 256 1 256 1280 g m C' t (unwF k) S K tear _ rfl (by omega) (by omega) (Arg.of (P6.out.2.2.1.lies (unwF_byte k))) (unwF_all k) ((P6.out.2.1.lies (fun j _ => BS.out j)).part 0 256 (by omega)).zero BS.out (by omega) (HKp.out.below P6.out.2.2.2.2)).mono ?_; rintro e' Y1 ⟨c, cc, F, rfl, _, hcc, hF, hFb, hB⟩
             have CR1 : Hid (IRow Y1 c .u8 256 F) := hF
             have BC : Hid (∀ j, 0 ≤ F j ∧ F j < 256) := hFb
             clear hF hFb
             have Q1 : Hid (cS w g u hh a n C S k Y1) := P6.out.below hB
             have E1 : Hid (Rec19 Y1 d 0 (ss 4 0 0 false)) := D6.out.below hB
             clear hB P6 D6))

      obtain ⟨hv, hve⟩ : ∃ x, headV 256 F = x := ⟨_, rfl⟩
      have HV : Hid (headV 256 F = hv) := hve
      clear hve
      by_cases hc : headC 256 F = 0
      · have HC : Hid (headC 256 F = 0) := hc
        clear hc
        by_cases hu : ∀ j, j < 256 → F j = unwF k j
        · have EU : Hid (decide (txtN 256 F = txtN 256 (unwF k)) = true) := decide_eq_true ((head_txt BC.out (unwF_all k)).2 hu)
          obtain ⟨mc, hJ⟩ : ∃ mc, judgeL 256 F 1280 S k = ss 1 (hh 5) (hh 3) mc := ⟨true, (by rw [← HH.out, ← HS.out]; exact cut_unw SK.out hl OK.out HW.out HP.out hu)⟩
          have JC : Hid (judgeL 256 F 1280 S k = ss 1 (hh 5) (hh 3) mc) := hJ
          clear hu hJ
          go_wp2_with (first
              | (have _q := Q1; clear _q; go_at_call 27; refine (head_gen (some ⟨c, 0, none⟩) 256 cc F _ Q1.out.2.2.2.1 (CR1.out.front BC.out 256 (by omega)) hcc).mono ?_; rintro e' Y2 ⟨rfl, hB⟩; rw [HV.out, HC.out]
                 have Q2 : Hid (cS w g u hh a n C S k Y2) := Q1.out.below hB
                 have E2 : Hid (Rec19 Y2 d 0 (ss 4 0 0 false)) := E1.out.below hB
                 have CR2 : Hid (IRow Y2 c .u8 256 F) := CR1.out.below hB
                 clear hB Q1 E1 CR1)
              | (have _q := Q2; clear _q; refine wpList_alloc_rec rfl 26 rfl (hcs fun _ => 0) Y2.heap.size rfl zeroHdr ?_; intro Y3 r3 b3 z3)
              | (have _q := Q2; clear _q; refine wpList_store_rec rfl 26 (.tmp 19) (.tmp 128) rfl Y2.heap.size 0 _ (hcs hv) rfl rfl r3 rfl (by kernel_rfl) (hcs_one _) ?_; intro Y4 r4 b4
                 have hB : Below Y2.heap.size Y2 Y4 := b3.trans (b4.below (Nat.le_refl _) (by omega))
                 have Q4 : Hid (cS w g u hh a n C S k Y4) := Q2.out.below hB
                 have E4 : Hid (Rec19 Y4 d 0 (ss 4 0 0 false)) := E2.out.below hB
                 have CR4 : Hid (IRow Y4 c .u8 256 F) := CR2.out.below hB
                 have TU : Hid True := trivial
                 clear hB b3 b4 r3 r4 z3 Q2 E2 CR2)
              | (have _q := TU; clear _q; go_at_call 13; refine (same_any (some ⟨c, 0, none⟩) (some ⟨u, 0, none⟩) 256 256 cc 256 F (unwF k) _ (CR4.out.front BC.out 256 (by omega)) (Arg.of (Q4.out.2.2.1.lies (unwF_byte k)))).mono ?_; rintro e' Y5 ⟨rfl, rfl⟩; rw [EU.out]
                 have TB : Hid True := trivial
                 clear TU)
              | (have _q := Q4; clear _q; go_at_call 22; refine (judge_row2 c g cc 1280 F S k _ _ Q4.out.2.2.2.1 (CR4.out.front BC.out 256 (by omega)) (Q4.out.2.1.front BS.out 1280 (by omega)) hcc (by omega) JC.out).mono ?_; rintro e' Y6 ⟨rfl, hB⟩
                 have Q6 : Hid (cS w g u hh a n C S k Y6) := Q4.out.below hB
                 have E6 : Hid (Rec19 Y6 d 0 (ss 4 0 0 false)) := E4.out.below hB
                 clear hB Q4 E4; clear CR4)
              | (have _q := Q6; clear _q; refine wpList_store_rec rfl 45 (.tmp 14) (.tmp 149) rfl d 0 _ (ss 1 (hh 5) (hh 3) mc) rfl rfl E6.out rfl (by kernel_rfl) (ss_one _ _ _ _) ?_; intro Y7 r7 b7
                 have nd := ND.out
                 have Q7 : Hid (cS w g u hh a n C S k Y7) := ⟨Q6.out.1.but b7 (by omega), Q6.out.2.1.but b7 (by omega), Q6.out.2.2.1.but b7 (by omega), Q6.out.2.2.2.1.below (b7.below (by omega) Q6.out.2.2.2.2.size) hT0, Q6.out.2.2.2.2.trans (b7.below (by omega) Q6.out.2.2.2.2.size)⟩
                 have E7 : Hid (Rec19 Y7 d 0 (ss 1 (hh 5) (hh 3) mc)) := r7
                 clear nd r7 b7 Q6 E6)
              | (have _q := Q7; clear _q; go_at_call 19; refine (prep_at hl OK.out HW.out HP.out BS.out HS.out HH.out g _ Q7.out.2.2.2.1 Q7.out.2.1).mono ?_; rintro e' Y8 ⟨y, rfl, hYB, hB⟩
                 have YB8 : Hid (Arg Y8 (some ⟨y, 0, none⟩) n f) := hYB
                 have Q8 : Hid (cS w g u hh a n C S k Y8) := Q7.out.below hB
                 have E8 : Hid (Rec19 Y8 d 0 (ss 1 (hh 5) (hh 3) mc)) := E7.out.below hB
                 clear hYB hB Q7 E7)
              | (have _q := Q8; clear _q; refine wpList_alloc_rec rfl 29 rfl (msg (fun _ => 0) none 0 0) Y8.heap.size rfl zeroMsg ?_; intro Y9 r9 b9 z9)
              | (have _q := Q8; clear _q; refine wpList_store_rec rfl 29 (.tmp 21) (.tmp 154) rfl Y8.heap.size 0 _ (msg hh (some ⟨y, 0, none⟩) n n) rfl rfl r9 rfl (by kernel_rfl) (msg_one _ _ _ _) ?_; intro U1 v1 s1
                 have hB : Below Y8.heap.size Y8 U1 := b9.trans (s1.below (Nat.le_refl _) (by omega))
                 have QA : Hid (cS w g u hh a n C S k U1) := Q8.out.below hB
                 have EA : Hid (Rec19 U1 d 0 (ss 1 (hh 5) (hh 3) mc)) := E8.out.below hB
                 have MA : Hid (Rec19 U1 Y8.heap.size 0 (msg hh (some ⟨y, 0, none⟩) n n)) := v1
                 have YA : Hid (Arg U1 (some ⟨y, 0, none⟩) n f) := YB8.out.below hB
                 clear hB b9 r9 z9 v1 s1 Q8 E8 YB8
                 generalize Y8.heap.size = ym at MA ⊢)
              | (have _q := QA; clear _q; refine wpList_load_w (by rfl) 29 (.tmp 21) rfl ym 0 (msg hh (some ⟨y, 0, none⟩) n n) rfl _ Tryd.underlying29 rfl (by kernel_rfl) MA.out ?_)
              | (have _q := QA; clear _q; refine wpList_load_w (by rfl) 29 (.tmp 3) rfl w.heap.size 0 (msg hh a n C) rfl _ Tryd.underlying29 rfl (by kernel_rfl) QA.out.1 ?_)
              | (have _q := QA; clear _q; go_at_call 21; refine (sameMsg_any hh (some ⟨y, 0, none⟩) a n n n C f f _ YA.out (HA.out.below QA.out.2.2.2.2) rfl (fun _ _ => rfl)).mono ?_; rintro e' U2 ⟨rfl, hB⟩
                 have QB : Hid (cS w g u hh a n C S k U2) := QA.out.below hB
                 have EB2 : Rec19 U2 d 0 (ss 1 (hh 5) (hh 3) mc) := EA.out.below hB
                 have d0 := (EB2.at 0 (.int .i64 1) rfl).1
                 have d1 := (EB2.at 1 (.int .i64 (hh 5)) rfl).1
                 have d2 := (EB2.at 2 (.int .i64 (hh 3)) rfl).1
                 have c5 := (QB.out.1.at 5 (.int .i64 (hh 5)) rfl).1
                 have c3 := (QB.out.1.at 3 (.int .i64 (hh 3)) rfl).1
                 clear hB QA EA MA YA EB2))
          go_ret
          exact ⟨rfl, QB.out.2.2.2.2⟩
        · have EU : Hid (decide (txtN 256 F = txtN 256 (unwF k)) = false) := decide_eq_false (fun q => hu ((head_txt BC.out (unwF_all k)).1 q))
          clear hu
          by_cases hb : ∀ j, j < 256 → F j = S j
          · have EB : Hid (decide (txtN 256 F = txtN 256 S) = true) := decide_eq_true ((head_txt BC.out BS.out).2 hb)
            obtain ⟨mc, hJ⟩ : ∃ mc, judgeL 256 F 1280 S k = ss 1 (hh 5) (hh 3) mc := ⟨false, (by rw [← HH.out]; exact turn_jB (h := h) (f := f) (n := n) SK.out hl OK.out HW.out HP.out (by rw [HS.out]; exact fun _ _ => rfl) (by rw [HS.out]; exact hb))⟩
            have JC : Hid (judgeL 256 F 1280 S k = ss 1 (hh 5) (hh 3) mc) := hJ
            clear hb hJ
            go_wp2_with (first
                | (have _q := Q1; clear _q; go_at_call 27; refine (head_gen (some ⟨c, 0, none⟩) 256 cc F _ Q1.out.2.2.2.1 (CR1.out.front BC.out 256 (by omega)) hcc).mono ?_; rintro e' Y2 ⟨rfl, hB⟩; rw [HV.out, HC.out]
                   have Q2 : Hid (cS w g u hh a n C S k Y2) := Q1.out.below hB
                   have E2 : Hid (Rec19 Y2 d 0 (ss 4 0 0 false)) := E1.out.below hB
                   have CR2 : Hid (IRow Y2 c .u8 256 F) := CR1.out.below hB
                   clear hB Q1 E1 CR1)
                | (have _q := Q2; clear _q; refine wpList_alloc_rec rfl 26 rfl (hcs fun _ => 0) Y2.heap.size rfl zeroHdr ?_; intro Y3 r3 b3 z3)
                | (have _q := Q2; clear _q; refine wpList_store_rec rfl 26 (.tmp 19) (.tmp 128) rfl Y2.heap.size 0 _ (hcs hv) rfl rfl r3 rfl (by kernel_rfl) (hcs_one _) ?_; intro Y4 r4 b4
                   have hB : Below Y2.heap.size Y2 Y4 := b3.trans (b4.below (Nat.le_refl _) (by omega))
                   have Q4 : Hid (cS w g u hh a n C S k Y4) := Q2.out.below hB
                   have E4 : Hid (Rec19 Y4 d 0 (ss 4 0 0 false)) := E2.out.below hB
                   have CR4 : Hid (IRow Y4 c .u8 256 F) := CR2.out.below hB
                   have TU : Hid True := trivial
                   clear hB b3 b4 r3 r4 z3 Q2 E2 CR2)
                | (have _q := TU; clear _q; go_at_call 13; refine (same_any (some ⟨c, 0, none⟩) (some ⟨u, 0, none⟩) 256 256 cc 256 F (unwF k) _ (CR4.out.front BC.out 256 (by omega)) (Arg.of (Q4.out.2.2.1.lies (unwF_byte k)))).mono ?_; rintro e' Y5 ⟨rfl, rfl⟩; rw [EU.out]
                   have TB : Hid True := trivial
                   clear TU)
                | (have _q := TB; clear _q; go_at_call 13; refine (same_any (some ⟨c, 0, none⟩) (some ⟨g, 0, none⟩) 256 256 cc 1280 F S _ (CR4.out.front BC.out 256 (by omega)) (Q4.out.2.1.front BS.out 256 (by omega))).mono ?_; rintro e' Y5 ⟨rfl, rfl⟩; rw [EB.out]; clear TB)
                | (have _q := Q4; clear _q; go_at_call 22; refine (judge_row2 c g cc 1280 F S k _ _ Q4.out.2.2.2.1 (CR4.out.front BC.out 256 (by omega)) (Q4.out.2.1.front BS.out 1280 (by omega)) hcc (by omega) JC.out).mono ?_; rintro e' Y6 ⟨rfl, hB⟩
                   have Q6 : Hid (cS w g u hh a n C S k Y6) := Q4.out.below hB
                   have E6 : Hid (Rec19 Y6 d 0 (ss 4 0 0 false)) := E4.out.below hB
                   clear hB Q4 E4; clear CR4)
                | (have _q := Q6; clear _q; refine wpList_store_rec rfl 45 (.tmp 14) (.tmp 149) rfl d 0 _ (ss 1 (hh 5) (hh 3) mc) rfl rfl E6.out rfl (by kernel_rfl) (ss_one _ _ _ _) ?_; intro Y7 r7 b7
                   have nd := ND.out
                   have Q7 : Hid (cS w g u hh a n C S k Y7) := ⟨Q6.out.1.but b7 (by omega), Q6.out.2.1.but b7 (by omega), Q6.out.2.2.1.but b7 (by omega), Q6.out.2.2.2.1.below (b7.below (by omega) Q6.out.2.2.2.2.size) hT0, Q6.out.2.2.2.2.trans (b7.below (by omega) Q6.out.2.2.2.2.size)⟩
                   have E7 : Hid (Rec19 Y7 d 0 (ss 1 (hh 5) (hh 3) mc)) := r7
                   clear nd r7 b7 Q6 E6)
                | (have _q := Q7; clear _q; go_at_call 19; refine (prep_at hl OK.out HW.out HP.out BS.out HS.out HH.out g _ Q7.out.2.2.2.1 Q7.out.2.1).mono ?_; rintro e' Y8 ⟨y, rfl, hYB, hB⟩
                   have YB8 : Hid (Arg Y8 (some ⟨y, 0, none⟩) n f) := hYB
                   have Q8 : Hid (cS w g u hh a n C S k Y8) := Q7.out.below hB
                   have E8 : Hid (Rec19 Y8 d 0 (ss 1 (hh 5) (hh 3) mc)) := E7.out.below hB
                   clear hYB hB Q7 E7)
                | (have _q := Q8; clear _q; refine wpList_alloc_rec rfl 29 rfl (msg (fun _ => 0) none 0 0) Y8.heap.size rfl zeroMsg ?_; intro Y9 r9 b9 z9)
                | (have _q := Q8; clear _q; refine wpList_store_rec rfl 29 (.tmp 21) (.tmp 154) rfl Y8.heap.size 0 _ (msg hh (some ⟨y, 0, none⟩) n n) rfl rfl r9 rfl (by kernel_rfl) (msg_one _ _ _ _) ?_; intro U1 v1 s1
                   have hB : Below Y8.heap.size Y8 U1 := b9.trans (s1.below (Nat.le_refl _) (by omega))
                   have QA : Hid (cS w g u hh a n C S k U1) := Q8.out.below hB
                   have EA : Hid (Rec19 U1 d 0 (ss 1 (hh 5) (hh 3) mc)) := E8.out.below hB
                   have MA : Hid (Rec19 U1 Y8.heap.size 0 (msg hh (some ⟨y, 0, none⟩) n n)) := v1
                   have YA : Hid (Arg U1 (some ⟨y, 0, none⟩) n f) := YB8.out.below hB
                   clear hB b9 r9 z9 v1 s1 Q8 E8 YB8
                   generalize Y8.heap.size = ym at MA ⊢)
                | (have _q := QA; clear _q; refine wpList_load_w (by rfl) 29 (.tmp 21) rfl ym 0 (msg hh (some ⟨y, 0, none⟩) n n) rfl _ Tryd.underlying29 rfl (by kernel_rfl) MA.out ?_)
                | (have _q := QA; clear _q; refine wpList_load_w (by rfl) 29 (.tmp 3) rfl w.heap.size 0 (msg hh a n C) rfl _ Tryd.underlying29 rfl (by kernel_rfl) QA.out.1 ?_)
                | (have _q := QA; clear _q; go_at_call 21; refine (sameMsg_any hh (some ⟨y, 0, none⟩) a n n n C f f _ YA.out (HA.out.below QA.out.2.2.2.2) rfl (fun _ _ => rfl)).mono ?_; rintro e' U2 ⟨rfl, hB⟩
                   have QB : Hid (cS w g u hh a n C S k U2) := QA.out.below hB
                   have EB2 : Rec19 U2 d 0 (ss 1 (hh 5) (hh 3) mc) := EA.out.below hB
                   have d0 := (EB2.at 0 (.int .i64 1) rfl).1
                   have d1 := (EB2.at 1 (.int .i64 (hh 5)) rfl).1
                   have d2 := (EB2.at 2 (.int .i64 (hh 3)) rfl).1
                   have c5 := (QB.out.1.at 5 (.int .i64 (hh 5)) rfl).1
                   have c3 := (QB.out.1.at 3 (.int .i64 (hh 3)) rfl).1
                   clear hB QA EA MA YA EB2))
            go_ret
            exact ⟨rfl, QB.out.2.2.2.2⟩
          · have EB : Hid (decide (txtN 256 F = txtN 256 S) = false) := decide_eq_false (fun q => hb ((head_txt BC.out BS.out).1 q))
            clear hb
            go_wp2_with (first
                | (have _q := Q1; clear _q; go_at_call 27; refine (head_gen (some ⟨c, 0, none⟩) 256 cc F _ Q1.out.2.2.2.1 (CR1.out.front BC.out 256 (by omega)) hcc).mono ?_; rintro e' Y2 ⟨rfl, hB⟩; rw [HV.out, HC.out]
                   have Q2 : Hid (cS w g u hh a n C S k Y2) := Q1.out.below hB
                   have E2 : Hid (Rec19 Y2 d 0 (ss 4 0 0 false)) := E1.out.below hB
                   have CR2 : Hid (IRow Y2 c .u8 256 F) := CR1.out.below hB
                   clear hB Q1 E1 CR1)
                | (have _q := Q2; clear _q; refine wpList_alloc_rec rfl 26 rfl (hcs fun _ => 0) Y2.heap.size rfl zeroHdr ?_; intro Y3 r3 b3 z3)
                | (have _q := Q2; clear _q; refine wpList_store_rec rfl 26 (.tmp 19) (.tmp 128) rfl Y2.heap.size 0 _ (hcs hv) rfl rfl r3 rfl (by kernel_rfl) (hcs_one _) ?_; intro Y4 r4 b4
                   have hB : Below Y2.heap.size Y2 Y4 := b3.trans (b4.below (Nat.le_refl _) (by omega))
                   have Q4 : Hid (cS w g u hh a n C S k Y4) := Q2.out.below hB
                   have E4 : Hid (Rec19 Y4 d 0 (ss 4 0 0 false)) := E2.out.below hB
                   have CR4 : Hid (IRow Y4 c .u8 256 F) := CR2.out.below hB
                   have TU : Hid True := trivial
                   clear hB b3 b4 r3 r4 z3 Q2 E2 CR2)
                | (have _q := TU; clear _q; go_at_call 13; refine (same_any (some ⟨c, 0, none⟩) (some ⟨u, 0, none⟩) 256 256 cc 256 F (unwF k) _ (CR4.out.front BC.out 256 (by omega)) (Arg.of (Q4.out.2.2.1.lies (unwF_byte k)))).mono ?_; rintro e' Y5 ⟨rfl, rfl⟩; rw [EU.out]
                   have TB : Hid True := trivial
                   clear TU)
                | (have _q := TB; clear _q; go_at_call 13; refine (same_any (some ⟨c, 0, none⟩) (some ⟨g, 0, none⟩) 256 256 cc 1280 F S _ (CR4.out.front BC.out 256 (by omega)) (Q4.out.2.1.front BS.out 256 (by omega))).mono ?_; rintro e' Y5 ⟨rfl, rfl⟩; rw [EB.out]; clear TB))
            go_ret
            exact ⟨rfl, Q4.out.2.2.2.2⟩
      · obtain ⟨hc0, hce⟩ : ∃ x, headC 256 F = x := ⟨_, rfl⟩
        have HC : Hid (headC 256 F = hc0) := hce
        have z1 : (hc0 == 0) = false := by rw [hce] at hc; simpa using hc
        obtain ⟨mc, hJ⟩ : ∃ mc, judgeL 256 F 1280 S k = ss 1 (hh 5) (hh 3) mc := ⟨true, (by rw [← HH.out]; exact turn_jC (h := h) (f := f) (n := n) SK.out hl OK.out HW.out HP.out (by rw [HS.out]; exact fun _ _ => rfl) hc)⟩
        have JC : Hid (judgeL 256 F 1280 S k = ss 1 (hh 5) (hh 3) mc) := hJ
        clear hce hc hJ
        go_wp2_with (first
            | (have _q := Q1; clear _q; go_at_call 27; refine (head_gen (some ⟨c, 0, none⟩) 256 cc F _ Q1.out.2.2.2.1 (CR1.out.front BC.out 256 (by omega)) hcc).mono ?_; rintro e' Y2 ⟨rfl, hB⟩; rw [HV.out, HC.out]
               have Q2 : Hid (cS w g u hh a n C S k Y2) := Q1.out.below hB
               have E2 : Hid (Rec19 Y2 d 0 (ss 4 0 0 false)) := E1.out.below hB
               have CR2 : Hid (IRow Y2 c .u8 256 F) := CR1.out.below hB
               clear hB Q1 E1 CR1)
            | (have _q := Q2; clear _q; refine wpList_alloc_rec rfl 26 rfl (hcs fun _ => 0) Y2.heap.size rfl zeroHdr ?_; intro Y3 r3 b3 z3)
            | (have _q := Q2; clear _q; refine wpList_store_rec rfl 26 (.tmp 19) (.tmp 128) rfl Y2.heap.size 0 _ (hcs hv) rfl rfl r3 rfl (by kernel_rfl) (hcs_one _) ?_; intro Y4 r4 b4
               have hB : Below Y2.heap.size Y2 Y4 := b3.trans (b4.below (Nat.le_refl _) (by omega))
               have Q4 : Hid (cS w g u hh a n C S k Y4) := Q2.out.below hB
               have E4 : Hid (Rec19 Y4 d 0 (ss 4 0 0 false)) := E2.out.below hB
               have CR4 : Hid (IRow Y4 c .u8 256 F) := CR2.out.below hB
               have TU : Hid True := trivial
               clear hB b3 b4 r3 r4 z3 Q2 E2 CR2)
            | (have _q := Q4; clear _q; go_at_call 22; refine (judge_row2 c g cc 1280 F S k _ _ Q4.out.2.2.2.1 (CR4.out.front BC.out 256 (by omega)) (Q4.out.2.1.front BS.out 1280 (by omega)) hcc (by omega) JC.out).mono ?_; rintro e' Y6 ⟨rfl, hB⟩
               have Q6 : Hid (cS w g u hh a n C S k Y6) := Q4.out.below hB
               have E6 : Hid (Rec19 Y6 d 0 (ss 4 0 0 false)) := E4.out.below hB
               clear hB Q4 E4; clear CR4)
            | (have _q := Q6; clear _q; refine wpList_store_rec rfl 45 (.tmp 14) (.tmp 149) rfl d 0 _ (ss 1 (hh 5) (hh 3) mc) rfl rfl E6.out rfl (by kernel_rfl) (ss_one _ _ _ _) ?_; intro Y7 r7 b7
               have nd := ND.out
               have Q7 : Hid (cS w g u hh a n C S k Y7) := ⟨Q6.out.1.but b7 (by omega), Q6.out.2.1.but b7 (by omega), Q6.out.2.2.1.but b7 (by omega), Q6.out.2.2.2.1.below (b7.below (by omega) Q6.out.2.2.2.2.size) hT0, Q6.out.2.2.2.2.trans (b7.below (by omega) Q6.out.2.2.2.2.size)⟩
               have E7 : Hid (Rec19 Y7 d 0 (ss 1 (hh 5) (hh 3) mc)) := r7
               clear nd r7 b7 Q6 E6)
            | (have _q := Q7; clear _q; go_at_call 19; refine (prep_at hl OK.out HW.out HP.out BS.out HS.out HH.out g _ Q7.out.2.2.2.1 Q7.out.2.1).mono ?_; rintro e' Y8 ⟨y, rfl, hYB, hB⟩
               have YB8 : Hid (Arg Y8 (some ⟨y, 0, none⟩) n f) := hYB
               have Q8 : Hid (cS w g u hh a n C S k Y8) := Q7.out.below hB
               have E8 : Hid (Rec19 Y8 d 0 (ss 1 (hh 5) (hh 3) mc)) := E7.out.below hB
               clear hYB hB Q7 E7)
            | (have _q := Q8; clear _q; refine wpList_alloc_rec rfl 29 rfl (msg (fun _ => 0) none 0 0) Y8.heap.size rfl zeroMsg ?_; intro Y9 r9 b9 z9)
            | (have _q := Q8; clear _q; refine wpList_store_rec rfl 29 (.tmp 21) (.tmp 154) rfl Y8.heap.size 0 _ (msg hh (some ⟨y, 0, none⟩) n n) rfl rfl r9 rfl (by kernel_rfl) (msg_one _ _ _ _) ?_; intro U1 v1 s1
               have hB : Below Y8.heap.size Y8 U1 := b9.trans (s1.below (Nat.le_refl _) (by omega))
               have QA : Hid (cS w g u hh a n C S k U1) := Q8.out.below hB
               have EA : Hid (Rec19 U1 d 0 (ss 1 (hh 5) (hh 3) mc)) := E8.out.below hB
               have MA : Hid (Rec19 U1 Y8.heap.size 0 (msg hh (some ⟨y, 0, none⟩) n n)) := v1
               have YA : Hid (Arg U1 (some ⟨y, 0, none⟩) n f) := YB8.out.below hB
               clear hB b9 r9 z9 v1 s1 Q8 E8 YB8
               generalize Y8.heap.size = ym at MA ⊢)
            | (have _q := QA; clear _q; refine wpList_load_w (by rfl) 29 (.tmp 21) rfl ym 0 (msg hh (some ⟨y, 0, none⟩) n n) rfl _ Tryd.underlying29 rfl (by kernel_rfl) MA.out ?_)
            | (have _q := QA; clear _q; refine wpList_load_w (by rfl) 29 (.tmp 3) rfl w.heap.size 0 (msg hh a n C) rfl _ Tryd.underlying29 rfl (by kernel_rfl) QA.out.1 ?_)
            | (have _q := QA; clear _q; go_at_call 21; refine (sameMsg_any hh (some ⟨y, 0, none⟩) a n n n C f f _ YA.out (HA.out.below QA.out.2.2.2.2) rfl (fun _ _ => rfl)).mono ?_; rintro e' U2 ⟨rfl, hB⟩
               have QB : Hid (cS w g u hh a n C S k U2) := QA.out.below hB
               have EB2 : Rec19 U2 d 0 (ss 1 (hh 5) (hh 3) mc) := EA.out.below hB
               have d0 := (EB2.at 0 (.int .i64 1) rfl).1
               have d1 := (EB2.at 1 (.int .i64 (hh 5)) rfl).1
               have d2 := (EB2.at 2 (.int .i64 (hh 3)) rfl).1
               have c5 := (QB.out.1.at 5 (.int .i64 (hh 5)) rfl).1
               have c3 := (QB.out.1.at 3 (.int .i64 (hh 3)) rfl).1
               clear hB QA EA MA YA EB2))
        go_ret
        exact ⟨rfl, QB.out.2.2.2.2⟩
    · have JL : Hid (judgeL 256 (unwF k) 1280 L k = ss 2 0 0 false) := unw_torn SK.out pn (by simpa using hz)
      clear pn hz
      go_wp2_with (first
          | (have _q := P0; clear _q; go_at_call 22; refine (judge_row2 u l 256 cl (unwF k) L k _ _ P0.out.2.2.2.1 (Arg.of (P0.out.2.2.1.lies (unwF_byte k))) (LR0.out.front BL.out 1280 (by omega)) (by omega) hcl JL.out).mono ?_; rintro e' X1 ⟨rfl, hB⟩
             have P1 : Hid (cS w g u hh a n C S k X1) := P0.out.below hB
             have LR1 : Hid (IRow X1 l .u8 1280 L) := LR0.out.below hB
             clear hB P0 LR0)
          | (have _q := P1; clear _q; refine wpList_alloc_rec rfl 45 rfl (ss 0 0 0 false) X1.heap.size rfl zeroSs ?_; intro X2 r2 b2 z2)
          | (have _q := P1; clear _q; refine wpList_store_rec rfl 45 (.tmp 14) (.tmp 79) rfl X1.heap.size 0 _ (ss 2 0 0 false) rfl rfl r2 rfl (by kernel_rfl) (ss_one _ _ _ _) ?_; intro X3 r3 b3
             have hB : Below X1.heap.size X1 X3 := b2.trans (b3.below (Nat.le_refl _) (by omega))
             have P3 : Hid (cS w g u hh a n C S k X3) := P1.out.below hB
             have LR3 : Hid (IRow X3 l .u8 1280 L) := LR1.out.below hB
             have D3 : Hid (Rec19 X3 X1.heap.size 0 (ss 2 0 0 false)) := r3
             have ND : Hid (w.heap.size < X1.heap.size ∧ g < X1.heap.size ∧ u < X1.heap.size) := ⟨P1.out.1.2.2, P1.out.2.1.2.2, P1.out.2.2.1.2.2⟩
             clear hB b2 b3 r2 r3 z2 P1 LR1
             generalize X1.heap.size = d at D3 ND ⊢)
          | (have _q := P3; clear _q; go_at_call 19; refine (prep_no (some ⟨l, 0, none⟩) 1280 cl L k _ P3.out.2.2.2.1 (LR3.out.front BL.out 1280 (by omega)) hcl (by omega) PN.out).mono ?_; rintro e' X4 ⟨rfl, hB⟩
             have P4 : Hid (cS w g u hh a n C S k X4) := P3.out.below hB
             have D4 : Hid (Rec19 X4 d 0 (ss 2 0 0 false)) := D3.out.below hB
             clear hB P3 D3; clear LR3)
          | (have _q := P4; clear _q; refine wpList_alloc_rec rfl 29 rfl (msg (fun _ => 0) none 0 0) X4.heap.size rfl zeroMsg ?_; intro X5 r5 b5 z5)
          | (have _q := P4; clear _q; refine wpList_store_rec rfl 29 (.tmp 15) (.tmp 84) rfl X4.heap.size 0 _ (msg (fun _ => 0) none 0 0) rfl rfl r5 rfl (by kernel_rfl) (msg_one _ _ _ _) ?_; intro X6 r6 b6
             have hB : Below X4.heap.size X4 X6 := b5.trans (b6.below (Nat.le_refl _) (by omega))
             have P6 : Hid (cS w g u hh a n C S k X6) := P4.out.below hB
             have D6 : Hid (Rec19 X6 d 0 (ss 2 0 0 false)) := D4.out.below hB
             have M6 : Hid (Rec19 X6 X4.heap.size 0 (msg (fun _ => 0) none 0 0)) := r6
             clear hB b5 b6 r5 r6 z5 P4 D4
             generalize X4.heap.size = xm at M6 ⊢)
          | (have _q := P6; clear _q; refine wpList_load_rec rfl 45 (.tmp 14) rfl d 0 (ss 2 0 0 false) rfl _ Tryd.underlying45 rfl (by kernel_rfl) D6.out ?_)
          | (have _q := P6; clear _q; refine wpList_build_w (by rfl) 45 #[(0, .const (.int .i64 4))] rfl (ss 4 0 0 false).toArray (by kernel_rfl) ?_)
          | (have _q := P6; clear _q; refine wpList_eql_b (by rfl) 45 45 (.tmp 94) (.tmp 95) rfl (ss 2 0 0 false).toArray (ss 4 0 0 false).toArray rfl rfl false (eql_ss_no _ _ _ _ _ _ _ _ (by omega)) guard_ss ?_)
          | (have _q := P6; clear _q; refine wpList_load_w (by rfl) 45 (.tmp 14) rfl d 0 (ss 2 0 0 false) rfl _ Tryd.underlying45 rfl (by kernel_rfl) D6.out ?_)
          | (have _q := P6; clear _q; refine wpList_build_w (by rfl) 45 _ rfl (ss 2 0 0 false).toArray (by kernel_rfl) ?_)
          | (have _q := P6; clear _q; refine wpList_eql_w (by rfl) 45 45 (.tmp 98) (.tmp 99) rfl (ss 2 0 0 false).toArray rfl rfl (eql_ss 2 0 0 false) guard_ss ?_)
          | (have _q := P6; clear _q; go_at_call 26; refine (part_any (some ⟨u, 0, none⟩) 256 1 256 1280 g m C' t (unwF k) S K tear _ rfl (by omega) (by omega) (Arg.of (P6.out.2.2.1.lies (unwF_byte k))) (unwF_all k) ((P6.out.2.1.lies (fun j _ => BS.out j)).part 0 256 (by omega)).zero BS.out (by omega) (HKp.out.below P6.out.2.2.2.2)).mono ?_; rintro e' Y1 ⟨c, cc, F, rfl, _, hcc, hF, hFb, hB⟩
             have CR1 : Hid (IRow Y1 c .u8 256 F) := hF
             have BC : Hid (∀ j, 0 ≤ F j ∧ F j < 256) := hFb
             clear hF hFb
             have Q1 : Hid (cS w g u hh a n C S k Y1) := P6.out.below hB
             have E1 : Hid (Rec19 Y1 d 0 (ss 2 0 0 false)) := D6.out.below hB
             clear hB P6 D6))

      obtain ⟨hv, hve⟩ : ∃ x, headV 256 F = x := ⟨_, rfl⟩
      have HV : Hid (headV 256 F = hv) := hve
      clear hve
      by_cases hc : headC 256 F = 0
      · have HC : Hid (headC 256 F = 0) := hc
        clear hc
        by_cases hu : ∀ j, j < 256 → F j = unwF k j
        · have EU : Hid (decide (txtN 256 F = txtN 256 (unwF k)) = true) := decide_eq_true ((head_txt BC.out (unwF_all k)).2 hu)
          obtain ⟨mc, hJ⟩ : ∃ mc, judgeL 256 F 1280 S k = ss 1 (hh 5) (hh 3) mc := ⟨true, (by rw [← HH.out, ← HS.out]; exact cut_unw SK.out hl OK.out HW.out HP.out hu)⟩
          have JC : Hid (judgeL 256 F 1280 S k = ss 1 (hh 5) (hh 3) mc) := hJ
          clear hu hJ
          go_wp2_with (first
              | (have _q := Q1; clear _q; go_at_call 27; refine (head_gen (some ⟨c, 0, none⟩) 256 cc F _ Q1.out.2.2.2.1 (CR1.out.front BC.out 256 (by omega)) hcc).mono ?_; rintro e' Y2 ⟨rfl, hB⟩; rw [HV.out, HC.out]
                 have Q2 : Hid (cS w g u hh a n C S k Y2) := Q1.out.below hB
                 have E2 : Hid (Rec19 Y2 d 0 (ss 2 0 0 false)) := E1.out.below hB
                 have CR2 : Hid (IRow Y2 c .u8 256 F) := CR1.out.below hB
                 clear hB Q1 E1 CR1)
              | (have _q := Q2; clear _q; refine wpList_alloc_rec rfl 26 rfl (hcs fun _ => 0) Y2.heap.size rfl zeroHdr ?_; intro Y3 r3 b3 z3)
              | (have _q := Q2; clear _q; refine wpList_store_rec rfl 26 (.tmp 19) (.tmp 128) rfl Y2.heap.size 0 _ (hcs hv) rfl rfl r3 rfl (by kernel_rfl) (hcs_one _) ?_; intro Y4 r4 b4
                 have hB : Below Y2.heap.size Y2 Y4 := b3.trans (b4.below (Nat.le_refl _) (by omega))
                 have Q4 : Hid (cS w g u hh a n C S k Y4) := Q2.out.below hB
                 have E4 : Hid (Rec19 Y4 d 0 (ss 2 0 0 false)) := E2.out.below hB
                 have CR4 : Hid (IRow Y4 c .u8 256 F) := CR2.out.below hB
                 have TU : Hid True := trivial
                 clear hB b3 b4 r3 r4 z3 Q2 E2 CR2)
              | (have _q := TU; clear _q; go_at_call 13; refine (same_any (some ⟨c, 0, none⟩) (some ⟨u, 0, none⟩) 256 256 cc 256 F (unwF k) _ (CR4.out.front BC.out 256 (by omega)) (Arg.of (Q4.out.2.2.1.lies (unwF_byte k)))).mono ?_; rintro e' Y5 ⟨rfl, rfl⟩; rw [EU.out]
                 have TB : Hid True := trivial
                 clear TU)
              | (have _q := Q4; clear _q; go_at_call 22; refine (judge_row2 c g cc 1280 F S k _ _ Q4.out.2.2.2.1 (CR4.out.front BC.out 256 (by omega)) (Q4.out.2.1.front BS.out 1280 (by omega)) hcc (by omega) JC.out).mono ?_; rintro e' Y6 ⟨rfl, hB⟩
                 have Q6 : Hid (cS w g u hh a n C S k Y6) := Q4.out.below hB
                 have E6 : Hid (Rec19 Y6 d 0 (ss 2 0 0 false)) := E4.out.below hB
                 clear hB Q4 E4; clear CR4)
              | (have _q := Q6; clear _q; refine wpList_store_rec rfl 45 (.tmp 14) (.tmp 149) rfl d 0 _ (ss 1 (hh 5) (hh 3) mc) rfl rfl E6.out rfl (by kernel_rfl) (ss_one _ _ _ _) ?_; intro Y7 r7 b7
                 have nd := ND.out
                 have Q7 : Hid (cS w g u hh a n C S k Y7) := ⟨Q6.out.1.but b7 (by omega), Q6.out.2.1.but b7 (by omega), Q6.out.2.2.1.but b7 (by omega), Q6.out.2.2.2.1.below (b7.below (by omega) Q6.out.2.2.2.2.size) hT0, Q6.out.2.2.2.2.trans (b7.below (by omega) Q6.out.2.2.2.2.size)⟩
                 have E7 : Hid (Rec19 Y7 d 0 (ss 1 (hh 5) (hh 3) mc)) := r7
                 clear nd r7 b7 Q6 E6)
              | (have _q := Q7; clear _q; go_at_call 19; refine (prep_at hl OK.out HW.out HP.out BS.out HS.out HH.out g _ Q7.out.2.2.2.1 Q7.out.2.1).mono ?_; rintro e' Y8 ⟨y, rfl, hYB, hB⟩
                 have YB8 : Hid (Arg Y8 (some ⟨y, 0, none⟩) n f) := hYB
                 have Q8 : Hid (cS w g u hh a n C S k Y8) := Q7.out.below hB
                 have E8 : Hid (Rec19 Y8 d 0 (ss 1 (hh 5) (hh 3) mc)) := E7.out.below hB
                 clear hYB hB Q7 E7)
              | (have _q := Q8; clear _q; refine wpList_alloc_rec rfl 29 rfl (msg (fun _ => 0) none 0 0) Y8.heap.size rfl zeroMsg ?_; intro Y9 r9 b9 z9)
              | (have _q := Q8; clear _q; refine wpList_store_rec rfl 29 (.tmp 21) (.tmp 154) rfl Y8.heap.size 0 _ (msg hh (some ⟨y, 0, none⟩) n n) rfl rfl r9 rfl (by kernel_rfl) (msg_one _ _ _ _) ?_; intro U1 v1 s1
                 have hB : Below Y8.heap.size Y8 U1 := b9.trans (s1.below (Nat.le_refl _) (by omega))
                 have QA : Hid (cS w g u hh a n C S k U1) := Q8.out.below hB
                 have EA : Hid (Rec19 U1 d 0 (ss 1 (hh 5) (hh 3) mc)) := E8.out.below hB
                 have MA : Hid (Rec19 U1 Y8.heap.size 0 (msg hh (some ⟨y, 0, none⟩) n n)) := v1
                 have YA : Hid (Arg U1 (some ⟨y, 0, none⟩) n f) := YB8.out.below hB
                 clear hB b9 r9 z9 v1 s1 Q8 E8 YB8
                 generalize Y8.heap.size = ym at MA ⊢)
              | (have _q := QA; clear _q; refine wpList_load_w (by rfl) 29 (.tmp 21) rfl ym 0 (msg hh (some ⟨y, 0, none⟩) n n) rfl _ Tryd.underlying29 rfl (by kernel_rfl) MA.out ?_)
              | (have _q := QA; clear _q; refine wpList_load_w (by rfl) 29 (.tmp 3) rfl w.heap.size 0 (msg hh a n C) rfl _ Tryd.underlying29 rfl (by kernel_rfl) QA.out.1 ?_)
              | (have _q := QA; clear _q; go_at_call 21; refine (sameMsg_any hh (some ⟨y, 0, none⟩) a n n n C f f _ YA.out (HA.out.below QA.out.2.2.2.2) rfl (fun _ _ => rfl)).mono ?_; rintro e' U2 ⟨rfl, hB⟩
                 have QB : Hid (cS w g u hh a n C S k U2) := QA.out.below hB
                 have EB2 : Rec19 U2 d 0 (ss 1 (hh 5) (hh 3) mc) := EA.out.below hB
                 have d0 := (EB2.at 0 (.int .i64 1) rfl).1
                 have d1 := (EB2.at 1 (.int .i64 (hh 5)) rfl).1
                 have d2 := (EB2.at 2 (.int .i64 (hh 3)) rfl).1
                 have c5 := (QB.out.1.at 5 (.int .i64 (hh 5)) rfl).1
                 have c3 := (QB.out.1.at 3 (.int .i64 (hh 3)) rfl).1
                 clear hB QA EA MA YA EB2))
          go_ret
          exact ⟨rfl, QB.out.2.2.2.2⟩
        · have EU : Hid (decide (txtN 256 F = txtN 256 (unwF k)) = false) := decide_eq_false (fun q => hu ((head_txt BC.out (unwF_all k)).1 q))
          clear hu
          by_cases hb : ∀ j, j < 256 → F j = S j
          · have EB : Hid (decide (txtN 256 F = txtN 256 S) = true) := decide_eq_true ((head_txt BC.out BS.out).2 hb)
            obtain ⟨mc, hJ⟩ : ∃ mc, judgeL 256 F 1280 S k = ss 1 (hh 5) (hh 3) mc := ⟨false, (by rw [← HH.out]; exact turn_jB (h := h) (f := f) (n := n) SK.out hl OK.out HW.out HP.out (by rw [HS.out]; exact fun _ _ => rfl) (by rw [HS.out]; exact hb))⟩
            have JC : Hid (judgeL 256 F 1280 S k = ss 1 (hh 5) (hh 3) mc) := hJ
            clear hb hJ
            go_wp2_with (first
                | (have _q := Q1; clear _q; go_at_call 27; refine (head_gen (some ⟨c, 0, none⟩) 256 cc F _ Q1.out.2.2.2.1 (CR1.out.front BC.out 256 (by omega)) hcc).mono ?_; rintro e' Y2 ⟨rfl, hB⟩; rw [HV.out, HC.out]
                   have Q2 : Hid (cS w g u hh a n C S k Y2) := Q1.out.below hB
                   have E2 : Hid (Rec19 Y2 d 0 (ss 2 0 0 false)) := E1.out.below hB
                   have CR2 : Hid (IRow Y2 c .u8 256 F) := CR1.out.below hB
                   clear hB Q1 E1 CR1)
                | (have _q := Q2; clear _q; refine wpList_alloc_rec rfl 26 rfl (hcs fun _ => 0) Y2.heap.size rfl zeroHdr ?_; intro Y3 r3 b3 z3)
                | (have _q := Q2; clear _q; refine wpList_store_rec rfl 26 (.tmp 19) (.tmp 128) rfl Y2.heap.size 0 _ (hcs hv) rfl rfl r3 rfl (by kernel_rfl) (hcs_one _) ?_; intro Y4 r4 b4
                   have hB : Below Y2.heap.size Y2 Y4 := b3.trans (b4.below (Nat.le_refl _) (by omega))
                   have Q4 : Hid (cS w g u hh a n C S k Y4) := Q2.out.below hB
                   have E4 : Hid (Rec19 Y4 d 0 (ss 2 0 0 false)) := E2.out.below hB
                   have CR4 : Hid (IRow Y4 c .u8 256 F) := CR2.out.below hB
                   have TU : Hid True := trivial
                   clear hB b3 b4 r3 r4 z3 Q2 E2 CR2)
                | (have _q := TU; clear _q; go_at_call 13; refine (same_any (some ⟨c, 0, none⟩) (some ⟨u, 0, none⟩) 256 256 cc 256 F (unwF k) _ (CR4.out.front BC.out 256 (by omega)) (Arg.of (Q4.out.2.2.1.lies (unwF_byte k)))).mono ?_; rintro e' Y5 ⟨rfl, rfl⟩; rw [EU.out]
                   have TB : Hid True := trivial
                   clear TU)
                | (have _q := TB; clear _q; go_at_call 13; refine (same_any (some ⟨c, 0, none⟩) (some ⟨g, 0, none⟩) 256 256 cc 1280 F S _ (CR4.out.front BC.out 256 (by omega)) (Q4.out.2.1.front BS.out 256 (by omega))).mono ?_; rintro e' Y5 ⟨rfl, rfl⟩; rw [EB.out]; clear TB)
                | (have _q := Q4; clear _q; go_at_call 22; refine (judge_row2 c g cc 1280 F S k _ _ Q4.out.2.2.2.1 (CR4.out.front BC.out 256 (by omega)) (Q4.out.2.1.front BS.out 1280 (by omega)) hcc (by omega) JC.out).mono ?_; rintro e' Y6 ⟨rfl, hB⟩
                   have Q6 : Hid (cS w g u hh a n C S k Y6) := Q4.out.below hB
                   have E6 : Hid (Rec19 Y6 d 0 (ss 2 0 0 false)) := E4.out.below hB
                   clear hB Q4 E4; clear CR4)
                | (have _q := Q6; clear _q; refine wpList_store_rec rfl 45 (.tmp 14) (.tmp 149) rfl d 0 _ (ss 1 (hh 5) (hh 3) mc) rfl rfl E6.out rfl (by kernel_rfl) (ss_one _ _ _ _) ?_; intro Y7 r7 b7
                   have nd := ND.out
                   have Q7 : Hid (cS w g u hh a n C S k Y7) := ⟨Q6.out.1.but b7 (by omega), Q6.out.2.1.but b7 (by omega), Q6.out.2.2.1.but b7 (by omega), Q6.out.2.2.2.1.below (b7.below (by omega) Q6.out.2.2.2.2.size) hT0, Q6.out.2.2.2.2.trans (b7.below (by omega) Q6.out.2.2.2.2.size)⟩
                   have E7 : Hid (Rec19 Y7 d 0 (ss 1 (hh 5) (hh 3) mc)) := r7
                   clear nd r7 b7 Q6 E6)
                | (have _q := Q7; clear _q; go_at_call 19; refine (prep_at hl OK.out HW.out HP.out BS.out HS.out HH.out g _ Q7.out.2.2.2.1 Q7.out.2.1).mono ?_; rintro e' Y8 ⟨y, rfl, hYB, hB⟩
                   have YB8 : Hid (Arg Y8 (some ⟨y, 0, none⟩) n f) := hYB
                   have Q8 : Hid (cS w g u hh a n C S k Y8) := Q7.out.below hB
                   have E8 : Hid (Rec19 Y8 d 0 (ss 1 (hh 5) (hh 3) mc)) := E7.out.below hB
                   clear hYB hB Q7 E7)
                | (have _q := Q8; clear _q; refine wpList_alloc_rec rfl 29 rfl (msg (fun _ => 0) none 0 0) Y8.heap.size rfl zeroMsg ?_; intro Y9 r9 b9 z9)
                | (have _q := Q8; clear _q; refine wpList_store_rec rfl 29 (.tmp 21) (.tmp 154) rfl Y8.heap.size 0 _ (msg hh (some ⟨y, 0, none⟩) n n) rfl rfl r9 rfl (by kernel_rfl) (msg_one _ _ _ _) ?_; intro U1 v1 s1
                   have hB : Below Y8.heap.size Y8 U1 := b9.trans (s1.below (Nat.le_refl _) (by omega))
                   have QA : Hid (cS w g u hh a n C S k U1) := Q8.out.below hB
                   have EA : Hid (Rec19 U1 d 0 (ss 1 (hh 5) (hh 3) mc)) := E8.out.below hB
                   have MA : Hid (Rec19 U1 Y8.heap.size 0 (msg hh (some ⟨y, 0, none⟩) n n)) := v1
                   have YA : Hid (Arg U1 (some ⟨y, 0, none⟩) n f) := YB8.out.below hB
                   clear hB b9 r9 z9 v1 s1 Q8 E8 YB8
                   generalize Y8.heap.size = ym at MA ⊢)
                | (have _q := QA; clear _q; refine wpList_load_w (by rfl) 29 (.tmp 21) rfl ym 0 (msg hh (some ⟨y, 0, none⟩) n n) rfl _ Tryd.underlying29 rfl (by kernel_rfl) MA.out ?_)
                | (have _q := QA; clear _q; refine wpList_load_w (by rfl) 29 (.tmp 3) rfl w.heap.size 0 (msg hh a n C) rfl _ Tryd.underlying29 rfl (by kernel_rfl) QA.out.1 ?_)
                | (have _q := QA; clear _q; go_at_call 21; refine (sameMsg_any hh (some ⟨y, 0, none⟩) a n n n C f f _ YA.out (HA.out.below QA.out.2.2.2.2) rfl (fun _ _ => rfl)).mono ?_; rintro e' U2 ⟨rfl, hB⟩
                   have QB : Hid (cS w g u hh a n C S k U2) := QA.out.below hB
                   have EB2 : Rec19 U2 d 0 (ss 1 (hh 5) (hh 3) mc) := EA.out.below hB
                   have d0 := (EB2.at 0 (.int .i64 1) rfl).1
                   have d1 := (EB2.at 1 (.int .i64 (hh 5)) rfl).1
                   have d2 := (EB2.at 2 (.int .i64 (hh 3)) rfl).1
                   have c5 := (QB.out.1.at 5 (.int .i64 (hh 5)) rfl).1
                   have c3 := (QB.out.1.at 3 (.int .i64 (hh 3)) rfl).1
                   clear hB QA EA MA YA EB2))
            go_ret
            exact ⟨rfl, QB.out.2.2.2.2⟩
          · have EB : Hid (decide (txtN 256 F = txtN 256 S) = false) := decide_eq_false (fun q => hb ((head_txt BC.out BS.out).1 q))
            clear hb
            go_wp2_with (first
                | (have _q := Q1; clear _q; go_at_call 27; refine (head_gen (some ⟨c, 0, none⟩) 256 cc F _ Q1.out.2.2.2.1 (CR1.out.front BC.out 256 (by omega)) hcc).mono ?_; rintro e' Y2 ⟨rfl, hB⟩; rw [HV.out, HC.out]
                   have Q2 : Hid (cS w g u hh a n C S k Y2) := Q1.out.below hB
                   have E2 : Hid (Rec19 Y2 d 0 (ss 2 0 0 false)) := E1.out.below hB
                   have CR2 : Hid (IRow Y2 c .u8 256 F) := CR1.out.below hB
                   clear hB Q1 E1 CR1)
                | (have _q := Q2; clear _q; refine wpList_alloc_rec rfl 26 rfl (hcs fun _ => 0) Y2.heap.size rfl zeroHdr ?_; intro Y3 r3 b3 z3)
                | (have _q := Q2; clear _q; refine wpList_store_rec rfl 26 (.tmp 19) (.tmp 128) rfl Y2.heap.size 0 _ (hcs hv) rfl rfl r3 rfl (by kernel_rfl) (hcs_one _) ?_; intro Y4 r4 b4
                   have hB : Below Y2.heap.size Y2 Y4 := b3.trans (b4.below (Nat.le_refl _) (by omega))
                   have Q4 : Hid (cS w g u hh a n C S k Y4) := Q2.out.below hB
                   have E4 : Hid (Rec19 Y4 d 0 (ss 2 0 0 false)) := E2.out.below hB
                   have CR4 : Hid (IRow Y4 c .u8 256 F) := CR2.out.below hB
                   have TU : Hid True := trivial
                   clear hB b3 b4 r3 r4 z3 Q2 E2 CR2)
                | (have _q := TU; clear _q; go_at_call 13; refine (same_any (some ⟨c, 0, none⟩) (some ⟨u, 0, none⟩) 256 256 cc 256 F (unwF k) _ (CR4.out.front BC.out 256 (by omega)) (Arg.of (Q4.out.2.2.1.lies (unwF_byte k)))).mono ?_; rintro e' Y5 ⟨rfl, rfl⟩; rw [EU.out]
                   have TB : Hid True := trivial
                   clear TU)
                | (have _q := TB; clear _q; go_at_call 13; refine (same_any (some ⟨c, 0, none⟩) (some ⟨g, 0, none⟩) 256 256 cc 1280 F S _ (CR4.out.front BC.out 256 (by omega)) (Q4.out.2.1.front BS.out 256 (by omega))).mono ?_; rintro e' Y5 ⟨rfl, rfl⟩; rw [EB.out]; clear TB))
            go_ret
            exact ⟨rfl, Q4.out.2.2.2.2⟩
      · obtain ⟨hc0, hce⟩ : ∃ x, headC 256 F = x := ⟨_, rfl⟩
        have HC : Hid (headC 256 F = hc0) := hce
        have z1 : (hc0 == 0) = false := by rw [hce] at hc; simpa using hc
        obtain ⟨mc, hJ⟩ : ∃ mc, judgeL 256 F 1280 S k = ss 1 (hh 5) (hh 3) mc := ⟨true, (by rw [← HH.out]; exact turn_jC (h := h) (f := f) (n := n) SK.out hl OK.out HW.out HP.out (by rw [HS.out]; exact fun _ _ => rfl) hc)⟩
        have JC : Hid (judgeL 256 F 1280 S k = ss 1 (hh 5) (hh 3) mc) := hJ
        clear hce hc hJ
        go_wp2_with (first
            | (have _q := Q1; clear _q; go_at_call 27; refine (head_gen (some ⟨c, 0, none⟩) 256 cc F _ Q1.out.2.2.2.1 (CR1.out.front BC.out 256 (by omega)) hcc).mono ?_; rintro e' Y2 ⟨rfl, hB⟩; rw [HV.out, HC.out]
               have Q2 : Hid (cS w g u hh a n C S k Y2) := Q1.out.below hB
               have E2 : Hid (Rec19 Y2 d 0 (ss 2 0 0 false)) := E1.out.below hB
               have CR2 : Hid (IRow Y2 c .u8 256 F) := CR1.out.below hB
               clear hB Q1 E1 CR1)
            | (have _q := Q2; clear _q; refine wpList_alloc_rec rfl 26 rfl (hcs fun _ => 0) Y2.heap.size rfl zeroHdr ?_; intro Y3 r3 b3 z3)
            | (have _q := Q2; clear _q; refine wpList_store_rec rfl 26 (.tmp 19) (.tmp 128) rfl Y2.heap.size 0 _ (hcs hv) rfl rfl r3 rfl (by kernel_rfl) (hcs_one _) ?_; intro Y4 r4 b4
               have hB : Below Y2.heap.size Y2 Y4 := b3.trans (b4.below (Nat.le_refl _) (by omega))
               have Q4 : Hid (cS w g u hh a n C S k Y4) := Q2.out.below hB
               have E4 : Hid (Rec19 Y4 d 0 (ss 2 0 0 false)) := E2.out.below hB
               have CR4 : Hid (IRow Y4 c .u8 256 F) := CR2.out.below hB
               have TU : Hid True := trivial
               clear hB b3 b4 r3 r4 z3 Q2 E2 CR2)
            | (have _q := Q4; clear _q; go_at_call 22; refine (judge_row2 c g cc 1280 F S k _ _ Q4.out.2.2.2.1 (CR4.out.front BC.out 256 (by omega)) (Q4.out.2.1.front BS.out 1280 (by omega)) hcc (by omega) JC.out).mono ?_; rintro e' Y6 ⟨rfl, hB⟩
               have Q6 : Hid (cS w g u hh a n C S k Y6) := Q4.out.below hB
               have E6 : Hid (Rec19 Y6 d 0 (ss 2 0 0 false)) := E4.out.below hB
               clear hB Q4 E4; clear CR4)
            | (have _q := Q6; clear _q; refine wpList_store_rec rfl 45 (.tmp 14) (.tmp 149) rfl d 0 _ (ss 1 (hh 5) (hh 3) mc) rfl rfl E6.out rfl (by kernel_rfl) (ss_one _ _ _ _) ?_; intro Y7 r7 b7
               have nd := ND.out
               have Q7 : Hid (cS w g u hh a n C S k Y7) := ⟨Q6.out.1.but b7 (by omega), Q6.out.2.1.but b7 (by omega), Q6.out.2.2.1.but b7 (by omega), Q6.out.2.2.2.1.below (b7.below (by omega) Q6.out.2.2.2.2.size) hT0, Q6.out.2.2.2.2.trans (b7.below (by omega) Q6.out.2.2.2.2.size)⟩
               have E7 : Hid (Rec19 Y7 d 0 (ss 1 (hh 5) (hh 3) mc)) := r7
               clear nd r7 b7 Q6 E6)
            | (have _q := Q7; clear _q; go_at_call 19; refine (prep_at hl OK.out HW.out HP.out BS.out HS.out HH.out g _ Q7.out.2.2.2.1 Q7.out.2.1).mono ?_; rintro e' Y8 ⟨y, rfl, hYB, hB⟩
               have YB8 : Hid (Arg Y8 (some ⟨y, 0, none⟩) n f) := hYB
               have Q8 : Hid (cS w g u hh a n C S k Y8) := Q7.out.below hB
               have E8 : Hid (Rec19 Y8 d 0 (ss 1 (hh 5) (hh 3) mc)) := E7.out.below hB
               clear hYB hB Q7 E7)
            | (have _q := Q8; clear _q; refine wpList_alloc_rec rfl 29 rfl (msg (fun _ => 0) none 0 0) Y8.heap.size rfl zeroMsg ?_; intro Y9 r9 b9 z9)
            | (have _q := Q8; clear _q; refine wpList_store_rec rfl 29 (.tmp 21) (.tmp 154) rfl Y8.heap.size 0 _ (msg hh (some ⟨y, 0, none⟩) n n) rfl rfl r9 rfl (by kernel_rfl) (msg_one _ _ _ _) ?_; intro U1 v1 s1
               have hB : Below Y8.heap.size Y8 U1 := b9.trans (s1.below (Nat.le_refl _) (by omega))
               have QA : Hid (cS w g u hh a n C S k U1) := Q8.out.below hB
               have EA : Hid (Rec19 U1 d 0 (ss 1 (hh 5) (hh 3) mc)) := E8.out.below hB
               have MA : Hid (Rec19 U1 Y8.heap.size 0 (msg hh (some ⟨y, 0, none⟩) n n)) := v1
               have YA : Hid (Arg U1 (some ⟨y, 0, none⟩) n f) := YB8.out.below hB
               clear hB b9 r9 z9 v1 s1 Q8 E8 YB8
               generalize Y8.heap.size = ym at MA ⊢)
            | (have _q := QA; clear _q; refine wpList_load_w (by rfl) 29 (.tmp 21) rfl ym 0 (msg hh (some ⟨y, 0, none⟩) n n) rfl _ Tryd.underlying29 rfl (by kernel_rfl) MA.out ?_)
            | (have _q := QA; clear _q; refine wpList_load_w (by rfl) 29 (.tmp 3) rfl w.heap.size 0 (msg hh a n C) rfl _ Tryd.underlying29 rfl (by kernel_rfl) QA.out.1 ?_)
            | (have _q := QA; clear _q; go_at_call 21; refine (sameMsg_any hh (some ⟨y, 0, none⟩) a n n n C f f _ YA.out (HA.out.below QA.out.2.2.2.2) rfl (fun _ _ => rfl)).mono ?_; rintro e' U2 ⟨rfl, hB⟩
               have QB : Hid (cS w g u hh a n C S k U2) := QA.out.below hB
               have EB2 : Rec19 U2 d 0 (ss 1 (hh 5) (hh 3) mc) := EA.out.below hB
               have d0 := (EB2.at 0 (.int .i64 1) rfl).1
               have d1 := (EB2.at 1 (.int .i64 (hh 5)) rfl).1
               have d2 := (EB2.at 2 (.int .i64 (hh 3)) rfl).1
               have c5 := (QB.out.1.at 5 (.int .i64 (hh 5)) rfl).1
               have c3 := (QB.out.1.at 3 (.int .i64 (hh 3)) rfl).1
               clear hB QA EA MA YA EB2))
        go_ret
        exact ⟨rfl, QB.out.2.2.2.2⟩
end Go.Proofs.YtfpgkckcifjkcaaDoor
