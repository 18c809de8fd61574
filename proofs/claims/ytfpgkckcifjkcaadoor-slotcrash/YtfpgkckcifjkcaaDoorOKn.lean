/-
  Walks, not a claim by itself: SlotKnown. By the verifier.
-/
import Derived.Test.YtfpgkckcifjkcaaDoorOAwk
namespace Go.Proofs.YtfpgkckcifjkcaaDoor
open Go.RowKit
theorem ok0 : okH (upd (pvH 0 0) 2 ((0 : Nat) : Int)) = true := pv_ok 0 0 (by omega) (by omega) (by omega) (by omega)
theorem p0 : isPrep (pvH 0 0) (ofI (pvH 0 0 5)) = false := by decide
theorem u1 : isSl 1 = true := by decide
theorem zc (f : Nat → Int) (n : Nat) (h : ∀ j, j < n → f j = 0) (hn : 256 ≤ n) : headCode f ≠ 0 := zeros_code f (fun j hj => h j (by omega))
theorem uk : fhK 256 (unwF 1) 1 = 1 := unw_found u1
theorem jd4 : judgeL 256 (unwF 1) 1280 (pvF 17 2) 1 = ss 1 17 2 true := by
  unfold judgeL
  rw [if_neg sl1, if_pos w17.1, if_neg (by rw [uk]; decide), o17.1, o17.2]
theorem nz : ¬ prepOK 1280 (fun _ => 0) 1 = true := by rw [prep_bad (zeros_code _ (fun _ _ => rfl))]; decide
theorem ns (f : Nat → Int) (h : f 108 = 7) : ¬ prepOK 1280 f 1 = true := by rw [prep_bad (sevens_code _ h)]; decide
theorem jd5 : judgeL 256 (pvF 17 2) 1280 (fun _ => 0) 1 = ss 3 17 2 false := by
  unfold judgeL
  rw [if_neg sl1, if_neg nz, if_pos h17, o17.1, o17.2]
theorem jd6 : judgeL 256 (unwF 1) 1280 (fun _ => 0) 1 = ss 4 0 0 false := by
  unfold judgeL
  rw [if_neg sl1, if_neg nz, if_neg (by rw [uk]; decide), if_neg (by rw [uk]; decide), if_pos ((zeroN_iff _ _).2 (fun _ _ => rfl))]
theorem jd7 : judgeL 256 (unwF 1) 1280 (fun _ => 7) 1 = ss 2 0 0 false := by
  unfold judgeL
  rw [if_neg sl1, if_neg (ns _ rfl), if_neg (by rw [uk]; decide), if_neg (by rw [uk]; decide), if_neg (fun e => absurd ((zeroN_iff _ _).1 e 0 (by omega)) (by decide))]
theorem zk : fhK 256 (fun _ => 0) 1 = 0 := bad_found (by unfold headC; rw [if_pos rfl]; exact zeros_code _ (fun _ _ => rfl))
theorem jd8 : judgeL 256 (fun _ => 0) 1280 (fun _ => 0) 1 = ss 3 0 0 false := by
  unfold judgeL
  rw [if_neg sl1, if_neg nz, if_neg (by rw [zk]; decide), if_pos zk]
theorem p2 : isPrep (pvH 17 2) 2 = false := by decide
theorem n2 : isPrep (hdrF (pvF 17 2)) 2 = false := by rw [isPrep_congr _ _ 2 w17.2.1]; exact p2
theorem k2 : fhK 256 (pvF 17 2) 2 = 0 := by
  have hu : ¬ isUnw 256 (pvF 17 2) 2 = true := by
    intro h
    unfold isUnw at h
    rw [Bool.and_eq_true, decide_eq_true_iff] at h
    have b := (open_sealed (upd (unwH 2) 2 ((0 : Nat) : Int)) (fun _ => 0) 0 (unw_ok (by decide)) ((unw_words 2).size _) rfl).2.1 0 (by omega)
    refine txt_op (fun j _ => pvF_byte _ _ j) (fun j hj => unwF_byte 2 j hj) 0 (by omega) ?_ h.2
    rw [w17.2.1 0 (by omega), show hdrF (unwF 2) 0 = _ from b]
    decide
  unfold fhK
  have hn : ¬ isPrep (hdrF (pvF 17 2)) 2 = true := by rw [n2]; decide
  by_cases e : headC 256 (pvF 17 2) = 0
  · rw [if_pos e, if_neg hn, if_neg hu]
  · rw [if_neg e]
theorem jd9 : judgeL 256 (pvF 17 2) 1280 (pvF 17 2) 2 = ss 3 0 0 false := by
  have np : ¬ prepOK 1280 (pvF 17 2) 2 = true := fun e => by rw [prepOK_iff, n2] at e; exact absurd e.2.2.1 (by decide)
  unfold judgeL
  rw [if_neg (by decide), if_neg np, if_neg (by rw [k2]; decide), if_pos k2]
/-- What stays: the prepare, what says that a slot is unwritten, the message. -/
def kS (w : World) (m p u : Nat) (W : World) : Prop := Rec19 W m 0 (msg (pvH 17 2) none 0 0) ∧ IRow W p .u8 1280 (pvF 17 2) ∧ IRow W u .u8 256 (unwF 1) ∧ Tab W ∧ Below w.heap.size w W
theorem kS.below {w : World} {m p u : Nat} {W W' : World} (s : kS w m p u W) (hB : Below W.heap.size W W') : kS w m p u W' :=
  ⟨s.1.below hB, s.2.1.below hB, s.2.2.1.below hB, s.2.2.2.1.below hB s.2.2.2.1.2, s.2.2.2.2.trans (hB.mono s.2.2.2.2.size)⟩
theorem kS.but {w : World} {m p u y : Nat} {W W' : World} (s : kS w m p u W) (hB : But y W W') (h0 : 0 < w.heap.size) (hy : w.heap.size ≤ y) (h1 : m ≠ y) (h2 : p ≠ y) (h3 : u ≠ y) : kS w m p u W' :=
  ⟨s.1.but hB h1, s.2.1.but hB h2, s.2.2.1.but hB h3, s.2.2.2.1.below (hB.below hy s.2.2.2.2.size) h0, s.2.2.2.2.trans (hB.below hy s.2.2.2.2.size)⟩
/-- With the noughts and the sevens. -/
def kT (w : World) (m p u x y : Nat) (W : World) : Prop := kS w m p u W ∧ IRow W x .u8 1280 (fun _ => 0) ∧ IRow W y .u8 1280 (fun _ => 7)
theorem kT.below {w : World} {m p u x y : Nat} {W W' : World} (s : kT w m p u x y W) (hB : Below W.heap.size W W') : kT w m p u x y W' := ⟨s.1.below hB, s.2.1.below hB, s.2.2.below hB⟩
theorem msg17 (g : Option Addr) : MB (hdrF (pvF 17 2)) g (hdrF (pvF 17 2) 2).toNat true = .tuple #[.agg (msg (pvH 17 2) g 0 0).toArray, .bool true] := by
  rw [w17.2.1 2 (by omega), show (pvH 17 2 2).toNat = 0 from rfl]
  unfold MB msg
  rw [hcs_congr _ _ w17.2.1]
/-- Sevens up to k. -/
def sev (k : Nat) (j : Nat) : Int := if j < k then 7 else 0
theorem sev_upd (k j : Nat) : upd (sev k) k 7 j = sev (k + 1) j := by
  unfold upd sev
  by_cases e : j = k
  · rw [if_pos e, if_pos (by omega)]
  · rw [if_neg e]
    by_cases e2 : j < k
    · rw [if_pos e2, if_pos (by omega)]
    · rw [if_neg e2, if_neg (by omega)]
theorem sv_less (k : Nat) (h : k < 1280) : 1280 - (intOf (.int .i64 ((k : Int) + 1))).toNat < 1280 - (intOf (.int .i64 (k : Int))).toNat := by
  show 1280 - ((k : Int) + 1).toNat < 1280 - ((k : Int)).toNat
  omega
/-- What holds at the head of the loop. -/
def svRel (w : World) (m p u x y : Nat) (i : Value) (W : World) : Prop := ∃ k : Nat, k ≤ 1280 ∧ i = .int .i64 k ∧ kS w m p u W ∧ IRow W x .u8 1280 (fun _ => 0) ∧ IRow W y .u8 1280 (sev k)
theorem sv_step {w W : World} {m p u x y k : Nat} (h0 : 0 < w.heap.size) (hk : k < 1280) (s : kS w m p u W) (hx : IRow W x .u8 1280 (fun _ => 0)) (hy : IRow W y .u8 1280 (sev k)) (wy : w.heap.size ≤ y) (d : m ≠ y ∧ p ≠ y ∧ u ≠ y ∧ x ≠ y) :
    svRel w m p u x y (.int .i64 ((k : Int) + 1)) (W.setCell ⟨y, k, none⟩ (.int .u8 7)) :=
  ⟨k + 1, by omega, by go_num, s.but (But.set _ _ _) h0 wy d.1 d.2.1 d.2.2.1, hx.but (But.set _ _ _) d.2.2.2, (hy.set k 7).congr (fun j _ => sev_upd k j)⟩
set_option maxRecDepth 100000 in
set_option maxHeartbeats 1000000 in
theorem known_ok (w : World) (hT : Tab w) : Calls Tryd.prog 5 #[] w fun e w' => e = .returned (.bool true) ∧ Below w.heap.size w w' := by
  have hT0 := hT.2
  have TT : Hid (Tab w) := hT
  clear hT
  have T0 : Hid True := trivial
  go_enter Tryd.func5, Tryd.ntmps5
  go_wp2_with (first
    | (have _q := T0; clear _q; go_at_call 24; refine (prepare_ok 17 2 _ TT.out ok17 (by decide)).mono ?_; rintro e W1 ⟨p, rfl, hp, hR1, hB1⟩
       have P1 : Hid (IRow W1 p .u8 1280 (pvF 17 2)) := hR1
       have B1 : Hid (Below w.heap.size w W1) := hB1
       have NP : Hid (w.heap.size ≤ p) := hp
       clear T0 hR1 hB1 hp)
    | (have _q := B1; clear _q; refine wpList_alloc_rec rfl 29 rfl (msg (fun _ => 0) none 0 0) W1.heap.size rfl zeroMsg ?_; intro W2 R2 B2 z2)
    | (have _q := B1; clear _q; refine wpList_store_rec rfl 29 (.tmp 1) (.tmp 16) rfl W1.heap.size 0 _ (msg (pvH 17 2) none 0 0) rfl rfl R2 rfl (by kernel_rfl) (msg_one _ _ _ _) ?_; intro W3 R3 B3
       have F3 : Below W1.heap.size W1 W3 := B2.trans (B3.below (Nat.le_refl _) (by omega))
       have P3 : Hid (IRow W3 p .u8 1280 (pvF 17 2)) := P1.out.below F3
       have E3 : Hid (Below w.heap.size w W3) := B1.out.trans (F3.mono B1.out.size)
       have M3 : Hid (Rec19 W3 W1.heap.size 0 (msg (pvH 17 2) none 0 0)) := R3
       have NM : Hid (w.heap.size ≤ W1.heap.size) := B1.out.size
       clear F3 R3 B3 R2 B2 z2 P1 B1
       generalize W1.heap.size = m at M3 NM ⊢)
    | (have _q := P3; clear _q; go_at_call 11; refine (unwritten_ok 1 _ (TT.out.below E3.out hT0) u1).mono ?_; rintro e W4 ⟨u, rfl, hu, hR4, hB4⟩
       have P4 : Hid (kS w m p u W4) := ⟨M3.out.below hB4, P3.out.below hB4, hR4, TT.out.below (E3.out.trans (hB4.mono E3.out.size)) hT0, E3.out.trans (hB4.mono E3.out.size)⟩
       have NU : Hid (w.heap.size ≤ u) := Nat.le_trans E3.out.size hu
       clear hR4 hB4 hu P3 E3 M3)
    | (have _q := P4; clear _q; refine wpList_build_to rfl 26 _ rfl (hcs (pvH 0 0)).toArray (by kernel_rfl) ?_)
    | (have _q := P4; clear _q; refine wpList_build_to rfl 29 _ rfl (msg (pvH 0 0) none 0 0).toArray (by kernel_rfl) ?_)
    | (have _q := P4; clear _q; go_at_call 9; refine (sbytes_not (pvH 0 0) none 0 0 (fun _ => 0) _ (by omega) P4.out.2.2.2.1 (.inl ⟨rfl, .inl rfl⟩) (Nat.le_refl _) (pv_words 0 0) ok0 p0).mono ?_; rintro e W5 ⟨rfl, hB⟩
       have P5 : Hid (kS w m p u W5) := P4.out.below hB
       clear hB P4)
    | (have _q := P5; clear _q; go_at_call 18; refine (awake_ok _ P5.out.2.2.2.1).mono ?_; rintro e W6 ⟨rfl, hB⟩
       have P6 : Hid (kS w m p u W6) := P5.out.below hB
       have mk := make_bytes 1280 (by omega)
       rw [show ((1280 : Nat) : Int) = 1280 from rfl] at mk
       clear hB P5))
  have hz : ((W6.alloc (.cells (zeros 1280) 5)).alloc (.cells (zeros 1280) 5)).heap.size = W6.heap.size + 1 + 1 := by simp
  have A1 : IRow ((W6.alloc (.cells (zeros 1280) 5)).alloc (.cells (zeros 1280) 5)).drew W6.heap.size .u8 1280 (fun _ => 0) := ((IRow.made W6 1280 5).alloc _).drew
  have A2 : IRow ((W6.alloc (.cells (zeros 1280) 5)).alloc (.cells (zeros 1280) 5)).drew (W6.heap.size + 1) .u8 1280 (fun _ => 0) := by
    have := (IRow.made (W6.alloc (.cells (zeros 1280) 5)) 1280 5).drew
    rw [World.size_alloc] at this
    exact this
  have AB : Below W6.heap.size W6 ((W6.alloc (.cells (zeros 1280) 5)).alloc (.cells (zeros 1280) 5)).drew := (((Below.refl _ _).alloc (Nat.le_refl _) _).alloc (by simp) _).drew
  have NN : Hid ((m < W6.heap.size ∧ p < W6.heap.size ∧ u < W6.heap.size) ∧ w.heap.size ≤ W6.heap.size) := ⟨⟨P6.out.1.2.2, P6.out.2.1.2.2, P6.out.2.2.1.2.2⟩, P6.out.2.2.2.2.size⟩
  have PV : Hid (kS w m p u ((W6.alloc (.cells (zeros 1280) 5)).alloc (.cells (zeros 1280) 5)).drew) := P6.out.below AB
  have A1' : Hid (IRow ((W6.alloc (.cells (zeros 1280) 5)).alloc (.cells (zeros 1280) 5)).drew W6.heap.size .u8 1280 (fun _ => 0)) := A1
  have A2' : Hid (IRow ((W6.alloc (.cells (zeros 1280) 5)).alloc (.cells (zeros 1280) 5)).drew (W6.heap.size + 1) .u8 1280 (fun _ => 0)) := A2
  clear A1 A2 AB hz
  go_region
  · have RX := A1'
    have RY := A2'
    have DY : Hid ((m ≠ W6.heap.size + 1 ∧ p ≠ W6.heap.size + 1 ∧ u ≠ W6.heap.size + 1 ∧ W6.heap.size ≠ W6.heap.size + 1) ∧ w.heap.size ≤ W6.heap.size + 1) := (by have := NN.out; refine ⟨⟨?_, ?_, ?_, ?_⟩, ?_⟩ <;> omega)
    clear A1' A2' NN mk P6
    generalize ((W6.alloc (.cells (zeros 1280) 5)).alloc (.cells (zeros 1280) 5)).drew = V at PV RX RY ⊢
    generalize W6.heap.size + 1 = y at RY DY ⊢
    generalize W6.heap.size = x at RX DY ⊢
    go_wp2_with fail
    have ST : Hid (svRel w m p u x y (.int .i64 0) V) := ⟨0, by omega, rfl, PV.out, RX.out, RY.out⟩
    clear PV RX RY
    go_loopw [10] (fun i wr => svRel w m p u x y i wr) (fun i _ => 1280 - (intOf i).toNat)
    case atStart => exact ST.out
    case round =>
      obtain ⟨k, hk, rfl, hP, hX, hY⟩ := hrel
      clear ST
      by_cases hlt : k < 1280
      · have SS : Hid (svRel w m p u x y (.int .i64 ((k : Int) + 1)) (wr.setCell ⟨y, k, none⟩ (.int .u8 7))) := sv_step hT0 hlt hP hX hY DY.out.2 DY.out.1
        have c1 := hY.1 k hlt
        have c2 := hY.2.1 k
        have k0 : (k : Int) < 1280 := by omega
        have k1 : wrap64 ((k : Int) + 1) = (k : Int) + 1 := by unfold wrap64; omega
        have ME : Hid (1280 - (intOf (.int .i64 ((k : Int) + 1))).toNat < 1280 - (intOf (.int .i64 (k : Int))).toNat) := sv_less k hlt
        clear hP hX hY hlt hk
        go_wp2_with fail
        exact ⟨SS.out, ME.out⟩
      · obtain rfl : k = 1280 := by omega
        have PP : Hid (kT w m p u x y wr) := ⟨hP, hX, hY.congr (fun j hj => by unfold sev; rw [if_pos hj])⟩
        clear hP hX hY hlt hk
        rw [show ((1280 : Nat) : Int) = 1280 from rfl]
        go_wp2_with (first 
          | (have _q := PP; clear _q; go_at_call 19; refine (prep_ok (some ⟨p, 0, none⟩) 1280 1280 (pvF 17 2) 1 _ PP.out.1.2.2.2.1 (PP.out.1.2.1.front (pvF_byte _ _) 1280 (by omega)) (Nat.le_refl _) (by omega) w17.1).mono ?_; rintro e V1 ⟨g, he, hg, hG, hB⟩
             rw [msg17] at he
             subst he
             have G1 : Hid (Arg V1 (some ⟨g, 0, none⟩) 0 (fun _ => 0)) := .inl ⟨rfl, .inr ⟨_, rfl⟩⟩
             have Q1 : Hid (kT w m p u x y V1) := PP.out.below hB
             clear hB PP hG hg)
          | (have _q := Q1; clear _q; refine wpList_alloc_rec rfl 29 rfl (msg (fun _ => 0) none 0 0) V1.heap.size rfl zeroMsg ?_; intro V2 R2 B2 z2)
          | (have _q := Q1; clear _q; refine wpList_store_rec rfl 29 (.tmp 11) (.tmp 62) rfl V1.heap.size 0 _ (msg (pvH 17 2) (some ⟨g, 0, none⟩) 0 0) rfl rfl R2 rfl (by kernel_rfl) (msg_one _ _ _ _) ?_; intro V3 R3 B3
             have F3 : Below V1.heap.size V1 V3 := B2.trans (B3.below (Nat.le_refl _) (by omega))
             have Q3 : Hid (kT w m p u x y V3) := Q1.out.below F3
             have M3 : Hid (Rec19 V3 V1.heap.size 0 (msg (pvH 17 2) (some ⟨g, 0, none⟩) 0 0)) := R3
             clear F3 R3 B3 R2 B2 z2 Q1)
          | (have _q := Q3; clear _q; go_at_call 22; refine (judge_row u p 256 _ _ 1 _ _ Q3.out.1.2.2.2.1 (Arg.of (Q3.out.1.2.2.1.lies (unwF_byte 1))) (Q3.out.1.2.1.front (pvF_byte _ _) 1280 (by omega)) (by omega) jd4).mono ?_; rintro e X1 ⟨rfl, hB⟩
             have Y1 : Hid (kT w m p u x y X1) := Q3.out.below hB
             have N1 : Hid (Rec19 X1 V1.heap.size 0 (msg (pvH 17 2) (some ⟨g, 0, none⟩) 0 0)) := M3.out.below hB
             clear hB Q3 M3)
          | (have _q := Y1; clear _q; go_at_call 25; refine (is_true 1 17 2 true _).mono ?_; rintro e X2 ⟨rfl, hB⟩
             have Y2 : Hid (kT w m p u x y X2) := Y1.out.below hB
             have N2 : Hid (Rec19 X2 V1.heap.size 0 (msg (pvH 17 2) (some ⟨g, 0, none⟩) 0 0)) := N1.out.below hB
             clear hB Y1 N1)
          | (have _q := Y2; clear _q; go_at_call 22; refine (judge_row p x 1280 _ _ 1 _ _ Y2.out.1.2.2.2.1 (Y2.out.1.2.1.front (pvF_byte _ _) 256 (by omega)) (Y2.out.2.1.front (fun _ => ⟨by omega, by omega⟩) 1280 (by omega)) (by omega) jd5).mono ?_; rintro e X3 ⟨rfl, hB⟩
             have Y3 : Hid (kT w m p u x y X3) := Y2.out.below hB
             have N3 : Hid (Rec19 X3 V1.heap.size 0 (msg (pvH 17 2) (some ⟨g, 0, none⟩) 0 0)) := N2.out.below hB
             clear hB Y2 N2)
          | (have _q := Y3; clear _q; go_at_call 25; refine (is_true 3 17 2 false _).mono ?_; rintro e X4 ⟨rfl, hB⟩
             have Y4 : Hid (kT w m p u x y X4) := Y3.out.below hB
             have N4 : Hid (Rec19 X4 V1.heap.size 0 (msg (pvH 17 2) (some ⟨g, 0, none⟩) 0 0)) := N3.out.below hB
             clear hB Y3 N3)
          | (have _q := Y4; clear _q; go_at_call 22; refine (judge_row u x 256 _ _ 1 _ _ Y4.out.1.2.2.2.1 (Arg.of (Y4.out.1.2.2.1.lies (unwF_byte 1))) (Y4.out.2.1.front (fun _ => ⟨by omega, by omega⟩) 1280 (by omega)) (by omega) jd6).mono ?_; rintro e X5 ⟨rfl, hB⟩
             have Y5 : Hid (kT w m p u x y X5) := Y4.out.below hB
             have N5 : Hid (Rec19 X5 V1.heap.size 0 (msg (pvH 17 2) (some ⟨g, 0, none⟩) 0 0)) := N4.out.below hB
             clear hB Y4 N4)
          | (have _q := Y5; clear _q; go_at_call 25; refine (is_true 4 0 0 false _).mono ?_; rintro e X6 ⟨rfl, hB⟩
             have Y6 : Hid (kT w m p u x y X6) := Y5.out.below hB
             have N6 : Hid (Rec19 X6 V1.heap.size 0 (msg (pvH 17 2) (some ⟨g, 0, none⟩) 0 0)) := N5.out.below hB
             clear hB Y5 N5)
          | (have _q := Y6; clear _q; go_at_call 22; refine (judge_row u y 256 _ _ 1 _ _ Y6.out.1.2.2.2.1 (Arg.of (Y6.out.1.2.2.1.lies (unwF_byte 1))) (Y6.out.2.2.front (fun _ => ⟨by omega, by omega⟩) 1280 (by omega)) (by omega) jd7).mono ?_; rintro e X7 ⟨rfl, hB⟩
             have Y7 : Hid (kT w m p u x y X7) := Y6.out.below hB
             have N7 : Hid (Rec19 X7 V1.heap.size 0 (msg (pvH 17 2) (some ⟨g, 0, none⟩) 0 0)) := N6.out.below hB
             clear hB Y6 N6)
          | (have _q := Y7; clear _q; go_at_call 25; refine (is_true 2 0 0 false _).mono ?_; rintro e X8 ⟨rfl, hB⟩
             have Y8 : Hid (kT w m p u x y X8) := Y7.out.below hB
             have N8 : Hid (Rec19 X8 V1.heap.size 0 (msg (pvH 17 2) (some ⟨g, 0, none⟩) 0 0)) := N7.out.below hB
             clear hB Y7 N7)
          | (have _q := Y8; clear _q; refine wpList_load_w (by rfl) 29 (.tmp 11) rfl V1.heap.size 0 (msg (pvH 17 2) (some ⟨g, 0, none⟩) 0 0) rfl _ Tryd.underlying29 rfl (by kernel_rfl) N8.out ?_)
          | (have _q := Y8; clear _q; refine wpList_load_w (by rfl) 29 (.tmp 1) rfl m 0 (msg (pvH 17 2) none 0 0) rfl _ Tryd.underlying29 rfl (by kernel_rfl) Y8.out.1.1 ?_)
          | (have _q := Y8; clear _q; go_at_call 21; refine (sameMsg_any (pvH 17 2) (some ⟨g, 0, none⟩) none 0 0 0 0 (fun _ => 0) (fun _ => 0) _ (.inl ⟨rfl, .inr ⟨_, rfl⟩⟩) (.inl ⟨rfl, .inl rfl⟩) rfl (fun _ _ => rfl)).mono ?_; rintro e X0 ⟨rfl, hB⟩
             have Y0 : Hid (kT w m p u x y X0) := Y8.out.below hB
             clear hB Y8 N8)
          | (have _q := Y0; clear _q; go_at_call 22; refine (judge_row x x 1280 _ _ 1 _ _ Y0.out.1.2.2.2.1 (Y0.out.2.1.front (fun _ => ⟨by omega, by omega⟩) 256 (by omega)) (Y0.out.2.1.front (fun _ => ⟨by omega, by omega⟩) 1280 (by omega)) (by omega) jd8).mono ?_; rintro e X9 ⟨rfl, hB⟩
             have Y9 : Hid (kT w m p u x y X9) := Y0.out.below hB
             clear hB Y0)
          | (have _q := Y9; clear _q; go_at_call 25; refine (is_true 3 0 0 false _).mono ?_; rintro e X10 ⟨rfl, hB⟩
             have Y10 : Hid (kT w m p u x y X10) := Y9.out.below hB
             clear hB Y9)
          | (have _q := Y10; clear _q; go_at_call 22; refine (judge_row p p 1280 _ _ 2 _ _ Y10.out.1.2.2.2.1 (Y10.out.1.2.1.front (pvF_byte _ _) 256 (by omega)) (Y10.out.1.2.1.front (pvF_byte _ _) 1280 (by omega)) (by omega) jd9).mono ?_; rintro e X11 ⟨rfl, hB⟩
             have Y11 : Hid (kT w m p u x y X11) := Y10.out.below hB
             clear hB Y10)
          | (have _q := Y11; clear _q; go_at_call 25; refine (is_true 3 0 0 false _).mono ?_; rintro e X12 ⟨rfl, hB⟩
             have Y12 : Hid (kT w m p u x y X12) := Y11.out.below hB
             clear hB Y11))
        go_ret
        exact ⟨rfl, Y12.out.1.2.2.2.2⟩
  · have RX := A2'
    have RY := A1'
    have DY : Hid ((m ≠ W6.heap.size ∧ p ≠ W6.heap.size ∧ u ≠ W6.heap.size ∧ W6.heap.size + 1 ≠ W6.heap.size) ∧ w.heap.size ≤ W6.heap.size) := (by have := NN.out; refine ⟨⟨?_, ?_, ?_, ?_⟩, ?_⟩ <;> omega)
    clear A1' A2' NN mk P6
    generalize ((W6.alloc (.cells (zeros 1280) 5)).alloc (.cells (zeros 1280) 5)).drew = V at PV RX RY ⊢
    generalize W6.heap.size + 1 = x at RX DY ⊢
    generalize W6.heap.size = y at RY DY ⊢
    go_wp2_with fail
    have ST : Hid (svRel w m p u x y (.int .i64 0) V) := ⟨0, by omega, rfl, PV.out, RX.out, RY.out⟩
    clear PV RX RY
    go_loopw [10] (fun i wr => svRel w m p u x y i wr) (fun i _ => 1280 - (intOf i).toNat)
    case atStart => exact ST.out
    case round =>
      obtain ⟨k, hk, rfl, hP, hX, hY⟩ := hrel
      clear ST
      by_cases hlt : k < 1280
      · have SS : Hid (svRel w m p u x y (.int .i64 ((k : Int) + 1)) (wr.setCell ⟨y, k, none⟩ (.int .u8 7))) := sv_step hT0 hlt hP hX hY DY.out.2 DY.out.1
        have c1 := hY.1 k hlt
        have c2 := hY.2.1 k
        have k0 : (k : Int) < 1280 := by omega
        have k1 : wrap64 ((k : Int) + 1) = (k : Int) + 1 := by unfold wrap64; omega
        have ME : Hid (1280 - (intOf (.int .i64 ((k : Int) + 1))).toNat < 1280 - (intOf (.int .i64 (k : Int))).toNat) := sv_less k hlt
        clear hP hX hY hlt hk
        go_wp2_with fail
        exact ⟨SS.out, ME.out⟩
      · obtain rfl : k = 1280 := by omega
        have PP : Hid (kT w m p u x y wr) := ⟨hP, hX, hY.congr (fun j hj => by unfold sev; rw [if_pos hj])⟩
        clear hP hX hY hlt hk
        rw [show ((1280 : Nat) : Int) = 1280 from rfl]
        go_wp2_with (first 
          | (have _q := PP; clear _q; go_at_call 19; refine (prep_ok (some ⟨p, 0, none⟩) 1280 1280 (pvF 17 2) 1 _ PP.out.1.2.2.2.1 (PP.out.1.2.1.front (pvF_byte _ _) 1280 (by omega)) (Nat.le_refl _) (by omega) w17.1).mono ?_; rintro e V1 ⟨g, he, hg, hG, hB⟩
             rw [msg17] at he
             subst he
             have G1 : Hid (Arg V1 (some ⟨g, 0, none⟩) 0 (fun _ => 0)) := .inl ⟨rfl, .inr ⟨_, rfl⟩⟩
             have Q1 : Hid (kT w m p u x y V1) := PP.out.below hB
             clear hB PP hG hg)
          | (have _q := Q1; clear _q; refine wpList_alloc_rec rfl 29 rfl (msg (fun _ => 0) none 0 0) V1.heap.size rfl zeroMsg ?_; intro V2 R2 B2 z2)
          | (have _q := Q1; clear _q; refine wpList_store_rec rfl 29 (.tmp 11) (.tmp 62) rfl V1.heap.size 0 _ (msg (pvH 17 2) (some ⟨g, 0, none⟩) 0 0) rfl rfl R2 rfl (by kernel_rfl) (msg_one _ _ _ _) ?_; intro V3 R3 B3
             have F3 : Below V1.heap.size V1 V3 := B2.trans (B3.below (Nat.le_refl _) (by omega))
             have Q3 : Hid (kT w m p u x y V3) := Q1.out.below F3
             have M3 : Hid (Rec19 V3 V1.heap.size 0 (msg (pvH 17 2) (some ⟨g, 0, none⟩) 0 0)) := R3
             clear F3 R3 B3 R2 B2 z2 Q1)
          | (have _q := Q3; clear _q; go_at_call 22; refine (judge_row u p 256 _ _ 1 _ _ Q3.out.1.2.2.2.1 (Arg.of (Q3.out.1.2.2.1.lies (unwF_byte 1))) (Q3.out.1.2.1.front (pvF_byte _ _) 1280 (by omega)) (by omega) jd4).mono ?_; rintro e X1 ⟨rfl, hB⟩
             have Y1 : Hid (kT w m p u x y X1) := Q3.out.below hB
             have N1 : Hid (Rec19 X1 V1.heap.size 0 (msg (pvH 17 2) (some ⟨g, 0, none⟩) 0 0)) := M3.out.below hB
             clear hB Q3 M3)
          | (have _q := Y1; clear _q; go_at_call 25; refine (is_true 1 17 2 true _).mono ?_; rintro e X2 ⟨rfl, hB⟩
             have Y2 : Hid (kT w m p u x y X2) := Y1.out.below hB
             have N2 : Hid (Rec19 X2 V1.heap.size 0 (msg (pvH 17 2) (some ⟨g, 0, none⟩) 0 0)) := N1.out.below hB
             clear hB Y1 N1)
          | (have _q := Y2; clear _q; go_at_call 22; refine (judge_row p x 1280 _ _ 1 _ _ Y2.out.1.2.2.2.1 (Y2.out.1.2.1.front (pvF_byte _ _) 256 (by omega)) (Y2.out.2.1.front (fun _ => ⟨by omega, by omega⟩) 1280 (by omega)) (by omega) jd5).mono ?_; rintro e X3 ⟨rfl, hB⟩
             have Y3 : Hid (kT w m p u x y X3) := Y2.out.below hB
             have N3 : Hid (Rec19 X3 V1.heap.size 0 (msg (pvH 17 2) (some ⟨g, 0, none⟩) 0 0)) := N2.out.below hB
             clear hB Y2 N2)
          | (have _q := Y3; clear _q; go_at_call 25; refine (is_true 3 17 2 false _).mono ?_; rintro e X4 ⟨rfl, hB⟩
             have Y4 : Hid (kT w m p u x y X4) := Y3.out.below hB
             have N4 : Hid (Rec19 X4 V1.heap.size 0 (msg (pvH 17 2) (some ⟨g, 0, none⟩) 0 0)) := N3.out.below hB
             clear hB Y3 N3)
          | (have _q := Y4; clear _q; go_at_call 22; refine (judge_row u x 256 _ _ 1 _ _ Y4.out.1.2.2.2.1 (Arg.of (Y4.out.1.2.2.1.lies (unwF_byte 1))) (Y4.out.2.1.front (fun _ => ⟨by omega, by omega⟩) 1280 (by omega)) (by omega) jd6).mono ?_; rintro e X5 ⟨rfl, hB⟩
             have Y5 : Hid (kT w m p u x y X5) := Y4.out.below hB
             have N5 : Hid (Rec19 X5 V1.heap.size 0 (msg (pvH 17 2) (some ⟨g, 0, none⟩) 0 0)) := N4.out.below hB
             clear hB Y4 N4)
          | (have _q := Y5; clear _q; go_at_call 25; refine (is_true 4 0 0 false _).mono ?_; rintro e X6 ⟨rfl, hB⟩
             have Y6 : Hid (kT w m p u x y X6) := Y5.out.below hB
             have N6 : Hid (Rec19 X6 V1.heap.size 0 (msg (pvH 17 2) (some ⟨g, 0, none⟩) 0 0)) := N5.out.below hB
             clear hB Y5 N5)
          | (have _q := Y6; clear _q; go_at_call 22; refine (judge_row u y 256 _ _ 1 _ _ Y6.out.1.2.2.2.1 (Arg.of (Y6.out.1.2.2.1.lies (unwF_byte 1))) (Y6.out.2.2.front (fun _ => ⟨by omega, by omega⟩) 1280 (by omega)) (by omega) jd7).mono ?_; rintro e X7 ⟨rfl, hB⟩
             have Y7 : Hid (kT w m p u x y X7) := Y6.out.below hB
             have N7 : Hid (Rec19 X7 V1.heap.size 0 (msg (pvH 17 2) (some ⟨g, 0, none⟩) 0 0)) := N6.out.below hB
             clear hB Y6 N6)
          | (have _q := Y7; clear _q; go_at_call 25; refine (is_true 2 0 0 false _).mono ?_; rintro e X8 ⟨rfl, hB⟩
             have Y8 : Hid (kT w m p u x y X8) := Y7.out.below hB
             have N8 : Hid (Rec19 X8 V1.heap.size 0 (msg (pvH 17 2) (some ⟨g, 0, none⟩) 0 0)) := N7.out.below hB
             clear hB Y7 N7)
          | (have _q := Y8; clear _q; refine wpList_load_w (by rfl) 29 (.tmp 11) rfl V1.heap.size 0 (msg (pvH 17 2) (some ⟨g, 0, none⟩) 0 0) rfl _ Tryd.underlying29 rfl (by kernel_rfl) N8.out ?_)
          | (have _q := Y8; clear _q; refine wpList_load_w (by rfl) 29 (.tmp 1) rfl m 0 (msg (pvH 17 2) none 0 0) rfl _ Tryd.underlying29 rfl (by kernel_rfl) Y8.out.1.1 ?_)
          | (have _q := Y8; clear _q; go_at_call 21; refine (sameMsg_any (pvH 17 2) (some ⟨g, 0, none⟩) none 0 0 0 0 (fun _ => 0) (fun _ => 0) _ (.inl ⟨rfl, .inr ⟨_, rfl⟩⟩) (.inl ⟨rfl, .inl rfl⟩) rfl (fun _ _ => rfl)).mono ?_; rintro e X0 ⟨rfl, hB⟩
             have Y0 : Hid (kT w m p u x y X0) := Y8.out.below hB
             clear hB Y8 N8)
          | (have _q := Y0; clear _q; go_at_call 22; refine (judge_row x x 1280 _ _ 1 _ _ Y0.out.1.2.2.2.1 (Y0.out.2.1.front (fun _ => ⟨by omega, by omega⟩) 256 (by omega)) (Y0.out.2.1.front (fun _ => ⟨by omega, by omega⟩) 1280 (by omega)) (by omega) jd8).mono ?_; rintro e X9 ⟨rfl, hB⟩
             have Y9 : Hid (kT w m p u x y X9) := Y0.out.below hB
             clear hB Y0)
          | (have _q := Y9; clear _q; go_at_call 25; refine (is_true 3 0 0 false _).mono ?_; rintro e X10 ⟨rfl, hB⟩
             have Y10 : Hid (kT w m p u x y X10) := Y9.out.below hB
             clear hB Y9)
          | (have _q := Y10; clear _q; go_at_call 22; refine (judge_row p p 1280 _ _ 2 _ _ Y10.out.1.2.2.2.1 (Y10.out.1.2.1.front (pvF_byte _ _) 256 (by omega)) (Y10.out.1.2.1.front (pvF_byte _ _) 1280 (by omega)) (by omega) jd9).mono ?_; rintro e X11 ⟨rfl, hB⟩
             have Y11 : Hid (kT w m p u x y X11) := Y10.out.below hB
             clear hB Y10)
          | (have _q := Y11; clear _q; go_at_call 25; refine (is_true 3 0 0 false _).mono ?_; rintro e X12 ⟨rfl, hB⟩
             have Y12 : Hid (kT w m p u x y X12) := Y11.out.below hB
             clear hB Y11))
        go_ret
        exact ⟨rfl, Y12.out.1.2.2.2.2⟩

end Go.Proofs.YtfpgkckcifjkcaaDoor
