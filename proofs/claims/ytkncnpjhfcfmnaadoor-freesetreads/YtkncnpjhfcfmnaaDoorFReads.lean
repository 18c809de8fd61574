/-
  Walks, not a claim by itself: which set bytes are. By the verifier.
-/
import Derived.Test.YtkncnpjhfcfmnaaDoorFRrd3
import Derived.Test.YtkncnpjhfcfmnaaDoorBLent
import Derived.Test.YtkncnpjhfcfmnaaDoorBOver
namespace Go.Proofs.YtkncnpjhfcfmnaaDoor
open Go.RowKit
theorem reads_far (a : Option Addr) (m C : Nat) (W : World) (h : 300 < m) : Calls Tryd.prog 4 #[.slice a m C] W fun e w' => e = .returned (.bool true) ∧ Below W.heap.size W w' := by
  have i1 : 300 < (m : Int) := by omega
  go_enter Tryd.func4, Tryd.ntmps4
  go_wp2
  go_ret
  exact ⟨rfl, Below.refl _ _⟩
/-- What lies there all the time. -/
structure RsI (W X : World) (a : Option Addr) (m : Nat) (f : Nat → Int) (g : Nat) : Prop where
  w : Below W.heap.size W X
  g1 : W.heap.size ≤ g
  r : IRow X g .u8 (m + 3) (lentF m f 3)
theorem RsI.kept {W X Y : World} {a : Option Addr} {m g : Nat} {f : Nat → Int} (i : RsI W X a m f g) (hb : Below X.heap.size X Y) : RsI W Y a m f g := ⟨i.w.trans (hb.mono i.w.size), i.g1, i.r.below hb⟩
theorem RsI.arg {W X : World} {a : Option Addr} {m g : Nat} {f : Nat → Int} (i : RsI W X a m f g) (A : Arg W a m f) : Arg X (some ⟨g, 0, none⟩) m f := by
  have l : Lies X g 0 m f := ⟨fun j hj => by rw [Nat.zero_add, i.r.1 j (by omega), lentF_low m f 3 j hj], A.bytes, i.r.2.2⟩
  exact Arg.of l
set_option maxRecDepth 100000 in
set_option maxHeartbeats 1000000 in
theorem reads_ok (a : Option Addr) (m C : Nat) (f : Nat → Int) (W : World) (hT : DTab W) (h0 : 0 < W.heap.size) (hm : m ≤ 300) (A : Arg W a m f) (hk : rdOK m f) : Calls Tryd.prog 4 #[.slice a m C] W fun e w' => e = .returned (.bool true) ∧ Below W.heap.size W w' := by
  have e1 : (300 < (m : Int)) = False := by simp; omega
  have HA := hidIt A
  have T := hidIt (And.intro hT h0)
  have K := hidIt hk
  have NN := hidIt (rdH_sok f (rdC f) (rdC f) hk.2.1 hk.2.2.1 (Nat.le_refl _))
  have LT := hidIt (lent_any a m C f W A (by omega))
  have RD : Hid (∀ X g, RsI W X a m f g → Calls Tryd.prog 15 #[.slice (some ⟨g, 0, none⟩) m (m + 3)] X fun e w' => ∃ S, W.heap.size ≤ S ∧ S ≠ g ∧ e = .returned (.tuple #[.pointer (some ⟨S, 0, none⟩), .int .i64 0]) ∧ RsI W w' a m f g ∧ SAt w' S (rdC f) (rdH f (rdC f) (rdC f))) := fun X g i => by
    refine (read_any X _ m (m + 3) f (i.arg HA.out)).mono ?_
    rintro e w' (⟨_, S, q1, q2, q3, q4⟩ | ⟨q, _⟩)
    · have := i.r.2.2
      have := i.w.size
      exact ⟨S, by omega, by omega, q2, i.kept q4, q3⟩
    · exact absurd K.out q
  have RR : Hid (∀ X, Below W.heap.size W X → Calls Tryd.prog 16 #[.slice a m C] X fun e w' => ∃ r B, X.heap.size ≤ r ∧ X.heap.size ≤ B ∧ e = .returned (.tuple #[.pointer (some ⟨r, 0, none⟩), .int .i64 0]) ∧ RAt w' r B (rdC f) (rkH f (rdC f)) ∧ Below X.heap.size X w') := fun X hX => by
    refine (rread_any X a m C f (HA.out.below hX)).mono ?_
    rintro e w' (⟨_, r, B, q⟩ | ⟨q, _⟩)
    · exact ⟨r, B, q⟩
    · exact absurd K.out q
  have ne3 := hidIt fun i (hi : i < rdC f) => rdOK_ne3 K.out i hi
  have LE := hidIt (rkH_le f (rdC f) ne3.out)
  have TE : decide (txtN (szN (rdC f)) (byF (rdC f) (rdH f (rdC f) (rdC f)) (rdC f)) = txtN (szN (rdC f)) (byF (rdC f) (rkH f (rdC f)) (rdC f))) = true := by
    rw [decide_eq_true_eq]
    exact txtN_congr _ _ _ fun j _ => (byF_congr _ _ _ (rkH_all f (rdC f) ne3.out) j).symm
  have n2 := hidIt hk.2.2.1
  have hm' := hidIt hm
  clear A hT h0 hk hm
  go_enter Tryd.func4, Tryd.ntmps4
  go_wp2_with (first
    | (go_at_call 14; refine LT.out.mono ?_; clear LT; rintro e W1 ⟨g, rfl, q1, q2, q3⟩; have I1 : Hid (RsI W W1 a m f g) := ⟨q3, q1, q2⟩; clear q1 q2 q3)
    | (go_at_call 15; refine (RD.out _ _ I1.out).mono ?_; clear RD; rintro e W2 ⟨S, s1, s2, rfl, i2, s3⟩; have I2 := hidIt i2; have S2 := hidIt (And.intro s1 (And.intro s2 s3)); clear i2 s1 s2 s3)
    | (go_at_call 16; refine (RR.out _ I2.out.w).mono ?_; clear RR; rintro e W3 ⟨r, B, r1, r2, rfl, r3, b3⟩; have I3 := hidIt (I2.out.kept b3); have S3 := hidIt (S2.out.2.2.below b3); have R3 := hidIt (And.intro r1 (And.intro r2 r3)); have G3 := hidIt (show g < W2.heap.size from I2.out.r.2.2); have SL := hidIt (show S < W2.heap.size from S2.out.2.2.l); clear b3 r1 r2 r3)
    | (go_at_call 17; refine (kept_any g a m C f _ (HA.out.below I3.out.w) (by have := hm'.out; omega) I3.out.r).mono ?_; rintro e W4 ⟨rfl, b4⟩; have I4 := hidIt (I3.out.kept b4); have S4 := hidIt (S3.out.below b4); have R4 := hidIt (R3.out.2.2.below b4); clear b4)
    | (go_at_call 18; refine (over_any g m (m + 3) _ _ I4.out.r (by omega) (by have := hm'.out; omega)).mono ?_; rintro e W5 ⟨rfl, _, b5⟩
       have w5 := hidIt (I4.out.w.trans (b5.below I4.out.g1 I4.out.w.size))
       have S5 := hidIt (S4.out.but b5 S2.out.2.1)
       have R5 := hidIt (R4.out.but b5 (by have := R3.out.1; have := G3.out; omega) (by have := R3.out.2.1; have := G3.out; omega)); clear b5)
    | (go_at_call 11; refine (awake_ok _ (T.out.1.below w5.out T.out.2) (Nat.lt_of_lt_of_le T.out.2 w5.out.size)).mono ?_; rintro e W6 ⟨rfl, b6⟩; have w6 := hidIt (w5.out.trans (b6.mono w5.out.size)); have S6 := hidIt (S5.out.below b6); have R6 := hidIt (R5.out.below b6); clear b6)
    | (go_at_call 20; refine (bytes_ok _ S _ _ S6.out NN.out).mono ?_; rintro e W7 ⟨rfl, l7, b7⟩; have w7 := hidIt (w6.out.trans (b7.mono w6.out.size)); have L7 := hidIt l7; have R7 := hidIt (R6.out.below b7); clear b7 l7)
    | (go_at_call 21; refine (rbytes_ok _ r B _ _ R7.out LE.out n2.out).mono ?_; rintro e W8 ⟨h8, cap, rfl, _, _, l8, b8⟩; have w8 := hidIt (w7.out.trans (b8.mono w7.out.size)); have L8 := hidIt l8; have L7' := hidIt (L7.out.below b8); clear b8 l8)
    | (go_at_call 19; refine (same_any _ _ _ _ _ _ _ _ _ (Arg.of (L7'.out.lies (fun j _ => byF_range _ _ NN.out.le n2.out _ j))) (Arg.of L8.out)).mono ?_; rintro e w' ⟨rfl, hw⟩; subst w'; rw [TE]))
  go_ret
  exact ⟨rfl, w8.out⟩
set_option maxRecDepth 100000 in
set_option maxHeartbeats 1000000 in
theorem reads_no (a : Option Addr) (m C : Nat) (f : Nat → Int) (W : World) (hT : DTab W) (h0 : 0 < W.heap.size) (hm : m ≤ 300) (A : Arg W a m f) (hk : ¬ rdOK m f) : Calls Tryd.prog 4 #[.slice a m C] W fun e w' => e = .returned (.bool true) ∧ Below W.heap.size W w' := by
  have e1 : (300 < (m : Int)) = False := by simp; omega
  have HA := hidIt A
  have T := hidIt (And.intro hT h0)
  have K := hidIt hk
  have LT := hidIt (lent_any a m C f W A (by omega))
  have RD : Hid (∀ X g, RsI W X a m f g → Calls Tryd.prog 15 #[.slice (some ⟨g, 0, none⟩) m (m + 3)] X fun e w' => e = .returned (.tuple #[.pointer none, .int .i64 4]) ∧ RsI W w' a m f g) := fun X g i => by
    refine (read_any X _ m (m + 3) f (i.arg HA.out)).mono ?_
    rintro e w' (⟨q, _⟩ | ⟨_, q1, q2⟩)
    · exact absurd q K.out
    · exact ⟨q1, i.kept q2⟩
  have RR : Hid (∀ X, Below W.heap.size W X → Calls Tryd.prog 16 #[.slice a m C] X fun e w' => e = .returned (.tuple #[.pointer none, .int .i64 4]) ∧ Below X.heap.size X w') := fun X hX => by
    refine (rread_any X a m C f (HA.out.below hX)).mono ?_
    rintro e w' (⟨q, _⟩ | ⟨_, q1, q2⟩)
    · exact absurd q K.out
    · exact ⟨q1, q2⟩
  have hm' := hidIt hm
  clear A hT h0 hk hm
  go_enter Tryd.func4, Tryd.ntmps4
  go_wp2_with (first
    | (go_at_call 14; refine LT.out.mono ?_; clear LT; rintro e W1 ⟨g, rfl, q1, q2, q3⟩; have I1 : Hid (RsI W W1 a m f g) := ⟨q3, q1, q2⟩; clear q1 q2 q3)
    | (go_at_call 15; refine (RD.out _ _ I1.out).mono ?_; clear RD; rintro e W2 ⟨rfl, i2⟩; have I2 := hidIt i2; clear i2)
    | (go_at_call 16; refine (RR.out _ I2.out.w).mono ?_; clear RR; rintro e W3 ⟨rfl, b3⟩; have I3 := hidIt (I2.out.kept b3); clear b3)
    | (go_at_call 17; refine (kept_any g a m C f _ (HA.out.below I3.out.w) (by have := hm'.out; omega) I3.out.r).mono ?_; rintro e W4 ⟨rfl, b4⟩; have I4 := hidIt (I3.out.kept b4); clear b4)
    | (go_at_call 18; refine (over_any g m (m + 3) _ _ I4.out.r (by omega) (by have := hm'.out; omega)).mono ?_; rintro e W5 ⟨rfl, _, b5⟩; have w5 := hidIt (I4.out.w.trans (b5.below I4.out.g1 I4.out.w.size)); clear b5)
    | (go_at_call 11; refine (awake_ok _ (T.out.1.below w5.out T.out.2) (Nat.lt_of_lt_of_le T.out.2 w5.out.size)).mono ?_; rintro e W6 ⟨rfl, b6⟩; have w6 := hidIt (w5.out.trans (b6.mono w5.out.size)); clear b6))
  go_ret
  exact ⟨rfl, w6.out⟩
theorem reads_any (a : Option Addr) (m C : Nat) (f : Nat → Int) (W : World) (hT : DTab W) (h0 : 0 < W.heap.size) (A : Arg W a m f) : Calls Tryd.prog 4 #[.slice a m C] W fun e w' => e = .returned (.bool true) ∧ Below W.heap.size W w' := by
  by_cases hm : 300 < m
  · exact reads_far a m C W hm
  · by_cases hk : rdOK m f
    · exact reads_ok a m C f W hT h0 (by omega) A hk
    · exact reads_no a m C f W hT h0 (by omega) A hk
end Go.Proofs.YtkncnpjhfcfmnaaDoor
