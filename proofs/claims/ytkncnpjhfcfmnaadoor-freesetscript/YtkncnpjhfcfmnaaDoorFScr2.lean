/-
  Walks, not a claim by itself: a set beside the reference's: the other acts, what both tell, and all acts. By the verifier.
-/
import Derived.Test.YtkncnpjhfcfmnaaDoorFScr
import Derived.Test.YtkncnpjhfcfmnaaDoorFBk
namespace Go.Proofs.YtkncnpjhfcfmnaaDoor
open Go.RowKit
/-- Another set comes into the pair. -/
theorem PI.move {W X Y : World} {p b r B n c : Nat} {h : Nat → Nat} (i : PI W p b r B n h X) (hb : Below X.heap.size X Y) (s : SAt Y c n h) (hc : X.heap.size ≤ c) : PI W p c r B n h (Y.setCell ⟨p, 0, none⟩ (.pointer (some ⟨c, 0, none⟩))) := by
  have j := i.kept hb
  have bb : But p Y (Y.setCell ⟨p, 0, none⟩ (.pointer (some ⟨c, 0, none⟩))) := But.set _ _ _
  have pl := i.pl
  have rl := i.a.l
  have Bl := i.a.w.2.2
  have wl := i.w.size
  have z0 := i.z0
  have lp := i.lp
  refine ⟨by rw [World.cell?_setCell_same' _ _ _ (by rw [j.c0]; rfl)], by simpa using j.f0, ?_, Nat.lt_of_lt_of_le j.pl bb.size, s.but bb (by omega), i.k, j.a.but bb (fun q => i.pr q.symm) (fun q => i.pB q.symm), j.t.but bb (by omega) (Nat.lt_of_lt_of_le z0 j.w.size), j.w.trans (bb.below lp j.w.size), z0, lp, by omega, i.lr, i.lB, by omega, i.pr, i.pB, by omega, by omega⟩
  rw [World.cell?_setCell_other _ (a := ⟨p, 0, none⟩) (b := ⟨p, 1, none⟩) _ (fun q => by injection q with _ q; omega)]
  exact j.c1
/-- A set that is no longer in the pair is changed. -/
theorem PI.old {W X Y : World} {p b r B n o : Nat} {h : Nat → Nat} (i : PI W p b r B n h X) (hb : But o X Y) (lo : W.heap.size ≤ o) (h1 : o ≠ p) (h2 : o ≠ b) (h3 : o ≠ r) (h4 : o ≠ B) : PI W p b r B n h Y :=
  ⟨(hb.cell (p := ⟨p, 0, none⟩) i.pl (fun q => h1 q.symm)).trans i.c0, (hb.frozen (p := ⟨p, 0, none⟩) i.pl (fun q => h1 q.symm)).trans i.f0, (hb.cell (p := ⟨p, 1, none⟩) i.pl (fun q => h1 q.symm)).trans i.c1, Nat.lt_of_lt_of_le i.pl hb.size, i.s.but hb (fun q => h2 q.symm), i.k, i.a.but hb (fun q => h3 q.symm) (fun q => h4 q.symm), i.t.but hb (by have := i.z0; omega) (Nat.lt_of_lt_of_le i.z0 i.w.size), i.w.trans (hb.below lo i.w.size), i.z0, i.lp, i.lb, i.lr, i.lB, i.pb, i.pr, i.pB, i.br, i.bB⟩
set_option maxRecDepth 100000 in
theorem act_acquire (W : World) (p b r B n : Nat) (h : Nat → Nat) (N : Int) (X : World) (i : PI W p b r B n h X) : Calls Tryd.prog 12 #[.pointer (some ⟨p, 0, none⟩), .agg #[.int .i64 0, .int .i64 N]] X (ActPost W p r B n) := by
  have J := hidIt (i.kept (Y := X.alloc (.cells #[.int .i64 0, .int .i64 N] 36)) ((Below.refl _ _).alloc (Nat.le_refl _) _))
  have c0 := J.out.c0
  have c1 := J.out.c1
  have A1 := hidIt (acquire_ok _ b n h J.out.s J.out.k J.out.t)
  have A2 := hidIt fun (Y : World) (y : RAt Y r B n h) => racquire_ok Y r B n h y J.out.k
  have KK := hidIt (acq_sok J.out.k)
  clear i
  cases hl : low (fr h) with
  | none =>
    rw [hl] at A1 A2 KK
    unfold acqV at A1 A2
    go_enter Tryd.func12, Tryd.ntmps12
    go_wp2_with (first
      | (go_at_call 22; refine A1.out.mono ?_; rintro e X2 ⟨rfl, s2, b2⟩; have S2 := hidIt s2; have B2 := hidIt b2; have c1' := hidIt ((b2.cell (p := ⟨p, 1, none⟩) J.out.pl J.out.pb).trans J.out.c1); have c2 := c1'.out; clear s2 b2 c1')
      | (go_at_call 33; refine (A2.out _ (J.out.ref B2.out)).mono ?_; rintro e X3 ⟨rfl, a3, b3⟩; have P3 := hidIt (J.out.both S2.out KK.out B2.out a3 b3); clear a3 b3))
    go_ret
    exact ⟨rfl, _, _, P3.out⟩
  | some q =>
    rw [hl] at A1 A2 KK
    unfold acqV at A1 A2
    go_enter Tryd.func12, Tryd.ntmps12
    go_wp2_with (first
      | (go_at_call 22; refine A1.out.mono ?_; rintro e X2 ⟨rfl, s2, b2⟩; have S2 := hidIt s2; have B2 := hidIt b2; have c1' := hidIt ((b2.cell (p := ⟨p, 1, none⟩) J.out.pl J.out.pb).trans J.out.c1); have c2 := c1'.out; clear s2 b2 c1')
      | (go_at_call 33; refine (A2.out _ (J.out.ref B2.out)).mono ?_; rintro e X3 ⟨rfl, a3, b3⟩; have P3 := hidIt (J.out.both S2.out KK.out B2.out a3 b3); clear a3 b3))
    go_ret
    exact ⟨rfl, _, _, P3.out⟩
set_option maxRecDepth 100000 in
set_option maxHeartbeats 1000000 in
theorem act_clone (W : World) (p b r B n : Nat) (h : Nat → Nat) (N : Int) (X : World) (i : PI W p b r B n h X) : Calls Tryd.prog 12 #[.pointer (some ⟨p, 0, none⟩), .agg #[.int .i64 4, .int .i64 N]] X (ActPost W p r B n) := by
  have J := hidIt (i.kept (Y := X.alloc (.cells #[.int .i64 4, .int .i64 N] 36)) ((Below.refl _ _).alloc (Nat.le_refl _) _))
  have c0 := J.out.c0
  have A1 : Hid (Calls Tryd.prog 28 #[.pointer (some ⟨b, 0, none⟩)] (X.alloc (.cells #[.int .i64 4, .int .i64 N] 36)) fun e w' => e = .returned (.pointer (some ⟨X.heap.size + 1, 0, none⟩)) ∧ w'.cell? ⟨p, 0, none⟩ = some (.pointer (some ⟨b, 0, none⟩)) ∧ w'.frozen? ⟨p, 0, none⟩ = false ∧ PI W p (X.heap.size + 1) r B n h (w'.setCell ⟨p, 0, none⟩ (.pointer (some ⟨X.heap.size + 1, 0, none⟩))) ∧ SAt (w'.setCell ⟨p, 0, none⟩ (.pointer (some ⟨X.heap.size + 1, 0, none⟩))) b n h) := by
    refine (clone_ok _ b n h J.out.s).mono ?_
    rintro e w' ⟨rfl, s2, b2⟩
    rw [World.size_alloc] at s2
    have j2 := J.out.kept b2
    exact ⟨by rw [World.size_alloc], j2.c0, j2.f0, J.out.move b2 s2 (by rw [World.size_alloc]; exact Nat.le_refl _), j2.s.but (But.set _ _ _) (fun q => j2.pb q.symm)⟩
  have bl : Hid (b < X.heap.size ∧ W.heap.size ≤ b ∧ b ≠ p ∧ b ≠ r ∧ b ≠ B) := ⟨i.s.l, i.lb, fun q => i.pb q.symm, i.br, i.bB⟩
  clear i
  go_enter Tryd.func12, Tryd.ntmps12
  go_wp2_with (first
    | (go_at_call 28; refine A1.out.mono ?_; clear A1; rintro e X2 ⟨rfl, d0, f0, j2, s2⟩; have J2 := hidIt j2; have S2 := hidIt s2; clear j2 s2)
    | (go_at_call 22; refine (acquire_ok _ b n h S2.out J2.out.k J2.out.t).mono ?_; rintro e X3 ⟨rfl, s3, b3⟩; have J3 := hidIt (J2.out.old b3 bl.out.2.1 bl.out.2.2.1 (by have := bl.out.1; omega) bl.out.2.2.2.1 bl.out.2.2.2.2); have S3 := hidIt s3; clear s3 b3)
    | (go_at_call 26; refine (settle_ok _ b n _ S3.out (acq_sok J2.out.k)).mono ?_; rintro e X4 ⟨rfl, s4, b4⟩; have J4 := hidIt (J3.out.old b4 bl.out.2.1 bl.out.2.2.1 (by have := bl.out.1; omega) bl.out.2.2.2.1 bl.out.2.2.2.2); have d4 := J4.out.c0; clear s4 b4))
  go_ret
  exact ⟨rfl, _, _, J4.out⟩
set_option maxRecDepth 100000 in
set_option maxHeartbeats 1000000 in
theorem act_read (W : World) (p b r B n : Nat) (h : Nat → Nat) (N : Int) (X : World) (i : PI W p b r B n h X) : Calls Tryd.prog 12 #[.pointer (some ⟨p, 0, none⟩), .agg #[.int .i64 5, .int .i64 N]] X (ActPost W p r B n) := by
  have J := hidIt (i.kept (Y := X.alloc (.cells #[.int .i64 5, .int .i64 N] 36)) ((Below.refl _ _).alloc (Nat.le_refl _) _))
  have c0 := J.out.c0
  have A1' := bytes_ok _ b n h J.out.s J.out.k
  rw [World.size_alloc] at A1'
  have A1 := hidIt A1'
  clear A1'
  have A2 : Hid (∀ Y g, PI W p b r B n h Y → IRow Y g .u8 (szN n) (byF n h n) → Calls Tryd.prog 15 #[.slice (some ⟨g, 0, none⟩) (szN n) (szN n)] Y fun e w' => ∃ c, e = .returned (.tuple #[.pointer (some ⟨c, 0, none⟩), .int .i64 0]) ∧ w'.cell? ⟨p, 0, none⟩ = some (.pointer (some ⟨b, 0, none⟩)) ∧ w'.frozen? ⟨p, 0, none⟩ = false ∧ PI W p c r B n h (w'.setCell ⟨p, 0, none⟩ (.pointer (some ⟨c, 0, none⟩)))) := fun Y g y r' => by
    refine (read_own y.k Y g r').mono ?_
    rintro e w' ⟨c, hc, rfl, s2, b2⟩
    have j2 := y.kept b2
    exact ⟨c, rfl, j2.c0, j2.f0, y.move b2 s2 hc⟩
  clear i
  go_enter Tryd.func12, Tryd.ntmps12
  go_wp2_with (first
    | (go_at_call 20; refine A1.out.mono ?_; clear A1; rintro e X2 ⟨rfl, l2, b2⟩; have J2 := hidIt (J.out.kept (by rw [World.size_alloc]; exact b2)); have L2 := hidIt l2; clear l2 b2)
    | (go_at_call 15; refine (A2.out _ _ J2.out L2.out).mono ?_; clear A2; rintro e X3 ⟨c, rfl, d3, f3, j3⟩; have J3 := hidIt j3; clear j3))
  go_ret
  exact ⟨rfl, _, _, J3.out⟩
/-- Any act. -/
theorem act_any (W : World) (p b r B n : Nat) (h : Nat → Nat) (K N : Int) (X : World) (i : PI W p b r B n h X) : Calls Tryd.prog 12 #[.pointer (some ⟨p, 0, none⟩), .agg #[.int .i64 K, .int .i64 N]] X (ActPost W p r B n) := by
  by_cases hK : K < 0 ∨ 5 < K
  · exact act_is W p b r B n h K N X i hK
  · have h6 : K = 0 ∨ K = 1 ∨ K = 2 ∨ K = 3 ∨ K = 4 ∨ K = 5 := by omega
    rcases h6 with rfl | rfl | rfl | rfl | rfl | rfl
    · exact act_acquire W p b r B n h N X i
    · exact act_take W p b r B n h N X i
    · exact act_release W p b r B n h N X i
    · exact act_settle W p b r B n h N X i
    · exact act_clone W p b r B n h N X i
    · exact act_read W p b r B n h N X i
set_option maxRecDepth 100000 in
set_option maxHeartbeats 1000000 in
theorem told_ok (W : World) (p b r B n : Nat) (h : Nat → Nat) (X : World) (i : PI W p b r B n h X) : Calls Tryd.prog 13 #[.pointer (some ⟨p, 0, none⟩)] X fun e w' => e = .returned (.bool true) ∧ PI W p b r B n h w' := by
  have J := hidIt i
  have c0 := i.c0
  clear i
  have SM : Hid (∀ Y g1 g2 c2, IRow Y g1 .u8 (szN n) (byF n h n) → Lies Y g2 0 (szN n) (byF n h n) → Calls Tryd.prog 19 #[.slice (some ⟨g1, 0, none⟩) (szN n) (szN n), .slice (some ⟨g2, 0, none⟩) (szN n) c2] Y fun e w' => e = .returned (.bool true) ∧ w' = Y) := fun Y g1 g2 c2 l1 l2 => by
    refine (same_any _ _ _ _ _ _ _ _ Y (Arg.of (l1.lies (fun j _ => byF_range n h J.out.k.le J.out.k.n2 n j))) (Arg.of l2)).mono ?_
    rintro e w' ⟨rfl, hw⟩
    exact ⟨by simp, hw⟩
  go_enter Tryd.func13, Tryd.ntmps13
  go_wp2_with (first
    | (go_at_call 23; refine (counts_ok _ b n h J.out.s J.out.k).mono ?_; rintro e X1 ⟨rfl, b1⟩; have J1 := hidIt (J.out.kept b1); have c1 := J1.out.c1; clear b1)
    | (go_at_call 38; refine (rcounts_ok _ r B n h J1.out.a J1.out.k).mono ?_; rintro e X2 ⟨rfl, b2⟩; have J2 := hidIt (J1.out.kept b2); have c2 := J2.out.c0; clear b2)
    | (go_at_call 20; refine (bytes_ok _ b n h J2.out.s J2.out.k).mono ?_; rintro e X3 ⟨rfl, l3, b3⟩; have J3 := hidIt (J2.out.kept b3); have c3' := J3.out.c1; have L3 := hidIt l3; have Z3 := hidIt (And.intro J2.out.w.size (And.intro J2.out.pl (And.intro J2.out.s.l (And.intro J2.out.a.l J2.out.a.w.2.2)))); clear b3 l3)
    | (go_at_call 21; refine (rbytes_ok _ r B n h J3.out.a J3.out.k.le J3.out.k.n2).mono ?_; rintro e X4 ⟨g4, cap4, rfl, _, _, l4, b4⟩; have J4 := hidIt (J3.out.kept b4); have L4 := hidIt l4; have L3' := hidIt (L3.out.below b4); clear b4 l4)
    | (go_at_call 19; go_loud (refine (SM.out _ _ _ _ L3'.out L4.out).mono ?_; rintro e w' ⟨rfl, hw⟩; subst w'))
    | (go_at_call 18; (refine (over_any _ (szN n) (szN n) _ _ L3'.out (Nat.le_refl _) (by have := J4.out.k.n2; unfold szN; omega)).mono ?_; rintro e X5 ⟨rfl, _, b5⟩; have J5 := hidIt (J4.out.old b5 Z3.out.1 (by have := Z3.out; omega) (by have := Z3.out; omega) (by have := Z3.out; omega) (by have := Z3.out; omega)); clear b5)))
  go_ret
  exact ⟨by simp, J5.out⟩
end Go.Proofs.YtkncnpjhfcfmnaaDoor
