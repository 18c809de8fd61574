/-
  Walks, not a claim by itself: DiskKnown. By the verifier.
-/
import Derived.Test.YtoehbljnapdbgaaEKnown
namespace Go.Proofs.Ytoehbljnapdbgaa
open Go.RowKit Go.Maps
set_option maxRecDepth 100000 in
set_option maxHeartbeats 2000000 in
theorem known_any (w : World) : Calls Try.prog 5 #[] w fun e w' => e = .returned (.bool true) ∧ Below w.heap.size w w' := by
  have NEW : Hid (∀ w, Calls Try.prog 26 #[.int .i64 1] w (NewPost w 1)) := fun w => new_ok 1 w (by omega) (by omega)
  go_enter Try.func5, Try.ntmps5
  go_wp2_with fail
  refine (four_any _).mono ?_
  rintro e w1 ⟨d, s, m, D, rfl, S1, HF⟩
  have S1 : Hid (St w w1 d s m D) := S1
  have HF : Hid (FourIs D) := HF
  go_wp2_with fail
  refine (awake_any _).mono ?_
  rintro e w2 ⟨rfl, b2⟩
  have S2 : Hid (St w w2 d s m D) := S1.out.below b2
  clear S1 b2
  go_wp2_with fail
  refine (sector_any 2 _).mono ?_
  rintro e w3 ⟨rfl, o3, b3⟩
  have S3 : Hid (St w w3 d s m D) := S2.out.below b3
  have L3 : Hid (Lies w3 w2.heap.size 0 256 (fun _ => 2)) := o3.irow.lies (fun _ _ => by omega)
  have E3 : Hid (w2.heap.size ≠ s ∧ w2.heap.size ≠ m) := ⟨by have := S2.out.at'.sl; omega, by have := S2.out.at'.ml; omega⟩
  clear o3 b3 S2
  go_wp2_with fail
  refine (st_write w _ d s m 0 _ 0 1 _ _ _ _ _ S3.out HF.out.free rfl rfl L3.out (by omega) (by omega) (by omega) (by rw [HF.out.N]; decide) E3.out).mono ?_
  rintro e w4 ⟨rfl, m4, S4, -, -⟩
  have S4 : Hid (St w w4 d s m4 (knW D)) := S4
  clear S3 L3 E3
  go_wp2_with fail
  refine (st_crash w _ d s m4 1 _ _ (knW D) _ _ (S4.out.below ((Below.refl _ _).alloc (Nat.le_refl _) _)) (karg_lit w4 [true]) (fun r e => by have := S4.out.at'.sl; cases e; show w4.heap.size ≠ s; omega)).mono ?_
  rintro e w5 ⟨rfl, m5, S5, -, -⟩
  have S5 : Hid (St w w5 d s m5 (knD D)) := S5
  clear S4
  go_wp2_with fail
  refine (read_of _ d s m5 0 1 (knD D) 0 false S5.out.at' rfl rfl (by rw [knD_N HF.out]; decide) _ _ rfl rfl).mono ?_
  rintro e w6 ⟨rfl, r6, b6⟩
  have S6 : Hid (St w w6 d s m5 (knD D)) := S5.out.below b6
  have R6 : Hid (Lies w6 w5.heap.size 0 256 tornF) := (r6.congr (fun j hj => knD_sec HF.out j hj)).lies (fun j _ => tornF_byte j)
  clear r6 b6 S5
  go_wp2_with fail
  refine (sector_any 2 _).mono ?_
  rintro e w7 ⟨rfl, o7, b7⟩
  obtain ⟨v, w8, hr8, o8, b8⟩ := half1_run w6 w7 ⟨rfl, o7, b7⟩
  clear o7 b7
  go_wp2_with (at_builtin; refine wpList_append_go rfl _ _ 26 26 rfl _ _ rfl rfl hr8 ?_)
  refine (sector_any 1 _).mono ?_
  rintro e w9 ⟨rfl, o9, b9⟩
  obtain ⟨v', w10, hr10, ⟨g, cap, rfl, hg, hl⟩, hb⟩ := half2_run w6 w8 w9 v o8 b8 ⟨rfl, o9, b9⟩
  have S10 : Hid (St w w10 d s m5 (knD D)) := S6.out.below hb
  have L10 : Hid (Lies w10 g 0 256 tornF) := hl
  have R10 : Hid (Lies w10 w5.heap.size 0 256 tornF) := R6.out.below hb
  clear o8 b8 o9 b9 hl hb S6 R6 hr8
  go_wp2_with (at_builtin; refine wpList_append_go rfl _ _ 26 26 rfl _ _ rfl rfl hr10 ?_)
  refine (read_range _ d s m5 (knD D) 0 false 3 2 S10.out.at' rfl rfl (by omega) (by rw [knD_N HF.out]; decide)).mono ?_
  rintro e w11 ⟨rfl, rfl⟩
  clear hr10 hg
  go_wp2_with fail
  refine (same_any (some ⟨w5.heap.size, 0, none⟩) (some ⟨g, 0, none⟩) 256 256 _ _ tornF tornF _ (Arg.of R10.out) (Arg.of L10.out)).mono ?_
  rintro e w11' ⟨rfl, h11⟩
  rw [h11, decide_eq_true rfl]
  clear h11 w11' R10 L10
  go_wp2_with fail
  refine (sector_any 1 _).mono ?_
  rintro e w12 ⟨rfl, o12, b12⟩
  have S12 : Hid (St w w12 d s m5 (knD D)) := S10.out.below b12
  clear o12 b12 S10
  go_wp2_with fail
  refine (write_range _ d s m5 (knD D) 0 false 4 _ 1 _ S12.out.at' rfl rfl (by omega) (by omega) (by omega) (by rw [knD_N HF.out]; decide)).mono ?_
  rintro e w13 ⟨rfl, b13⟩
  have S13 : Hid (St w w13 d s m5 (knD D)) := S12.out.below b13
  clear b13 S12
  go_wp2_with fail
  refine (write_arg _ d s m5 (knD D) 0 false 0 _ 3 _ (S13.out.at'.alloc _) rfl rfl (by omega)).mono ?_
  rintro e w14 ⟨rfl, b14⟩
  have S14 : Hid (St w w14 d s m5 (knD D)) := S13.out.below (((Below.refl _ _).alloc (Nat.le_refl _) _).trans (b14.mono (by simp)))
  clear b14 S13
  go_wp2_with fail
  refine (turn_range _ d s m5 (knD D) 0 256 1 S14.out.at' (by omega)).mono ?_
  rintro e w15 ⟨rfl, rfl⟩
  go_wp2_with fail
  refine (NEW.out _).mono ?_
  rintro e w16 ⟨o, t, n, rfl, h1, h2, h3, h4, h5⟩
  have S16 : Hid (St w w16 d s m5 (knD D)) := S14.out.below h5
  have T16 : Hid (St w w16 o t n (dsk0 1)) := ⟨h4, Nat.le_trans S14.out.bel.size h1, Nat.le_trans S14.out.bel.size h2, Nat.le_trans S14.out.bel.size h3, S16.out.bel⟩
  have AP : Hid (∀ x, x ∈ [d, s, m5] → x ∉ [o, t, n]) := fun x hx hy => by
    have a1 := S14.out.at'.dl
    have a2 := S14.out.at'.sl
    have a3 := S14.out.at'.ml
    simp at hx hy
    omega
  clear h1 h2 h3 h4 h5 S14
  go_wp2_with fail
  refine (two_fuse w _ d s m5 o t n _ (knD D) (dsk0 1) 1 S16.out T16.out AP.out (by omega) (by omega) ⟨rfl, rfl⟩ ⟨rfl, rfl⟩).mono ?_
  rintro e w17 ⟨rfl, q, U17⟩
  have U17 : Hid (Two w w17 d s m5 o t n q { knD D with out := false, fz := some q } { dsk0 1 with out := false, fz := some q } 1 false) := U17
  clear S16 T16 AP
  go_wp2_with fail
  refine (sector_any 1 _).mono ?_
  rintro e w18 ⟨rfl, o18, b18⟩
  have U18 : Hid (Two w w18 d s m5 o t n q { knD D with out := false, fz := some q } { dsk0 1 with out := false, fz := some q } 1 false) := U17.out.below b18
  have L18 : Hid (Lies w18 w17.heap.size 0 256 (fun _ => 1)) := o18.irow.lies (fun _ _ => by omega)
  have E18 : Hid (w17.heap.size ≠ s ∧ w17.heap.size ≠ m5 ∧ w17.heap.size ≠ q) := ⟨by have := U17.out.d1.sl; omega, by have := U17.out.d1.ml; omega, by have := U17.out.ql; omega⟩
  clear o18 b18 U17
  go_wp2_with fail
  refine (two_write w _ d s m5 o t n q 0 _ 0 1 _ _ _ _ _ _ _ U18.out rfl (by omega) (knD_free HF.out).2.2 rfl rfl L18.out (by omega) (by omega) (by omega) (by show 0 + 1 ≤ (knD D).N; rw [knD_N HF.out]; decide) E18.out).mono ?_
  rintro e w19 ⟨rfl, U19⟩
  obtain ⟨D19, U19, hD19⟩ : ∃ D', Hid (Two w w19 d s m5 o t n q D' { dsk0 1 with out := false, fz := some q } 0 false) ∧ D'.out = false := ⟨_, U19, rfl⟩
  clear U18 L18 E18
  go_wp2_with fail
  refine (two_blow w _ d s m5 o t n q _ _ U19.out hD19).mono ?_
  rintro e w20 ⟨rfl, U20⟩
  have U20 : Hid (Two w w20 d s m5 o t n q D19 { dsk0 1 with out := false, fz := some q } 0 true) := U20
  clear U19
  go_wp2_with fail
  refine (two_up1 w _ d s m5 o t n q _ _ _ _ U20.out hD19).mono ?_
  rintro e w20' ⟨rfl, h20⟩
  rw [h20]
  clear h20 w20'
  go_wp2_with fail
  refine (two_down2 w _ d s m5 o t n q _ _ _ U20.out).mono ?_
  rintro e w21 ⟨rfl, U21⟩
  have U21 : Hid (Two w w21 d s m5 o t n q D19 { dsk0 1 with out := false, fz := some q } 0 true) := U21
  clear U20
  go_wp2_with fail
  refine (crash_ok _ d s m5 0 _ none D19 (fun _ => false) 0 U21.out.d1 (.inl rfl) (fun r e => by cases e)).mono ?_
  rintro e w22 ⟨rfl, m22, hm22, d22, O22⟩
  have D22 : Hid (DiskAt w22 d s m22 (D19.crash 0 (fun _ => false) 0)) := d22
  have T22 : Hid (DiskAt w22 o t n { dsk0 1 with out := false, fz := some q }) := U21.out.d2.off O22 (fun h => U21.out.apart o (by simp at h ⊢; omega) (by simp)) (fun h => U21.out.apart t (by simp at h ⊢; omega) (by simp)) (fun h => U21.out.apart n (by simp at h ⊢; omega) (by simp))
  have F22 : Hid (FuseIs w22 (some q) 0 true) := U21.out.fz.off O22 (fun r e => by cases e; intro h; exact U21.out.q1 (by simp at h ⊢; omega))
  have B22 : Hid (Below w.heap.size w w22) := U21.out.bel.trans (O22.below (fun b hb => U21.out.hg b (by simp at hb ⊢; omega)) U21.out.bel.size)
  clear d22 O22 U21
  go_wp2_with fail
  refine (up_ok _ d s m22 _ 0 false D22.out rfl).mono ?_
  rintro e w22' ⟨rfl, h22⟩
  rw [h22, show (D19.crash 0 (fun _ => false) 0).up false = true from rfl]
  clear h22 w22'
  go_wp2_with fail
  refine (up_ok _ o t n _ 0 true T22.out F22.out).mono ?_
  rintro e w22' ⟨rfl, h22⟩
  rw [h22, show ({ dsk0 1 with out := false, fz := some q } : Dsk).up true = false from rfl]
  clear h22 w22'
  go_wp2_with fail
  go_ret
  exact ⟨rfl, B22.out⟩
end Go.Proofs.Ytoehbljnapdbgaa
