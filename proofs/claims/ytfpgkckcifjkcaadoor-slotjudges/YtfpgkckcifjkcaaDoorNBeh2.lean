/-
  Walks, not a claim by itself: the reference's bytes behind a header's seal. By the verifier.
-/
import Derived.Test.YtfpgkckcifjkcaaDoorNBeh
namespace Go.Proofs.YtfpgkckcifjkcaaDoor
open Go.RowKit
/-- What holds behind the loop: the slice, the header's box. -/
def bhS (w : World) (h s : Nat → Int) (n g cap : Nat) (W : World) : Prop := Own W (w.heap.size + 2) (.slice (some ⟨g, 0, none⟩) n cap) n (restF h s) ∧ w.heap.size + 2 ≤ g ∧ Rec19 W w.heap.size 0 (hcs h) ∧ Below w.heap.size w W ∧ w.heap.size + 2 ≤ W.heap.size
theorem bhS.grow {w : World} {h s : Nat → Int} {n m g cap : Nat} {W W' : World} {v' : Value} (b : bhS w h s n g cap W) (hG : GrowP W g (w.heap.size + 2) m (restF h s) v' W') : ∃ g' cap', v' = .slice (some ⟨g', 0, none⟩) m cap' ∧ bhS w h s m g' cap' W' := by
  obtain ⟨g', cap', rfl, h2, h3, h4⟩ := hG
  obtain ⟨_, b2, b3, b4, b5⟩ := b
  exact ⟨g', cap', rfl, h3, by omega, b3.but h4 (by omega), b4.trans (h4.below (by omega) b4.size), Nat.le_trans b5 h4.size⟩
theorem bhS.below {w : World} {h s : Nat → Int} {n g cap : Nat} {W W' : World} (b : bhS w h s n g cap W) (hB : Below W.heap.size W W') : bhS w h s n g cap W' :=
  ⟨b.1.below hB, b.2.1, b.2.2.1.below hB, b.2.2.2.1.trans (hB.mono b.2.2.2.1.size), Nat.le_trans b.2.2.2.2 hB.size⟩
theorem row_arg {w : World} {b : Nat} {s : Nat → Int} (h : Rec19 w b 0 (cl .u8 16 s)) (hs : ∀ j, j < 16 → 0 ≤ s j ∧ s j < 256) : Arg w (some ⟨b, 0, none⟩) 16 s :=
  Arg.of ⟨fun j hj => h.1 j _ (cl_at .u8 16 s j hj), hs, h.2.2⟩
theorem Rec19.alloc' {W : World} {n o : Nat} {cs : List Value} (h : Rec19 W n o cs) (ob : Obj) : Rec19 (W.alloc ob) n o cs := h.below ((Below.refl _ _).alloc (Nat.le_refl _) _)
theorem Own.lt' {w : World} {base n g cap : Nat} {F : Nat → Int} (h : Own w base (.slice (some ⟨g, 0, none⟩) n cap) n F) : g < w.heap.size := (World.ownsRow.lt h g rfl).2
theorem beh_pre (h s : Nat → Int) (w W1 W2 : World) (R1 : Rec19 W1 w.heap.size 0 (hcs h)) (B1 : Below w.heap.size w W1) (z1 : W1.heap.size = w.heap.size + 1) (R2 : Rec19 W2 (w.heap.size + 1) 0 (cl .u8 16 s)) (B2 : Below (w.heap.size + 1) W1 W2) (z2 : W2.heap.size = w.heap.size + 1 + 1) (HS : ∀ j, j < 16 → 0 ≤ s j ∧ s j < 256) :
    ∃ g3 cap3 W3, (Builtin.append_ #[27, 27] 27 #[.slice (some ⟨w.heap.size + 1 + 1, 0, none⟩) 0 0, .slice (some ⟨w.heap.size + 1, 0, none⟩) 16 16]).run Tryd.prog (W2.alloc (.cells #[] 5)) = .ok (.slice (some ⟨g3, 0, none⟩) 16 cap3) W3 ∧ bhS w h s 16 g3 cap3 W3 ∧ g3 < W3.heap.size := by
  have o0 := Own.lit W2 (w.heap.size + 2) 0 (fun _ => 0) (by omega) (by omega)
  have A2 := (row_arg R2 HS).below ((Below.refl W2.heap.size W2).alloc (Nat.le_refl _) (.cells (cl .u8 0 fun _ => 0).toArray 5))
  rw [z2] at o0
  obtain ⟨v3, W3, hr3, g3, cap3, rfl, hg3, hO3, hB3⟩ := app_but 27 (W2.alloc (.cells (cl .u8 0 fun _ => 0).toArray 5)) (w.heap.size + 2) 0 16 16 (w.heap.size + 1 + 1) 0 (some ⟨w.heap.size + 1, 0, none⟩) (fun _ => 0) s o0 (by omega) A2 (by omega) (by rw [World.size_alloc]; omega)
  have z3 : w.heap.size + 3 ≤ W3.heap.size := by have := hB3.size; rw [World.size_alloc] at this; omega
  rw [World.size_alloc] at hg3
  have E2 : Below w.heap.size w W2 := B1.trans (B2.mono (by omega))
  refine ⟨g3, cap3, W3, hr3, ⟨hO3.congr (fun j hj => ?_), by omega, ?_, ?_, by omega⟩, Own.lt' hO3⟩
  · rw [restF_seal _ _ _ (by omega)]; unfold cat; rw [if_neg (by omega), Nat.sub_zero]
  · exact (((R1.below (by rw [z1]; exact B2)).alloc' _).but hB3 (by omega))
  · exact (E2.alloc (by omega) _).trans (hB3.below (by omega) (by rw [World.size_alloc]; omega))
set_option maxRecDepth 100000 in
set_option maxHeartbeats 400000 in
theorem nbehind_any (h s : Nat → Int) (w : World) (hok : okH h = true) (hW : Words h) (hs : ∀ j, j < 16 → 0 ≤ s j ∧ s j < 256) :
    Calls Tryd.prog 56 #[.agg (hcs h).toArray, .agg (cl .u8 16 s).toArray] w fun e w' => ∃ g cap, e = .returned (.slice (some ⟨g, 0, none⟩) 240 cap) ∧ Own w' (w.heap.size + 2) (.slice (some ⟨g, 0, none⟩) 240 cap) 240 (restF h s) ∧ w.heap.size + 2 ≤ g ∧ Below w.heap.size w w' := by
  have OK : Hid (∀ k, k < 13 → 0 ≤ h (pos k) ∧ h (pos k) ≤ 1073741824) := fun k hk => within_of ((okH_iff h).1 hok k hk)
  have HW : Hid (Words h) := hW
  have HS : Hid (∀ j, j < 16 → 0 ≤ s j ∧ s j < 256) := hs
  clear hok hW hs
  go_enter Tryd.func56, Tryd.ntmps56
  go_wp2_with (first
    | (refine wpList_box_rec rfl 26 (.tmp 0) rfl (hcs h) rfl w.heap.size rfl ?_; intro W1 R1 B1 z1)
    | (refine wpList_box_rec rfl 75 (.tmp 1) rfl (cl .u8 16 s) rfl (w.heap.size + 1) z1 ?_; intro W2 R2 B2 z2
       obtain ⟨g3, cap3, W3, hr3', S3', GN'⟩ := beh_pre h s w W1 W2 R1 B1 z1 R2 B2 z2 HS.out
       have S3 : Hid (bhS w h s 16 g3 cap3 W3) := S3'
       have GN : Hid (g3 < W3.heap.size) := GN'
       clear S3' GN'
       obtain ⟨c0, _⟩ := S3.out.2.2.1.at 0 _ rfl
       obtain ⟨c1, _⟩ := S3.out.2.2.1.at 1 _ rfl
       obtain ⟨c2, _⟩ := S3.out.2.2.1.at 2 _ rfl
       obtain ⟨c3, _⟩ := S3.out.2.2.1.at 3 _ rfl
       obtain ⟨c4, _⟩ := S3.out.2.2.1.at 4 _ rfl
       obtain ⟨c5, _⟩ := S3.out.2.2.1.at 5 _ rfl
       obtain ⟨c6, _⟩ := S3.out.2.2.1.at 6 _ rfl
       obtain ⟨c7, _⟩ := S3.out.2.2.1.at 7 _ rfl
       obtain ⟨c8, _⟩ := S3.out.2.2.1.at 8 _ rfl
       clear R1 B1 R2 B2)
    | (at_builtin; refine wpList_append_go rfl (.tmp 9) (.tmp 10) 27 27 rfl _ _ rfl rfl hr3' ?_; clear hr3'))
  have T3 := nine_row W3 h 3
  have ST : Hid (behRelN w W3.heap.size h s (.slice (some ⟨g3, 0, none⟩) 16 cap3) (.int .i64 0) (W3.alloc (.cells #[.int .i64 (h 0), .int .i64 (h 1), .int .i64 (h 2), .int .i64 (h 3), .int .i64 (h 4), .int .i64 (h 5), .int .i64 (h 6), .int .i64 (h 7), .int .i64 (h 8)] 3))) := by
    have S4 := S3.out.below ((Below.refl W3.heap.size W3).alloc (Nat.le_refl _) (.cells #[.int .i64 (h 0), .int .i64 (h 1), .int .i64 (h 2), .int .i64 (h 3), .int .i64 (h 4), .int .i64 (h 5), .int .i64 (h 6), .int .i64 (h 7), .int .i64 (h 8)] 3))
    have := GN.out
    exact ⟨0, g3, cap3, by omega, rfl, rfl, S4.1, S4.2.1, by omega, T3, S4.2.2.1, S4.2.2.2.1, S4.2.2.2.2⟩
  clear T3 S3 c0 c1 c2 c3 c4 c5 c6 c7 c8
  generalize (W3.alloc (.cells #[.int .i64 (h 0), .int .i64 (h 1), .int .i64 (h 2), .int .i64 (h 3), .int .i64 (h 4), .int .i64 (h 5), .int .i64 (h 6), .int .i64 (h 7), .int .i64 (h 8)] 3)) = W4 at ST ⊢
  generalize W3.heap.size = q at ST ⊢
  clear GN
  go_loopw [5, 7] (fun v i wr => behRelN w q h s v i wr) (fun _ i _ => 9 - (intOf i).toNat)
  case atStart => exact ST.out
  case round =>
    obtain ⟨k, g, cap, hk, rfl, rfl, hO, hg, hgq, hR, hP, hB, hz⟩ := hrel
    clear ST
    have RO : Hid (Own wr (w.heap.size + 2) (.slice (some ⟨g, 0, none⟩) (16 + 4 * k) cap) (16 + 4 * k) (restF h s)) := hO
    have RR : Hid (IRow wr q .i64 9 h) := hR
    have RP : Hid (Rec19 wr w.heap.size 0 (hcs h)) := hP
    have BE : Hid (Below w.heap.size w wr) := hB
    clear hO hP hB
    by_cases hlt : k < 9
    · have c0 := hR.1 k hlt
      have hqw := hR.2.2
      clear hR
      have i0 : (k : Int) < 9 := by omega
      have pk : pos k = k := by unfold pos; rw [if_pos hlt]
      have fk : fat k = 32 + 4 * k := by unfold fat; rw [if_pos hlt]
      have bk := OK.out k (by omega)
      have CN : Hid (∀ j, j < 16 + 4 * (k + 1) → cat (restF h s) (16 + 4 * k) (byt (h k)) j = restF h s j) := fun j hj => (by have := cat_num h s (16 + 4 * k) k (by omega) (by omega) j (by omega); rw [pk] at this; exact this : cat (restF h s) (16 + 4 * k) (byt (h k)) j = restF h s j)
      rw [pk] at bk
      obtain ⟨b0, b1⟩ := bk
      clear pk fk
      generalize h k = x at c0 b0 b1 CN
      have wx : IntKind.u64.wrap x = x := by rw [IntKind.wrap_u64]; omega
      obtain ⟨n, hn⟩ : ∃ n, 16 + 4 * k = n := ⟨_, rfl⟩
      rw [hn] at RO CN ⊢
      have HN : Hid (16 + 4 * k = n) := hn
      clear hn
      go_wp2_with (go_at_call 71; refine (put4 x n (16 + 4 * (k + 1)) (w.heap.size + 2) g cap (restF h s) (restF h s) _ (by have := HN.out; omega) RO.out hz (by have := HN.out; omega) CN.out).mono ?_; rintro e W5 ⟨v5, rfl, g5, cap5, rfl, hg5, hO5, hB5⟩)
      exact ⟨⟨k + 1, g5, cap5, by omega, by go_num, rfl, hO5, by omega, by omega, RR.out.but hB5 (by omega), RP.out.but hB5 (by omega), BE.out.trans (hB5.below (by omega) BE.out.size), by have := hB5.size; omega⟩, by simp [intOf]; omega⟩
    · obtain rfl : k = 9 := by omega
      clear hR
      have S0 : Hid (bhS w h s 52 g cap wr) := ⟨RO.out, hg, RP.out, BE.out, hz⟩
      obtain ⟨c9, _⟩ := RP.out.at 9 _ rfl
      obtain ⟨c10, _⟩ := RP.out.at 10 _ rfl
      have b11 := OK.out 9 (by omega)
      have b12 := OK.out 10 (by omega)
      have b14 := OK.out 11 (by omega)
      have b15 := OK.out 12 (by omega)
      have v11 : IntKind.u64.wrap (h 11) = h 11 := by rw [IntKind.wrap_u64]; exact Int.emod_eq_of_lt b11.1 (Int.lt_of_le_of_lt b11.2 (by decide))
      have v12 : IntKind.u64.wrap (h 12) = h 12 := by rw [IntKind.wrap_u64]; exact Int.emod_eq_of_lt b12.1 (Int.lt_of_le_of_lt b12.2 (by decide))
      have v14 : IntKind.u64.wrap (h 14) = h 14 := by rw [IntKind.wrap_u64]; exact Int.emod_eq_of_lt b14.1 (Int.lt_of_le_of_lt b14.2 (by decide))
      have v15 : IntKind.u64.wrap (h 15) = h 15 := by rw [IntKind.wrap_u64]; exact Int.emod_eq_of_lt b15.1 (Int.lt_of_le_of_lt b15.2 (by decide))
      have N9 : Hid (∀ j, j < 72 → cat (restF h s) 68 (byt (h 11)) j = restF h s j) := fun j hj => cat_num h s 68 9 (by omega) rfl j hj
      have N10 : Hid (∀ j, j < 76 → cat (restF h s) 72 (byt (h 12)) j = restF h s j) := fun j hj => cat_num h s 72 10 (by omega) rfl j hj
      have NT : Hid (∀ j, j < 84 → cat (restF h s) 76 (byt (h 13)) j = restF h s j) := fun j hj => cat_time h s j hj
      have N11 : Hid (∀ j, j < 88 → cat (restF h s) 84 (byt (h 14)) j = restF h s j) := fun j hj => cat_num h s 84 11 (by omega) rfl j hj
      have N12 : Hid (∀ j, j < 92 → cat (restF h s) 88 (byt (h 15)) j = restF h s j) := fun j hj => cat_num h s 88 12 (by omega) rfl j hj
      clear b11 b12 b14 b15 RO RP BE RR OK hg hgq hz
      rw [show ((9 : Nat) : Int) = 9 from rfl, show 16 + 4 * 9 = 52 from rfl]
      go_wp2_with (first
        | (go_at_call 72; refine (rbytes_any (h 9) (h 10) _ HW.out.1 HW.out.2.1).mono ?_; rintro e W5 ⟨rfl, hB5⟩)
        | (refine wpList_alloc_row rfl 75 rfl .u8 16 W5.heap.size rfl zero8_16 ?_; intro W6 hR6 hB6 hz6)
        | (refine wpList_store_row rfl 75 (.tmp 8) (.tmp 46) rfl W5.heap.size .u8 16 (wide (h 9) (h 10)) (fun _ => 0) rfl rfl hR6 (by kernel_rfl) ?_; intro W7 hR7 hB7 hz7
           have S7 := S0.out.below ((hB5.trans (hB6.mono hB5.size)).trans (hB7.below hB5.size (by have := hB5.size; omega)))
           obtain ⟨v8, W8, hr8, hG8⟩ := app_but 27 W7 (w.heap.size + 2) 52 16 16 g cap (some ⟨W5.heap.size, 0, none⟩) (restF h s) (wide (h 9) (h 10)) S7.1 (by omega) (Arg.of (hR7.lies (fun j _ => wide_byte _ _ j))) (by omega) S7.2.2.2.2
           obtain ⟨g8, cap8, rfl, S8'⟩ := S7.grow (hG8.congr (fun j hj => cat_client h s j hj))
           have S8 : Hid (bhS w h s 68 g8 cap8 W8) := S8'
           obtain ⟨c11, _⟩ := S8'.2.2.1.at 11 _ rfl
           clear S7 hG8 S8' hB5 hB6 hB7 hR6 hR7 hz6 hz7 S0 c9 c10)
        | (at_builtin; have _q := S8; clear _q; refine wpList_append_go rfl (.tmp 47) (.tmp 48) 27 27 rfl _ _ rfl rfl hr8 ?_; clear hr8)
        | (have _q := S8; clear _q; go_at_call 71; refine (put4 (h 11) 68 72 (w.heap.size + 2) g8 cap8 (restF h s) (restF h s) _ (by omega) S8.out.1 S8.out.2.2.2.2 rfl N9.out).mono ?_; rintro e W9 ⟨v9, rfl, hG9⟩
           obtain ⟨g9, cap9, rfl, S9'⟩ := S8.out.grow hG9
           have S9 : Hid (bhS w h s 72 g9 cap9 W9) := S9'
           obtain ⟨c12, _⟩ := S9'.2.2.1.at 12 _ rfl
           clear hG9 S9' S8 c11)
        | (have _q := S9; clear _q; go_at_call 71; refine (put4 (h 12) 72 76 (w.heap.size + 2) g9 cap9 (restF h s) (restF h s) _ (by omega) S9.out.1 S9.out.2.2.2.2 rfl N10.out).mono ?_; rintro e X1 ⟨u1, rfl, hG1⟩
           obtain ⟨p1, q1, rfl, T1'⟩ := S9.out.grow hG1
           have T1 : Hid (bhS w h s 76 p1 q1 X1) := T1'
           obtain ⟨c13, _⟩ := T1'.2.2.1.at 13 _ rfl
           clear hG1 T1' S9 c12)
        | (have _q := T1; clear _q; go_at_call 71; refine (put8 (h 13) 76 84 (w.heap.size + 2) p1 q1 (restF h s) (restF h s) _ (by omega) T1.out.1 T1.out.2.2.2.2 rfl NT.out).mono ?_; rintro e X2 ⟨u2, rfl, hG2⟩
           obtain ⟨p2, q2, rfl, T2'⟩ := T1.out.grow hG2
           have T2 : Hid (bhS w h s 84 p2 q2 X2) := T2'
           obtain ⟨c14, _⟩ := T2'.2.2.1.at 14 _ rfl
           clear hG2 T2' T1 c13)
        | (have _q := T2; clear _q; go_at_call 71; refine (put4 (h 14) 84 88 (w.heap.size + 2) p2 q2 (restF h s) (restF h s) _ (by omega) T2.out.1 T2.out.2.2.2.2 rfl N11.out).mono ?_; rintro e X3 ⟨u3, rfl, hG3⟩
           obtain ⟨p3, q3, rfl, T3'⟩ := T2.out.grow hG3
           have T3 : Hid (bhS w h s 88 p3 q3 X3) := T3'
           obtain ⟨c15, _⟩ := T3'.2.2.1.at 15 _ rfl
           clear hG3 T3' T2 c14)
        | (have _q := T3; clear _q; go_at_call 71; refine (put4 (h 15) 88 92 (w.heap.size + 2) p3 q3 (restF h s) (restF h s) _ (by omega) T3.out.1 T3.out.2.2.2.2 rfl N12.out).mono ?_; rintro e X4 ⟨u4, rfl, hG4⟩
           obtain ⟨p4, q4, rfl, T4'⟩ := T3.out.grow hG4
           obtain ⟨u5, X5, hr5, hG5⟩ := zeros_but 27 X4 (w.heap.size + 2) 92 148 p4 q4 (restF h s) T4'.1 (by omega) (by omega) T4'.2.2.2.2
           obtain ⟨p5, q5, rfl, T5'⟩ := T4'.grow (hG5.congr (fun j _ => cat_none h s j))
           have T5 : Hid (bhS w h s 240 p5 q5 X5) := T5'
           clear hG4 hG5 T4' T5' T3 c15)
        | (at_builtin; have _q := T5; clear _q; refine wpList_append_go rfl (.tmp 74) (.tmp 77) 27 3 rfl _ _ rfl rfl hr5 ?_))
      go_ret
      exact ⟨p5, q5, rfl, T5.out.1, T5.out.2.1, T5.out.2.2.2.1⟩
end Go.Proofs.YtfpgkckcifjkcaaDoor
