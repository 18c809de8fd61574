/-
  Walks, not a claim by itself: the digest of bytes. By the verifier.
-/
import Derived.Test.YtblphlcnbnklmaaGreatDoorCPad
namespace Go.Proofs.YtblphlcnbnklmaaGreatDoor
open Go.RowKit

set_option maxRecDepth 100000 in
theorem firstWords_any (w : World) : Calls Tryz.prog 208 #[] w fun e w' => e = .returned H0.val ∧ Below w.heap.size w w' := by
  go_enter Tryz.func208, Tryz.ntmps208
  go_wp2
  refine bodyPost_ret (v := H0.val) (by simp [results, Tryz.results208, go_sem, H0]) rfl ⟨rfl, ?_⟩
  exact (Below.refl _ _).alloc (Nat.le_refl _) _
/-- A slice's length. -/
def lenV : Value → Nat
  | .slice _ n _ => n
  | _ => 0
theorem lies64 {wr : World} {b off L : Nat} {g : Nat → Int} (h : Lies wr b off L g) (hL : 64 ≤ L) : Lies wr.drew b off 64 g :=
  ⟨fun j hj => h.1 j (by omega), fun j hj => h.2.1 j (by omega), h.2.2⟩
theorem dig_arg {w : World} {b off L m : Nat} {f : Nat → Int} (h : Lies w b off L (fun j => f (64 * m + j))) (hL : 64 ≤ L) : Arg w (some ⟨b, off + 64, none⟩) (L - 64) (fun j => f (64 * (m + 1) + j)) := by
  by_cases e : L = 64
  · exact .inl ⟨by omega, .inr ⟨_, rfl⟩⟩
  · refine .inr ⟨by omega, b, off + 64, rfl, fun j hj => ?_, fun j hj => ?_, h.2.2⟩
    · have := h.1 (64 + j) (by omega)
      simp only [show 64 * m + (64 + j) = 64 * (m + 1) + j by omega] at this
      rw [Nat.add_assoc]
      exact this
    · have := h.2.1 (64 + j) (by omega)
      simp only [show 64 * m + (64 + j) = 64 * (m + 1) + j by omega] at this
      exact this
theorem zero8_128 : (Tryz.prog.info? 276).bind (·.zero) = some (.agg (cl .u8 128 fun _ => 0).toArray) := by kernel_rfl
/-- What the world has behind the first loop. -/
def digW (w : World) (p h : Nat) (s : S8) (g : Nat → Int) (wr : World) : Prop := IRow wr p .u32 8 s.at ∧ IRow wr h .u8 128 g ∧ IRow wr w.heap.size .u32 8 (fun _ => 0) ∧ w.heap.size < p ∧ p < h ∧ Below w.heap.size w wr
/-- What holds at the head of the second loop. -/
def digRel2 (w : World) (p h n e : Nat) (f : Nat → Int) (i : Value) (wr : World) : Prop := ∃ k : Nat, k ≤ 8 ∧ i = .int .i64 k ∧ digW w p h (hs f (n / 64)) (lastF f n e k) wr
/-- What holds at the head of the third loop. -/
def digRel3 (w : World) (p h n e : Nat) (f : Nat → Int) (i : Value) (wr : World) : Prop := ∃ m : Nat, 64 * m ≤ e ∧ i = .int .i64 ((64 * m : Nat) : Int) ∧ digW w p h (hs (padF f n) (n / 64 + m)) (lastF f n e 8) wr
theorem dig_start {w : World} {p h n r e : Nat} {f : Nat → Int} {wr : World} (H : digW w p h (hs f (n / 64)) (over (fun _ => 0) 0 r (fun j => f (64 * (n / 64) + j))) wr) (hr : n % 64 = r) :
    digW w p h (hs f (n / 64)) (lastF f n e 0) (wr.setCell ⟨h, r, none⟩ (.int .u8 128)) := by
  obtain ⟨h1, h2, h3, h4, h5, h6⟩ := H
  refine ⟨h1.but (But.set _ r _) (by omega), (h2.set r 128).congr (fun j hj => ?_), h3.but (But.set _ r _) (by omega), h4, h5, h6.setCell (by show w.heap.size ≤ h; omega) _⟩
  unfold lastF
  rw [if_neg (by omega), hr]
theorem dig_next {w : World} {p h : Nat} {s : S8} {g : Nat → Int} {wr w3 : World} (H : digW w p h s g wr) (hB : Below wr.heap.size wr w3) (s' : S8) : digW w p h s' g (st8 w3 p s') := by
  obtain ⟨h1, h2, h3, h4, h5, h6⟩ := H
  exact ⟨(h1.below hB).st8 s', (h2.below hB).but (But.st8 _ _ _) (by omega), (h3.below hB).but (But.st8 _ _ _) (by omega), h4, h5, (h6.trans (hB.mono h6.size)).trans ((But.st8 w3 p s').below (by omega) (Nat.le_trans h6.size hB.size))⟩
theorem cnt_eq (n k : Nat) : (n : Int) * 8 / 2 ^ (8 * k) % 256 = ((8 * n : Nat) : Int) / 256 ^ k % 256 := by
  rw [Int.pow_mul, show ((8 * n : Nat) : Int) = (n : Int) * 8 by omega]
  rfl
theorem dig_rel2 {w : World} {p h n e k m : Nat} {f : Nat → Int} {wr : World} {v : Int} (H : digW w p h (hs f (n / 64)) (lastF f n e k) wr) (hk : k < 8) (hm : m = e - 1 - k) (he : 8 ≤ e) (hv : v = ((8 * n : Nat) : Int) / 256 ^ k % 256) :
    digRel2 w p h n e f (.int .i64 ((k : Int) + 1)) (wr.setCell ⟨h, m, none⟩ (.int .u8 v)) := by
  subst hm hv
  obtain ⟨h1, h2, h3, h4, h5, h6⟩ := H
  have := h2.set (e - 1 - k) (((8 * n : Nat) : Int) / 256 ^ k % 256)
  rw [lastF_step f n e k (by omega)] at this
  exact ⟨k + 1, by omega, by go_num, h1.but (But.set _ _ _) (by omega), this, h3.but (But.set _ _ _) (by omega), h4, h5, h6.setCell (by show w.heap.size ≤ h; omega) _⟩
/-- What holds at the head of the first loop. -/
def digRel1 (w : World) (p n : Nat) (f : Nat → Int) (v : Value) (wr : World) : Prop := ∃ (m : Nat) (a : Option Addr) (C : Nat), 64 * m ≤ n ∧ v = .slice a (n - 64 * m) C ∧ n - 64 * m ≤ C ∧ Arg w a (n - 64 * m) (fun j => f (64 * m + j)) ∧ IRow wr p .u32 8 (hs f m).at ∧ IRow wr w.heap.size .u32 8 (fun _ => 0) ∧ w.heap.size < p ∧ Below w.heap.size w wr
set_option maxRecDepth 100000 in
set_option maxHeartbeats 2000000 in
theorem digest_any (a : Option Addr) (n C : Nat) (f : Nat → Int) (w : World) (h : Arg w a n f) (hC : n ≤ C) (hn : n ≤ 1000000) :
    Calls Tryz.prog 190 #[.slice a n C] w fun e w' => e = .returned (dig n f).val ∧ Below w.heap.size w w' := by
  have HA : Hid (Arg w a n f) := h
  have FB : Hid (∀ j, j < n → 0 ≤ f j ∧ f j < 256) := h.bytes
  clear h
  go_enter Tryz.func190, Tryz.ntmps190
  go_wp2_with (first
    | (go_at_call 208; refine (firstWords_any _).mono ?_; rintro e w1 ⟨rfl, hB1⟩))
  have z1 : w.heap.size < w1.heap.size := by have := hB1.size; simp at this; omega
  have ST : Hid (digRel1 w w1.heap.size n f (.slice a n C) (w1.alloc (.cells #[.int .u32 H0.a, .int .u32 H0.b, .int .u32 H0.c, .int .u32 H0.d, .int .u32 H0.e, .int .u32 H0.f, .int .u32 H0.g, .int .u32 H0.h] 260))) := by
    have E : Below w.heap.size w w1 := ((Below.refl _ _).alloc (Nat.le_refl _) _).trans (hB1.mono (by simp))
    refine ⟨0, a, C, by omega, rfl, by omega, ?_, IRow.new w1 260 .u32 8 H0.at, ((IRow.new w 260 .u32 8 (fun _ => 0)).below hB1).alloc _, z1, E.alloc (by omega) _⟩
    simp only [Nat.mul_zero, Nat.sub_zero, Nat.zero_add]
    exact HA.out
  clear hB1
  generalize (w1.alloc (.cells #[.int .u32 H0.a, .int .u32 H0.b, .int .u32 H0.c, .int .u32 H0.d, .int .u32 H0.e, .int .u32 H0.f, .int .u32 H0.g, .int .u32 H0.h] 260)) = W1 at ST ⊢
  generalize w1.heap.size = p at ST z1 ⊢
  go_loopw [4] (fun v wr => digRel1 w p n f v wr) (fun v _ => lenV v)
  case atStart => exact ST.out
  case round =>
    obtain ⟨m, a', C', hm, rfl, hC', hA, hP, hO, hp, hB⟩ := hrel
    clear ST
    have RP : Hid (IRow wr p .u32 8 (hs f m).at) := hP
    have RO : Hid (IRow wr w.heap.size .u32 8 (fun _ => 0)) := hO
    have BE : Hid (Below w.heap.size w wr) := hB
    by_cases hlt : 64 ≤ n - 64 * m
    · rcases hA with ⟨h0, _⟩ | ⟨h0, b, off, rfl, hl⟩
      · omega
      have L0 : Hid (Lies w b off (n - 64 * m) (fun j => f (64 * m + j))) := hl
      have LL : Hid (Lies wr b off (n - 64 * m) (fun j => f (64 * m + j))) := hl.below hB
      obtain ⟨L, hL⟩ : ∃ L, n - 64 * m = L := ⟨_, rfl⟩
      rw [hL] at hlt hC' LL L0 ⊢
      have HL : Hid (n - 64 * m = L) := hL
      clear hL hl h0 hP hO hB
      have l0 : (64 : Int) ≤ L := by omega
      obtain ⟨⟨p0, p1, p2, p3, p4, p5, p6, p7⟩, pf⟩ := RP.out.eight
      go_wp2_with fail
      go_region_with (first
        | (go_at_call 210; refine (blockWords_any b off L C' (fun j => f (64 * m + j)) _ (lies64 LL.out hlt) hlt hC').mono ?_; rintro e w2 ⟨rfl, hB2⟩; obtain ⟨⟨q0, q1, q2, q3, q4, q5, q6, q7⟩, qf⟩ := (RP.out.drew.below hB2).eight)
        | (go_at_call 209; refine (behind_any (hs f m) _ _).mono ?_; rintro e w3 ⟨rfl, hB3⟩; obtain ⟨⟨r0, r1, r2, r3, r4, r5, r6, r7⟩, rf⟩ := ((RP.out.drew.below hB2).below hB3).eight))
      all_goals
        have R9 : Hid (IRow (st8 w3 p (hs f (m + 1))) p .u32 8 (hs f (m + 1)).at) := IRow.st8 ((RP.out.drew.below hB2).below hB3) _
        have B3 : Hid (Below wr.heap.size wr w3) := (Below.refl _ _).drew.trans (hB2.trans (hB3.mono hB2.size))
        have B9 : Hid (But p w3 (st8 w3 p (hs f (m + 1)))) := But.st8 w3 p _
        change Exit.then _ _ Exit.normal _ (st8 w3 p (hs f (m + 1)))
        generalize st8 w3 p (hs f (m + 1)) = W9 at R9 B9 ⊢
        clear hB2 hB3 p0 p1 p2 p3 p4 p5 p6 p7 pf q0 q1 q2 q3 q4 q5 q6 q7 qf r0 r1 r2 r3 r4 r5 r6 r7 rf
        have RB : Hid (Below w.heap.size w W9) := BE.out.trans ((B3.out.mono BE.out.size).trans (B9.out.below (by omega) (Nat.le_trans BE.out.size B3.out.size)))
        have RZ : Hid (IRow W9 w.heap.size .u32 8 (fun _ => 0)) := (RO.out.below B3.out).but B9.out (by omega)
        by_cases hc : C' = 64
        · subst hc
          obtain rfl : L = 64 := by omega
          go_wp2_with fail
          exact ⟨⟨m + 1, _, 0, by have := HL.out; omega, by rw [show n - 64 * (m + 1) = 0 by have := HL.out; omega], by have := HL.out; omega, .inl ⟨by have := HL.out; omega, .inr ⟨_, rfl⟩⟩, R9.out, RZ.out, hp, RB.out⟩, by simp [lenV]⟩
        · have c0 : (64 : Int) ≤ C' := by omega
          go_wp2_with fail
          exact ⟨⟨m + 1, _, C' - 64, by have := HL.out; omega, by rw [show n - 64 * (m + 1) = L - 64 by have := HL.out; omega], by have := HL.out; omega, by rw [show n - 64 * (m + 1) = L - 64 by have := HL.out; omega]; exact dig_arg L0.out hlt, R9.out, RZ.out, hp, RB.out⟩, by simp [lenV]; omega⟩
    · obtain rfl : m = n / 64 := by omega
      have hr : n - 64 * (n / 64) = n % 64 := by omega
      rw [hr] at hlt hC' hA ⊢
      clear hr hP hO hB
      have l0 : ((n % 64 : Nat) : Int) < 64 := by omega
      obtain ⟨r, er⟩ : ∃ r, n % 64 = r := ⟨_, rfl⟩
      rw [er] at l0 hlt hC' hA ⊢
      have ER : Hid (n % 64 = r) := er
      clear er
      have A0 : Hid (Arg w a' r (fun j => f (64 * (n / 64) + j))) := hA
      clear hA
      have n8 : (n : Int) ≤ 1000000 := by omega
      have HD : ∀ W2, IRow W2 wr.heap.size .u8 128 (fun _ => 0) → Below wr.heap.size wr W2 → W2.heap.size = wr.heap.size + 1 → ∃ W3, (∀ ty, (Builtin.copy_ #[23, 23] ty #[.slice (some ⟨wr.heap.size, 0, none⟩) 128 128, .slice a' r C']).run Tryz.prog W2 = .ok (goInt r) W3) ∧ digW w p wr.heap.size (hs f (n / 64)) (over (fun _ => 0) 0 r (fun j => f (64 * (n / 64) + j))) W3 := by
        intro W2 h1 h2 h3
        obtain ⟨W3, g1, g2, g3, _⟩ := copy_row W2 wr.heap.size 128 0 128 128 r C' r a' (fun j => f (64 * (n / 64) + j)) (fun _ => 0) h1 (by omega) (Nat.min_eq_left (by omega)).symm ((A0.out.below BE.out).below h2)
        have hp2 := RP.out.2.2
        exact ⟨W3, g1, (RP.out.below h2).but g3 (by omega), g2, (RO.out.below h2).but g3 (by omega), hp, hp2, BE.out.trans ((h2.mono BE.out.size).trans (g3.below BE.out.size (by have := BE.out.size; omega)))⟩
      have HDH : Hid (∀ W2, IRow W2 wr.heap.size .u8 128 (fun _ => 0) → Below wr.heap.size wr W2 → W2.heap.size = wr.heap.size + 1 → ∃ W3, (∀ ty, (Builtin.copy_ #[23, 23] ty #[.slice (some ⟨wr.heap.size, 0, none⟩) 128 128, .slice a' r C']).run Tryz.prog W2 = .ok (goInt r) W3) ∧ digW w p wr.heap.size (hs f (n / 64)) (over (fun _ => 0) 0 r (fun j => f (64 * (n / 64) + j))) W3) := HD
      clear HD
      go_wp2_with (first
        | (refine wpList_alloc_row rfl 276 rfl .u8 128 wr.heap.size rfl zero8_128 ?_; intro W2 hR2 hB2 hz2; obtain ⟨W3, hcopy, HW⟩ := HDH.out W2 hR2 hB2 hz2; have HWH : Hid (digW w p wr.heap.size (hs f (n / 64)) (over (fun _ => 0) 0 r (fun j => f (64 * (n / 64) + j))) W3) := HW; have hcell := HW.2.1.1 r (by omega); have hfr := HW.2.1.2.1 r; clear HW)
        | (at_builtin; refine wpList_copy_go rfl (.tmp 22) (.tmp 23) 23 23 rfl _ _ rfl rfl hcopy ?_))
      · have heE : eOf n = 128 := by unfold eOf; rw [ER.out]; exact if_neg (by omega)
        have ST : Hid (digRel2 w p wr.heap.size n 128 f (.int .i64 0) (W3.setCell ⟨wr.heap.size, r, none⟩ (.int .u8 128))) := ⟨0, by omega, rfl, dig_start HWH.out ER.out⟩
        have hph := HWH.out.2.2.2.2.1
        clear HWH hcell hfr hcopy hR2 hB2 hz2 HDH A0 RP RO BE
        generalize (W3.setCell ⟨wr.heap.size, r, none⟩ (.int .u8 128)) = W4 at ST ⊢
        generalize wr.heap.size = h at ST hph ⊢
        go_loopw [33] (fun i wr => digRel2 w p h n 128 f i wr) (fun i _ => 8 - (intOf i).toNat)
        case atStart => exact ST.out
        case round =>
          obtain ⟨k, hk, rfl, HW⟩ := hrel
          clear ST
          have HH : Hid (digW w p h (hs f (n / 64)) (lastF f n 128 k) wr) := HW
          by_cases hlt : k < 8
          · have hc := HW.2.1.1 (127 - k) (by omega)
            have hf := HW.2.1.2.1 (127 - k)
            clear HW
            have e1 : (0 : Int) ≤ 127 - (k : Int) := by omega
            have e2 : (127 : Int) - (k : Int) < 128 := by omega
            have e3 : ((127 : Int) - (k : Int)).toNat = 127 - k := by omega
            have w8 : IntKind.i64.wrap (8 * (k : Int)) = 8 * (k : Int) := by rw [IntKind.wrap_i64]; omega
            go_wp2_with fail
            exact ⟨dig_rel2 HH.out hlt (by omega) (by omega) (cnt_eq n k), by simp [intOf]; omega⟩
          · obtain rfl : k = 8 := by omega
            clear HW
            rw [show ((8 : Nat) : Int) = 8 from rfl]
            go_wp2_with fail
            have ST : Hid (digRel3 w p h n 128 f (.int .i64 0) wr) := ⟨0, by omega, rfl, by rw [← hs_pad f n (n / 64 + 0) (by omega)]; exact HH.out⟩
            clear HH
            go_loopw [10] (fun i wr => digRel3 w p h n 128 f i wr) (fun i _ => 128 - (intOf i).toNat)
            case atStart => exact ST.out
            case round =>
              obtain ⟨m, hm, rfl, HW⟩ := hrel
              clear ST
              have HH : Hid (digW w p h (hs (padF f n) (n / 64 + m)) (lastF f n 128 8) wr) := HW
              by_cases hlt : 64 * m < 128
              · obtain ⟨⟨p0, p1, p2, p3, p4, p5, p6, p7⟩, pf⟩ := HW.1.eight
                have LL : Hid (Lies wr h (64 * m) (128 - 64 * m) (fun j => lastF f n 128 8 (64 * m + j))) := ⟨fun j hj => HH.out.2.1.1 _ (by omega), fun j _ => lastF_byte f n 128 8 _ FB.out, HH.out.2.1.2.2⟩
                clear HW
                have e0 : ((64 * m : Nat) : Int) = 64 * (m : Int) := by omega
                have e1 : (64 * (m : Int)) < 128 := by omega
                have e2 : (64 * (m : Int)) ≤ 128 := by omega
                have e3 : (64 * (m : Int)).toNat = 64 * m := by omega
                have e4 : (0 : Int) ≤ (64 * (m : Int)) := by omega
                have e5 : 64 ≤ 128 - 64 * m := by omega
                have e6 : ¬ 128 = 64 * m := by omega
                rw [e0]
                have hl : Hid (comp (hs (padF f n) (n / 64 + m)) (fun j => lastF f n 128 8 (64 * m + j)) = hs (padF f n) (n / 64 + m + 1)) := by have := hs_last f n m (by omega); rw [heE] at this; exact this
                generalize hs (padF f n) (n / 64 + m) = s at hl HH p0 p1 p2 p3 p4 p5 p6 p7
                go_wp2_with fail
                go_region_with (first
                  | (go_at_call 210; refine (blockWords_any h (64 * m) (128 - 64 * m) (128 - 64 * m) (fun j => lastF f n 128 8 (64 * m + j)) _ (lies64 LL.out e5) e5 (Nat.le_refl _)).mono ?_; rintro e w2 ⟨rfl, hB2⟩; obtain ⟨⟨q0, q1, q2, q3, q4, q5, q6, q7⟩, qf⟩ := (HH.out.1.drew.below hB2).eight)
                  | (go_at_call 209; refine (behind_any s _ _).mono ?_; rintro e w3 ⟨rfl, hB3⟩; obtain ⟨⟨r0, r1, r2, r3, r4, r5, r6, r7⟩, rf⟩ := ((HH.out.1.drew.below hB2).below hB3).eight))
                all_goals
                  have HN : Hid (digW w p h (comp s fun j => lastF f n 128 8 (64 * m + j)) (lastF f n 128 8) (st8 w3 p (comp s fun j => lastF f n 128 8 (64 * m + j)))) := dig_next HH.out ((Below.refl _ _).drew.trans (hB2.trans (hB3.mono hB2.size))) _
                  change Exit.inBlock _ _ Exit.normal _ (st8 w3 p (comp s fun j => lastF f n 128 8 (64 * m + j)))
                  generalize st8 w3 p (comp s fun j => lastF f n 128 8 (64 * m + j)) = W9 at HN ⊢
                  clear hB2 hB3 p0 p1 p2 p3 p4 p5 p6 p7 pf q0 q1 q2 q3 q4 q5 q6 q7 qf r0 r1 r2 r3 r4 r5 r6 r7 rf HH LL
                  rw [hl.out] at HN
                  go_wp2_with fail
                  exact ⟨⟨m + 1, by omega, by go_num, HN.out⟩, by simp [intOf]; omega⟩
              · have he : 128 = 64 * m := by omega
                have HF : Hid (digW w p h (dig n f) (lastF f n 128 8) wr) := by
                  have : dig n f = hs (padF f n) (n / 64 + m) := by unfold dig; rw [nblk_at, heE, show n / 64 + 128 / 64 = n / 64 + m by omega]
                  rw [this]; exact HH.out
                clear HW HH
                have e1 : ¬ (64 * (m : Int)) < 128 := by omega
                have e0 : ((64 * m : Nat) : Int) = 64 * (m : Int) := by omega
                rw [e0]
                obtain ⟨s, hs'⟩ : ∃ s, dig n f = s := ⟨_, rfl⟩
                rw [hs'] at HF
                have HS : Hid (dig n f = s) := hs'
                clear hs'
                go_wp2_with (first
                  | (refine wpList_load_irow rfl 260 (.tmp 3) rfl p .u32 8 s.at rfl _ Tryz.underlying260 rfl (by kernel_rfl) HF.out.1 ?_)
                  | (refine wpList_store_row rfl 260 (.tmp 2) _ rfl w.heap.size .u32 8 s.at (fun _ => 0) rfl rfl HF.out.2.2.1 (by kernel_rfl) ?_; intro W5 hR5 hB5 hz5))
                have hl := hR5.run_load 260 _ Tryz.underlying260 rfl (by kernel_rfl)
                refine bodyPost_ret (v := .agg (cl .u32 8 s.at).toArray) (by simp [results, Tryz.results190, asAddr, hl]) rfl ⟨by rw [HS.out]; rfl, ?_⟩
                exact HF.out.2.2.2.2.2.trans (hB5.below (Nat.le_refl _) HF.out.2.2.2.2.2.size)
      · have heE : eOf n = 64 := by unfold eOf; rw [ER.out]; exact if_pos (by omega)
        have ST : Hid (digRel2 w p wr.heap.size n 64 f (.int .i64 0) (W3.setCell ⟨wr.heap.size, r, none⟩ (.int .u8 128))) := ⟨0, by omega, rfl, dig_start HWH.out ER.out⟩
        have hph := HWH.out.2.2.2.2.1
        clear HWH hcell hfr hcopy hR2 hB2 hz2 HDH A0 RP RO BE
        generalize (W3.setCell ⟨wr.heap.size, r, none⟩ (.int .u8 128)) = W4 at ST ⊢
        generalize wr.heap.size = h at ST hph ⊢
        go_loopw [33] (fun i wr => digRel2 w p h n 64 f i wr) (fun i _ => 8 - (intOf i).toNat)
        case atStart => exact ST.out
        case round =>
          obtain ⟨k, hk, rfl, HW⟩ := hrel
          clear ST
          have HH : Hid (digW w p h (hs f (n / 64)) (lastF f n 64 k) wr) := HW
          by_cases hlt : k < 8
          · have hc := HW.2.1.1 (63 - k) (by omega)
            have hf := HW.2.1.2.1 (63 - k)
            clear HW
            have e1 : (0 : Int) ≤ 63 - (k : Int) := by omega
            have e2 : (63 : Int) - (k : Int) < 128 := by omega
            have e3 : ((63 : Int) - (k : Int)).toNat = 63 - k := by omega
            have w8 : IntKind.i64.wrap (8 * (k : Int)) = 8 * (k : Int) := by rw [IntKind.wrap_i64]; omega
            go_wp2_with fail
            exact ⟨dig_rel2 HH.out hlt (by omega) (by omega) (cnt_eq n k), by simp [intOf]; omega⟩
          · obtain rfl : k = 8 := by omega
            clear HW
            rw [show ((8 : Nat) : Int) = 8 from rfl]
            go_wp2_with fail
            have ST : Hid (digRel3 w p h n 64 f (.int .i64 0) wr) := ⟨0, by omega, rfl, by rw [← hs_pad f n (n / 64 + 0) (by omega)]; exact HH.out⟩
            clear HH
            go_loopw [10] (fun i wr => digRel3 w p h n 64 f i wr) (fun i _ => 128 - (intOf i).toNat)
            case atStart => exact ST.out
            case round =>
              obtain ⟨m, hm, rfl, HW⟩ := hrel
              clear ST
              have HH : Hid (digW w p h (hs (padF f n) (n / 64 + m)) (lastF f n 64 8) wr) := HW
              by_cases hlt : 64 * m < 64
              · obtain ⟨⟨p0, p1, p2, p3, p4, p5, p6, p7⟩, pf⟩ := HW.1.eight
                have LL : Hid (Lies wr h (64 * m) (128 - 64 * m) (fun j => lastF f n 64 8 (64 * m + j))) := ⟨fun j hj => HH.out.2.1.1 _ (by omega), fun j _ => lastF_byte f n 64 8 _ FB.out, HH.out.2.1.2.2⟩
                clear HW
                have e0 : ((64 * m : Nat) : Int) = 64 * (m : Int) := by omega
                have e1 : (64 * (m : Int)) < 64 := by omega
                have e2 : (64 * (m : Int)) ≤ 128 := by omega
                have e3 : (64 * (m : Int)).toNat = 64 * m := by omega
                have e4 : (0 : Int) ≤ (64 * (m : Int)) := by omega
                have e5 : 64 ≤ 128 - 64 * m := by omega
                have e6 : ¬ 128 = 64 * m := by omega
                rw [e0]
                have hl : Hid (comp (hs (padF f n) (n / 64 + m)) (fun j => lastF f n 64 8 (64 * m + j)) = hs (padF f n) (n / 64 + m + 1)) := by have := hs_last f n m (by omega); rw [heE] at this; exact this
                generalize hs (padF f n) (n / 64 + m) = s at hl HH p0 p1 p2 p3 p4 p5 p6 p7
                go_wp2_with fail
                go_region_with (first
                  | (go_at_call 210; refine (blockWords_any h (64 * m) (128 - 64 * m) (128 - 64 * m) (fun j => lastF f n 64 8 (64 * m + j)) _ (lies64 LL.out e5) e5 (Nat.le_refl _)).mono ?_; rintro e w2 ⟨rfl, hB2⟩; obtain ⟨⟨q0, q1, q2, q3, q4, q5, q6, q7⟩, qf⟩ := (HH.out.1.drew.below hB2).eight)
                  | (go_at_call 209; refine (behind_any s _ _).mono ?_; rintro e w3 ⟨rfl, hB3⟩; obtain ⟨⟨r0, r1, r2, r3, r4, r5, r6, r7⟩, rf⟩ := ((HH.out.1.drew.below hB2).below hB3).eight))
                all_goals
                  have HN : Hid (digW w p h (comp s fun j => lastF f n 64 8 (64 * m + j)) (lastF f n 64 8) (st8 w3 p (comp s fun j => lastF f n 64 8 (64 * m + j)))) := dig_next HH.out ((Below.refl _ _).drew.trans (hB2.trans (hB3.mono hB2.size))) _
                  change Exit.inBlock _ _ Exit.normal _ (st8 w3 p (comp s fun j => lastF f n 64 8 (64 * m + j)))
                  generalize st8 w3 p (comp s fun j => lastF f n 64 8 (64 * m + j)) = W9 at HN ⊢
                  clear hB2 hB3 p0 p1 p2 p3 p4 p5 p6 p7 pf q0 q1 q2 q3 q4 q5 q6 q7 qf r0 r1 r2 r3 r4 r5 r6 r7 rf HH LL
                  rw [hl.out] at HN
                  go_wp2_with fail
                  exact ⟨⟨m + 1, by omega, by go_num, HN.out⟩, by simp [intOf]; omega⟩
              · have he : 64 = 64 * m := by omega
                have HF : Hid (digW w p h (dig n f) (lastF f n 64 8) wr) := by
                  have : dig n f = hs (padF f n) (n / 64 + m) := by unfold dig; rw [nblk_at, heE, show n / 64 + 64 / 64 = n / 64 + m by omega]
                  rw [this]; exact HH.out
                clear HW HH
                have e1 : ¬ (64 * (m : Int)) < 64 := by omega
                have e0 : ((64 * m : Nat) : Int) = 64 * (m : Int) := by omega
                rw [e0]
                obtain ⟨s, hs'⟩ : ∃ s, dig n f = s := ⟨_, rfl⟩
                rw [hs'] at HF
                have HS : Hid (dig n f = s) := hs'
                clear hs'
                go_wp2_with (first
                  | (refine wpList_load_irow rfl 260 (.tmp 3) rfl p .u32 8 s.at rfl _ Tryz.underlying260 rfl (by kernel_rfl) HF.out.1 ?_)
                  | (refine wpList_store_row rfl 260 (.tmp 2) _ rfl w.heap.size .u32 8 s.at (fun _ => 0) rfl rfl HF.out.2.2.1 (by kernel_rfl) ?_; intro W5 hR5 hB5 hz5))
                have hl := hR5.run_load 260 _ Tryz.underlying260 rfl (by kernel_rfl)
                refine bodyPost_ret (v := .agg (cl .u32 8 s.at).toArray) (by simp [results, Tryz.results190, asAddr, hl]) rfl ⟨by rw [HS.out]; rfl, ?_⟩
                exact HF.out.2.2.2.2.2.trans (hB5.below (Nat.le_refl _) HF.out.2.2.2.2.2.size)
end Go.Proofs.YtblphlcnbnklmaaGreatDoor
