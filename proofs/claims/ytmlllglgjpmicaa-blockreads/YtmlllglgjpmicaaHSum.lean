/-
  Walks, not a claim by itself: the reference's Sum. By the verifier.
-/
import Derived.Test.YtmlllglgjpmicaaHEight
import Derived.Test.YtmlllglgjpmicaaCSum
namespace Go.Proofs.Ytmlllglgjpmicaa
open Go.RowKit
/-- The bytes, the byte 128, noughts. -/
def padZ (f : Nat → Int) (n j : Nat) : Int := if j < n then f j else if j = n then 128 else 0
/-- How many bytes stand ahead of the count. -/
def tgt (n : Nat) : Nat := 64 * nblk n - 8
theorem tgt_lo (n : Nat) : n + 1 ≤ tgt n ∧ tgt n < n + 1 + 64 ∧ tgt n % 64 = 56 ∧ tgt n + 8 = 64 * nblk n := by unfold tgt nblk; omega
def hsRel1 (w W1 : World) (n : Nat) (f : Nat → Int) (v : Value) (wr : World) : Prop := ∃ (m : Nat) (g cap : Nat), n + 1 ≤ m ∧ m ≤ tgt n ∧ v = .slice (some ⟨g, 0, none⟩) m cap ∧ Own wr (w.heap.size + 1) v m (padZ f n) ∧ Below (w.heap.size + 1) W1 wr
theorem padZ_byte (f : Nat → Int) (n : Nat) (h : ∀ j, j < n → 0 ≤ f j ∧ f j < 256) (j : Nat) : 0 ≤ padZ f n j ∧ padZ f n j < 256 := by
  unfold padZ
  by_cases e : j < n
  · rw [if_pos e]; exact h j e
  · rw [if_neg e]; split <;> omega
theorem padF_byte (f : Nat → Int) (n : Nat) (h : ∀ j, j < n → 0 ≤ f j ∧ f j < 256) (j : Nat) : 0 ≤ padF f n j ∧ padF f n j < 256 := by
  unfold padF
  by_cases e : j < n
  · rw [if_pos e]; exact h j e
  · rw [if_neg e]
    split
    · omega
    · split <;> omega
theorem pad_of (f : Nat → Int) (n j : Nat) (hj : j < tgt n + 8) : cat (padZ f n) (tgt n) (e8 (8 * (n : Int))) j = padF f n j := by
  have ht := tgt_lo n
  unfold cat padZ padF e8
  by_cases h1 : j < tgt n
  · rw [if_pos h1]
    by_cases h2 : j < n
    · rw [if_pos h2, if_pos h2]
    · rw [if_neg h2, if_neg h2]
      by_cases h3 : j = n
      · rw [if_pos h3, if_pos h3]
      · rw [if_neg h3, if_neg h3, if_pos (by omega)]
  · rw [if_neg h1, if_neg (by omega), if_neg (by omega), if_neg (by omega)]
    rw [show 64 * nblk n - 1 - j = 7 - (j - tgt n) by omega, show 56 - 8 * (j - tgt n) = 8 * (7 - (j - tgt n)) by omega, Int.pow_mul, show ((8 * n : Nat) : Int) = 8 * (n : Int) by omega]
    rfl
/-- What holds at the head of the second loop. -/
def hsRel2 (w : World) (p q g n : Nat) (f : Nat → Int) (i : Value) (wr : World) : Prop := ∃ m : Nat, m ≤ nblk n ∧ i = .int .i64 ((64 * m : Nat) : Int) ∧ IRow wr p .u32 8 (hs (padF f n) m).at ∧ IRow wr q .u32 64 KF ∧ Lies wr g 0 (64 * nblk n) (padF f n) ∧ IRow wr w.heap.size .u8 16 (fun _ => 0) ∧ Below w.heap.size w wr
theorem block_of (s : S8) (b off L C at' : Nat) (i : Int) (f : Nat → Int) (w : World) (h : Lies w b off L f) (hL : at' + 64 ≤ L) (hm : L ≤ 1000000) (hi : i = at') :
    Calls Try.prog 53 #[s.val, .agg (cl .u32 64 KF).toArray, .slice (some ⟨b, off, none⟩) L C, .int .i64 i] w fun e w' => e = .returned (comp s (fun j => f (at' + j))).val ∧ Below w.heap.size w w' := by
  subst hi
  exact block_any s b off L C at' f w h hL hm
/-- The two appends ahead of the loop. -/
def hsStart (w W1 : World) (a : Option Addr) (n C : Nat) (f : Nat → Int) : Prop := ∃ (v1 : Value) (W2 : World), (Builtin.append_ #[25, 25] 25 #[.slice (some ⟨w.heap.size + 1, 0, none⟩) 0 0, .slice a n C]).run Try.prog (W1.alloc (.cells #[] 5)) = .ok v1 W2 ∧
  ∃ (v2 : Value) (W3 : World), (Builtin.append_ #[25, 25] 25 #[v1, .slice (some ⟨W2.heap.size, 0, none⟩) 1 1]).run Try.prog (W2.alloc (.cells #[.int .u8 128] 5)) = .ok v2 W3 ∧ hsRel1 w W1 n f v2 W3
theorem hs_start (a : Option Addr) (n C : Nat) (f : Nat → Int) (w W1 : World) (hA : Arg w a n f) (hn : n ≤ 900000) (hB1 : Below w.heap.size w W1) (hz1 : W1.heap.size = w.heap.size + 1) : hsStart w W1 a n C f := by
  have o0 : Own (W1.alloc (.cells #[] 5)) (w.heap.size + 1) (.slice (some ⟨w.heap.size + 1, 0, none⟩) 0 0) 0 (fun _ => 0) := by
    have := Own.lit W1 (w.heap.size + 1) 0 (fun _ => 0) (by omega) (by omega)
    rw [hz1] at this
    exact this
  obtain ⟨v1, W2, hr1, hO1, hB2⟩ := app_arg 25 (W1.alloc (.cells #[] 5)) (w.heap.size + 1) 0 n C _ a (fun _ => 0) f o0 ((hA.below hB1).below ((Below.refl _ _).alloc (Nat.le_refl _) _)) (by omega) (by simp; omega)
  have hO1' : Own W2 (w.heap.size + 1) v1 n f := by
    rw [Nat.zero_add] at hO1
    exact hO1.congr (fun j _ => by unfold cat; rw [if_neg (by omega), Nat.sub_zero])
  have z2 : w.heap.size + 1 ≤ W2.heap.size := by have := hB2.size; simp at this; omega
  obtain ⟨v2, W3, hr2, hO2, hB3⟩ := app_arg 25 (W2.alloc (.cells #[.int .u8 128] 5)) (w.heap.size + 1) n 1 1 v1 (some ⟨W2.heap.size, 0, none⟩) f (fun _ => 128) (hO1'.below ((Below.refl _ _).alloc (Nat.le_refl _) _)) (one_arg W2 128 (by omega)) (by omega) (by simp; omega)
  have hO2' : Own W3 (w.heap.size + 1) v2 (n + 1) (padZ f n) := hO2.congr (fun j hj => by
    unfold cat padZ
    by_cases e : j < n
    · rw [if_pos e, if_pos e]
    · rw [if_neg e, if_neg e, if_pos (by omega)])
  obtain ⟨g, cap, rfl, _, _, _⟩ := hO2'.form (by omega) (fun j _ => padZ_byte f n hA.bytes j)
  exact ⟨v1, W2, hr1, _, W3, hr2, n + 1, g, cap, Nat.le_refl _, (tgt_lo n).1, rfl, hO2', (((Below.refl (w.heap.size + 1) W1).alloc (by omega) _).trans hB2).trans (((Below.refl (w.heap.size + 1) W2).alloc z2 _).trans hB3)⟩
set_option maxRecDepth 100000 in
set_option maxHeartbeats 2000000 in
theorem hsum_any (a : Option Addr) (n C : Nat) (f : Nat → Int) (w : World) (h : Arg w a n f) (hn : n ≤ 900000) :
    Calls Try.prog 40 #[.slice a n C] w fun e w' => e = .returned (.agg (cl .u8 16 (sealF n f)).toArray) ∧ Below w.heap.size w w' := by
  have HA : Hid (Arg w a n f) := h
  have FB : Hid (∀ j, j < n → 0 ≤ f j ∧ f j < 256) := h.bytes
  clear h
  have AP : Hid (∀ W1 : World, Below w.heap.size w W1 → W1.heap.size = w.heap.size + 1 → hsStart w W1 a n C f) := fun W1 hB1 hz1 => hs_start a n C f w W1 HA.out hn hB1 hz1
  go_enter Try.func40, Try.ntmps40
  go_wp2_with (first
    | (refine wpList_alloc_row rfl 50 rfl .u8 16 w.heap.size rfl zero8_16 ?_; intro W1 hR1 hB1 hz1; obtain ⟨v1, W2, hr1, v2, W3, hr2, hrel⟩ := AP.out W1 hB1 hz1)
    | (at_builtin; refine wpList_append_go rfl (.tmp 9) (.tmp 10) 25 25 rfl _ _ rfl rfl hr1 ?_)
    | (at_builtin; refine wpList_append_go rfl (.tmp 12) (.tmp 13) 25 25 rfl _ _ rfl rfl hr2 ?_))
  have ST : Hid (hsRel1 w W1 n f v2 W3) := hrel
  have RW : Hid (IRow W1 w.heap.size .u8 16 (fun _ => 0)) := hR1
  have BW : Hid (Below w.heap.size w W1) := hB1
  have HZ : Hid (W1.heap.size = w.heap.size + 1) := hz1
  clear hrel hr1 hr2 hR1 hB1 hz1 AP
  go_loopw [3] (fun v wr => hsRel1 w W1 n f v wr) (fun v _ => tgt n - lenV v)
  case atStart => exact ST.out
  case round =>
    obtain ⟨m, g, cap, hm1, hm2, rfl, hO, hB⟩ := hrel
    clear ST
    have ht := tgt_lo n
    by_cases hlt : m % 64 = 56
    · obtain rfl : m = tgt n := by omega
      have i0 : ((tgt n : Nat) : Int) % 64 = 56 := by omega
      have hz : w.heap.size + 1 ≤ wr.heap.size := by have := hB.size; have := HZ.out; omega
      have OO : Hid (Own wr (w.heap.size + 1) (.slice (some ⟨g, 0, none⟩) (tgt n) cap) (tgt n) (padZ f n)) := hO
      have BE : Hid (Below (w.heap.size + 1) W1 wr) := hB
      clear hO hB
      have n8 : (n : Int) ≤ 900000 := by omega
      have ht9 : tgt n ≤ 900100 := by omega
      have HT : Hid (n + 1 ≤ tgt n ∧ tgt n < n + 1 + 64 ∧ tgt n % 64 = 56 ∧ tgt n + 8 = 64 * nblk n) := ht
      clear ht hlt hm1 hm2
      go_wp2_with fail
      refine (eight_any _ _).mono ?_
      rintro e w2 ⟨v8, rfl, hO8, hB2⟩
      obtain ⟨g8, cap8, rfl, hg8, _, hl8⟩ := hO8.form (by omega) (fun j _ => e8_byte _ j)
      obtain ⟨v3, W3, hr3, hO3, hB3⟩ := app_arg 25 w2 (w.heap.size + 1) (tgt n) 8 cap8 (.slice (some ⟨g, 0, none⟩) (tgt n) cap) (some ⟨g8, 0, none⟩) (padZ f n) (e8 (8 * (n : Int))) (OO.out.below hB2) (Arg.of hl8) (by omega) (by have := hB2.size; omega)
      have hO3' : Own W3 (w.heap.size + 1) v3 (64 * nblk n) (padF f n) := by
        have := hO3.congr (fun j hj => pad_of f n j hj)
        rw [HT.out.2.2.2] at this
        exact this
      obtain ⟨g3, cap3, rfl, hg3, hc3, hl3⟩ := hO3'.form (by unfold nblk; omega) (fun j _ => padF_byte f n FB.out j)
      have B3 : Hid (Below (w.heap.size + 1) W1 W3) := (BE.out.trans (hB2.mono hz)).trans hB3
      have L3 : Hid (Lies W3 g3 0 (64 * nblk n) (padF f n)) := hl3
      clear hO3 hO3' hl3 hl8 hO8 hB2 hB3 BE OO
      go_wp2_with (at_builtin; refine wpList_append_go rfl (.tmp 22) (.tmp 27) 25 25 rfl _ _ rfl rfl hr3 ?_)
      clear hr3
      refine (begin_any _).mono ?_
      rintro e w4 ⟨rfl, hB4⟩
      go_wp2_with fail
      refine (table_any _).mono ?_
      rintro e w5 ⟨rfl, hB5⟩
      go_wp2_with (first
        | (refine wpList_alloc_row rfl 80 rfl .u32 64 w5.heap.size rfl zero32_64 ?_; intro W6 hR6 hB6 hz6)
        | (refine wpList_store_row rfl 80 (.tmp 5) (.tmp 30) rfl w5.heap.size .u32 64 KF (fun _ => 0) rfl rfl hR6 (by kernel_rfl) ?_; intro W7 hR7 hB7 hz7))
      have hg3p : g3 < w4.heap.size := by have := L3.out.2.2; have := hB4.size; omega
      have hpq : w4.heap.size < w5.heap.size := by have := hB5.size; simp at this; omega
      have hwg : w.heap.size < g3 := by omega
      have z3 : w.heap.size + 1 ≤ W3.heap.size := by have := B3.out.size; have := HZ.out; omega
      have ST : Hid (hsRel2 w w4.heap.size w5.heap.size g3 n f (.int .i64 0) W7) := by
        have E5 : Below W3.heap.size W3 w5 := (hB4.alloc hB4.size _).trans (hB5.mono (by have := hB4.size; simp; omega))
        have E6 : Below W3.heap.size W3 W6 := E5.trans (hB6.mono E5.size)
        have q6 := E6.size
        have q5 := E5.size
        have E3 : Below w.heap.size w W3 := BW.out.trans (B3.out.mono (by omega))
        refine ⟨0, by omega, rfl, ?_, hR7, (L3.out.below E6).but hB7 (by omega), ?_, E3.trans ((E6.mono (by omega)).trans (hB7.below (by omega) (by omega)))⟩
        · exact (((IRow.new w4 66 .u32 8 H0.at).below hB5).below hB6).but hB7 (by omega)
        · have r3 : IRow W3 w.heap.size .u8 16 (fun _ => 0) := by
            have b := B3.out
            rw [← HZ.out] at b
            exact RW.out.below b
          exact (r3.below E6).but hB7 (by omega)
      clear hR7 hB7 hz7 hR6 hB6 hz6 hB5 hB4 B3 L3 RW BW
      generalize w4.heap.size = p at ST hg3p hpq ⊢
      generalize w5.heap.size = q at ST hpq ⊢
      have hT : Hid (64 * nblk n ≤ 1000000) := by have := HT.out; unfold Hid; omega
      go_loopw [6] (fun i wr => hsRel2 w p q g3 n f i wr) (fun i _ => 64 * nblk n - (intOf i).toNat)
      case atStart => exact ST.out
      case round =>
        obtain ⟨m, hm, rfl, hP, hQ, hL, hO, hB⟩ := hrel
        clear ST
        have RP : Hid (IRow wr p .u32 8 (hs (padF f n) m).at) := hP
        have RQ : Hid (IRow wr q .u32 64 KF) := hQ
        have RL : Hid (Lies wr g3 0 (64 * nblk n) (padF f n)) := hL
        have RO : Hid (IRow wr w.heap.size .u8 16 (fun _ => 0)) := hO
        have BE : Hid (Below w.heap.size w wr) := hB
        clear hQ hL hO hB
        have e0 : ((64 * m : Nat) : Int) = 64 * (m : Int) := by omega
        have e9 : ((64 * nblk n : Nat) : Int) = 64 * (nblk n : Int) := by omega
        by_cases hlt : m < nblk n
        · obtain ⟨⟨p0, p1, p2, p3, p4, p5, p6, p7⟩, pf⟩ := hP.eight
          clear hP
          have hs1 : Hid (comp (hs (padF f n) m) (fun j => padF f n (64 * m + j)) = hs (padF f n) (m + 1)) := rfl
          generalize hs (padF f n) m = s at hs1 RP p0 p1 p2 p3 p4 p5 p6 p7
          have e1 : 64 * (m : Int) < 64 * (nblk n : Int) := by omega
          have e2 : 64 * (m : Int) + 64 ≤ 1000000 := by have := hT.out; omega
          rw [e0]
          go_wp2_with (refine wpList_load_irow rfl 80 (.tmp 5) rfl q .u32 64 KF rfl _ Try.underlying80 rfl (by kernel_rfl) RQ.out ?_)
          refine (block_of s g3 0 (64 * nblk n) cap3 (64 * m) (64 * (m : Int)) (padF f n) _ RL.out (by omega) hT.out e0.symm).mono ?_
          rintro e w6 ⟨rfl, hB6⟩
          obtain ⟨⟨r0, r1, r2, r3, r4, r5, r6, r7⟩, rf⟩ := (RP.out.below hB6).eight
          have BH : Hid (Below wr.heap.size wr w6) := hB6
          clear hB6 p0 p1 p2 p3 p4 p5 p6 p7 pf
          rw [hs1.out]
          obtain ⟨s', es⟩ : ∃ s', hs (padF f n) (m + 1) = s' := ⟨_, rfl⟩
          rw [es]
          have ES : Hid (hs (padF f n) (m + 1) = s') := es
          clear es hs1
          have HS : Hid (IRow (st8 w6 p s') p .u32 8 s'.at) := (RP.out.below BH.out).st8 s'
          go_wp2_with fail
          refine ⟨?_, by simp [intOf]; omega⟩
          show hsRel2 w p q g3 n f _ (st8 w6 p s')
          exact ⟨m + 1, by omega, by go_num, by rw [ES.out]; exact HS.out, (RQ.out.below BH.out).but (But.st8 _ _ _) (by omega), (RL.out.below BH.out).but (But.st8 _ _ _) (by omega), (RO.out.below BH.out).but (But.st8 _ _ _) (by omega), (BE.out.trans (BH.out.mono BE.out.size)).trans ((But.st8 _ _ _).below (by omega) (Nat.le_trans BE.out.size BH.out.size))⟩
        · obtain rfl : m = nblk n := by omega
          clear hP
          have e1 : ¬ 64 * ((nblk n : Nat) : Int) < 64 * (nblk n : Int) := by omega
          have hd : dig n f = hs (padF f n) (nblk n) := rfl
          rw [← hd] at RP
          clear hd
          obtain ⟨s, hs'⟩ : ∃ s, dig n f = s := ⟨_, rfl⟩
          rw [hs'] at RP
          have HS : Hid (dig n f = s) := hs'
          clear hs'
          rw [e0]
          go_wp2_with (refine wpList_alloc_row rfl 50 rfl .u8 16 wr.heap.size rfl zero8_16 ?_; intro W8 hR8 hB8 hz8)
          have hp8 : p < wr.heap.size := RP.out.2.2
          have ST : Hid (sumRel w p wr.heap.size s (.int .i64 0) W8) := ⟨0, by omega, rfl, RP.out.below hB8, hR8.congr (fun j _ => by unfold upto; rw [if_neg (by omega)]), RO.out.below hB8, by omega, hp8, BE.out.trans (hB8.mono BE.out.size)⟩
          clear hR8 hB8 hz8 RP RQ RL RO BE
          generalize wr.heap.size = o at ST hp8 ⊢
          go_loopw [8] (fun i wr => sumRel w p o s i wr) (fun i _ => 16 - (intOf i).toNat)
          case atStart => exact ST.out
          case round =>
            obtain ⟨k, hk, rfl, hP, hQ, hO, hp, hq, hB⟩ := hrel
            clear ST
            have RP : Hid (IRow wr p .u32 8 s.at) := hP
            have RQ : Hid (IRow wr o .u8 16 (upto (sealOf s) k)) := hQ
            have RO : Hid (IRow wr w.heap.size .u8 16 (fun _ => 0)) := hO
            have BE : Hid (Below w.heap.size w wr) := hB
            by_cases hlt : k < 16
            · have c1 := hP.1 (k / 4) (by omega)
              have c2 := hQ.1 k hlt
              have f2 := hQ.2.1 k
              clear hP hQ hO hB
              have j1 : (0 : Int) ≤ (k : Int) / 4 := by omega
              have j2 : (k : Int) / 4 < 8 := by omega
              have j3 : ((k : Int) / 4).toNat = k / 4 := by omega
              have j4 : (0 : Int) ≤ 24 - 8 * ((k : Int) % 4) := by omega
              have j5 : 24 - 8 * ((k : Int) % 4) < 32 := by omega
              have j6 : (24 - 8 * ((k : Int) % 4)).toNat = 24 - k % 4 * 8 := by omega
              have j7 : (k : Int) < 16 := by omega
              go_wp2_with fail
              exact ⟨⟨k + 1, by omega, by go_num, RP.out.but (But.set _ _ _) (by omega), by rw [← upto_step]; exact RQ.out.set k _, RO.out.but (But.set _ _ _) (by omega), hp, hq, BE.out.setCell (by show w.heap.size ≤ o; omega) _⟩, by simp [intOf]; omega⟩
            · obtain rfl : k = 16 := by omega
              clear hP hQ hO hB
              go_wp2_with (first
                | (refine wpList_load_irow rfl 50 (.tmp 7) rfl o .u8 16 (upto (sealOf s) 16) rfl _ Try.underlying50 rfl (by kernel_rfl) RQ.out ?_)
                | (refine wpList_store_row rfl 50 (.tmp 2) _ rfl w.heap.size .u8 16 (upto (sealOf s) 16) (fun _ => 0) rfl rfl RO.out (by kernel_rfl) ?_; intro W5 hR5 hB5 hz5))
              have hl := hR5.run_load 50 _ Try.underlying50 rfl (by kernel_rfl)
              refine bodyPost_ret (v := .agg (cl .u8 16 (upto (sealOf s) 16)).toArray) (by simp [results, Try.results40, asAddr, Act.put, hl]) rfl ⟨?_, ?_⟩
              · unfold sealF
                rw [HS.out, cl_congr .u8 16 (upto (sealOf s) 16) (sealOf s) (fun j hj => by unfold upto; rw [if_pos hj])]
              · exact BE.out.trans (hB5.below (Nat.le_refl _) BE.out.size)
    · have i0 : ¬ (m : Int) % 64 = 56 := by omega
      have hz : w.heap.size + 1 ≤ wr.heap.size := by have := hB.size; have := HZ.out; omega
      obtain ⟨v', W', hr, hO', hB'⟩ := app_arg 25 (wr.alloc (.cells #[.int .u8 0] 5)) (w.heap.size + 1) m 1 1 (.slice (some ⟨g, 0, none⟩) m cap) (some ⟨wr.heap.size, 0, none⟩) (padZ f n) (fun _ => 0) (hO.below ((Below.refl _ _).alloc (Nat.le_refl _) _)) (one_arg wr 0 (by omega)) (by omega) (by simp; omega)
      have hO2 : Own W' (w.heap.size + 1) v' (m + 1) (padZ f n) := hO'.congr (fun j hj => by
        unfold cat
        by_cases e : j < m
        · rw [if_pos e]
        · rw [if_neg e, show j = m by omega]; unfold padZ; rw [if_neg (by omega), if_neg (by omega)])
      obtain ⟨g', cap', rfl, _, _, _⟩ := hO2.form (by omega) (fun j _ => padZ_byte f n FB.out j)
      have R : Hid (hsRel1 w W1 n f (.slice (some ⟨g', 0, none⟩) (m + 1) cap') W') := ⟨m + 1, g', cap', by omega, by omega, rfl, hO2, (hB.alloc hz _).trans hB'⟩
      clear hO' hB' hO hB hO2
      go_wp2_with (at_builtin; refine wpList_append_go rfl (.tmp 19) (.tmp 20) 25 25 rfl _ _ rfl rfl hr ?_)
      exact ⟨R.out, by simp [lenV]; omega⟩
end Go.Proofs.Ytmlllglgjpmicaa
