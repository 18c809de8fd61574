/-
  Walks, not a claim by itself: DiskKeeps, with a fuse. By the verifier.
-/
import Derived.Test.YtoehbljnapdbgaaKKeep0
namespace Go.Proofs.Ytoehbljnapdbgaa
open Go.RowKit Go.Maps
set_option maxRecDepth 100000 in
set_option maxHeartbeats 4000000 in
theorem keeps_fused (S : Nat) (a : Option Addr) (n C : Nat) (A V : Nat → Int) (F : Nat → Bool) (x : Int) (p : Option Addr) (nk Ck : Nat) (kp : Nat → Bool) (tear : Int) (w : World) (hS1 : 1 ≤ S) (hS : S ≤ 20) (hn : n ≤ 60) (hk : nk ≤ 100) (hx : 0 ≤ x) (hx2 : x < 9223372036854775808) (hA : SArg w a n A V F) (hK : KArg w p nk kp) :
    Calls Try.prog 6 #[.int .i64 (S : Int), .slice a n C, .int .i64 x, .slice p nk Ck, .int .i64 tear] w fun e w' => e = .returned (.bool true) ∧ Below w.heap.size w w' := by
  have KN : Hid (Calls Try.prog 5 #[] w fun e w' => e = .returned (.bool true) ∧ Below w.heap.size w w') := known_any w
  have NEW : Hid (∀ w, Calls Try.prog 26 #[.int .i64 (S : Int)] w (NewPost w S)) := fun w => new_ok S w hS1 (by omega)
  have HA : Hid (SArg w a n A V F) := hA
  have HKA : Hid (KArg w p nk kp) := hK
  have X0 : Hid (0 ≤ x) := hx
  have s1 : ¬ (S : Int) < 1 := by omega
  have s2 : ¬ (20 : Int) < S := by omega
  have n0 : ¬ (60 : Int) < n := by omega
  have n1 : ¬ (100 : Int) < nk := by omega
  have x0 : (0 : Int) ≤ x := by omega
  clear hA hK
  go_enter Try.func6, Try.ntmps6
  go_wp2_with (go_at_call 5; refine KN.out.mono ?_; rintro e w1 ⟨rfl, b1⟩; have B1 : Hid (Below w.heap.size w w1) := b1; clear b1 KN)
  refine (NEW.out _).mono ?_
  rintro e w2 ⟨d, s, m, rfl, h1, h2, h3, h4, h5⟩
  have S2 : Hid (St w1 w2 d s m (dsk0 S)) := ⟨h4, h1, h2, h3, h5⟩
  clear h1 h2 h3 h4 h5 NEW
  go_wp2_with fail
  refine (one_fuse w1 _ d s m _ (dsk0 S) x S2.out ⟨rfl, rfl, rfl⟩ X0.out hx2).mono ?_
  rintro e w3 ⟨rfl, q, h3⟩
  have O3 : Hid (One w1 w3 d s m { dsk0 S with out := false, fz := some q } (some q) x 0) := h3
  clear h3 S2
  go_wp2_with fail
  obtain ⟨MA, MB, W4, W5, M1, M2, MF⟩ := two_make w3.drew S hS
  refine wp_region_noPanic ?_
  refine wp_region_held_drew (S := fun _ => True) (by kernel_rfl) ?_ (fun hHeld => ?_)
  · trivial
  refine take_at (i := 0) (v := ?_) (some 61) rfl rfl (by kernel_rfl) (by kernel_rfl) (by kernel_rfl) (fun _ _ _ h => h) (Or.inl ⟨by rfl, ?_⟩) (by assumption) ?_
  rotate_left
  · (intro w hSw; (try dsimp only at hSw); go_simp; try with_reducible rfl)
  simp only [Act.put, List.setIfInBounds_toArray, List.set_cons_zero, List.set_cons_succ]
  refine take_at (i := 2) (v := ?_) (some 63) rfl rfl (by kernel_rfl) (by kernel_rfl) (by kernel_rfl) (fun _ _ _ h => h) (Or.inl ⟨by rfl, ?_⟩) (by assumption) ?_
  rotate_left
  · (intro w hSw; (try dsimp only at hSw); go_simp; try with_reducible rfl)
  simp only [Act.put, List.setIfInBounds_toArray, List.set_cons_zero, List.set_cons_succ]
  refine either_at (i := 1) (j := 3) (some 62) (some 64) rfl rfl rfl rfl (by kernel_rfl) (by rfl) (by rfl) (.slice (some ⟨MA, 0, none⟩) S S) (.slice (some ⟨MA, 0, none⟩) S S) W4 W4 (make_run 26 _ _ rfl (.int .i64 (S : Int)) (.int .i64 (S : Int)) rfl rfl M1) (make_run 26 _ _ rfl (.int .i64 (S : Int)) (.int .i64 (S : Int)) rfl rfl M1) ⟨trivial, trivial⟩ (fun hHeld => ?_) (fun hHeld => ?_)
  · simp only [Act.put, List.setIfInBounds_toArray, List.set_cons_zero, List.set_cons_succ]
    refine take_at (i := 4) (v := ?_) (some 14) rfl rfl (by kernel_rfl) (by kernel_rfl) (by kernel_rfl) (fun _ _ _ h => h) (Or.inl ⟨by rfl, ?_⟩) (by assumption) ?_
    rotate_left
    · (intro w hSw; (try dsimp only at hSw); go_simp; try with_reducible rfl)
    simp only [Act.put, List.setIfInBounds_toArray, List.set_cons_zero, List.set_cons_succ]
    refine step_at (i := 3) (some 64) rfl rfl (by rfl) (by kernel_rfl) (.slice (some ⟨MB, 0, none⟩) S S) W5 (make_run 26 _ _ rfl (.int .i64 (S : Int)) (.int .i64 (S : Int)) rfl rfl M2) trivial (fun hHeld => ?_)
    simp only [Act.put, List.setIfInBounds_toArray, List.set_cons_zero, List.set_cons_succ]
    refine take_at (i := 5) (v := ?_) (some 15) rfl rfl (by kernel_rfl) (by kernel_rfl) (by kernel_rfl) (fun _ _ _ h => h) (Or.inl ⟨by rfl, ?_⟩) (by assumption) ?_
    rotate_left
    · (intro w hSw; (try dsimp only at hSw); go_simp; try with_reducible rfl)
    simp only [Act.put, List.setIfInBounds_toArray, List.set_cons_zero, List.set_cons_succ]
    refine wpAnyH_done (by kernel_rfl) ?_ _
    refine NoPanic.normal ?_
    have ST : Hid (kpRel w1 d s S MA n (some q) x (.slice (some ⟨MB, 0, none⟩) S S) (.int .i64 0) W5) := ⟨0, by omega, rfl, m, MB, S, { dsk0 S with out := false, fz := some q }, _, _, rfl, kp_init O3.out rfl (kinv0 S (some q)) ((Below.refl _ w3).drew.trans MF.out.2.2.2.2.2) MF.out.1 MF.out.2.1 (Ne.symm MF.out.2.2.1) MF.out.2.2.2.1 MF.out.2.2.2.2.1⟩
    clear M1 M2 MF O3
    go_wp2_with fail
    go_loopw [15, 16] (fun o i wr => kpRel w1 d s S MA n (some q) x o i wr) (fun _ i _ => n - (RowKit.intOf i).toNat)
    case atStart => exact ST.out
    case round =>
      obtain ⟨k, hk, rfl, m1, OB1, cap1, D1, now1, old1, rfl, hK1⟩ := hrel
      clear ST
      have HK : Hid (Kp w1 wr d s m1 S MA OB1 D1 (some q) x k now1 old1) := hK1
      by_cases hlt : k < n
      · obtain ⟨b, off, ea, c0, c1, c2, vb, lb⟩ := (HA.out.below (B1.out.trans (hK1.one.bel.mono B1.out.size))) k hlt
        obtain ⟨r, hrv⟩ : ∃ r, pickV (A k) S = r := ⟨_, rfl⟩
        have hr : r < S := by rw [← hrv]; exact pickV_lt _ _ (by omega)
        have PK : Hid (∀ w, Calls Try.prog 27 #[.int .i64 (A k), .int .i64 (S : Int)] w fun e w' => e = .returned (.int .i64 (r : Int)) ∧ w' = w) := fun w => by have := pick_is (A k) S w (by omega) (by omega); rwa [hrv] at this
        have CC : Hid (∀ W', Below w1.heap.size w1 W' → W'.cell? ⟨b, off + k * 3 + 1, none⟩ = some (.int .u8 (V k)) ∧ W'.cell? ⟨b, off + k * 3 + 2, none⟩ = some (.bool (F k))) := fun W' hB => by
          obtain ⟨b', off', e', _, c1', c2', _⟩ := (HA.out.below (B1.out.trans (hB.mono B1.out.size))) k hlt
          rw [ea] at e'
          cases e'
          exact ⟨c1', c2'⟩
        have i0 : (k : Int) < n := by omega
        have i1 : (0 : Int) ≤ (k : Int) := by omega
        have k60 : k < 60 := by omega
        have VB : Hid (0 ≤ V k ∧ V k < 256) := vb
        subst ea
        clear hK1 hrv vb
        by_cases hF : F k = true
        · rw [hF] at c2
          go_wp2_with (go_at_call 27; refine (PK.out _).mono ?_; rintro e w4 ⟨rfl, h4⟩; rw [h4]; clear h4 w4)
          have HKK := HK
          refine (one_flush w1 _ d s m1 k D1 (some q) x HK.out.one k60).mono ?_
          rintro e w5 (⟨hg, rfl, m5, hm5, h5, hO5⟩ | ⟨hg, rfl, h5, hO5⟩)
          · obtain ⟨c3, c4⟩ := CC.out w5 h5.bel
            rw [hF] at c4
            have kx : ¬ x ≤ (k : Int) := by rcases hg with g | g <;> omega
            have CP : Hid (Calls Try.prog 28 #[.slice (some ⟨MA, 0, none⟩) S S] w5 fun e w' => ∃ g cap, e = .returned (.slice (some ⟨g, 0, none⟩) S cap) ∧ Kp w1 w' d s m5 S MA g D1.safe.more (some q) x (k + 1) now1 now1) := kp_copy hS1 hS HK.out.bn (HK.out.rn.off hO5 HK.out.an) (HK.out.flushed h5 hO5 hm5)
            clear h5 hO5 hm5 HK HKK c0 c1 c2
            go_wp2_with (go_at_call 28; refine CP.out.mono ?_; rintro e w6 ⟨g, cap, rfl, h6⟩; have K6 : Hid (Kp w1 w6 d s m5 S MA g D1.safe.more (some q) x (k + 1) now1 now1) := h6; clear h6 CP)
            go_roundw
            case rel => exact kp_next hlt K6.out
            case measure => exact keep_less hlt
          · have kx : x ≤ (k : Int) := by have g : ¬ (k : Int) < x := (fun q => hg (.inr q)); omega
            have RR : Hid (kpRel w1 d s S MA n (some q) x (.slice (some ⟨OB1, 0, none⟩) S cap1) (.int .i64 ((k : Int) + 1)) w5) := kp_next hlt (HKK.out.same h5 hO5)
            clear h5 hO5
            go_wp2_with fail
            go_roundw
            case rel => exact RR.out
            case measure => exact keep_less hlt
        · have hF' : F k = false := by simpa using hF
          rw [hF'] at c2
          go_wp2_with (go_at_call 27; refine (PK.out _).mono ?_; rintro e w4 ⟨rfl, h4⟩; rw [h4]; clear h4 w4)
          refine (sector_any (V k) _).mono ?_
          rintro e w4 ⟨rfl, o4, b4⟩
          have HKK : Hid (Kp w1 w4 d s m1 S MA OB1 D1 (some q) x k now1 old1) := HK.out.below b4
          have L4 : Hid (Lies w4 wr.heap.size 0 256 (fun _ => V k)) := o4.irow.lies (fun _ _ => VB.out)
          have E4 : Hid (wr.heap.size ∉ [d, s, m1]) := fun q => by have := HK.out.one.at'.lt _ q; omega
          have Q4 : Hid (∀ qq, (some q) = some qq → qq ≠ wr.heap.size) := fun qq e => by have := HK.out.one.lt qq (HK.out.one.ef.trans e); omega
          clear o4 b4 c0 c1 c2
          go_wp2_with fail
          refine (one_write w1 _ d s m1 r _ 0 _ k _ D1 (some q) x _ HKK.out.one rfl k60 L4.out (Nat.le_refl _) (by rw [HKK.out.hN]; exact hr) E4.out Q4.out).mono ?_
          rintro e w5 (⟨hg, rfl, m5, hm5, h5, hO5⟩ | ⟨hg, rfl, h5, hO5⟩)
          · obtain ⟨c3, c4⟩ := CC.out w5 h5.bel
            rw [hF'] at c4
            have kx : ¬ x ≤ (k : Int) := by rcases hg with g | g <;> omega
            have cn := (HKK.out.rn.off hO5 HKK.out.an).1 r hr
            have cf := (HKK.out.rn.off hO5 HKK.out.an).2.1 r
            have r0 : (0 : Int) ≤ (r : Int) := by omega
            have r1 : (r : Int) < S := by omega
            have RR : Hid (kpRel w1 d s S MA n (some q) x (.slice (some ⟨OB1, 0, none⟩) S cap1) (.int .i64 ((k : Int) + 1)) (w5.setCell ⟨MA, r, none⟩ (.int .u8 (V k)))) := kp_next hlt (HKK.out.written h5 hO5 hm5 VB.out)
            clear h5 hO5 hm5 HK HKK L4 E4 Q4
            go_wp2_with fail
            go_roundw
            case rel => exact RR.out
            case measure => exact keep_less hlt
          · have kx : x ≤ (k : Int) := by have g : ¬ (k : Int) < x := (fun q => hg (.inr q)); omega
            have RR : Hid (kpRel w1 d s S MA n (some q) x (.slice (some ⟨OB1, 0, none⟩) S cap1) (.int .i64 ((k : Int) + 1)) w5) := kp_next hlt (HKK.out.same h5 hO5)
            clear h5 hO5
            go_wp2_with fail
            go_roundw
            case rel => exact RR.out
            case measure => exact keep_less hlt
      · have i0 : ¬ (k : Int) < n := by omega
        obtain rfl : k = n := by omega
        clear hK1
        have BW : Hid (Below w.heap.size w wr) := B1.out.trans (HK.out.one.bel.mono B1.out.size)
        have KA : Hid (KArg wr p nk kp) := HKA.out.offw (bs := []) (Off.of BW.out) (fun _ _ _ => by simp)
        have KS : Hid (nk ≠ 0 → ∀ r, p = some r → r.block ≠ s) := karg_apart HKA.out B1.out.size (HK.out.one.ge s (by simp))
        go_wp2_with fail
        refine (crash_okw _ d s m1 nk Ck p D1 kp tear HK.out.one.at' KA.out KS.out).mono ?_
        rintro e w5 ⟨rfl, m5, hm5, d5, O5⟩
        obtain ⟨t, ht⟩ := HK.out.inv.crash nk kp tear
        rw [HK.out.hN] at ht
        have TT : Hid (∀ n, n < S → ReadIs (D1.crash nk kp tear) now1 old1 t n) := ht
        have D5 : Hid (DiskAt w5 d s m5 (D1.crash nk kp tear)) := d5
        have EN : Hid ((D1.crash nk kp tear).N = S) := HK.out.hN
        have O6 : Off ([d, s, m1] ++ ((some q) : Option Nat).toList) wr w5 := O5.mono (fun y hy => by simp at hy; rcases hy with g | g <;> simp [g])
        have N5 : Hid (IRow w5 MA .u8 S now1) := HK.out.rn.off O6 HK.out.an
        have R5 : Hid (Lies w5 OB1 0 S old1) := HK.out.ro.off O6 HK.out.ao
        have BN : Hid (∀ j, j < S → 0 ≤ now1 j ∧ now1 j < 256) := HK.out.bn
        have B5 : Hid (Below w.heap.size w w5) := BW.out.trans ((HK.out.one.off O6).mono B1.out.size)
        have ST : Hid (endRel w5 S t (.int .i64 0) (.int .i64 0) w5) := ⟨0, by omega, rfl, 0, rfl, by omega, Below.refl _ _⟩
        clear ht d5 O5 O6 HK KA KS BW hm5
        go_wp2_with fail
        go_loopw [19, 20] (fun c i wr2 => endRel w5 S t c i wr2) (fun _ i _ => S - (RowKit.intOf i).toNat)
        case atStart => exact ST.out
        case round =>
          obtain ⟨i, hi, rfl, c0, rfl, hc0, hB6⟩ := hrel
          clear ST
          have B6 : Hid (Below w5.heap.size w5 wr) := hB6
          have HC : Hid (c0 ≤ (if t < i then 1 else 0)) := hc0
          by_cases hlt : i < S
          · have cn : wr.cell? ⟨MA, i, none⟩ = some (.int .u8 (now1 i)) := (N5.out.below hB6).1 i hlt
            have co0 := (R5.out.below hB6).1 i hlt
            rw [Nat.zero_add] at co0
            have co : wr.cell? ⟨OB1, i, none⟩ = some (.int .u8 (old1 i)) := co0
            have nl : MA < wr.heap.size := Nat.lt_of_lt_of_le N5.out.2.2 hB6.size
            have ol : OB1 < wr.heap.size := Nat.lt_of_lt_of_le R5.out.2.2 hB6.size
            have vn : Hid (0 ≤ now1 i ∧ now1 i < 256) := BN.out i hlt
            have vo : Hid (0 ≤ old1 i ∧ old1 i < 256) := R5.out.2.1 i hlt
            have D6 : Hid (DiskAt wr d s m5 (D1.crash nk kp tear)) := D5.out.below hB6
            have ic : Hid (i < (D1.crash nk kp tear).N) := by show i < _; rw [EN.out]; exact hlt
            have i0 : (i : Int) < S := by omega
            have i1 : (0 : Int) ≤ (i : Int) := by omega
            clear co0 hB6 hc0
            go_wp2_with fail
            have A6 : Below wr.heap.size wr (wr.alloc (.cells #[.int .u8 (now1 i)] 5)) := (Below.refl _ _).alloc (Nat.le_refl _) _
            refine (reads_one _ d s m5 i wr.heap.size _ (D1.crash nk kp tear) 0 false _ (now1 i) (D6.out.below A6) rfl rfl ic.out rfl (lies_one wr (now1 i) vn.out)).mono ?_
            rintro e w6 ⟨y1, b6⟩
            have B7 : Hid (Below wr.heap.size wr w6) := A6.trans (b6.mono A6.size)
            clear b6 A6
            rcases y1 with ⟨rfl, _⟩ | ⟨rfl, y1⟩
            · have RR : Hid (endRel w5 S t (.int .i64 (c0 : Int)) (.int .i64 ((i : Int) + 1)) w6) := end_next hlt HC.out B6.out B7.out
              clear B7 B6 HC
              go_wp2_with fail
              go_roundw
              case rel => exact RR.out
              case measure => exact keep_less hlt
            · have Y1 : Hid (¬ ∀ j, j < 256 → (D1.crash nk kp tear).sec (i * 256 + j) = now1 i) := y1
              have co6 : w6.cell? ⟨OB1, i, none⟩ = some (.int .u8 (old1 i)) := (B7.out.cell (p := ⟨OB1, i, none⟩) ol).trans co
              clear y1
              go_wp2_with fail
              have A7 : Below w6.heap.size w6 (w6.alloc (.cells #[.int .u8 (old1 i)] 5)) := (Below.refl _ _).alloc (Nat.le_refl _) _
              refine (reads_one _ d s m5 i w6.heap.size _ (D1.crash nk kp tear) 0 false _ (old1 i) ((D6.out.below B7.out).below A7) rfl rfl ic.out rfl (lies_one w6 (old1 i) vo.out)).mono ?_
              rintro e w7 ⟨y2, b7⟩
              have B8 : Hid (Below wr.heap.size wr w7) := B7.out.trans ((A7.trans (b7.mono A7.size)).mono B7.out.size)
              clear b7 A7 B7 co6
              rcases y2 with ⟨rfl, _⟩ | ⟨rfl, y2⟩
              · have RR : Hid (endRel w5 S t (.int .i64 (c0 : Int)) (.int .i64 ((i : Int) + 1)) w7) := end_next hlt HC.out B6.out B8.out
                clear B8 B6 HC
                go_wp2_with fail
                go_roundw
                case rel => exact RR.out
                case measure => exact keep_less hlt
              · obtain ⟨et, eh⟩ := torn_of (TT.out i hlt) Y1.out y2
                have EH : Hid (∀ j, j < 256 → (D1.crash nk kp tear).sec (i * 256 + j) = if j < 128 then now1 i else old1 i) := eh
                have ET : Hid (i = t) := et
                clear eh et y2 Y1
                go_wp2_with fail
                refine (read_of _ d s m5 i 1 (D1.crash nk kp tear) 0 false (D6.out.below B8.out) rfl rfl ic.out _ _ rfl rfl).mono ?_
                rintro e w8 ⟨rfl, r8, b8⟩
                have R8 : Hid (Lies w8 w7.heap.size 0 256 (fun j => if j < 128 then now1 i else old1 i)) := (r8.congr (fun j hj => EH.out j hj)).lies (fun j _ => by split; (· exact vn.out); (· exact vo.out))
                have B9 : Hid (Below wr.heap.size wr w8) := B8.out.trans (b8.mono B8.out.size)
                clear r8 b8 EH B8
                go_wp2_with fail
                have SS : Hid (∀ X, Below wr.heap.size wr X → X.cell? ⟨MA, i, none⟩ = some (.int .u8 (now1 i)) ∧ X.cell? ⟨OB1, i, none⟩ = some (.int .u8 (old1 i))) := fun X hX => ⟨(hX.cell (p := ⟨MA, i, none⟩) nl).trans cn, (hX.cell (p := ⟨OB1, i, none⟩) ol).trans co⟩
                refine wp_region_noPanic ?_
                refine wp_region_held_drew (S := fun X => X.cell? ⟨MA, i, none⟩ = some (.int .u8 (now1 i)) ∧ X.cell? ⟨OB1, i, none⟩ = some (.int .u8 (old1 i))) (by kernel_rfl) ?_ (fun hHeld => ?_)
                · exact SS.out _ B9.out.drew
                refine take_at (i := 0) (v := ?_) (some 155) rfl rfl (by kernel_rfl) (by kernel_rfl) (by kernel_rfl) (fun _ _ _ h => h) (Or.inl ⟨by rfl, ?_⟩) (by assumption) ?_
                rotate_left
                · (intro w hSw; (try dsimp only at hSw); go_simp; try with_reducible rfl)
                simp only [Act.put, List.setIfInBounds_toArray, List.set_cons_zero, List.set_cons_succ]
                refine take_at (i := 1) (v := ?_) (some 156) rfl rfl (by kernel_rfl) (by kernel_rfl) (by kernel_rfl) (fun _ _ _ h => h) (Or.inl ⟨by rfl, ?_⟩) (by assumption) ?_
                rotate_left
                · (intro w hSw; (try dsimp only at hSw); go_simp; try with_reducible rfl)
                simp only [Act.put, List.setIfInBounds_toArray, List.set_cons_zero, List.set_cons_succ]
                refine take_at (i := 2) (v := ?_) (some 157) rfl rfl (by kernel_rfl) (by kernel_rfl) (by kernel_rfl) (fun _ _ _ h => h) (Or.inl ⟨by rfl, ?_⟩) (by assumption) ?_
                rotate_left
                · (intro w hSw; (try dsimp only at hSw); go_simp; try with_reducible rfl)
                simp only [Act.put, List.setIfInBounds_toArray, List.set_cons_zero, List.set_cons_succ]
                refine take_at (i := 3) (v := ?_) (some 158) rfl rfl (by kernel_rfl) (by kernel_rfl) (by kernel_rfl) (fun _ _ _ h => h) (Or.inl ⟨by rfl, ?_⟩) (by assumption) ?_
                rotate_left
                · (intro w hSw; (try dsimp only at hSw); go_simp; try with_reducible rfl)
                simp only [Act.put, List.setIfInBounds_toArray, List.set_cons_zero, List.set_cons_succ]
                refine take_at (i := 5) (v := ?_) (some 160) rfl rfl (by kernel_rfl) (by kernel_rfl) (by kernel_rfl) (fun _ _ _ h => h) (Or.inl ⟨by rfl, ?_⟩) (by assumption) ?_
                rotate_left
                · (intro w hSw; (try dsimp only at hSw); go_simp; try with_reducible rfl)
                simp only [Act.put, List.setIfInBounds_toArray, List.set_cons_zero, List.set_cons_succ]
                refine take_at (i := 6) (v := ?_) (some 161) rfl rfl (by kernel_rfl) (by kernel_rfl) (by kernel_rfl) (fun _ _ _ h => h) (Or.inl ⟨by rfl, ?_⟩) (by assumption) ?_
                rotate_left
                · (intro w hSw; (try dsimp only at hSw); go_simp; try with_reducible rfl)
                simp only [Act.put, List.setIfInBounds_toArray, List.set_cons_zero, List.set_cons_succ]
                refine take_at (i := 7) (v := ?_) (some 162) rfl rfl (by kernel_rfl) (by kernel_rfl) (by kernel_rfl) (fun _ _ _ h => h) (Or.inl ⟨by rfl, ?_⟩) (by assumption) ?_
                rotate_left
                · (intro w hSw; (try dsimp only at hSw); go_simp; try with_reducible rfl)
                simp only [Act.put, List.setIfInBounds_toArray, List.set_cons_zero, List.set_cons_succ]
                refine take_at (i := 8) (v := ?_) (some 163) rfl rfl (by kernel_rfl) (by kernel_rfl) (by kernel_rfl) (fun _ _ _ h => h) (Or.inl ⟨by rfl, ?_⟩) (by assumption) ?_
                rotate_left
                · (intro w hSw; (try dsimp only at hSw); go_simp; try with_reducible rfl)
                simp only [Act.put, List.setIfInBounds_toArray, List.set_cons_zero, List.set_cons_succ]
                refine take_at (i := 12) (v := ?_) (some 167) rfl rfl (by kernel_rfl) (by kernel_rfl) (by kernel_rfl) (fun _ _ _ h => h) (Or.inl ⟨by rfl, ?_⟩) (by assumption) ?_
                rotate_left
                · (intro w hSw; (try dsimp only at hSw); go_simp; try with_reducible rfl)
                simp only [Act.put, List.setIfInBounds_toArray, List.set_cons_zero, List.set_cons_succ]
                refine take_at (i := 13) (v := ?_) (some 168) rfl rfl (by kernel_rfl) (by kernel_rfl) (by kernel_rfl) (fun _ _ _ h => h) (Or.inl ⟨by rfl, ?_⟩) (by assumption) ?_
                rotate_left
                · (intro w hSw; (try dsimp only at hSw); go_simp; try with_reducible rfl)
                simp only [Act.put, List.setIfInBounds_toArray, List.set_cons_zero, List.set_cons_succ]
                refine take_at (i := 14) (v := ?_) (some 169) rfl rfl (by kernel_rfl) (by kernel_rfl) (by kernel_rfl) (fun _ _ _ h => h) (Or.inl ⟨by rfl, ?_⟩) (by assumption) ?_
                rotate_left
                · (intro w hSw; (try dsimp only at hSw); go_simp; try with_reducible rfl)
                simp only [Act.put, List.setIfInBounds_toArray, List.set_cons_zero, List.set_cons_succ]
                refine take_at (i := 15) (v := ?_) (some 170) rfl rfl (by kernel_rfl) (by kernel_rfl) (by kernel_rfl) (fun _ _ _ h => h) (Or.inl ⟨by rfl, ?_⟩) (by assumption) ?_
                rotate_left
                · (intro w hSw; (try dsimp only at hSw); go_simp; try with_reducible rfl)
                simp only [Act.put, List.setIfInBounds_toArray, List.set_cons_zero, List.set_cons_succ]
                have C8 : Below w8.drew.heap.size w8.drew (w8.drew.alloc (.cells #[] 5)) := (Below.refl _ _).alloc (Nat.le_refl _) _
                refine either_call (i := 4) (j := 9) (some 159) (some 164) 24 _ _ rfl rfl rfl rfl rfl (by rfl) (by rfl) (by kernel_rfl) _ _ (bslice_run rfl) (SS.out _ (B9.out.drew.trans (C8.mono B9.out.size))) (fun hHeld => ?_) #[.int .u8 (now1 i)] rfl Try.func24 (by kernel_rfl) (by kernel_rfl) ?_
                · simp only [Act.put, List.setIfInBounds_toArray, List.set_cons_zero, List.set_cons_succ]
                  refine call_at (i := 9) (some 164) 24 _ _ rfl rfl rfl (by rfl) (by kernel_rfl) #[.int .u8 (now1 i)] rfl Try.func24 (by kernel_rfl) (by kernel_rfl) ?_
                  refine (sector_any (now1 i) _).mono ?_
                  rintro e w10 ⟨rfl, o10, b10⟩
                  have BB : Hid (Below w8.drew.heap.size w8.drew w10) := C8.trans (b10.mono C8.size)
                  have OZ : Hid (Own w10 w8.drew.heap.size (.slice (some ⟨w8.drew.heap.size, 0, none⟩) 0 0) 0 (fun _ => 0)) := (Own.lit w8.drew w8.drew.heap.size 0 (fun _ => 0) (Nat.le_refl _) (by omega)).below b10
                  have LZ : Hid (Lies w10 (w8.heap.size + 1) 0 256 (fun _ => now1 i)) := by
                    have := o10.irow.lies (fun _ _ => vn.out)
                    rwa [show (w8.drew.alloc (.cells #[] 5)).heap.size = w8.heap.size + 1 by simp] at this
                  have S10 := SS.out w10 (B9.out.drew.trans (BB.out.mono B9.out.size))
                  clear o10 b10
                  refine ⟨_, rfl, S10, fun hHeld => ?_⟩
                  simp only [Act.put, List.setIfInBounds_toArray, List.set_cons_zero, List.set_cons_succ]
                  refine take_at (i := 10) (v := ?_) (some 165) rfl rfl (by kernel_rfl) (by kernel_rfl) (by kernel_rfl) (fun _ _ _ h => h) (Or.inl ⟨by rfl, ?_⟩) (by assumption) ?_
                  rotate_left
                  · (intro w hSw; (try dsimp only at hSw); go_simp; try with_reducible rfl)
                  simp only [Act.put, List.setIfInBounds_toArray, List.set_cons_zero, List.set_cons_succ]
                  obtain ⟨u11, w11, hr11, H11⟩ := halfA w8.drew w10 w8.drew.heap.size (w8.heap.size + 1) (now1 i) vn.out BB.out OZ.out LZ.out
                  have S11 := SS.out w11 (B9.out.drew.trans (H11.out.2.mono B9.out.size))
                  refine step_at (i := 11) (some 166) rfl rfl (by rfl) (by kernel_rfl) u11 w11 (append_run _ _ 26 26 rfl (.slice (some ⟨w8.drew.heap.size, 0, none⟩) 0 0) (.slice (some ⟨(w8.heap.size + 1), 0, none⟩) 128 256) rfl rfl hr11) S11 (fun hHeld => ?_)
                  simp only [Act.put, List.setIfInBounds_toArray, List.set_cons_zero, List.set_cons_succ]
                  refine call_at (i := 16) (some 171) 24 _ _ rfl rfl rfl (by rfl) (by kernel_rfl) #[.int .u8 (old1 i)] rfl Try.func24 (by kernel_rfl) (by kernel_rfl) ?_
                  refine (sector_any (old1 i) _).mono ?_
                  rintro e w12 ⟨rfl, o12, b12⟩
                  obtain ⟨g13, cap13, w13, hr13, H13⟩ := halfB w8.drew w11 w12 u11 (now1 i) (old1 i) vn.out vo.out H11.out.1 H11.out.2 ⟨rfl, o12, b12⟩
                  have S12 := SS.out w12 (B9.out.drew.trans ((H11.out.2.trans (b12.mono H11.out.2.size)).mono B9.out.size))
                  have S13 := SS.out w13 (B9.out.drew.trans (H13.out.2.mono B9.out.size))
                  clear o12 b12
                  refine ⟨_, rfl, S12, fun hHeld => ?_⟩
                  simp only [Act.put, List.setIfInBounds_toArray, List.set_cons_zero, List.set_cons_succ]
                  refine take_at (i := 17) (v := ?_) (some 172) rfl rfl (by kernel_rfl) (by kernel_rfl) (by kernel_rfl) (fun _ _ _ h => h) (Or.inl ⟨by rfl, ?_⟩) (by assumption) ?_
                  rotate_left
                  · (intro w hSw; (try dsimp only at hSw); go_simp; try with_reducible rfl)
                  simp only [Act.put, List.setIfInBounds_toArray, List.set_cons_zero, List.set_cons_succ]
                  refine step_at (i := 18) (some 173) rfl rfl (by rfl) (by kernel_rfl) (.slice (some ⟨g13, 0, none⟩) 256 cap13) w13 (append_run _ _ 26 26 rfl u11 (.slice (some ⟨w11.heap.size, 128, none⟩) 128 128) rfl rfl hr13) S13 (fun hHeld => ?_)
                  simp only [Act.put, List.setIfInBounds_toArray, List.set_cons_zero, List.set_cons_succ]
                  refine call_at (i := 19) (some 174) 25 _ _ rfl rfl rfl (by rfl) (by kernel_rfl) #[.slice (some ⟨w7.heap.size, 0, none⟩) 256 256, .slice (some ⟨g13, 0, none⟩) 256 cap13] rfl Try.func25 (by kernel_rfl) (by kernel_rfl) ?_
                  refine (same_any _ _ _ _ _ _ (fun j => if j < 128 then now1 i else old1 i) (fun j => if j < 128 then now1 i else old1 i) _ (Arg.of (R8.out.below ((Below.refl _ w8).drew.trans H13.out.2))) (Arg.of H13.out.1)).mono ?_
                  rintro e w14 ⟨rfl, h14⟩
                  rw [h14, decide_eq_true rfl]
                  clear h14 w14
                  refine ⟨_, rfl, S13, fun hHeld => ?_⟩
                  simp only [Act.put, List.setIfInBounds_toArray, List.set_cons_zero, List.set_cons_succ]
                  refine take_at (i := 20) (v := ?_) (some 175) rfl rfl (by kernel_rfl) (by kernel_rfl) (by kernel_rfl) (fun _ _ _ h => h) (Or.inl ⟨by rfl, ?_⟩) (by assumption) ?_
                  rotate_left
                  · (intro w hSw; (try dsimp only at hSw); go_simp; try with_reducible rfl)
                  simp only [Act.put, List.setIfInBounds_toArray, List.set_cons_zero, List.set_cons_succ]
                  refine take_at (i := 21) (v := ?_) (some 176) rfl rfl (by kernel_rfl) (by kernel_rfl) (by kernel_rfl) (fun _ _ _ h => h) (Or.inl ⟨by rfl, ?_⟩) (by assumption) ?_
                  rotate_left
                  · (intro w hSw; (try dsimp only at hSw); go_simp; try with_reducible rfl)
                  simp only [Act.put, List.setIfInBounds_toArray, List.set_cons_zero, List.set_cons_succ]
                  refine wpAnyH_done (by kernel_rfl) ?_ _
                  refine NoPanic.normal ?_
                  have RR : Hid (endRel w5 S t (.int .i64 ((c0 : Int) + 1)) (.int .i64 ((i : Int) + 1)) w13) := end_torn hlt HC.out ET.out B6.out (B9.out.trans (((Below.refl _ w8).drew.trans H13.out.2).mono B9.out.size))
                  have cw : wrap64 ((c0 : Int) + 1) = (c0 : Int) + 1 := end_wrap HC.out
                  have cw' : IntKind.i64.wrap ((c0 : Int) + 1) = (c0 : Int) + 1 := end_wrap' HC.out
                  clear hr11 hr13 H11 H13 S11 S12 S13 hHeld R8 SS ET HC B6 B9 BB OZ LZ
                  go_wp2_with fail
                  go_roundw
                  case rel => exact RR.out
                  case measure => exact keep_less hlt
                · refine (sector_any (now1 i) _).mono ?_
                  rintro e w9 ⟨rfl, o9, b9⟩
                  have S9 := SS.out w9 (B9.out.drew.trans (b9.mono B9.out.size))
                  refine ⟨_, rfl, S9, fun hHeld => ?_⟩
                  simp only [Act.put, List.setIfInBounds_toArray, List.set_cons_zero, List.set_cons_succ]
                  have C9 : Below w9.heap.size w9 (w9.alloc (.cells #[] 5)) := (Below.refl _ _).alloc (Nat.le_refl _) _
                  have BB : Hid (Below w8.drew.heap.size w8.drew (w9.alloc (.cells #[] 5))) := b9.trans (C9.mono b9.size)
                  have OZ : Hid (Own (w9.alloc (.cells #[] 5)) w8.drew.heap.size (.slice (some ⟨w9.heap.size, 0, none⟩) 0 0) 0 (fun _ => 0)) := Own.lit w9 w8.drew.heap.size 0 (fun _ => 0) b9.size (by omega)
                  have LZ : Hid (Lies (w9.alloc (.cells #[] 5)) w8.drew.heap.size 0 256 (fun _ => now1 i)) := (o9.irow.lies (fun _ _ => vn.out)).below C9
                  have S10 := SS.out _ (B9.out.drew.trans (BB.out.mono B9.out.size))
                  clear o9 b9
                  refine take_at (i := 10) (v := ?_) (some 165) rfl rfl (by kernel_rfl) (by kernel_rfl) (by kernel_rfl) (fun _ _ _ h => h) (Or.inl ⟨by rfl, ?_⟩) (by assumption) ?_
                  rotate_left
                  · (intro w hSw; (try dsimp only at hSw); go_simp; try with_reducible rfl)
                  simp only [Act.put, List.setIfInBounds_toArray, List.set_cons_zero, List.set_cons_succ]
                  refine step_at (i := 4) (some 159) rfl rfl (by rfl) (by kernel_rfl) _ _ (bslice_run rfl) S10 (fun hHeld => ?_)
                  simp only [Act.put, List.setIfInBounds_toArray, List.set_cons_zero, List.set_cons_succ]
                  obtain ⟨u11, w11, hr11, H11⟩ := halfA w8.drew (w9.alloc (.cells #[] 5)) w9.heap.size w8.drew.heap.size (now1 i) vn.out BB.out OZ.out LZ.out
                  have S11 := SS.out w11 (B9.out.drew.trans (H11.out.2.mono B9.out.size))
                  refine step_at (i := 11) (some 166) rfl rfl (by rfl) (by kernel_rfl) u11 w11 (append_run _ _ 26 26 rfl (.slice (some ⟨w9.heap.size, 0, none⟩) 0 0) (.slice (some ⟨w8.drew.heap.size, 0, none⟩) 128 256) rfl rfl hr11) S11 (fun hHeld => ?_)
                  simp only [Act.put, List.setIfInBounds_toArray, List.set_cons_zero, List.set_cons_succ]
                  refine call_at (i := 16) (some 171) 24 _ _ rfl rfl rfl (by rfl) (by kernel_rfl) #[.int .u8 (old1 i)] rfl Try.func24 (by kernel_rfl) (by kernel_rfl) ?_
                  refine (sector_any (old1 i) _).mono ?_
                  rintro e w12 ⟨rfl, o12, b12⟩
                  obtain ⟨g13, cap13, w13, hr13, H13⟩ := halfB w8.drew w11 w12 u11 (now1 i) (old1 i) vn.out vo.out H11.out.1 H11.out.2 ⟨rfl, o12, b12⟩
                  have S12 := SS.out w12 (B9.out.drew.trans ((H11.out.2.trans (b12.mono H11.out.2.size)).mono B9.out.size))
                  have S13 := SS.out w13 (B9.out.drew.trans (H13.out.2.mono B9.out.size))
                  clear o12 b12
                  refine ⟨_, rfl, S12, fun hHeld => ?_⟩
                  simp only [Act.put, List.setIfInBounds_toArray, List.set_cons_zero, List.set_cons_succ]
                  refine take_at (i := 17) (v := ?_) (some 172) rfl rfl (by kernel_rfl) (by kernel_rfl) (by kernel_rfl) (fun _ _ _ h => h) (Or.inl ⟨by rfl, ?_⟩) (by assumption) ?_
                  rotate_left
                  · (intro w hSw; (try dsimp only at hSw); go_simp; try with_reducible rfl)
                  simp only [Act.put, List.setIfInBounds_toArray, List.set_cons_zero, List.set_cons_succ]
                  refine step_at (i := 18) (some 173) rfl rfl (by rfl) (by kernel_rfl) (.slice (some ⟨g13, 0, none⟩) 256 cap13) w13 (append_run _ _ 26 26 rfl u11 (.slice (some ⟨w11.heap.size, 128, none⟩) 128 128) rfl rfl hr13) S13 (fun hHeld => ?_)
                  simp only [Act.put, List.setIfInBounds_toArray, List.set_cons_zero, List.set_cons_succ]
                  refine call_at (i := 19) (some 174) 25 _ _ rfl rfl rfl (by rfl) (by kernel_rfl) #[.slice (some ⟨w7.heap.size, 0, none⟩) 256 256, .slice (some ⟨g13, 0, none⟩) 256 cap13] rfl Try.func25 (by kernel_rfl) (by kernel_rfl) ?_
                  refine (same_any _ _ _ _ _ _ (fun j => if j < 128 then now1 i else old1 i) (fun j => if j < 128 then now1 i else old1 i) _ (Arg.of (R8.out.below ((Below.refl _ w8).drew.trans H13.out.2))) (Arg.of H13.out.1)).mono ?_
                  rintro e w14 ⟨rfl, h14⟩
                  rw [h14, decide_eq_true rfl]
                  clear h14 w14
                  refine ⟨_, rfl, S13, fun hHeld => ?_⟩
                  simp only [Act.put, List.setIfInBounds_toArray, List.set_cons_zero, List.set_cons_succ]
                  refine take_at (i := 20) (v := ?_) (some 175) rfl rfl (by kernel_rfl) (by kernel_rfl) (by kernel_rfl) (fun _ _ _ h => h) (Or.inl ⟨by rfl, ?_⟩) (by assumption) ?_
                  rotate_left
                  · (intro w hSw; (try dsimp only at hSw); go_simp; try with_reducible rfl)
                  simp only [Act.put, List.setIfInBounds_toArray, List.set_cons_zero, List.set_cons_succ]
                  refine take_at (i := 21) (v := ?_) (some 176) rfl rfl (by kernel_rfl) (by kernel_rfl) (by kernel_rfl) (fun _ _ _ h => h) (Or.inl ⟨by rfl, ?_⟩) (by assumption) ?_
                  rotate_left
                  · (intro w hSw; (try dsimp only at hSw); go_simp; try with_reducible rfl)
                  simp only [Act.put, List.setIfInBounds_toArray, List.set_cons_zero, List.set_cons_succ]
                  refine wpAnyH_done (by kernel_rfl) ?_ _
                  refine NoPanic.normal ?_
                  have RR : Hid (endRel w5 S t (.int .i64 ((c0 : Int) + 1)) (.int .i64 ((i : Int) + 1)) w13) := end_torn hlt HC.out ET.out B6.out (B9.out.trans (((Below.refl _ w8).drew.trans H13.out.2).mono B9.out.size))
                  have cw : wrap64 ((c0 : Int) + 1) = (c0 : Int) + 1 := end_wrap HC.out
                  have cw' : IntKind.i64.wrap ((c0 : Int) + 1) = (c0 : Int) + 1 := end_wrap' HC.out
                  clear hr11 hr13 H11 H13 S11 S12 S13 hHeld R8 SS ET HC B6 B9 BB OZ LZ
                  go_wp2_with fail
                  go_roundw
                  case rel => exact RR.out
                  case measure => exact keep_less hlt
          · have i0 : ¬ (i : Int) < S := by omega
            have B9 : Hid (Below w.heap.size w wr) := B5.out.trans (hB6.mono B5.out.size)
            have c1 : (c0 : Int) ≤ 1 := by have := HC.out; split at this <;> omega
            have D6 : Hid (DiskAt wr d s m5 (D1.crash nk kp tear)) := D5.out.below hB6
            have LO : Hid (Calls Try.prog 18 #[.pointer (some ⟨d, 0, none⟩)] wr (LooPost wr [])) := loose_none D6.out
            clear hB6 hc0
            go_wp2_with fail
            refine LO.out.mono ?_
            rintro e w6 ⟨a6, c6, rfl, _, b6⟩
            have B6 : Hid (Below w.heap.size w w6) := B9.out.trans (b6.mono B9.out.size)
            clear b6
            go_wp2_with fail
            go_ret
            exact ⟨rfl, B6.out⟩
  · simp only [Act.put, List.setIfInBounds_toArray, List.set_cons_zero, List.set_cons_succ]
    refine step_at (i := 1) (some 62) rfl rfl (by rfl) (by kernel_rfl) (.slice (some ⟨MB, 0, none⟩) S S) W5 (make_run 26 _ _ rfl (.int .i64 (S : Int)) (.int .i64 (S : Int)) rfl rfl M2) trivial (fun hHeld => ?_)
    simp only [Act.put, List.setIfInBounds_toArray, List.set_cons_zero, List.set_cons_succ]
    refine take_at (i := 4) (v := ?_) (some 14) rfl rfl (by kernel_rfl) (by kernel_rfl) (by kernel_rfl) (fun _ _ _ h => h) (Or.inl ⟨by rfl, ?_⟩) (by assumption) ?_
    rotate_left
    · (intro w hSw; (try dsimp only at hSw); go_simp; try with_reducible rfl)
    simp only [Act.put, List.setIfInBounds_toArray, List.set_cons_zero, List.set_cons_succ]
    refine take_at (i := 5) (v := ?_) (some 15) rfl rfl (by kernel_rfl) (by kernel_rfl) (by kernel_rfl) (fun _ _ _ h => h) (Or.inl ⟨by rfl, ?_⟩) (by assumption) ?_
    rotate_left
    · (intro w hSw; (try dsimp only at hSw); go_simp; try with_reducible rfl)
    simp only [Act.put, List.setIfInBounds_toArray, List.set_cons_zero, List.set_cons_succ]
    refine wpAnyH_done (by kernel_rfl) ?_ _
    refine NoPanic.normal ?_
    have ST : Hid (kpRel w1 d s S MB n (some q) x (.slice (some ⟨MA, 0, none⟩) S S) (.int .i64 0) W5) := ⟨0, by omega, rfl, m, MA, S, { dsk0 S with out := false, fz := some q }, _, _, rfl, kp_init O3.out rfl (kinv0 S (some q)) ((Below.refl _ w3).drew.trans MF.out.2.2.2.2.2) MF.out.2.1 MF.out.1 MF.out.2.2.1 MF.out.2.2.2.2.1 MF.out.2.2.2.1⟩
    clear M1 M2 MF O3
    go_wp2_with fail
    go_loopw [15, 16] (fun o i wr => kpRel w1 d s S MB n (some q) x o i wr) (fun _ i _ => n - (RowKit.intOf i).toNat)
    case atStart => exact ST.out
    case round =>
      obtain ⟨k, hk, rfl, m1, OB1, cap1, D1, now1, old1, rfl, hK1⟩ := hrel
      clear ST
      have HK : Hid (Kp w1 wr d s m1 S MB OB1 D1 (some q) x k now1 old1) := hK1
      by_cases hlt : k < n
      · obtain ⟨b, off, ea, c0, c1, c2, vb, lb⟩ := (HA.out.below (B1.out.trans (hK1.one.bel.mono B1.out.size))) k hlt
        obtain ⟨r, hrv⟩ : ∃ r, pickV (A k) S = r := ⟨_, rfl⟩
        have hr : r < S := by rw [← hrv]; exact pickV_lt _ _ (by omega)
        have PK : Hid (∀ w, Calls Try.prog 27 #[.int .i64 (A k), .int .i64 (S : Int)] w fun e w' => e = .returned (.int .i64 (r : Int)) ∧ w' = w) := fun w => by have := pick_is (A k) S w (by omega) (by omega); rwa [hrv] at this
        have CC : Hid (∀ W', Below w1.heap.size w1 W' → W'.cell? ⟨b, off + k * 3 + 1, none⟩ = some (.int .u8 (V k)) ∧ W'.cell? ⟨b, off + k * 3 + 2, none⟩ = some (.bool (F k))) := fun W' hB => by
          obtain ⟨b', off', e', _, c1', c2', _⟩ := (HA.out.below (B1.out.trans (hB.mono B1.out.size))) k hlt
          rw [ea] at e'
          cases e'
          exact ⟨c1', c2'⟩
        have i0 : (k : Int) < n := by omega
        have i1 : (0 : Int) ≤ (k : Int) := by omega
        have k60 : k < 60 := by omega
        have VB : Hid (0 ≤ V k ∧ V k < 256) := vb
        subst ea
        clear hK1 hrv vb
        by_cases hF : F k = true
        · rw [hF] at c2
          go_wp2_with (go_at_call 27; refine (PK.out _).mono ?_; rintro e w4 ⟨rfl, h4⟩; rw [h4]; clear h4 w4)
          have HKK := HK
          refine (one_flush w1 _ d s m1 k D1 (some q) x HK.out.one k60).mono ?_
          rintro e w5 (⟨hg, rfl, m5, hm5, h5, hO5⟩ | ⟨hg, rfl, h5, hO5⟩)
          · obtain ⟨c3, c4⟩ := CC.out w5 h5.bel
            rw [hF] at c4
            have kx : ¬ x ≤ (k : Int) := by rcases hg with g | g <;> omega
            have CP : Hid (Calls Try.prog 28 #[.slice (some ⟨MB, 0, none⟩) S S] w5 fun e w' => ∃ g cap, e = .returned (.slice (some ⟨g, 0, none⟩) S cap) ∧ Kp w1 w' d s m5 S MB g D1.safe.more (some q) x (k + 1) now1 now1) := kp_copy hS1 hS HK.out.bn (HK.out.rn.off hO5 HK.out.an) (HK.out.flushed h5 hO5 hm5)
            clear h5 hO5 hm5 HK HKK c0 c1 c2
            go_wp2_with (go_at_call 28; refine CP.out.mono ?_; rintro e w6 ⟨g, cap, rfl, h6⟩; have K6 : Hid (Kp w1 w6 d s m5 S MB g D1.safe.more (some q) x (k + 1) now1 now1) := h6; clear h6 CP)
            go_roundw
            case rel => exact kp_next hlt K6.out
            case measure => exact keep_less hlt
          · have kx : x ≤ (k : Int) := by have g : ¬ (k : Int) < x := (fun q => hg (.inr q)); omega
            have RR : Hid (kpRel w1 d s S MB n (some q) x (.slice (some ⟨OB1, 0, none⟩) S cap1) (.int .i64 ((k : Int) + 1)) w5) := kp_next hlt (HKK.out.same h5 hO5)
            clear h5 hO5
            go_wp2_with fail
            go_roundw
            case rel => exact RR.out
            case measure => exact keep_less hlt
        · have hF' : F k = false := by simpa using hF
          rw [hF'] at c2
          go_wp2_with (go_at_call 27; refine (PK.out _).mono ?_; rintro e w4 ⟨rfl, h4⟩; rw [h4]; clear h4 w4)
          refine (sector_any (V k) _).mono ?_
          rintro e w4 ⟨rfl, o4, b4⟩
          have HKK : Hid (Kp w1 w4 d s m1 S MB OB1 D1 (some q) x k now1 old1) := HK.out.below b4
          have L4 : Hid (Lies w4 wr.heap.size 0 256 (fun _ => V k)) := o4.irow.lies (fun _ _ => VB.out)
          have E4 : Hid (wr.heap.size ∉ [d, s, m1]) := fun q => by have := HK.out.one.at'.lt _ q; omega
          have Q4 : Hid (∀ qq, (some q) = some qq → qq ≠ wr.heap.size) := fun qq e => by have := HK.out.one.lt qq (HK.out.one.ef.trans e); omega
          clear o4 b4 c0 c1 c2
          go_wp2_with fail
          refine (one_write w1 _ d s m1 r _ 0 _ k _ D1 (some q) x _ HKK.out.one rfl k60 L4.out (Nat.le_refl _) (by rw [HKK.out.hN]; exact hr) E4.out Q4.out).mono ?_
          rintro e w5 (⟨hg, rfl, m5, hm5, h5, hO5⟩ | ⟨hg, rfl, h5, hO5⟩)
          · obtain ⟨c3, c4⟩ := CC.out w5 h5.bel
            rw [hF'] at c4
            have kx : ¬ x ≤ (k : Int) := by rcases hg with g | g <;> omega
            have cn := (HKK.out.rn.off hO5 HKK.out.an).1 r hr
            have cf := (HKK.out.rn.off hO5 HKK.out.an).2.1 r
            have r0 : (0 : Int) ≤ (r : Int) := by omega
            have r1 : (r : Int) < S := by omega
            have RR : Hid (kpRel w1 d s S MB n (some q) x (.slice (some ⟨OB1, 0, none⟩) S cap1) (.int .i64 ((k : Int) + 1)) (w5.setCell ⟨MB, r, none⟩ (.int .u8 (V k)))) := kp_next hlt (HKK.out.written h5 hO5 hm5 VB.out)
            clear h5 hO5 hm5 HK HKK L4 E4 Q4
            go_wp2_with fail
            go_roundw
            case rel => exact RR.out
            case measure => exact keep_less hlt
          · have kx : x ≤ (k : Int) := by have g : ¬ (k : Int) < x := (fun q => hg (.inr q)); omega
            have RR : Hid (kpRel w1 d s S MB n (some q) x (.slice (some ⟨OB1, 0, none⟩) S cap1) (.int .i64 ((k : Int) + 1)) w5) := kp_next hlt (HKK.out.same h5 hO5)
            clear h5 hO5
            go_wp2_with fail
            go_roundw
            case rel => exact RR.out
            case measure => exact keep_less hlt
      · have i0 : ¬ (k : Int) < n := by omega
        obtain rfl : k = n := by omega
        clear hK1
        have BW : Hid (Below w.heap.size w wr) := B1.out.trans (HK.out.one.bel.mono B1.out.size)
        have KA : Hid (KArg wr p nk kp) := HKA.out.offw (bs := []) (Off.of BW.out) (fun _ _ _ => by simp)
        have KS : Hid (nk ≠ 0 → ∀ r, p = some r → r.block ≠ s) := karg_apart HKA.out B1.out.size (HK.out.one.ge s (by simp))
        go_wp2_with fail
        refine (crash_okw _ d s m1 nk Ck p D1 kp tear HK.out.one.at' KA.out KS.out).mono ?_
        rintro e w5 ⟨rfl, m5, hm5, d5, O5⟩
        obtain ⟨t, ht⟩ := HK.out.inv.crash nk kp tear
        rw [HK.out.hN] at ht
        have TT : Hid (∀ n, n < S → ReadIs (D1.crash nk kp tear) now1 old1 t n) := ht
        have D5 : Hid (DiskAt w5 d s m5 (D1.crash nk kp tear)) := d5
        have EN : Hid ((D1.crash nk kp tear).N = S) := HK.out.hN
        have O6 : Off ([d, s, m1] ++ ((some q) : Option Nat).toList) wr w5 := O5.mono (fun y hy => by simp at hy; rcases hy with g | g <;> simp [g])
        have N5 : Hid (IRow w5 MB .u8 S now1) := HK.out.rn.off O6 HK.out.an
        have R5 : Hid (Lies w5 OB1 0 S old1) := HK.out.ro.off O6 HK.out.ao
        have BN : Hid (∀ j, j < S → 0 ≤ now1 j ∧ now1 j < 256) := HK.out.bn
        have B5 : Hid (Below w.heap.size w w5) := BW.out.trans ((HK.out.one.off O6).mono B1.out.size)
        have ST : Hid (endRel w5 S t (.int .i64 0) (.int .i64 0) w5) := ⟨0, by omega, rfl, 0, rfl, by omega, Below.refl _ _⟩
        clear ht d5 O5 O6 HK KA KS BW hm5
        go_wp2_with fail
        go_loopw [19, 20] (fun c i wr2 => endRel w5 S t c i wr2) (fun _ i _ => S - (RowKit.intOf i).toNat)
        case atStart => exact ST.out
        case round =>
          obtain ⟨i, hi, rfl, c0, rfl, hc0, hB6⟩ := hrel
          clear ST
          have B6 : Hid (Below w5.heap.size w5 wr) := hB6
          have HC : Hid (c0 ≤ (if t < i then 1 else 0)) := hc0
          by_cases hlt : i < S
          · have cn : wr.cell? ⟨MB, i, none⟩ = some (.int .u8 (now1 i)) := (N5.out.below hB6).1 i hlt
            have co0 := (R5.out.below hB6).1 i hlt
            rw [Nat.zero_add] at co0
            have co : wr.cell? ⟨OB1, i, none⟩ = some (.int .u8 (old1 i)) := co0
            have nl : MB < wr.heap.size := Nat.lt_of_lt_of_le N5.out.2.2 hB6.size
            have ol : OB1 < wr.heap.size := Nat.lt_of_lt_of_le R5.out.2.2 hB6.size
            have vn : Hid (0 ≤ now1 i ∧ now1 i < 256) := BN.out i hlt
            have vo : Hid (0 ≤ old1 i ∧ old1 i < 256) := R5.out.2.1 i hlt
            have D6 : Hid (DiskAt wr d s m5 (D1.crash nk kp tear)) := D5.out.below hB6
            have ic : Hid (i < (D1.crash nk kp tear).N) := by show i < _; rw [EN.out]; exact hlt
            have i0 : (i : Int) < S := by omega
            have i1 : (0 : Int) ≤ (i : Int) := by omega
            clear co0 hB6 hc0
            go_wp2_with fail
            have A6 : Below wr.heap.size wr (wr.alloc (.cells #[.int .u8 (now1 i)] 5)) := (Below.refl _ _).alloc (Nat.le_refl _) _
            refine (reads_one _ d s m5 i wr.heap.size _ (D1.crash nk kp tear) 0 false _ (now1 i) (D6.out.below A6) rfl rfl ic.out rfl (lies_one wr (now1 i) vn.out)).mono ?_
            rintro e w6 ⟨y1, b6⟩
            have B7 : Hid (Below wr.heap.size wr w6) := A6.trans (b6.mono A6.size)
            clear b6 A6
            rcases y1 with ⟨rfl, _⟩ | ⟨rfl, y1⟩
            · have RR : Hid (endRel w5 S t (.int .i64 (c0 : Int)) (.int .i64 ((i : Int) + 1)) w6) := end_next hlt HC.out B6.out B7.out
              clear B7 B6 HC
              go_wp2_with fail
              go_roundw
              case rel => exact RR.out
              case measure => exact keep_less hlt
            · have Y1 : Hid (¬ ∀ j, j < 256 → (D1.crash nk kp tear).sec (i * 256 + j) = now1 i) := y1
              have co6 : w6.cell? ⟨OB1, i, none⟩ = some (.int .u8 (old1 i)) := (B7.out.cell (p := ⟨OB1, i, none⟩) ol).trans co
              clear y1
              go_wp2_with fail
              have A7 : Below w6.heap.size w6 (w6.alloc (.cells #[.int .u8 (old1 i)] 5)) := (Below.refl _ _).alloc (Nat.le_refl _) _
              refine (reads_one _ d s m5 i w6.heap.size _ (D1.crash nk kp tear) 0 false _ (old1 i) ((D6.out.below B7.out).below A7) rfl rfl ic.out rfl (lies_one w6 (old1 i) vo.out)).mono ?_
              rintro e w7 ⟨y2, b7⟩
              have B8 : Hid (Below wr.heap.size wr w7) := B7.out.trans ((A7.trans (b7.mono A7.size)).mono B7.out.size)
              clear b7 A7 B7 co6
              rcases y2 with ⟨rfl, _⟩ | ⟨rfl, y2⟩
              · have RR : Hid (endRel w5 S t (.int .i64 (c0 : Int)) (.int .i64 ((i : Int) + 1)) w7) := end_next hlt HC.out B6.out B8.out
                clear B8 B6 HC
                go_wp2_with fail
                go_roundw
                case rel => exact RR.out
                case measure => exact keep_less hlt
              · obtain ⟨et, eh⟩ := torn_of (TT.out i hlt) Y1.out y2
                have EH : Hid (∀ j, j < 256 → (D1.crash nk kp tear).sec (i * 256 + j) = if j < 128 then now1 i else old1 i) := eh
                have ET : Hid (i = t) := et
                clear eh et y2 Y1
                go_wp2_with fail
                refine (read_of _ d s m5 i 1 (D1.crash nk kp tear) 0 false (D6.out.below B8.out) rfl rfl ic.out _ _ rfl rfl).mono ?_
                rintro e w8 ⟨rfl, r8, b8⟩
                have R8 : Hid (Lies w8 w7.heap.size 0 256 (fun j => if j < 128 then now1 i else old1 i)) := (r8.congr (fun j hj => EH.out j hj)).lies (fun j _ => by split; (· exact vn.out); (· exact vo.out))
                have B9 : Hid (Below wr.heap.size wr w8) := B8.out.trans (b8.mono B8.out.size)
                clear r8 b8 EH B8
                go_wp2_with fail
                have SS : Hid (∀ X, Below wr.heap.size wr X → X.cell? ⟨MB, i, none⟩ = some (.int .u8 (now1 i)) ∧ X.cell? ⟨OB1, i, none⟩ = some (.int .u8 (old1 i))) := fun X hX => ⟨(hX.cell (p := ⟨MB, i, none⟩) nl).trans cn, (hX.cell (p := ⟨OB1, i, none⟩) ol).trans co⟩
                refine wp_region_noPanic ?_
                refine wp_region_held_drew (S := fun X => X.cell? ⟨MB, i, none⟩ = some (.int .u8 (now1 i)) ∧ X.cell? ⟨OB1, i, none⟩ = some (.int .u8 (old1 i))) (by kernel_rfl) ?_ (fun hHeld => ?_)
                · exact SS.out _ B9.out.drew
                refine take_at (i := 0) (v := ?_) (some 155) rfl rfl (by kernel_rfl) (by kernel_rfl) (by kernel_rfl) (fun _ _ _ h => h) (Or.inl ⟨by rfl, ?_⟩) (by assumption) ?_
                rotate_left
                · (intro w hSw; (try dsimp only at hSw); go_simp; try with_reducible rfl)
                simp only [Act.put, List.setIfInBounds_toArray, List.set_cons_zero, List.set_cons_succ]
                refine take_at (i := 1) (v := ?_) (some 156) rfl rfl (by kernel_rfl) (by kernel_rfl) (by kernel_rfl) (fun _ _ _ h => h) (Or.inl ⟨by rfl, ?_⟩) (by assumption) ?_
                rotate_left
                · (intro w hSw; (try dsimp only at hSw); go_simp; try with_reducible rfl)
                simp only [Act.put, List.setIfInBounds_toArray, List.set_cons_zero, List.set_cons_succ]
                refine take_at (i := 2) (v := ?_) (some 157) rfl rfl (by kernel_rfl) (by kernel_rfl) (by kernel_rfl) (fun _ _ _ h => h) (Or.inl ⟨by rfl, ?_⟩) (by assumption) ?_
                rotate_left
                · (intro w hSw; (try dsimp only at hSw); go_simp; try with_reducible rfl)
                simp only [Act.put, List.setIfInBounds_toArray, List.set_cons_zero, List.set_cons_succ]
                refine take_at (i := 3) (v := ?_) (some 158) rfl rfl (by kernel_rfl) (by kernel_rfl) (by kernel_rfl) (fun _ _ _ h => h) (Or.inl ⟨by rfl, ?_⟩) (by assumption) ?_
                rotate_left
                · (intro w hSw; (try dsimp only at hSw); go_simp; try with_reducible rfl)
                simp only [Act.put, List.setIfInBounds_toArray, List.set_cons_zero, List.set_cons_succ]
                refine take_at (i := 5) (v := ?_) (some 160) rfl rfl (by kernel_rfl) (by kernel_rfl) (by kernel_rfl) (fun _ _ _ h => h) (Or.inl ⟨by rfl, ?_⟩) (by assumption) ?_
                rotate_left
                · (intro w hSw; (try dsimp only at hSw); go_simp; try with_reducible rfl)
                simp only [Act.put, List.setIfInBounds_toArray, List.set_cons_zero, List.set_cons_succ]
                refine take_at (i := 6) (v := ?_) (some 161) rfl rfl (by kernel_rfl) (by kernel_rfl) (by kernel_rfl) (fun _ _ _ h => h) (Or.inl ⟨by rfl, ?_⟩) (by assumption) ?_
                rotate_left
                · (intro w hSw; (try dsimp only at hSw); go_simp; try with_reducible rfl)
                simp only [Act.put, List.setIfInBounds_toArray, List.set_cons_zero, List.set_cons_succ]
                refine take_at (i := 7) (v := ?_) (some 162) rfl rfl (by kernel_rfl) (by kernel_rfl) (by kernel_rfl) (fun _ _ _ h => h) (Or.inl ⟨by rfl, ?_⟩) (by assumption) ?_
                rotate_left
                · (intro w hSw; (try dsimp only at hSw); go_simp; try with_reducible rfl)
                simp only [Act.put, List.setIfInBounds_toArray, List.set_cons_zero, List.set_cons_succ]
                refine take_at (i := 8) (v := ?_) (some 163) rfl rfl (by kernel_rfl) (by kernel_rfl) (by kernel_rfl) (fun _ _ _ h => h) (Or.inl ⟨by rfl, ?_⟩) (by assumption) ?_
                rotate_left
                · (intro w hSw; (try dsimp only at hSw); go_simp; try with_reducible rfl)
                simp only [Act.put, List.setIfInBounds_toArray, List.set_cons_zero, List.set_cons_succ]
                refine take_at (i := 12) (v := ?_) (some 167) rfl rfl (by kernel_rfl) (by kernel_rfl) (by kernel_rfl) (fun _ _ _ h => h) (Or.inl ⟨by rfl, ?_⟩) (by assumption) ?_
                rotate_left
                · (intro w hSw; (try dsimp only at hSw); go_simp; try with_reducible rfl)
                simp only [Act.put, List.setIfInBounds_toArray, List.set_cons_zero, List.set_cons_succ]
                refine take_at (i := 13) (v := ?_) (some 168) rfl rfl (by kernel_rfl) (by kernel_rfl) (by kernel_rfl) (fun _ _ _ h => h) (Or.inl ⟨by rfl, ?_⟩) (by assumption) ?_
                rotate_left
                · (intro w hSw; (try dsimp only at hSw); go_simp; try with_reducible rfl)
                simp only [Act.put, List.setIfInBounds_toArray, List.set_cons_zero, List.set_cons_succ]
                refine take_at (i := 14) (v := ?_) (some 169) rfl rfl (by kernel_rfl) (by kernel_rfl) (by kernel_rfl) (fun _ _ _ h => h) (Or.inl ⟨by rfl, ?_⟩) (by assumption) ?_
                rotate_left
                · (intro w hSw; (try dsimp only at hSw); go_simp; try with_reducible rfl)
                simp only [Act.put, List.setIfInBounds_toArray, List.set_cons_zero, List.set_cons_succ]
                refine take_at (i := 15) (v := ?_) (some 170) rfl rfl (by kernel_rfl) (by kernel_rfl) (by kernel_rfl) (fun _ _ _ h => h) (Or.inl ⟨by rfl, ?_⟩) (by assumption) ?_
                rotate_left
                · (intro w hSw; (try dsimp only at hSw); go_simp; try with_reducible rfl)
                simp only [Act.put, List.setIfInBounds_toArray, List.set_cons_zero, List.set_cons_succ]
                have C8 : Below w8.drew.heap.size w8.drew (w8.drew.alloc (.cells #[] 5)) := (Below.refl _ _).alloc (Nat.le_refl _) _
                refine either_call (i := 4) (j := 9) (some 159) (some 164) 24 _ _ rfl rfl rfl rfl rfl (by rfl) (by rfl) (by kernel_rfl) _ _ (bslice_run rfl) (SS.out _ (B9.out.drew.trans (C8.mono B9.out.size))) (fun hHeld => ?_) #[.int .u8 (now1 i)] rfl Try.func24 (by kernel_rfl) (by kernel_rfl) ?_
                · simp only [Act.put, List.setIfInBounds_toArray, List.set_cons_zero, List.set_cons_succ]
                  refine call_at (i := 9) (some 164) 24 _ _ rfl rfl rfl (by rfl) (by kernel_rfl) #[.int .u8 (now1 i)] rfl Try.func24 (by kernel_rfl) (by kernel_rfl) ?_
                  refine (sector_any (now1 i) _).mono ?_
                  rintro e w10 ⟨rfl, o10, b10⟩
                  have BB : Hid (Below w8.drew.heap.size w8.drew w10) := C8.trans (b10.mono C8.size)
                  have OZ : Hid (Own w10 w8.drew.heap.size (.slice (some ⟨w8.drew.heap.size, 0, none⟩) 0 0) 0 (fun _ => 0)) := (Own.lit w8.drew w8.drew.heap.size 0 (fun _ => 0) (Nat.le_refl _) (by omega)).below b10
                  have LZ : Hid (Lies w10 (w8.heap.size + 1) 0 256 (fun _ => now1 i)) := by
                    have := o10.irow.lies (fun _ _ => vn.out)
                    rwa [show (w8.drew.alloc (.cells #[] 5)).heap.size = w8.heap.size + 1 by simp] at this
                  have S10 := SS.out w10 (B9.out.drew.trans (BB.out.mono B9.out.size))
                  clear o10 b10
                  refine ⟨_, rfl, S10, fun hHeld => ?_⟩
                  simp only [Act.put, List.setIfInBounds_toArray, List.set_cons_zero, List.set_cons_succ]
                  refine take_at (i := 10) (v := ?_) (some 165) rfl rfl (by kernel_rfl) (by kernel_rfl) (by kernel_rfl) (fun _ _ _ h => h) (Or.inl ⟨by rfl, ?_⟩) (by assumption) ?_
                  rotate_left
                  · (intro w hSw; (try dsimp only at hSw); go_simp; try with_reducible rfl)
                  simp only [Act.put, List.setIfInBounds_toArray, List.set_cons_zero, List.set_cons_succ]
                  obtain ⟨u11, w11, hr11, H11⟩ := halfA w8.drew w10 w8.drew.heap.size (w8.heap.size + 1) (now1 i) vn.out BB.out OZ.out LZ.out
                  have S11 := SS.out w11 (B9.out.drew.trans (H11.out.2.mono B9.out.size))
                  refine step_at (i := 11) (some 166) rfl rfl (by rfl) (by kernel_rfl) u11 w11 (append_run _ _ 26 26 rfl (.slice (some ⟨w8.drew.heap.size, 0, none⟩) 0 0) (.slice (some ⟨(w8.heap.size + 1), 0, none⟩) 128 256) rfl rfl hr11) S11 (fun hHeld => ?_)
                  simp only [Act.put, List.setIfInBounds_toArray, List.set_cons_zero, List.set_cons_succ]
                  refine call_at (i := 16) (some 171) 24 _ _ rfl rfl rfl (by rfl) (by kernel_rfl) #[.int .u8 (old1 i)] rfl Try.func24 (by kernel_rfl) (by kernel_rfl) ?_
                  refine (sector_any (old1 i) _).mono ?_
                  rintro e w12 ⟨rfl, o12, b12⟩
                  obtain ⟨g13, cap13, w13, hr13, H13⟩ := halfB w8.drew w11 w12 u11 (now1 i) (old1 i) vn.out vo.out H11.out.1 H11.out.2 ⟨rfl, o12, b12⟩
                  have S12 := SS.out w12 (B9.out.drew.trans ((H11.out.2.trans (b12.mono H11.out.2.size)).mono B9.out.size))
                  have S13 := SS.out w13 (B9.out.drew.trans (H13.out.2.mono B9.out.size))
                  clear o12 b12
                  refine ⟨_, rfl, S12, fun hHeld => ?_⟩
                  simp only [Act.put, List.setIfInBounds_toArray, List.set_cons_zero, List.set_cons_succ]
                  refine take_at (i := 17) (v := ?_) (some 172) rfl rfl (by kernel_rfl) (by kernel_rfl) (by kernel_rfl) (fun _ _ _ h => h) (Or.inl ⟨by rfl, ?_⟩) (by assumption) ?_
                  rotate_left
                  · (intro w hSw; (try dsimp only at hSw); go_simp; try with_reducible rfl)
                  simp only [Act.put, List.setIfInBounds_toArray, List.set_cons_zero, List.set_cons_succ]
                  refine step_at (i := 18) (some 173) rfl rfl (by rfl) (by kernel_rfl) (.slice (some ⟨g13, 0, none⟩) 256 cap13) w13 (append_run _ _ 26 26 rfl u11 (.slice (some ⟨w11.heap.size, 128, none⟩) 128 128) rfl rfl hr13) S13 (fun hHeld => ?_)
                  simp only [Act.put, List.setIfInBounds_toArray, List.set_cons_zero, List.set_cons_succ]
                  refine call_at (i := 19) (some 174) 25 _ _ rfl rfl rfl (by rfl) (by kernel_rfl) #[.slice (some ⟨w7.heap.size, 0, none⟩) 256 256, .slice (some ⟨g13, 0, none⟩) 256 cap13] rfl Try.func25 (by kernel_rfl) (by kernel_rfl) ?_
                  refine (same_any _ _ _ _ _ _ (fun j => if j < 128 then now1 i else old1 i) (fun j => if j < 128 then now1 i else old1 i) _ (Arg.of (R8.out.below ((Below.refl _ w8).drew.trans H13.out.2))) (Arg.of H13.out.1)).mono ?_
                  rintro e w14 ⟨rfl, h14⟩
                  rw [h14, decide_eq_true rfl]
                  clear h14 w14
                  refine ⟨_, rfl, S13, fun hHeld => ?_⟩
                  simp only [Act.put, List.setIfInBounds_toArray, List.set_cons_zero, List.set_cons_succ]
                  refine take_at (i := 20) (v := ?_) (some 175) rfl rfl (by kernel_rfl) (by kernel_rfl) (by kernel_rfl) (fun _ _ _ h => h) (Or.inl ⟨by rfl, ?_⟩) (by assumption) ?_
                  rotate_left
                  · (intro w hSw; (try dsimp only at hSw); go_simp; try with_reducible rfl)
                  simp only [Act.put, List.setIfInBounds_toArray, List.set_cons_zero, List.set_cons_succ]
                  refine take_at (i := 21) (v := ?_) (some 176) rfl rfl (by kernel_rfl) (by kernel_rfl) (by kernel_rfl) (fun _ _ _ h => h) (Or.inl ⟨by rfl, ?_⟩) (by assumption) ?_
                  rotate_left
                  · (intro w hSw; (try dsimp only at hSw); go_simp; try with_reducible rfl)
                  simp only [Act.put, List.setIfInBounds_toArray, List.set_cons_zero, List.set_cons_succ]
                  refine wpAnyH_done (by kernel_rfl) ?_ _
                  refine NoPanic.normal ?_
                  have RR : Hid (endRel w5 S t (.int .i64 ((c0 : Int) + 1)) (.int .i64 ((i : Int) + 1)) w13) := end_torn hlt HC.out ET.out B6.out (B9.out.trans (((Below.refl _ w8).drew.trans H13.out.2).mono B9.out.size))
                  have cw : wrap64 ((c0 : Int) + 1) = (c0 : Int) + 1 := end_wrap HC.out
                  have cw' : IntKind.i64.wrap ((c0 : Int) + 1) = (c0 : Int) + 1 := end_wrap' HC.out
                  clear hr11 hr13 H11 H13 S11 S12 S13 hHeld R8 SS ET HC B6 B9 BB OZ LZ
                  go_wp2_with fail
                  go_roundw
                  case rel => exact RR.out
                  case measure => exact keep_less hlt
                · refine (sector_any (now1 i) _).mono ?_
                  rintro e w9 ⟨rfl, o9, b9⟩
                  have S9 := SS.out w9 (B9.out.drew.trans (b9.mono B9.out.size))
                  refine ⟨_, rfl, S9, fun hHeld => ?_⟩
                  simp only [Act.put, List.setIfInBounds_toArray, List.set_cons_zero, List.set_cons_succ]
                  have C9 : Below w9.heap.size w9 (w9.alloc (.cells #[] 5)) := (Below.refl _ _).alloc (Nat.le_refl _) _
                  have BB : Hid (Below w8.drew.heap.size w8.drew (w9.alloc (.cells #[] 5))) := b9.trans (C9.mono b9.size)
                  have OZ : Hid (Own (w9.alloc (.cells #[] 5)) w8.drew.heap.size (.slice (some ⟨w9.heap.size, 0, none⟩) 0 0) 0 (fun _ => 0)) := Own.lit w9 w8.drew.heap.size 0 (fun _ => 0) b9.size (by omega)
                  have LZ : Hid (Lies (w9.alloc (.cells #[] 5)) w8.drew.heap.size 0 256 (fun _ => now1 i)) := (o9.irow.lies (fun _ _ => vn.out)).below C9
                  have S10 := SS.out _ (B9.out.drew.trans (BB.out.mono B9.out.size))
                  clear o9 b9
                  refine take_at (i := 10) (v := ?_) (some 165) rfl rfl (by kernel_rfl) (by kernel_rfl) (by kernel_rfl) (fun _ _ _ h => h) (Or.inl ⟨by rfl, ?_⟩) (by assumption) ?_
                  rotate_left
                  · (intro w hSw; (try dsimp only at hSw); go_simp; try with_reducible rfl)
                  simp only [Act.put, List.setIfInBounds_toArray, List.set_cons_zero, List.set_cons_succ]
                  refine step_at (i := 4) (some 159) rfl rfl (by rfl) (by kernel_rfl) _ _ (bslice_run rfl) S10 (fun hHeld => ?_)
                  simp only [Act.put, List.setIfInBounds_toArray, List.set_cons_zero, List.set_cons_succ]
                  obtain ⟨u11, w11, hr11, H11⟩ := halfA w8.drew (w9.alloc (.cells #[] 5)) w9.heap.size w8.drew.heap.size (now1 i) vn.out BB.out OZ.out LZ.out
                  have S11 := SS.out w11 (B9.out.drew.trans (H11.out.2.mono B9.out.size))
                  refine step_at (i := 11) (some 166) rfl rfl (by rfl) (by kernel_rfl) u11 w11 (append_run _ _ 26 26 rfl (.slice (some ⟨w9.heap.size, 0, none⟩) 0 0) (.slice (some ⟨w8.drew.heap.size, 0, none⟩) 128 256) rfl rfl hr11) S11 (fun hHeld => ?_)
                  simp only [Act.put, List.setIfInBounds_toArray, List.set_cons_zero, List.set_cons_succ]
                  refine call_at (i := 16) (some 171) 24 _ _ rfl rfl rfl (by rfl) (by kernel_rfl) #[.int .u8 (old1 i)] rfl Try.func24 (by kernel_rfl) (by kernel_rfl) ?_
                  refine (sector_any (old1 i) _).mono ?_
                  rintro e w12 ⟨rfl, o12, b12⟩
                  obtain ⟨g13, cap13, w13, hr13, H13⟩ := halfB w8.drew w11 w12 u11 (now1 i) (old1 i) vn.out vo.out H11.out.1 H11.out.2 ⟨rfl, o12, b12⟩
                  have S12 := SS.out w12 (B9.out.drew.trans ((H11.out.2.trans (b12.mono H11.out.2.size)).mono B9.out.size))
                  have S13 := SS.out w13 (B9.out.drew.trans (H13.out.2.mono B9.out.size))
                  clear o12 b12
                  refine ⟨_, rfl, S12, fun hHeld => ?_⟩
                  simp only [Act.put, List.setIfInBounds_toArray, List.set_cons_zero, List.set_cons_succ]
                  refine take_at (i := 17) (v := ?_) (some 172) rfl rfl (by kernel_rfl) (by kernel_rfl) (by kernel_rfl) (fun _ _ _ h => h) (Or.inl ⟨by rfl, ?_⟩) (by assumption) ?_
                  rotate_left
                  · (intro w hSw; (try dsimp only at hSw); go_simp; try with_reducible rfl)
                  simp only [Act.put, List.setIfInBounds_toArray, List.set_cons_zero, List.set_cons_succ]
                  refine step_at (i := 18) (some 173) rfl rfl (by rfl) (by kernel_rfl) (.slice (some ⟨g13, 0, none⟩) 256 cap13) w13 (append_run _ _ 26 26 rfl u11 (.slice (some ⟨w11.heap.size, 128, none⟩) 128 128) rfl rfl hr13) S13 (fun hHeld => ?_)
                  simp only [Act.put, List.setIfInBounds_toArray, List.set_cons_zero, List.set_cons_succ]
                  refine call_at (i := 19) (some 174) 25 _ _ rfl rfl rfl (by rfl) (by kernel_rfl) #[.slice (some ⟨w7.heap.size, 0, none⟩) 256 256, .slice (some ⟨g13, 0, none⟩) 256 cap13] rfl Try.func25 (by kernel_rfl) (by kernel_rfl) ?_
                  refine (same_any _ _ _ _ _ _ (fun j => if j < 128 then now1 i else old1 i) (fun j => if j < 128 then now1 i else old1 i) _ (Arg.of (R8.out.below ((Below.refl _ w8).drew.trans H13.out.2))) (Arg.of H13.out.1)).mono ?_
                  rintro e w14 ⟨rfl, h14⟩
                  rw [h14, decide_eq_true rfl]
                  clear h14 w14
                  refine ⟨_, rfl, S13, fun hHeld => ?_⟩
                  simp only [Act.put, List.setIfInBounds_toArray, List.set_cons_zero, List.set_cons_succ]
                  refine take_at (i := 20) (v := ?_) (some 175) rfl rfl (by kernel_rfl) (by kernel_rfl) (by kernel_rfl) (fun _ _ _ h => h) (Or.inl ⟨by rfl, ?_⟩) (by assumption) ?_
                  rotate_left
                  · (intro w hSw; (try dsimp only at hSw); go_simp; try with_reducible rfl)
                  simp only [Act.put, List.setIfInBounds_toArray, List.set_cons_zero, List.set_cons_succ]
                  refine take_at (i := 21) (v := ?_) (some 176) rfl rfl (by kernel_rfl) (by kernel_rfl) (by kernel_rfl) (fun _ _ _ h => h) (Or.inl ⟨by rfl, ?_⟩) (by assumption) ?_
                  rotate_left
                  · (intro w hSw; (try dsimp only at hSw); go_simp; try with_reducible rfl)
                  simp only [Act.put, List.setIfInBounds_toArray, List.set_cons_zero, List.set_cons_succ]
                  refine wpAnyH_done (by kernel_rfl) ?_ _
                  refine NoPanic.normal ?_
                  have RR : Hid (endRel w5 S t (.int .i64 ((c0 : Int) + 1)) (.int .i64 ((i : Int) + 1)) w13) := end_torn hlt HC.out ET.out B6.out (B9.out.trans (((Below.refl _ w8).drew.trans H13.out.2).mono B9.out.size))
                  have cw : wrap64 ((c0 : Int) + 1) = (c0 : Int) + 1 := end_wrap HC.out
                  have cw' : IntKind.i64.wrap ((c0 : Int) + 1) = (c0 : Int) + 1 := end_wrap' HC.out
                  clear hr11 hr13 H11 H13 S11 S12 S13 hHeld R8 SS ET HC B6 B9 BB OZ LZ
                  go_wp2_with fail
                  go_roundw
                  case rel => exact RR.out
                  case measure => exact keep_less hlt
          · have i0 : ¬ (i : Int) < S := by omega
            have B9 : Hid (Below w.heap.size w wr) := B5.out.trans (hB6.mono B5.out.size)
            have c1 : (c0 : Int) ≤ 1 := by have := HC.out; split at this <;> omega
            have D6 : Hid (DiskAt wr d s m5 (D1.crash nk kp tear)) := D5.out.below hB6
            have LO : Hid (Calls Try.prog 18 #[.pointer (some ⟨d, 0, none⟩)] wr (LooPost wr [])) := loose_none D6.out
            clear hB6 hc0
            go_wp2_with fail
            refine LO.out.mono ?_
            rintro e w6 ⟨a6, c6, rfl, _, b6⟩
            have B6 : Hid (Below w.heap.size w w6) := B9.out.trans (b6.mono B9.out.size)
            clear b6
            go_wp2_with fail
            go_ret
            exact ⟨rfl, B6.out⟩
end Go.Proofs.Ytoehbljnapdbgaa
