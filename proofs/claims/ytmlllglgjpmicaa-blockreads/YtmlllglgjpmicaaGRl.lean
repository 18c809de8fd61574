/-
  Walks, not a claim by itself: BlockReads. By the verifier.
-/
import Derived.Test.YtmlllglgjpmicaaGRr
import Derived.Test.YtmlllglgjpmicaaGAwk
import Derived.Test.YtmlllglgjpmicaaBLent
import Derived.Test.YtmlllglgjpmicaaNGate
namespace Go.Proofs.Ytmlllglgjpmicaa
open Go.RowKit
/-- What the program's Read answers. -/
def PrP (u : World) (s : Blk) (c : Int) (e : Ending) (w' : World) : Prop := ∃ a1 C1 ax, e = .returned (.tuple #[blkV s a1 C1 ax s.n, .int .i64 c]) ∧ BlkAt w' s a1 C1 ax s.n ∧ Lst.ok u.heap.size w' ⟨ax, s.n, s.n⟩ s.F ∧ (∀ p, ax = some p → u.heap.size ≤ p.block ∧ p.block < w'.heap.size) ∧ Below u.heap.size u w'
/-- What the reference's answers. -/
def RrP (u : World) (s : Blk) (c : Int) (e : Ending) (w' : World) : Prop := ∃ a2 C2 b2 D2, e = .returned (.tuple #[blkV s a2 C2 b2 D2, .int .i64 c]) ∧ BlkAt w' s a2 C2 b2 D2 ∧ Below u.heap.size u w'
theorem lst_lo {B B' : Nat} {w : World} {L : Lst} {F : Nat → Int} (h : L.ok B w F) (hB : B' ≤ B) : L.ok B' w F := by
  obtain ⟨h1, h2, h3, h4⟩ := h
  refine ⟨h1, h2, h3, ?_⟩
  rcases h4 with q | ⟨g, e, hg, r⟩
  · exact .inl q
  · exact .inr ⟨g, e, by omega, r⟩
set_option maxRecDepth 100000 in
set_option maxHeartbeats 2000000 in
theorem reads_long (a : Option Addr) (n C : Nat) (w : World) (i1 : (2000 : Int) < (n : Int)) :
    Calls Try.prog 4 #[.slice a n C] w fun e w' => e = .returned (.bool true) ∧ Below w.heap.size w w' := by
  go_enter Try.func4, Try.ntmps4
  go_wp2_with fail
  go_ret
  exact ⟨rfl, Below.refl _ _⟩
set_option maxRecDepth 100000 in
set_option maxHeartbeats 2000000 in
theorem reads_main (a : Option Addr) (n C : Nat) (f : Nat → Int) (w : World) (hA : Arg w a n f) (hn : n ≤ 2000) (s : Blk) (c : Int) (hk : s.k ≤ 1000)
    (pr : ∀ u g, Arg u (some ⟨g, 0, none⟩) n f → Calls Try.prog 19 #[.slice (some ⟨g, 0, none⟩) n (n + 3)] u (PrP u s c)) (rr : ∀ u, Below w.heap.size w u → Calls Try.prog 20 #[.slice a n C] u (RrP u s c)) :
    Calls Try.prog 4 #[.slice a n C] w fun e w' => e = .returned (.bool true) ∧ Below w.heap.size w w' := by
  have HA := hidIt hA
  have PR := hidIt pr
  have RY := hidIt rr
  have i1 : ¬ (2000 : Int) < (n : Int) := by omega
  have cc : (c == c) = true := by simp
  clear hA pr rr
  go_enter Try.func4, Try.ntmps4
  go_wp2_with (first
    | (go_at_call 9; refine (lent_any a n C f _ HA.out (by omega)).mono ?_; rintro e w1 ⟨g, rfl, hg, hR1, hB1⟩; have L1 := hidIt hR1; have GG := hidIt hg; have E1 := hidIt hB1; clear hg hR1 hB1)
    | (go_at_call 19; refine (PR.out _ g (Arg.of ⟨fun j hj => by rw [Nat.zero_add, L1.out.1 j (by omega), lentF_low _ _ _ _ hj], HA.out.bytes, L1.out.2.2⟩)).mono ?_; rintro e w2 ⟨a1, C1, ax, rfl, hA2, hL2, hx2, hB2⟩; unfold blkV
       have L2 := hidIt (L1.out.below hB2)
       have A2 := hidIt hA2
       have X2 := hidIt hL2
       have N2 : Hid (∀ p, ax = some p → g < p.block ∧ p.block < w2.heap.size) := fun p hp => ⟨Nat.lt_of_lt_of_le L1.out.2.2 (hx2 p hp).1, (hx2 p hp).2⟩
       have E2 := hidIt (below_sh (Nat.le_refl _) E1.out hB2)
       clear hA2 hL2 hx2 hB2 L1)
    | (refine wpList_alloc_rec rfl 27 rfl (blkC blk0 none 0 none 0) w2.heap.size rfl zero_blk ?_; intro W3 R3 B3 z3)
    | (refine wpList_store_rec rfl 27 (.tmp 4) (.tmp 16) rfl w2.heap.size 0 _ (blkC s a1 C1 ax s.n) rfl rfl R3 rfl (by kernel_rfl) (blkC_one _ _ _ _ _) ?_; intro W4 R4 B4
       have BX : Below w2.heap.size w2 W4 := B3.trans (B4.below (Nat.le_refl _) B3.size)
       have L4 := hidIt (L2.out.below BX)
       have A4 := hidIt (A2.out.below BX)
       have X4 := hidIt (X2.out.below BX)
       have N4 : Hid (∀ p, ax = some p → g < p.block ∧ p.block < W4.heap.size) := fun p hp => ⟨(N2.out p hp).1, Nat.lt_of_lt_of_le (N2.out p hp).2 BX.size⟩
       have E4 := hidIt (below_sh (Nat.le_refl _) E2.out BX)
       have Y4 := hidIt R4
       clear R3 B3 z3 R4 B4 BX L2 A2 X2 N2 E2)
    | (go_at_call 20; refine (RY.out _ E4.out).mono ?_; rintro e w5 ⟨a2, C2, b2, D2, rfl, hA5, hB5⟩; unfold blkV
       have L5 := hidIt (L4.out.below hB5)
       have A5 := hidIt (A4.out.below hB5)
       have X5 := hidIt (X4.out.below hB5)
       have N5 : Hid (∀ p, ax = some p → g < p.block ∧ p.block < w5.heap.size) := fun p hp => ⟨(N4.out p hp).1, Nat.lt_of_lt_of_le (N4.out p hp).2 hB5.size⟩
       have E5 := hidIt (below_sh (Nat.le_refl _) E4.out hB5)
       have Y5 := hidIt (Y4.out.below hB5)
       have D5 := hidIt hA5
       clear hA5 hB5 L4 A4 X4 N4 E4 Y4)
    | (refine wpList_alloc_rec rfl 27 rfl (blkC blk0 none 0 none 0) w5.heap.size rfl zero_blk ?_; intro W6 R6 B6 z6)
    | (refine wpList_store_rec rfl 27 (.tmp 6) (.tmp 21) rfl w5.heap.size 0 _ (blkC s a2 C2 b2 D2) rfl rfl R6 rfl (by kernel_rfl) (blkC_one _ _ _ _ _) ?_; intro W7 R7 B7
       have BX : Below w5.heap.size w5 W7 := B6.trans (B7.below (Nat.le_refl _) B6.size)
       have L7 := hidIt (L5.out.below BX)
       have A7 := hidIt (A5.out.below BX)
       have X7 := hidIt (X5.out.below BX)
       have N7 : Hid (∀ p, ax = some p → g < p.block ∧ p.block < W7.heap.size) := fun p hp => ⟨(N5.out p hp).1, Nat.lt_of_lt_of_le (N5.out p hp).2 BX.size⟩
       have E7 := hidIt (below_sh (Nat.le_refl _) E5.out BX)
       have Y7 := hidIt (Y5.out.below BX)
       have D7 := hidIt (D5.out.below BX)
       have Z7 := hidIt R7
       clear R6 B6 z6 R7 B7 BX L5 A5 X5 N5 E5 Y5 D5)
    | (refine wpList_load_rec rfl 27 (.tmp 4) rfl w2.heap.size 0 (blkC s a1 C1 ax s.n) rfl _ Try.underlying27 rfl (by kernel_rfl) Y7.out ?_)
    | (refine wpList_load_rec rfl 27 (.tmp 6) rfl w5.heap.size 0 (blkC s a2 C2 b2 D2) rfl _ Try.underlying27 rfl (by kernel_rfl) Z7.out ?_)
    | (go_at_call 21; refine (blk_self s a1 a2 ax b2 C1 C2 s.n D2 _ A7.out D7.out hk).mono ?_; rintro e w8 ⟨rfl, hB⟩
       have L8 := hidIt (L7.out.below hB)
       have X8 := hidIt (X7.out.below hB)
       have N8 : Hid (∀ p, ax = some p → g < p.block ∧ p.block < w8.heap.size) := fun p hp => ⟨(N7.out p hp).1, Nat.lt_of_lt_of_le (N7.out p hp).2 hB.size⟩
       have E8 := hidIt (below_sh (Nat.le_refl _) E7.out hB)
       have Y8 := hidIt (Y7.out.below hB)
       clear hB L7 A7 X7 N7 E7 Y7 D7 Z7)
    | (go_at_call 15; refine (kept_any g a n C f _ (HA.out.below E8.out) (by omega) L8.out).mono ?_; rintro e w9 ⟨rfl, hB⟩
       have L9 := hidIt (L8.out.below hB)
       have X9 := hidIt (X8.out.below hB)
       have N9 : Hid (∀ p, ax = some p → g < p.block ∧ p.block < w9.heap.size) := fun p hp => ⟨(N8.out p hp).1, Nat.lt_of_lt_of_le (N8.out p hp).2 hB.size⟩
       have E9 := hidIt (below_sh (Nat.le_refl _) E8.out hB)
       have c4 := (Y8.out.below hB).1 4 _ rfl
       simp only [Nat.zero_add] at c4
       have AP : Hid (Calls Try.prog 17 #[.slice (some ⟨w9.heap.size, 0, none⟩) 2 2] (w9.alloc (.cells #[.slice ax s.n s.n, .slice (some ⟨g, 0, none⟩) n (n + 3)] 25)) fun e w' => e = .returned (.bool true) ∧ Below w.heap.size w9 w') := two_apart w.heap.size w9 ⟨ax, s.n, s.n⟩ ⟨some ⟨g, 0, none⟩, n, n + 3⟩ s.F (lentF n f 3) (lst_lo X9.out E1.out.size) ⟨by show n ≤ n + 3; omega, by show n + 3 ≤ 1000000; omega, fun j _ => lentF_byte n f 3 HA.out.bytes j, .inr ⟨g, rfl, GG.out, L9.out⟩⟩ E9.out.size (fun p hp => (N9.out p hp).2) (fun p hp => by injection hp with hp; subst hp; exact L9.out.2.2) (fun p q hp hq => by injection hq with hq; subst hq; have := (N9.out p hp).1; show p.block ≠ g; omega)
       clear hB L8 X8 N8 E8 Y8)
    | (go_at_call 17; refine AP.out.mono ?_; rintro e w13 ⟨rfl, hB13⟩; have E13 := hidIt (E9.out.trans hB13); clear hB13)
    | (go_at_call 18; refine (awake_ok _).mono ?_; rintro e w14 ⟨rfl, hB14⟩; have E14 := hidIt (below_sh (Nat.le_refl _) E13.out hB14); clear hB14))
  go_ret
  exact ⟨rfl, E14.out⟩
theorem blk0_at (w : World) : BlkAt w blk0 none 0 none 0 := ⟨.inl rfl, Nat.le_refl _, .inl ⟨rfl, .inl rfl⟩, Nat.le_refl _⟩
theorem pr_no {u w' : World} {c : Int} {e : Ending} (h : RdNo u c e w') : PrP u blk0 c e w' := by
  obtain ⟨rfl, hB⟩ := h
  exact ⟨none, 0, none, rfl, blk0_at _, ⟨Nat.le_refl _, by show 0 ≤ 1000000; omega, fun j hj => by have : j < 0 := hj; omega, .inl ⟨rfl, rfl⟩⟩, fun p hp => (by cases hp), hB⟩
theorem rr_no {u w' : World} {c : Int} {e : Ending} (h : e = .returned (.tuple #[blkV blk0 none 0 none 0, .int .i64 c]) ∧ Below u.heap.size u w') : RrP u blk0 c e w' := ⟨none, 0, none, 0, h.1, blk0_at _, h.2⟩
theorem rread_open (b off C : Nat) (F : Nat → Int) (w : World) (hL : Lies w b off 1024 F) (hC : 1024 ≤ C) (ho : opens 1024 F = true) : Calls Try.prog 20 #[.slice (some ⟨b, off, none⟩) 1024 C] w (RdQ w F) := by
  have b3 := rdN_bound (behO F) 3 (fun j hj => hL.2.1 _ (by omega))
  have b4 := rdN_bound (behO F) 4 (fun j hj => hL.2.1 _ (by omega))
  by_cases h3 : 16 < rdN (behO F) 3
  · exact rread_sz1 b off C F w hL hC ho _ _ rfl rfl h3
  by_cases h4 : 860 < rdN (behO F) 4
  · exact rread_sz2 b off C F w hL hC ho _ _ rfl rfl h3 h4
  exact rread_main b off C F w hL hC ho (rdN (behO F) 3).toNat (rdN (behO F) 4).toNat (by omega) (by omega) (by omega) (by omega)
theorem reads_any (a : Option Addr) (n C : Nat) (f : Nat → Int) (w : World) (hA : Arg w a n f) (hC : n ≤ C) :
    Calls Try.prog 4 #[.slice a n C] w fun e w' => e = .returned (.bool true) ∧ Below w.heap.size w w' := by
  by_cases h1 : 2000 < n
  · exact reads_long a n C w (by omega)
  by_cases hw : n = 1024 ∧ Whole f
  · obtain ⟨rfl, hw⟩ := hw
    obtain ⟨b, off, rfl, hl⟩ : ∃ b off, a = some ⟨b, off, none⟩ ∧ Lies w b off 1024 f := by
      rcases hA with ⟨h, _⟩ | ⟨_, b, off, e, hl⟩
      · omega
      · exact ⟨b, off, e, hl⟩
    refine reads_main _ 1024 C f w hA (by omega) (blkOf (behO f)) 0 (by have := hw.2.2.2.2.1; omega) (fun u g h => (read_any (some ⟨g, 0, none⟩) 1024 1027 f u h (by omega)).mono ?_) (fun u hB => (rread_open b off C f u (hl.below hB) hC hw.1).mono ?_)
    · rintro e w' (⟨_, _, g1, g2, rfl, hG, hB⟩ | ⟨q, _⟩)
      · exact ⟨_, _, _, rfl, hG.at, ⟨Nat.le_refl _, by show (blkOf (behO f)).n ≤ 1000000; have := hw.2.2.2.2.2.1; omega, hG.byt, .inr ⟨g2, rfl, hG.n2, hG.row⟩⟩, fun p hp => by injection hp with hp; subst hp; exact ⟨hG.n2, hG.row.2.2⟩, hB⟩
      · exact absurd ⟨rfl, hw⟩ q
    · rintro e w' (⟨_, a2, C2, b2, D2, rfl, h1, h2⟩ | ⟨q, _⟩)
      · exact ⟨a2, C2, b2, D2, rfl, h1, h2⟩
      · exact absurd hw.2 q
  · have PN : ∀ (u : World) (g : Nat), Arg u (some ⟨g, 0, none⟩) n f → Calls Try.prog 19 #[.slice (some ⟨g, 0, none⟩) n (n + 3)] u (PrP u blk0 (if n = 1024 then rdE f else 4)) := fun u g h => (read_any (some ⟨g, 0, none⟩) n (n + 3) f u h (by omega)).mono fun e w' q => by
      rcases q with ⟨q1, q2, _⟩ | ⟨_, q⟩
      · exact absurd ⟨q1, q2⟩ hw
      · exact pr_no q
    refine reads_main a n C f w hA (by omega) blk0 (if n = 1024 then rdE f else 4) (by decide) PN (fun u hB => ?_)
    by_cases hn : n = 1024
    · subst hn
      rw [if_pos rfl]
      obtain ⟨b, off, rfl, hl⟩ : ∃ b off, a = some ⟨b, off, none⟩ ∧ Lies w b off 1024 f := by
        rcases hA with ⟨h, _⟩ | ⟨_, b, off, e, hl⟩
        · omega
        · exact ⟨b, off, e, hl⟩
      rcases rdE_not (fun q => hw ⟨rfl, q⟩) with ⟨o, ce⟩ | ⟨o, m, ce⟩
      · rw [ce]
        exact (rread_seal b off C f u (hl.below hB) hC o).mono fun e w' q => rr_no q
      · rw [ce]
        refine (rread_open b off C f u (hl.below hB) hC o).mono ?_
        rintro e w' (⟨q, _⟩ | ⟨_, q⟩)
        · exact absurd q m
        · exact rr_no q
    · rw [if_neg hn]
      exact (rread_len a n C u hn).mono fun e w' q => rr_no q
end Go.Proofs.Ytmlllglgjpmicaa
