/-
  Walks, not a claim by itself: a block copied; the reference's Bytes. By the verifier.
-/
import Derived.Test.YtmlllglgjpmicaaGBe
import Derived.Test.YtmlllglgjpmicaaGPut
import Derived.Test.YtmlllglgjpmicaaGRc
import Derived.Test.YtmlllglgjpmicaaGTk2
import Derived.Test.YtmlllglgjpmicaaBCopy
import Derived.Test.YtmlllglgjpmicaaHOpen
namespace Go.Proofs.Ytmlllglgjpmicaa
open Go.RowKit
theorem info_rf : (Try.prog.info? 23).map (fun i => (i.zero, i.size, i.bytes)) = some (some (.agg #[.int .i64 0, .int .i64 0]), 2, 16) := by kernel_rfl
set_option maxRecDepth 100000 in
/-- Refs behind an empty list of ones own. -/
theorem refs_app {W : World} {base : Nat} {v : Value} {a : Option Addr} {k C : Nat} {h : Nat → Int} (ho : OwnI W base 23 2 v 0 h) (hA : HArg W a k h) (hk : k * 16 ≤ 140737488355328) (hb : base ≤ W.heap.size) :
    ∃ a' C' W', (Builtin.append_ #[24, 24] 24 #[v, .slice a k C]).run Try.prog W = .ok (.slice a' k C') W' ∧ HArg W' a' k h ∧ k ≤ C' ∧ Below base W W' ∧ (0 < k → ∃ r, a' = some ⟨r, 0, none⟩ ∧ base ≤ r) ∧ W.heap.size ≤ W'.heap.size := by
  obtain ⟨i0, hi, hz0, hz1, hz2⟩ := info_parts info_rf
  by_cases k0 : k = 0
  · subst k0
    obtain ⟨a0, c0, rfl, hc0⟩ := ho.slice
    have run0 : (Builtin.append_ #[24, 24] 24 #[.slice a0 0 c0, .slice none 0 C]).run Try.prog W = .ok (.slice a0 0 c0) W := by
      rcases ho.2 with ⟨e, _⟩ | ⟨g, cap, cur, e, _, _, hnc, _⟩
      · injection e with e1 _ e3
        subst e1 e3
        simp [Builtin.append_, run_underlying Try.underlying24, sizeOf, typeInfo, hi, Builtin.lenOf, Builtin.firstCells]
      · injection e with e1 _ e3
        subst e1 e3
        simp [Builtin.append_, run_underlying Try.underlying24, sizeOf, typeInfo, hi, Builtin.lenOf, Builtin.firstCells, hnc, storeCells]
    cases a with
    | none => exact ⟨a0, c0, W, run0, .inl rfl, by omega, Below.refl _ _, fun q => absurd q (by omega), Nat.le_refl _⟩
    | some p =>
      obtain ⟨v', W', h1, h2, h3, _⟩ := run_append_own (P := Try.prog) W base 24 24 23 i0 _ 2 16 Try.underlying24 hi hz0 hz1 hz2 rfl (by omega) _ 0 _ ho p 0 C [] (by simp) (fun j u hj => by simp at hj) (fun u hu => by cases hu) (by unfold maxLen; omega) (by omega) hb
      have h2' : OwnI W' base 23 2 v' 0 h := by
        unfold OwnI
        rw [List.append_nil] at h2
        exact h2
      obtain ⟨a', C', rfl, hc⟩ := h2'.slice
      have bel : Below base W W' := (Below.refl _ _).grown h3 hb (fun k hk => (World.ownsRow.lt ho k hk).1)
      exact ⟨a', C', W', h1, .inl rfl, hc, bel, fun q => absurd q (by omega), bel.size⟩
  · rcases hA with e | ⟨b, off, rfl, hc, hx⟩
    · exact absurd e k0
    obtain ⟨v', W', h1, h2, h3⟩ := OwnI.appw (ty := 24) (C := C) (m := k) Try.underlying24 info_rf rfl (by omega) ho b off (G := h) (fun j hj => hc j (by omega)) (by omega) (by omega) hb
    rw [Nat.zero_add] at h2
    obtain ⟨g, cap, rfl, hg, hcap, hcell, hgl⟩ := h2.form (by omega)
    refine ⟨some ⟨g, 0, none⟩, cap, W', h1, .inr ⟨g, 0, rfl, fun j hj => ?_, hgl⟩, hcap, h3, fun _ => ⟨g, rfl, hg⟩, h3.size⟩
    rw [Nat.zero_add, hcell j (by omega)]
    unfold cat
    rw [if_neg (by omega), Nat.zero_mul, Nat.sub_zero]
theorem sl_one (a : Option Addr) (n C : Nat) : ∀ v ∈ [Value.slice a n C], v.oneCell' = true := by
  intro v hv
  simp only [List.mem_cons, List.not_mem_nil, or_false] at hv
  subst hv
  rfl
theorem harg_new {W W' : World} {a : Option Addr} {k c B : Nat} {h : Nat → Int} (hA : HArg W a k h) (hN : 0 < k → ∃ r, a = some ⟨r, 0, none⟩ ∧ B ≤ r) (hB : But c W W') (hc : c < B) : HArg W' a k h := by
  by_cases k0 : 0 < k
  · obtain ⟨r, e, hr⟩ := hN k0
    exact hA.but hB (fun p hp => by rw [e] at hp; injection hp with hp; subst hp; show r ≠ c; omega)
  · exact .inl (by omega)
/-- What CopyBlock answers. -/
def CpPost (w : World) (s : Blk) (e : Ending) (w' : World) : Prop := ∃ a C b D, e = .returned (blkV s a C b D) ∧ BlkAt w' s a C b D ∧ Below w.heap.size w w'
set_option maxRecDepth 100000 in
set_option maxHeartbeats 1000000 in
theorem copyblk_any (s : Blk) (a b : Option Addr) (C D : Nat) (w : World) (hA : BlkAt w s a C b D) (hk : s.k ≤ 1000) (hn : s.n ≤ 100000) : Calls Try.prog 8 #[blkV s a C b D] w (CpPost w s) := by
  have HA := hidIt hA
  clear hA
  unfold blkV
  go_enter Try.func8, Try.ntmps8
  go_wp2_with (first
    | (refine wpList_box_rec rfl 27 (.tmp 0) rfl (blkC s a C b D) rfl w.heap.size rfl ?_; intro W0 R0 B0 z0)
    | (refine wpList_alloc_rec rfl 27 rfl (blkC blk0 none 0 none 0) (w.heap.size + 1) z0 zero_blk ?_; intro W1 R1 B1 z1
       have E1 : Below w.heap.size w W1 := B0.trans (B1.mono (by omega))
       have R01 := R0.below (B1.mono (by omega))
       have hown : OwnI (W1.alloc (.cells #[] 23)) W1.heap.size 23 2 (.slice (some ⟨W1.heap.size, 0, none⟩) 0 0) 0 s.h := OwnI.lit W1 W1.heap.size 23 2 0 s.h (Nat.le_refl _) (by decide)
       have BA : Below W1.heap.size W1 (W1.alloc (.cells #[] 23)) := (Below.refl _ _).alloc (Nat.le_refl _) _
       obtain ⟨a', C', W2, hr2, hA2, hC2, hB2, hn2, _⟩ := refs_app (C := C) hown ((HA.out.refs.below E1).below BA) (by omega) BA.size
       have BX : Below W1.heap.size W1 W2 := BA.trans hB2
       rw [z1] at hr2
       have c3 := R01.1 3 _ rfl
       simp only [Nat.zero_add] at c3
       have Q2 := hidIt (R01.below BX)
       have P2 := hidIt (R1.below BX)
       have E2 := hidIt (below_sh (Nat.le_refl _) E1 BX)
       have A2 := hidIt hA2
       have C2 := hidIt hC2
       have N2 : Hid (0 < s.k → ∃ r, a' = some ⟨r, 0, none⟩ ∧ w.heap.size + 2 ≤ r) := fun h => by obtain ⟨r, e, hr⟩ := hn2 h; exact ⟨r, e, by omega⟩
       clear R0 B0 R1 B1 E1 R01 hown BA hA2 hC2 hB2 hn2 BX)
    | (at_builtin; refine wpList_append_go rfl (.tmp 3) (.tmp 5) 24 24 rfl _ _ rfl rfl hr2 ?_)
    | (refine wpList_put_rec rfl 24 (.tmp 7) (.tmp 6) rfl w.heap.size 3 (blkC s a C b D) [.slice a' s.k C'] (blkC s a' C' b D) _ rfl rfl rfl Q2.out (by show 3 + 1 ≤ 5; omega) rfl (by kernel_rfl) (sl_one _ _ _) ?_; intro W3 R3 B3 z3
       have Q3 := hidIt R3
       have P3 := hidIt (P2.out.but B3 (by omega))
       have E3 := hidIt (E2.out.trans (B3.below (Nat.le_refl _) E2.out.size))
       have A3 : Hid (HArg W3 a' s.k s.h) := harg_new A2.out N2.out B3 (by omega)
       have c4 := Q3.out.1 4 _ rfl
       simp only [Nat.zero_add] at c4
       clear R3 B3 z3 Q2 P2 E2 A2 c3)
    | (go_at_call 23; refine (copy_any b s.n D s.F _ (HA.out.body.below E3.out) (by omega)).mono ?_; rintro e w4 ⟨v4, rfl, hO4, hB4⟩
       obtain ⟨b4, D4, rfl, hA4, hn4⟩ := hO4.slice HA.out.byt
       have Q4 := hidIt (Q3.out.below hB4)
       have P4 := hidIt (P3.out.below hB4)
       have E4 := hidIt (below_sh (Nat.le_refl _) E3.out hB4)
       have A4 := hidIt (A3.out.below hB4)
       have D4' : Hid (s.n ≤ D4) := by
         rcases hO4.2 with ⟨e, e0⟩ | ⟨_, _, _, e, _, _, hc, _⟩
         · injection e with _ e1 e2; show s.n ≤ D4; omega
         · injection e with _ _ e2; show s.n ≤ D4; omega
       have F4 := hidIt hA4
       have G4 : Hid (∀ p, b4 = some p → w.heap.size + 2 ≤ p.block) := fun p hp => Nat.le_trans (by have := P3.out.2.2; omega) (hn4 p hp)
       clear hO4 hB4 hA4 hn4 Q3 P3 E3 A3 c4)
    | (refine wpList_put_rec rfl 25 (.tmp 11) (.tmp 10) rfl w.heap.size 4 (blkC s a' C' b D) [.slice b4 s.n D4] (blkC s a' C' b4 D4) _ rfl rfl rfl Q4.out (by show 4 + 1 ≤ 5; omega) rfl (by kernel_rfl) (sl_one _ _ _) ?_; intro W5 R5 B5 z5
       have Q5 := hidIt R5
       have P5 := hidIt (P4.out.but B5 (by omega))
       have E5 := hidIt (E4.out.trans (B5.below (Nat.le_refl _) E4.out.size))
       have A5 : Hid (HArg W5 a' s.k s.h) := harg_new A4.out N2.out B5 (by omega)
       have F5 : Hid (Arg W5 b4 s.n s.F) := F4.out.but B5 (fun p hp => by have := G4.out p hp; omega)
       clear R5 B5 z5 Q4 P4 E4 A4 F4)
    | (refine wpList_load_rec rfl 27 (.tmp 1) rfl w.heap.size 0 (blkC s a' C' b4 D4) rfl _ Try.underlying27 rfl (by kernel_rfl) Q5.out ?_)
    | (refine wpList_store_rec rfl 27 (.tmp 2) (.tmp 12) rfl (w.heap.size + 1) 0 _ (blkC s a' C' b4 D4) rfl rfl P5.out rfl (by kernel_rfl) (blkC_one _ _ _ _ _) ?_; intro W6 R6 B6
       have PP : Hid (CpPost w s (.returned (.agg (blkC s a' C' b4 D4).toArray)) W6) := ⟨a', C', b4, D4, rfl, ⟨harg_new A5.out N2.out B6 (by omega), C2.out, F5.out.but B6 (fun p hp => by have := G4.out p hp; omega), D4'.out⟩, E5.out.trans (B6.below (by omega) E5.out.size)⟩
       have R6' := hidIt R6
       clear R6 B6))
  have hl := R6'.out.run_load 27 _ Try.underlying27 rfl (by kernel_rfl)
  exact bodyPost_ret (v := .agg (blkC s a' C' b4 D4).toArray) (by simp [results, Try.results8, asAddr, Act.put, hl]) rfl PP.out
set_option maxRecDepth 100000 in
set_option maxHeartbeats 400000 in
theorem rbytes_no (s : Blk) (a b : Option Addr) (C D : Nat) (w : World) (hA : HArg w a s.k s.h) (hk : s.k ≤ 1000) (m : ¬ s.May) :
    Calls Try.prog 11 #[blkV s a C b D] w fun e w' => e = .returned (.tuple #[.slice none 0 0, .int .i64 2]) ∧ Below w.heap.size w w' := by
  have CK : Hid (∀ w', Below w.heap.size w w' → Calls Try.prog 14 #[blkV s a C b D] w' fun e w'' => e = .returned (.int .i64 2) ∧ Below w'.heap.size w' w'') := fun w' hB => by
    have := rcheck_any s a b C D w' (hA.below hB) hk
    unfold ChkPost at this
    rwa [show chkE s = 2 from if_neg m] at this
  clear hA m
  unfold blkV
  unfold blkV at CK
  go_enter Try.func11, Try.ntmps11
  go_wp2_with (first
    | (refine wpList_box_rec rfl 27 (.tmp 0) rfl (blkC s a C b D) rfl w.heap.size rfl ?_; intro W0 R0 B0 z0)
    | (refine wpList_load_rec rfl 27 (.tmp 1) rfl w.heap.size 0 (blkC s a C b D) rfl _ Try.underlying27 rfl (by kernel_rfl) R0 ?_)
    | (go_at_call 14; refine (CK.out _ B0).mono ?_; rintro e w1 ⟨rfl, B1⟩))
  go_ret2
  exact ⟨rfl, B0.trans (B1.mono B0.size)⟩
/-- What the reference's Bytes answers of a block that may be. -/
def RbPost (w : World) (s : Blk) (e : Ending) (w' : World) : Prop := ∃ a cap, e = .returned (.tuple #[.slice a 1024 cap, .int .i64 0]) ∧ Arg w' a 1024 s.img ∧ Below w.heap.size w w'
set_option maxRecDepth 100000 in
set_option maxHeartbeats 400000 in
theorem rbytes_ok (s : Blk) (a b : Option Addr) (C D : Nat) (w : World) (hA : BlkAt w s a C b D) (m : s.May) :
    Calls Try.prog 11 #[blkV s a C b D] w (RbPost w s) := by
  have CK : Hid (∀ w', Below w.heap.size w w' → Calls Try.prog 14 #[blkV s a C b D] w' fun e w'' => e = .returned (.int .i64 0) ∧ Below w'.heap.size w' w'') := fun w' hB => by
    have := rcheck_any s a b C D w' (hA.refs.below hB) (by have := m.2.2.1; omega)
    unfold ChkPost at this
    rwa [show chkE s = 0 from if_pos m] at this
  have BH : Hid (∀ w', Below w.heap.size w w' → Calls Try.prog 29 #[blkV s a C b D] w' (BehP w' s)) := fun w' hB => behind_any' s a b C D w' (hA.below hB) m.2.2.2.1
  clear hA m
  unfold blkV
  unfold blkV at CK BH
  have K1 : Hid True := trivial
  have K2 : Hid True := trivial
  go_enter Try.func11, Try.ntmps11
  go_wp2_with (first
    | (refine wpList_box_rec rfl 27 (.tmp 0) rfl (blkC s a C b D) rfl w.heap.size rfl ?_; intro W0 R0 B0 z0)
    | (have _q := K1; clear K1; refine wpList_load_rec rfl 27 (.tmp 1) rfl w.heap.size 0 (blkC s a C b D) rfl _ Try.underlying27 rfl (by kernel_rfl) R0 ?_)
    | (go_at_call 14; refine (CK.out _ B0).mono ?_; rintro e w1 ⟨rfl, B1⟩; have R1 := hidIt (R0.below B1); have E1 := hidIt (below_sh (Nat.le_refl _) B0 B1); clear R0 B0 z0 B1)
    | (have _q := K2; clear K2; refine wpList_load_rec rfl 27 (.tmp 1) rfl w.heap.size 0 (blkC s a C b D) rfl _ Try.underlying27 rfl (by kernel_rfl) R1.out ?_)
    | (go_at_call 29; refine (BH.out _ E1.out).mono ?_; rintro e w2 ⟨g, cap, rfl, hg, hA2, hB2⟩; have A2 := hidIt hA2; have E2 := hidIt (below_sh (Nat.le_refl _) E1.out hB2); clear hg hA2 hB2)
    | (go_at_call 28; refine (hseal_any (some ⟨g, 0, none⟩) 1008 cap s.beh _ A2.out (by omega)).mono ?_; rintro e w3 ⟨a3, cap3, rfl, hA3, hB3⟩; have PP : Hid (RbPost w s (.returned (.tuple #[.slice a3 (16 + 1008) cap3, .int .i64 0])) w3) := ⟨a3, cap3, rfl, hA3, below_sh (Nat.le_refl _) E2.out hB3⟩; clear hA3 hB3))
  go_ret2
  exact PP.out
end Go.Proofs.Ytmlllglgjpmicaa
