/-
  Walks, not a claim by itself: a list's parts, gone through. By the verifier.
-/
import Derived.Test.YtgpafmgncolnmaaMgAc
namespace Go.Proofs.Ytgpafmgncolnmaa
open Go.RowKit Go.Shelf
attribute [local go_sem] Oper.semAt_some
/-- How many parts there are. -/
def ckN (N m : Nat) : Nat := (N + m - 1) / m
theorem ck_lt {N m k : Nat} (hm : 1 ≤ m) : k < ckN N m ↔ k * m < N := by
  unfold ckN
  rw [← Nat.succ_le_iff, Nat.le_div_iff_mul_le (by omega), Nat.succ_mul]
  omega
/-- How long a part is. -/
def ckL (N m k : Nat) : Nat := min m (N - k * m)
/-- A part. -/
def x1c (a : Option Addr) (m N k : Nat) : Value := match a with
  | some q => .slice (some ⟨q.block, q.off + k * m * 3, none⟩) (ckL N m k) (ckL N m k)
  | none => undef
theorem run_slice3 (T e : TypeId) (z : Nat) (ht : Try.prog.underlying T = some (.slice e)) (hs : (Try.prog.info? e).map (·.size) = some z) (b o len cap i j : Nat) (hi : i < j) (hj : j ≤ cap) (w : World) :
    (Instr.slice T (.slice (some ⟨b, o, none⟩) len cap) (some (.int .i64 (i : Int))) (some (.int .i64 (j : Int))) (some (.int .i64 (j : Int)))).run Try.prog w = .ok (.slice (some ⟨b, o + i * z, none⟩) (j - i) (j - i)) w := by
  cases hq : Try.prog.info? e with
  | none => simp [hq] at hs
  | some t =>
    have hz : t.size = z := by simpa [hq] using hs
    have h1 : i ≤ j := by omega
    have h2 : ¬ j = i := by omega
    simp [Instr.slice, Instr.sliceBounds, run_underlying ht, Instr.sliceBound, asIntOf, h1, hj, h2, sizeOf, typeInfo, hq, hz, Addr.add_mid]
theorem chunk_ar (i m N : Nat) (hi : i < N) (hN : N ≤ 10000) (hm : m ≤ 64) (e j : Nat) (he : e = min m (N - i)) (hj : j = i + e) : (i : Int) < (N : Int) ∧ (0 : Int) ≤ (i : Int) ∧ (i : Int) ≤ (N : Int) ∧ (if N - i < m then ((N - i : Nat) : Int) else (m : Int)) = (e : Int) ∧ wrap64 ((i : Int) + (e : Int)) = (j : Int) ∧ IntKind.i64.wrap ((i : Int) + (e : Int)) = (j : Int) :=
  ⟨by omega, by omega, by omega, by split <;> omega, by unfold wrap64; omega, by rw [IntKind.wrap_i64]; omega⟩
theorem chunk_ar2 (i m N t : Nat) (hi : i < N) (hN : N ≤ 10000) (hm : m ≤ 64) (h1 : 1 ≤ m) (ht : t = i + m) : wrap64 ((i : Int) + (m : Int)) = (t : Int) ∧ IntKind.i64.wrap ((i : Int) + (m : Int)) = (t : Int) ∧ N + 100 - (RowKit.intOf (.int .i64 (t : Int))).toNat < N + 100 - (RowKit.intOf (.int .i64 (i : Int))).toNat :=
  ⟨by unfold wrap64; omega, by rw [IntKind.wrap_i64]; omega, by simp only [RowKit.intOf]; omega⟩
set_option maxRecDepth 100000 in
set_option maxHeartbeats 2000000 in
theorem chunk1_in (l Bs Bn : Nat) (a : Option Addr) (N C m : Nat) (hN : N ≤ 10000) (hm1 : 1 ≤ m) (hm2 : m ≤ 64) (hc : N ≤ C) (ha : 0 < N → ∃ b o, a = some ⟨b, o, none⟩) (J : Nat → World → Prop) (Jx : World → Prop)
    (hM : ∀ k W, J k W → W.cell? ⟨Bs, 0, none⟩ = some (.slice a N C) ∧ W.cell? ⟨Bn, 0, none⟩ = some (.int .i64 (m : Int))) (hB : ∀ k W W', J k W → Below W.heap.size W W' → J k W')
    (hY : ∀ (k : Nat) (W : World), k < ckN N m → J k W → YieldAt Fence.wide 3 Try.prog l #[x1c a m N k] W fun e W' => (e = .returned (.bool true) ∧ J (k + 1) W') ∨ (e = .returned (.bool false) ∧ Jx W'))
    (W : World) (h0 : J 0 W) :
    CallsIn Fence.wide 4 Try.prog 51 #[.func (.yield l) #[] #[], .pointer (some ⟨Bs, 0, none⟩), .pointer (some ⟨Bn, 0, none⟩)] W fun e W' => (∃ v, e = .returned v) ∧ (J (ckN N m) W' ∨ Jx W') := by
  have H0 := hidIt h0
  have HB := hidIt hB
  have HM := hidIt hM
  have HY := hidIt hY
  have HA := hidIt ha
  have HN := hidIt (And.intro hN (And.intro hm1 (And.intro hm2 hc)))
  clear h0 hB hM hY ha hN hm1 hm2 hc
  refine callsIn_of_wp Try.func51 rfl trivial ?_ rfl
  simp only [Try.ntmps51, List.size_toArray, List.length_cons, List.length_nil, Nat.reduceAdd, Nat.reduceSub, Array.replicate_succ, Array.replicate_zero, List.push_toArray, List.append_toArray, List.nil_append, List.cons_append]
  gi_wp2
  gi_loopw [4] (fun v wr => ∃ k i : Nat, i = k * m ∧ k ≤ ckN N m ∧ v = .int .i64 (i : Int) ∧ J k wr) (fun v _ => N + 100 - (RowKit.intOf v).toNat)
  case atStart => exact ⟨0, 0, by simp, Nat.zero_le _, rfl, H0.out⟩
  case round =>
    obtain ⟨k, i, hi, hk, rfl, hJ⟩ := hrel
    have HJ := hidIt hJ
    have HI := hidIt hi
    obtain ⟨c0, c1⟩ := HM.out k wr hJ
    by_cases hlt : i < N
    · have KL : Hid (k < ckN N m) := hidIt ((ck_lt HN.out.2.1).2 (by omega))
      obtain ⟨b, o, hab⟩ := HA.out (by omega)
      obtain ⟨e, he⟩ : ∃ e, e = min m (N - i) := ⟨_, rfl⟩
      obtain ⟨j, hj⟩ : ∃ j, j = i + e := ⟨_, rfl⟩
      obtain ⟨t, ht⟩ : ∃ t, t = i + m := ⟨_, rfl⟩
      have hn := HN.out
      have XV : Hid (x1c a m N k = .slice (some ⟨b, o + i * 3, none⟩) e e) := hidIt (by unfold x1c ckL; rw [hab, ← hi, ← he])
      have hlow := fun w => run_slice_low 27 32 3 under_pairs pair_size b o N C i (by omega) w
      have h3 := fun w => run_slice3 27 32 3 under_pairs pair_size b o N C i j (by omega) (by omega) w
      rw [show j - i = e by omega] at h3
      have AR := hidIt (chunk_ar i m N hlt hn.1 hn.2.2.1 e j he hj)
      have AR2 := hidIt (chunk_ar2 i m N t hlt hn.1 hn.2.2.1 hn.2.1 ht)
      have TT : Hid (t = (k + 1) * m) := hidIt (by rw [Nat.succ_mul, ht, hi])
      subst hab
      clear hi hk hJ hlt he hj ht hn
      obtain ⟨i0, i1, i2, _, i4, i5⟩ := AR.out
      obtain ⟨j0, j1, _⟩ := AR2.out
      gi_wp2
      refine region_wd (S := fun w' => w'.cell? ⟨Bs, 0, none⟩ = some (.slice (some ⟨b, o, none⟩) N C) ∧ w'.cell? ⟨Bn, 0, none⟩ = some (.int .i64 (m : Int))) (by kernel_rfl) (by kernel_rfl) ⟨c0, c1⟩ (fun hHeld => ?_)
      refine take_at (i := 0) (v := ?_) (some 13) rfl rfl (by kernel_rfl) (by kernel_rfl) (by kernel_rfl) (fun _ _ _ h => by cases h.1) (Or.inl ⟨by rfl, ?_⟩) (by assumption) ?_
      rotate_left
      · (intro w hSw; (try dsimp only at hSw); go_simp; try with_reducible rfl)
      simp only [Act.put, List.setIfInBounds_toArray, List.set_cons_zero, List.set_cons_succ]
      refine take_at (i := 1) (v := ?_) (some 14) rfl rfl (by kernel_rfl) (by kernel_rfl) (by kernel_rfl) (fun _ _ _ h => by cases h.1) (Or.inl ⟨by rfl, ?_⟩) (by assumption) ?_
      rotate_left
      · (intro w hSw; (try dsimp only at hSw); go_simp; try with_reducible rfl)
      simp only [Act.put, List.setIfInBounds_toArray, List.set_cons_zero, List.set_cons_succ]
      refine take_at (i := 2) (v := ?_) (some 15) rfl rfl (by kernel_rfl) (by kernel_rfl) (by kernel_rfl) (fun _ _ _ h => by cases h.1) (Or.inl ⟨by rfl, ?_⟩) (by assumption) ?_
      rotate_left
      · (intro w hSw; (try dsimp only at hSw); go_simp; try with_reducible rfl)
      simp only [Act.put, List.setIfInBounds_toArray, List.set_cons_zero, List.set_cons_succ]
      refine take_at (i := 3) (v := ?_) (some 16) rfl rfl (by kernel_rfl) (by kernel_rfl) (by kernel_rfl) (fun _ _ _ h => by cases h.1) (Or.inl ⟨by rfl, ?_⟩) (by assumption) ?_
      rotate_left
      · (intro w hSw; (try dsimp only at hSw); go_simp; try with_reducible rfl)
      simp only [Act.put, List.setIfInBounds_toArray, List.set_cons_zero, List.set_cons_succ]
      refine take_at (i := 4) (v := ?_) (some 17) rfl rfl (by kernel_rfl) (by kernel_rfl) (by kernel_rfl) (fun _ _ _ h => by cases h.1) (Or.inl ⟨by rfl, ?_⟩) (by assumption) ?_
      rotate_left
      · (intro w hSw; (try dsimp only at hSw); go_simp; try with_reducible rfl)
      simp only [Act.put, List.setIfInBounds_toArray, List.set_cons_zero, List.set_cons_succ]
      refine take_at (i := 5) (v := ?_) (some 18) rfl rfl (by kernel_rfl) (by kernel_rfl) (by kernel_rfl) (fun _ _ _ h => by cases h.1) (Or.inl ⟨by rfl, ?_⟩) (by assumption) ?_
      rotate_left
      · (intro w hSw; (try dsimp only at hSw); go_simp; try with_reducible rfl)
      simp only [Act.put, List.setIfInBounds_toArray, List.set_cons_zero, List.set_cons_succ]
      refine take_at (i := 6) (v := ?_) (some 5) rfl rfl (by kernel_rfl) (by kernel_rfl) (by kernel_rfl) (fun _ _ _ h => by cases h.1) (Or.inl ⟨by rfl, ?_⟩) (by assumption) ?_
      rotate_left
      · (intro w hSw; (try dsimp only at hSw); go_simp; try with_reducible rfl)
      simp only [Act.put, List.setIfInBounds_toArray, List.set_cons_zero, List.set_cons_succ]
      refine wpAnyH_done (by kernel_rfl) ?_ _
      refine ⟨rfl, ?_⟩
      have JD := hidIt (HB.out k wr wr.drew HJ.out (Below.refl _ _).drew)
      have YY := HY.out k wr.drew KL.out JD.out
      rw [XV.out] at YY
      obtain ⟨fn, tmps, assign, body, hy, hR⟩ := YY
      obtain ⟨d0, d1⟩ := HM.out k wr.drew JD.out
      clear hHeld c0 c1 hlow
      gi_wp2
      refine hR.mono ?_
      rintro e5 W5 (⟨rfl, hJ5⟩ | ⟨rfl, hJx5⟩)
      · have J5 := hidIt hJ5
        obtain ⟨_, f1⟩ := HM.out (k + 1) W5 hJ5
        clear hR d0 d1 hy h3 hJ5
        gi_wp2
        go_roundw
        case rel => exact ⟨k + 1, t, TT.out, KL.out, rfl, J5.out⟩
        case measure => exact AR2.out.2.2
      · clear hR d0 d1 hy h3
        gi_wp2
        refine bodyPost_ret (results_none rfl _ _ _) rfl ?_
        exact ⟨⟨_, rfl⟩, .inr hJx5⟩
    · have KE : Hid (k = ckN N m) := hidIt (by
        have h1 : ¬ k < ckN N m := fun q => by have := (ck_lt HN.out.2.1).1 q; omega
        omega)
      have i0 : ((i : Int) < (N : Int)) = False := eq_false (by omega)
      clear hi hk hJ hlt c1
      gi_wp2
      go_end0
      exact ⟨⟨_, rfl⟩, .inl (KE.out ▸ HJ.out)⟩
theorem chunk_in (lv : Nat) (a : Option Addr) (N C m : Nat) (hm : 1 ≤ m) (W : World) :
    CallsIn Fence.wide lv Try.prog 41 #[.slice a N C, .int .i64 (m : Int)] W fun e w' => e = .returned (.func (.func 51) #[] #[.pointer (some ⟨W.heap.size, 0, none⟩), .pointer (some ⟨W.heap.size + 1, 0, none⟩)]) ∧ w' = (W.alloc (.cells #[.slice a N C] 27)).alloc (.cells #[.int .i64 (m : Int)] 3) := by
  have e1 : ((m : Int) < 1) = False := eq_false (by omega)
  clear hm
  refine callsIn_of_wp Try.func41 rfl trivial ?_ rfl
  simp only [Try.ntmps41, List.size_toArray, List.length_cons, List.length_nil, Nat.reduceAdd, Nat.reduceSub, Array.replicate_succ, Array.replicate_zero, List.push_toArray, List.append_toArray, List.nil_append, List.cons_append]
  gi_wp2
  go_ret
  exact ⟨rfl, rfl⟩
end Go.Proofs.Ytgpafmgncolnmaa
