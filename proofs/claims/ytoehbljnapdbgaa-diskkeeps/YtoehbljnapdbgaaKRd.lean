/-
  Walks, not a claim by itself: the law's reads of one sector; two makes whose order is drawn. By the verifier.
-/
import Derived.Test.YtoehbljnapdbgaaEReads
namespace Go.Proofs.Ytoehbljnapdbgaa
open Go.RowKit Go.Maps
def readsRel0 (w : World) (i : Value) (wr : World) : Prop := ∃ k : Nat, k = 0 ∧ i = .int .i64 k ∧ Below w.heap.size w wr
set_option maxRecDepth 100000 in
set_option maxHeartbeats 1000000 in
theorem reads_no (W : World) (d s m x n b off C : Nat) (D : Dsk) (l : Int) (o : Bool) (g : Nat → Int) (h : DiskAt W d s m D) (hf : FuseIs W D.fz l o) (hu : D.up o = true) (hx : x + n ≤ D.N) (hn1 : n = 1) (hL : Lies W b off n g) (hs : ¬ ∀ j, j < 256 → D.sec (x * 256 + j) = g 0) :
    Calls Try.prog 29 #[.pointer (some ⟨d, 0, none⟩), .int .i64 (x : Int), .slice (some ⟨b, off, none⟩) n C] W fun e w' => e = .returned (.bool false) ∧ Below W.heap.size W w' := by
  have hn : n ≤ 8 := by omega
  have RD : Hid (Calls Try.prog 12 #[.pointer (some ⟨d, 0, none⟩), .int .i64 (x : Int), .int .i64 (n : Int)] W (ReadPost W n (fun j => D.sec (x * 256 + j)))) := read_ok W d s m x n D l o h hf hu hx
  have HS : Hid (¬ ∀ j, j < 256 → D.sec (x * 256 + j) = g 0) := hs
  have H1 : Hid (n = 1) := hn1
  have SB : Hid (∀ j, j < n * 256 → 0 ≤ D.sec (x * 256 + j) ∧ D.sec (x * 256 + j) < 256) := fun j hj => h.sb _ (by omega)
  have HL : Hid (Lies W b off n g) := hL
  have m1 : wrap64 ((n : Int) * 256) = (n : Int) * 256 := by unfold wrap64; omega
  have m2 : IntKind.i64.wrap ((n : Int) * 256) = (n : Int) * 256 := by rw [IntKind.wrap_i64]; omega
  clear h hf hu hs hL hn1
  go_enter Try.func29, Try.ntmps29
  go_wp2_with (go_at_call 12; refine RD.out.mono ?_; rintro e w1 ⟨rfl, hR, hB⟩; have HR : Hid (IRow w1 W.heap.size .u8 (n * 256) (fun j => D.sec (x * 256 + j))) := hR; have HB : Hid (Below W.heap.size W w1) := hB; clear hR hB RD)
  have ST : Hid (readsRel0 w1 (.int .i64 0) w1) := ⟨0, rfl, rfl, Below.refl _ _⟩
  go_loopw [9] (fun i wr => readsRel0 w1 i wr) (fun i _ => n - (RowKit.intOf i).toNat)
  case atStart => exact ST.out
  case round =>
    obtain ⟨k, hk, rfl, hB⟩ := hrel
    clear ST
    have hlt : k < n := by have := H1.out; omega
    · have L1 : Hid (Lies wr b off n g) := (HL.out.below HB.out).below hB
      have R1 : Hid (IRow wr W.heap.size .u8 (n * 256) (fun j => D.sec (x * 256 + j))) := HR.out.below hB
      have c0 : wr.cell? ⟨b, off + k, none⟩ = some (.int .u8 (g k)) := L1.out.1 k hlt
      have gb : 0 ≤ g k ∧ g k < 256 := L1.out.2.1 k hlt
      have lb := L1.out.2.2
      have A1 : Hid (∀ W', Below wr.heap.size wr W' → Arg W' (some ⟨W.heap.size, k * 256, none⟩) 256 (fun j => D.sec (x * 256 + (k * 256 + j)))) := fun W' hW => by
        have := Arg.part ((R1.out.below hW).lies SB.out) (k * 256) 256 (by omega)
        rwa [Nat.zero_add] at this
      have TT : decide (txtN 256 (fun j => D.sec (x * 256 + (k * 256 + j))) = txtN 256 (fun _ => g k)) = false := decide_eq_false (fun q => HS.out (fun j hj => by have h1 := (txtN_inj (fun j hj => SB.out (k * 256 + j) (by omega)) (fun j hj => gb) q).2 j hj; rw [hk, Nat.zero_mul, Nat.zero_add] at h1; exact h1))
      clear hk
      have BE : Hid (Below w1.heap.size w1 wr) := hB
      have zz := BE.out.size
      obtain ⟨i0, i1, i2, i3, i4, i5, i6, i7, i8, i9, j1, j2, j3, j4, q1, q2, q3, q4⟩ := reads_ar n k hlt hn
      go_wp2_with fail
      refine wp_region_noPanic ?_
      refine wp_region_held_drew (S := fun V => V.cell? ⟨b, off + k, none⟩ = some (.int .u8 (g k))) (by kernel_rfl) ?_ (fun hHeld => ?_)
      · exact c0
      refine take_at (i := 0) (v := ?_) (some 34) rfl rfl (by kernel_rfl) (by kernel_rfl) (by kernel_rfl) (fun _ _ _ h => h) (Or.inl ⟨by rfl, ?_⟩) (by assumption) ?_
      rotate_left
      · (intro w hSw; (try dsimp only at hSw); go_simp; try with_reducible rfl)
      simp only [Act.put, List.setIfInBounds_toArray, List.set_cons_zero, List.set_cons_succ]
      refine take_at (i := 1) (v := ?_) (some 35) rfl rfl (by kernel_rfl) (by kernel_rfl) (by kernel_rfl) (fun _ _ _ h => h) (Or.inl ⟨by rfl, ?_⟩) (by assumption) ?_
      rotate_left
      · (intro w hSw; (try dsimp only at hSw); go_simp; try with_reducible rfl)
      simp only [Act.put, List.setIfInBounds_toArray, List.set_cons_zero, List.set_cons_succ]
      refine take_at (i := 2) (v := ?_) (some 36) rfl rfl (by kernel_rfl) (by kernel_rfl) (by kernel_rfl) (fun _ _ _ h => h) (Or.inl ⟨by rfl, ?_⟩) (by assumption) ?_
      rotate_left
      · (intro w hSw; (try dsimp only at hSw); go_simp; try with_reducible rfl)
      simp only [Act.put, List.setIfInBounds_toArray, List.set_cons_zero, List.set_cons_succ]
      refine take_at (i := 3) (v := ?_) (some 37) rfl rfl (by kernel_rfl) (by kernel_rfl) (by kernel_rfl) (fun _ _ _ h => h) (Or.inl ⟨by rfl, ?_⟩) (by assumption) ?_
      rotate_left
      · (intro w hSw; (try dsimp only at hSw); go_simp; try with_reducible rfl)
      simp only [Act.put, List.setIfInBounds_toArray, List.set_cons_zero, List.set_cons_succ]
      refine take_at (i := 4) (v := ?_) (some 38) rfl rfl (by kernel_rfl) (by kernel_rfl) (by kernel_rfl) (fun _ _ _ h => h) (Or.inl ⟨by rfl, ?_⟩) (by assumption) ?_
      rotate_left
      · (intro w hSw; (try dsimp only at hSw); go_simp; try with_reducible rfl)
      simp only [Act.put, List.setIfInBounds_toArray, List.set_cons_zero, List.set_cons_succ]
      refine take_at (i := 5) (v := ?_) (some 39) rfl rfl (by kernel_rfl) (by kernel_rfl) (by kernel_rfl) (fun _ _ _ h => h) (Or.inl ⟨by rfl, ?_⟩) (by assumption) ?_
      rotate_left
      · (intro w hSw; (try dsimp only at hSw); go_simp; try with_reducible rfl)
      simp only [Act.put, List.setIfInBounds_toArray, List.set_cons_zero, List.set_cons_succ]
      refine take_at (i := 6) (v := (.slice (some ⟨W.heap.size, k * 256, none⟩) 256 (n * 256 - k * 256))) (some 40) rfl rfl (by kernel_rfl) (by kernel_rfl) (by kernel_rfl) (fun _ _ _ h => h) (Or.inl ⟨by rfl, ?_⟩) (by assumption) ?_
      · (intro w hSw; (try dsimp only at hSw); go_simp)
      simp only [Act.put, List.setIfInBounds_toArray, List.set_cons_zero, List.set_cons_succ]
      refine take_at (i := 7) (v := ?_) (some 41) rfl rfl (by kernel_rfl) (by kernel_rfl) (by kernel_rfl) (fun _ _ _ h => h) (Or.inl ⟨by rfl, ?_⟩) (by assumption) ?_
      rotate_left
      · (intro w hSw; (try dsimp only at hSw); go_simp; try with_reducible rfl)
      simp only [Act.put, List.setIfInBounds_toArray, List.set_cons_zero, List.set_cons_succ]
      refine take_at (i := 8) (v := ?_) (some 42) rfl rfl (by kernel_rfl) (by kernel_rfl) (by kernel_rfl) (fun _ _ _ h => h) (Or.inl ⟨by rfl, ?_⟩) (by assumption) ?_
      rotate_left
      · (intro w hSw; (try dsimp only at hSw); go_simp; try with_reducible rfl)
      simp only [Act.put, List.setIfInBounds_toArray, List.set_cons_zero, List.set_cons_succ]
      refine take_at (i := 9) (v := ?_) (some 43) rfl rfl (by kernel_rfl) (by kernel_rfl) (by kernel_rfl) (fun _ _ _ h => h) (Or.inl ⟨by rfl, ?_⟩) (by assumption) ?_
      rotate_left
      · (intro w hSw; (try dsimp only at hSw); go_simp; try with_reducible rfl)
      simp only [Act.put, List.setIfInBounds_toArray, List.set_cons_zero, List.set_cons_succ]
      refine take_at (i := 10) (v := ?_) (some 44) rfl rfl (by kernel_rfl) (by kernel_rfl) (by kernel_rfl) (fun _ _ _ h => h) (Or.inl ⟨by rfl, ?_⟩) (by assumption) ?_
      rotate_left
      · (intro w hSw; (try dsimp only at hSw); go_simp; try with_reducible rfl)
      simp only [Act.put, List.setIfInBounds_toArray, List.set_cons_zero, List.set_cons_succ]
      refine call_at (i := 11) (some 45) 24 _ _ rfl rfl rfl (by rfl) (by kernel_rfl) #[.int .u8 (g k)] rfl Try.func24 (by kernel_rfl) (by kernel_rfl) ?_
      refine (sector_any (g k) _).mono ?_
      rintro e w5 ⟨rfl, hR5, hB5⟩
      have B5 : Hid (Below wr.heap.size wr w5) := (Below.refl _ wr).drew.trans hB5
      have R5 : Hid (IRow w5 wr.heap.size .u8 256 (fun _ => g k)) := hR5.irow
      have S5 : w5.cell? ⟨b, off + k, none⟩ = some (.int .u8 (g k)) := (hB5.cell (p := ⟨b, off + k, none⟩) lb).trans c0
      clear hR5 hB5
      refine ⟨_, rfl, S5, fun hHeld => ?_⟩
      simp only [Act.put, List.setIfInBounds_toArray, List.set_cons_zero, List.set_cons_succ]
      refine call_at (i := 12) (some 46) 25 _ _ rfl rfl rfl (by rfl) (by kernel_rfl) #[.slice (some ⟨W.heap.size, k * 256, none⟩) 256 (n * 256 - k * 256), .slice (some ⟨wr.heap.size, 0, none⟩) 256 256] rfl Try.func25 (by kernel_rfl) (by kernel_rfl) ?_
      refine (same_any _ _ _ _ _ _ _ (fun _ => g k) _ (A1.out _ B5.out) (Arg.of (R5.out.lies (fun _ _ => gb)))).mono ?_
      rintro e w6 ⟨rfl, h6⟩
      rw [h6, TT]
      clear h6 w6
      refine ⟨_, rfl, S5, fun hHeld => ?_⟩
      simp only [Act.put, List.setIfInBounds_toArray, List.set_cons_zero, List.set_cons_succ]
      refine take_at (i := 13) (v := ?_) (some 47) rfl rfl (by kernel_rfl) (by kernel_rfl) (by kernel_rfl) (fun _ _ _ h => h) (Or.inl ⟨by rfl, ?_⟩) (by assumption) ?_
      rotate_left
      · (intro w hSw; (try dsimp only at hSw); go_simp; try with_reducible rfl)
      simp only [Act.put, List.setIfInBounds_toArray, List.set_cons_zero, List.set_cons_succ]
      refine wpAnyH_done (by kernel_rfl) ?_ _
      refine NoPanic.normal ?_
      have RB : Hid (Below W.heap.size W w5) := HB.out.trans ((BE.out.trans (B5.out.mono zz)).mono HB.out.size)
      clear i2 i3 i4 i5 i6 i7 i8 i9 j1 j2 q1 q2 q3 q4 hHeld c0 S5 gb lb TT m1 m2
      go_wp2_with fail
      go_ret
      exact ⟨rfl, RB.out⟩
theorem reads_one (W : World) (d s m x b C : Nat) (D : Dsk) (l : Int) (o : Bool) (i v : Int) (h : DiskAt W d s m D) (hf : FuseIs W D.fz l o) (hu : D.up o = true) (hx : x < D.N) (hi : i = x) (hL : Lies W b 0 1 (fun _ => v)) :
    Calls Try.prog 29 #[.pointer (some ⟨d, 0, none⟩), .int .i64 i, .slice (some ⟨b, 0, none⟩) 1 C] W fun e w' => ((e = .returned (.bool true) ∧ ∀ j, j < 256 → D.sec (x * 256 + j) = v) ∨ (e = .returned (.bool false) ∧ ¬ ∀ j, j < 256 → D.sec (x * 256 + j) = v)) ∧ Below W.heap.size W w' := by
  subst hi
  by_cases g : ∀ j, j < 256 → D.sec (x * 256 + j) = v
  · exact (reads_any W d s m x 1 b 0 C D l o (fun _ => v) h hf hu (by omega) (by omega) hL (fun k j hk hj => (show k = 0 by omega) ▸ g j hj)).mono fun e w' q => ⟨.inl ⟨q.1, g⟩, q.2⟩
  · exact (reads_no W d s m x 1 b 0 C D l o (fun _ => v) h hf hu (by omega) rfl hL g).mono fun e w' q => ⟨.inr ⟨q.1, g⟩, q.2⟩
section
variable {ops : Array Oper} {Q : Exit → Act → World → Prop} {md : Region.Mode} {S : World → Prop}
/-- Either of two operations may come up. -/
theorem either_at {i j : Nat} {oi oj : Oper} {fuel : Nat} {listed : Array Bool} {a : Act} {w : World} (di dj : Option Tmp) (hi : ops[i]? = some oi) (hj : ops[j]? = some oj) (hdi : oi.dst = di) (hdj : oj.dst = dj)
    (hr : Region.ready md ops listed = [i, j]) (hwi : Region.wanted oi (yielded ops a.tmps) = true) (hwj : Region.wanted oj (yielded ops a.tmps) = true)
    (vi vj : Value) (w1 w1' : World) (h1 : (execOp a.eval oi).run Try.prog w = .ok (.value vi) w1) (h1' : (execOp a.eval oj).run Try.prog w = .ok (.value vj) w1') (hS : S w1 ∧ S w1')
    (k1 : S w1 → wpAnyH Try.prog md ops Q S fuel (listed.setIfInBounds i true) (a.put di vi) w1)
    (k2 : S w1' → wpAnyH Try.prog md ops Q S fuel (listed.setIfInBounds j true) (a.put dj vj) w1') : wpAnyH Try.prog md ops Q S (fuel + 1) listed a w := by
  subst hdi hdj
  refine wpAnyH_all hr (by simp) (fun k hk => ?_)
  have hk' : k = i ∨ k = j := by simpa using hk
  rcases hk' with rfl | rfl
  · unfold wpOp
    simp only [hi, hwi, if_true]
    refine .inl ?_
    unfold Oper.wp
    rw [h1]
    exact ⟨hS.1, k1 hS.1⟩
  · unfold wpOp
    simp only [hj, hwj, if_true]
    refine .inl ?_
    unfold Oper.wp
    rw [h1']
    exact ⟨hS.2, k2 hS.2⟩
end
end Go.Proofs.Ytoehbljnapdbgaa
