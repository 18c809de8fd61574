/-
  Walks, not a claim by itself: the reference's sets: New and Bytes. By the verifier.
-/
import Derived.Test.YtkncnpjhfcfmnaaDoorFBk
import Derived.Test.YtkncnpjhfcfmnaaDoorFOnce2
import Derived.Test.YtkncnpjhfcfmnaaDoorBApp
namespace Go.Proofs.YtkncnpjhfcfmnaaDoor
open Go.RowKit
def nts (h : Nat → Nat) (j : Nat) : Int := ((h j : Nat) : Int)
/-- The reference's set in memory. -/
structure RAt (X : World) (r B n : Nat) (h : Nat → Nat) : Prop where
  c : X.cell? ⟨r, 0, none⟩ = some (.slice (some ⟨B, 0, none⟩) n n)
  w : IRow X B .i64 n (nts h)
  l : r < X.heap.size
  ne : r ≠ B
theorem RAt.below {X Y : World} {r B n : Nat} {h : Nat → Nat} (a : RAt X r B n h) (hb : Below X.heap.size X Y) : RAt Y r B n h :=
  ⟨(hb.cell (p := ⟨r, 0, none⟩) a.l).trans a.c, a.w.below hb, Nat.lt_of_lt_of_le a.l hb.size, a.ne⟩
theorem RAt.belowB {X Y : World} {r B n b : Nat} {h : Nat → Nat} (a : RAt X r B n h) (hb : Below b X Y) (h1 : r < b) (h2 : B < b) : RAt Y r B n h :=
  ⟨(hb.cell (p := ⟨r, 0, none⟩) h1).trans a.c, a.w.belowB hb h2, Nat.lt_of_lt_of_le a.l hb.size, a.ne⟩
theorem RAt.but {X Y : World} {r B n b : Nat} {h : Nat → Nat} (a : RAt X r B n h) (hb : But b X Y) (h1 : r ≠ b) (h2 : B ≠ b) : RAt Y r B n h :=
  ⟨(hb.cell (p := ⟨r, 0, none⟩) a.l h1).trans a.c, a.w.but hb h2, Nat.lt_of_lt_of_le a.l hb.size, a.ne⟩
theorem rnew_er (W : World) (x : Int) (h : x < 1 ∨ 512 < x) : Calls Tryd.prog 10 #[.int .i64 x] W fun e w' => e = .returned (.tuple #[.pointer none, .int .i64 5]) ∧ w' = W := by
  by_cases h1 : x < 1
  · clear h
    go_enter Tryd.func10, Tryd.ntmps10
    go_wp2
    go_ret2
    exact ⟨rfl, rfl⟩
  · have h2 : 512 < x := by omega
    clear h
    go_enter Tryd.func10, Tryd.ntmps10
    go_wp2
    go_ret2
    exact ⟨rfl, rfl⟩
theorem rnew_ok (W : World) (n : Nat) (h1 : 1 ≤ n) (h2 : n ≤ 512) : Calls Tryd.prog 10 #[.int .i64 (n : Int)] W fun e w' => e = .returned (.tuple #[.pointer (some ⟨W.heap.size + 1, 0, none⟩), .int .i64 0]) ∧ RAt w' (W.heap.size + 1) W.heap.size n (fun _ => 0) ∧ Below W.heap.size W w' := by
  have e1 : ((n : Int) < 1) = False := by simp; omega
  have e2 : (512 < (n : Int)) = False := by simp; omega
  have mk := make_ints n (by omega)
  go_enter Tryd.func10, Tryd.ntmps10
  go_wp2
  go_ret2
  refine ⟨by simp, ⟨by simp [go_sem], ?_, by simp, by omega⟩, ((Below.refl _ _).alloc (Nat.le_refl _) _).alloc (by simp) _⟩
  exact ((IRow.made64 W n _).alloc _).congr (fun j _ => rfl)
theorem Own.stored {w : World} {base g n cap : Nat} {F : Nat → Int} (h : Own w base (.slice (some ⟨g, 0, none⟩) n cap) n F) (j : Nat) (v : Int) (hj : j < n) : Own (w.setCell ⟨g, j, none⟩ (.int .u8 v)) base (.slice (some ⟨g, 0, none⟩) n cap) n (upd F j v) := by
  have := (World.ownsRow.stored h j (.int .u8 v)).1
  unfold Own
  rw [show cl .u8 n (upd F j v) = (cl .u8 n F).set j (.int .u8 v) from ?_]
  · exact this
  · refine List.ext_getElem? fun i => ?_
    by_cases hi : i < n
    · rw [cl_at .u8 n _ i hi, List.getElem?_set]
      unfold upd
      by_cases e : i = j
      · subst e; rw [if_pos rfl, if_pos rfl, if_pos (by rw [cl_len]; exact hi)]
      · rw [if_neg e, if_neg (fun q => e q.symm), cl_at .u8 n _ i hi]
    · rw [List.getElem?_eq_none (by rw [cl_len]; omega), List.getElem?_eq_none (by rw [List.length_set, cl_len]; omega)]
/-- Before a block's bits come in, its byte is there. -/
theorem byF_new (n : Nat) (h : Nat → Nat) (k : Nat) (hk : k % 4 = 0) (j : Nat) (hj : j < 2 + k / 4 + 1) : cat (byF n h k) (2 + k / 4) (fun _ => 0) j = byF n h k j := by
  unfold cat
  by_cases e : j < 2 + k / 4
  · rw [if_pos e]
  · rw [if_neg e]
    obtain rfl : j = 2 + k / 4 := by omega
    rw [byF_at]
    have z : ∀ t, qd h k (k / 4) t = 0 := fun t => by unfold qd; rw [if_neg (by omega)]
    unfold byteN
    rw [z, z, z, z]
    rfl
theorem byte_add (h : Nat → Nat) (hh : ∀ i, h i ≤ 2) (k : Nat) : IntKind.u8.wrap (((byteN h k (k / 4) : Nat) : Int) + ((h k * 4 ^ (k % 4) : Nat) : Int)) = ((byteN h k (k / 4) + h k * 4 ^ (k % 4) : Nat) : Int) := by
  have := byteN_lt h hh (k + 1) (k / 4)
  rw [byteN_step] at this
  rw [IntKind.wrap_u8']
  omega
theorem shl_small (h : Nat → Nat) (hh : ∀ i, h i ≤ 2) (k : Nat) : ((h k : Nat) : Int) * 2 ^ (2 * (k % 4)) = ((h k * 4 ^ (k % 4) : Nat) : Int) ∧ h k * 4 ^ (k % 4) ≤ 128 := by
  have hl : k % 4 < 4 := Nat.mod_lt _ (by decide)
  have p : (4 : Nat) ^ (k % 4) ≤ 64 := by
    have : (4 : Nat) ^ (k % 4) ≤ 4 ^ 3 := Nat.pow_le_pow_right (by decide) (by omega)
    exact this
  have m : h k * 4 ^ (k % 4) ≤ 2 * 64 := Nat.mul_le_mul (hh k) p
  have e : ((2 : Int) ^ (2 * (k % 4))) = ((4 ^ (k % 4) : Nat) : Int) := by rw [Nat.mul_comm, ← pow24]; simp
  rw [e, ← Int.natCast_mul]
  exact ⟨rfl, m⟩
theorem one_arg (W : World) : Arg (W.alloc (.cells #[.int .u8 0] 5)) (some ⟨W.heap.size, 0, none⟩) 1 (fun _ => 0) := by
  refine .inr ⟨by decide, W.heap.size, 0, rfl, fun j hj => ?_, fun j hj => by show (0 : Int) ≤ 0 ∧ (0 : Int) < 256; decide, by simp⟩
  obtain rfl : j = 0 := by omega
  rw [World.cell?_alloc_at _ _ _ _ rfl]
  rfl
/-- What holds while the reference writes bytes. -/
structure RbI (W : World) (r B n : Nat) (h : Nat → Nat) (k : Nat) (v : Value) (X : World) : Prop where
  a : RAt X r B n h
  o : Own X W.heap.size v (2 + (k + 3) / 4) (byF n h k)
  w : Below W.heap.size W X
set_option maxRecDepth 100000 in
set_option maxHeartbeats 1000000 in
theorem rbytes_ok (W : World) (r B n : Nat) (h : Nat → Nat) (a : RAt W r B n h) (hh : ∀ i, h i ≤ 2) (n2 : n ≤ 512) : Calls Tryd.prog 21 #[.pointer (some ⟨r, 0, none⟩)] W fun e w' => ∃ g cap, e = .returned (.slice (some ⟨g, 0, none⟩) (szN n) cap) ∧ W.heap.size ≤ g ∧ szN n ≤ cap ∧ Lies w' g 0 (szN n) (byF n h n) ∧ Below W.heap.size W w' := by
  have A := hidIt a
  have HH := hidIt hh
  have c0 : W.drew.cell? ⟨r, 0, none⟩ = some (.slice (some ⟨B, 0, none⟩) n n) := a.c
  clear a hh
  go_enter Tryd.func21, Tryd.ntmps21
  go_wp2
  go_region
  go_wp2
  have I0 : RbI W r B n h 0 (.slice (some ⟨W.heap.size, 0, none⟩) 2 2) (W.alloc (.cells #[.int .u8 ((n : Int) % 256), .int .u8 ((n : Int) / 256)] 5)).drew := by
    have o := Own.lit W W.heap.size 2 (fun j => if j = 0 then (n : Int) % 256 else (n : Int) / 256) (Nat.le_refl _) (by decide)
    have b : Below W.heap.size W (W.alloc (.cells #[.int .u8 ((n : Int) % 256), .int .u8 ((n : Int) / 256)] 5)).drew := ((Below.refl _ _).alloc (Nat.le_refl _) _).drew
    refine ⟨A.out.below b, Own.congr (F := fun j => if j = 0 then (n : Int) % 256 else (n : Int) / 256) (Own.below o (Below.refl _ _).drew) (fun j hj => ?_), b⟩
    have h2 : j = 0 ∨ j = 1 := by omega
    rcases h2 with rfl | rfl
    · rw [if_pos rfl]; simp [byF]
    · rw [if_neg (by decide)]; simp [byF]
  go_loopw [3, 4] (fun v i wr => ∃ k : Nat, k ≤ n ∧ i = .int .i64 (k : Int) ∧ RbI W r B n h k v wr) (fun _ i _ => n - (RowKit.intOf i).toNat)
  case atStart => exact ⟨0, Nat.zero_le _, rfl, I0⟩
  case round =>
    obtain ⟨k, hk, rfl, hI⟩ := hrel
    clear I0 c0
    have I := hidIt hI
    clear hI
    by_cases hlt : k < n
    · have rW : r < W.heap.size := A.out.l
      have BW : B < W.heap.size := A.out.w.2.2
      have i0 : (k : Int) < (n : Int) := by omega
      have i1 : (0 : Int) ≤ (k : Int) := by omega
      have c0 := I.out.a.c
      have w1 : IntKind.i64.wrap (2 + (k : Int) / 4) = 2 + (k : Int) / 4 := by rw [IntKind.wrap_i64]; omega
      have w2 : wrap64 (2 + (k : Int) / 4) = 2 + (k : Int) / 4 := by unfold wrap64; omega
      have k8 : Hid (k + 1 ≤ n) := hlt
      by_cases hz : k % 4 = 0
      · obtain ⟨v', X, hr, ho, hb⟩ := app_arg 38 (wr.alloc (.cells #[.int .u8 0] 5)) W.heap.size (2 + k / 4) 1 1 u3 (some ⟨wr.heap.size, 0, none⟩) (byF n h k) (fun _ => 0) (by have := I.out.o; rw [show 2 + (k + 3) / 4 = 2 + k / 4 by omega] at this; exact this.below ((Below.refl _ _).alloc (Nat.le_refl _) _)) (one_arg wr) (by omega) (by have := I.out.w.size; simp; omega)
        have bX : Below W.heap.size wr X := ((Below.refl _ _).alloc I.out.w.size _).trans hb
        have aX := I.out.a.belowB bX rW BW
        have wX := I.out.w.trans bX
        have oX := ho.congr (byF_new n h k hz)
        obtain ⟨g, cap, rfl, hg, hcap, lg⟩ := oX.form (by omega) (fun j _ => byF_range n h HH.out n2 k j)
        have QX := hidIt (And.intro aX (And.intro oX (And.intro wX (And.intro hg hcap))))
        have hzz : ((k : Int) % 4 == 0) = true := by simp; omega
        clear ho hb bX aX wX oX lg hg hcap hz
        go_wp2_with (refine wpList_append_go rfl (.tmp 32) (.tmp 33) 38 38 rfl _ _ rfl rfl hr ?_)
        have cr : X.drew.cell? ⟨r, 0, none⟩ = some (.slice (some ⟨B, 0, none⟩) n n) := QX.out.1.c
        have cB : X.drew.cell? ⟨B, k, none⟩ = some (.int .i64 ((h k : Nat) : Int)) := QX.out.1.w.1 k k8.out
        have cg : X.drew.cell? ⟨g, 2 + k / 4, none⟩ = some (.int .u8 ((byteN h k (k / 4) : Nat) : Int)) := by
          have := World.ownsRow.cellAt QX.out.2.1 (2 + k / 4) (by omega)
          rw [cl_at .u8 _ _ _ (by omega), byF_at] at this
          exact this
        have fg : X.drew.frozen? ⟨g, 2 + k / 4, none⟩ = false := World.ownsRow.frozenAt QX.out.2.1 (2 + k / 4)
        have sh := shl_small h HH.out k
        have j1 : (2 + (k : Int) / 4).toNat = 2 + k / 4 := by omega
        have j2 : (0 : Int) ≤ 2 + (k : Int) / 4 := by omega
        have j3 : 2 + (k : Int) / 4 < 2 + (k : Int) / 4 + 1 := by omega
        have j4 : (0 : Int) ≤ 2 * ((k : Int) % 4) := by omega
        have tm : Int.tmod (k : Int) 4 = (k : Int) % 4 := Int.tmod_eq_emod_of_nonneg (by omega)
        have j5 : 2 * ((k : Int) % 4) ≤ 64 := by omega
        have j6 : (2 * ((k : Int) % 4)).toNat = 2 * (k % 4) := by omega
        have j7 : IntKind.i64.wrap (2 * ((k : Int) % 4)) = 2 * ((k : Int) % 4) := by rw [IntKind.wrap_i64]; omega
        have j8 : wrap64 (2 * ((k : Int) % 4)) = 2 * ((k : Int) % 4) := by unfold wrap64; omega
        have j9 : IntKind.i64.wrap (((h k : Nat) : Int) * 2 ^ (2 * (k % 4))) = ((h k * 4 ^ (k % 4) : Nat) : Int) := by rw [sh.1, IntKind.wrap_i64]; have := sh.2; omega
        have j10 : IntKind.u8.wrap ((h k * 4 ^ (k % 4) : Nat) : Int) = ((h k * 4 ^ (k % 4) : Nat) : Int) := by rw [IntKind.wrap_u8']; have := sh.2; omega
        have j11 := byte_add h HH.out k
        have RB : Hid (RbI W r B n h (k + 1) (.slice (some ⟨g, 0, none⟩) (2 + k / 4 + 1) cap) (X.drew.setCell ⟨g, 2 + k / 4, none⟩ (.int .u8 ((byteN h k (k / 4) + h k * 4 ^ (k % 4) : Nat) : Int)))) := by
          have o := (Own.below QX.out.2.1 (Below.refl _ _).drew).stored (2 + k / 4) ((byteN h k (k / 4) + h k * 4 ^ (k % 4) : Nat) : Int) (by omega)
          rw [byF_step] at o
          have bb : But g X (X.drew.setCell ⟨g, 2 + k / 4, none⟩ (.int .u8 ((byteN h k (k / 4) + h k * 4 ^ (k % 4) : Nat) : Int))) := (But.refl _ _).drew.trans (But.set _ _ _)
          have hg := QX.out.2.2.2.1
          exact ⟨QX.out.1.but bb (by omega) (by omega), by rw [show 2 + (k + 1 + 3) / 4 = 2 + k / 4 + 1 by omega]; exact o, QX.out.2.2.1.trans (bb.below hg QX.out.2.2.1.size)⟩
        have hst : (Instr.storeAt 5 (.pointer (some ⟨g, 2 + k / 4, none⟩)) (.int .u8 ((byteN h k (k / 4) + h k * 4 ^ (k % 4) : Nat) : Int))).run Tryd.prog X.drew = .ok () (X.drew.setCell ⟨g, 2 + k / 4, none⟩ (.int .u8 ((byteN h k (k / 4) + h k * 4 ^ (k % 4) : Nat) : Int))) := by simp [go_sem, cg, fg]
        clear sh
        generalize ((byteN h k (k / 4) + h k * 4 ^ (k % 4) : Nat) : Int) = zz at j11 RB hst
        generalize ((h k * 4 ^ (k % 4) : Nat) : Int) = y at j9 j10 j11
        generalize (X.drew.setCell ⟨g, 2 + k / 4, none⟩ (.int .u8 zz)) = Y at RB hst
        refine wp_region_noPanic ?_
        refine wp_region_held_drew (S := fun Y => Y.cell? ⟨r, 0, none⟩ = some (.slice (some ⟨B, 0, none⟩) n n) ∧ Y.cell? ⟨B, k, none⟩ = some (.int .i64 ((h k : Nat) : Int))) (by kernel_rfl) ⟨cr, cB⟩ (fun hHeld => ?_)
        refine take_at (i := 0) (v := ?_) (some 38) rfl rfl (by kernel_rfl) (by kernel_rfl) (by kernel_rfl) (fun _ _ _ h => h) (Or.inl ⟨by rfl, ?_⟩) (by assumption) ?_
        rotate_left
        · (intro w hSw; (try dsimp only at hSw); (try obtain ⟨_q1, _q2⟩ := hSw); go_simp; try with_reducible rfl)
        simp only [Act.put, List.setIfInBounds_toArray, List.set_cons_zero, List.set_cons_succ]
        refine take_at (i := 1) (v := ?_) (some 39) rfl rfl (by kernel_rfl) (by kernel_rfl) (by kernel_rfl) (fun _ _ _ h => h) (Or.inl ⟨by rfl, ?_⟩) (by assumption) ?_
        rotate_left
        · (intro w hSw; (try dsimp only at hSw); (try obtain ⟨_q1, _q2⟩ := hSw); go_simp; try with_reducible rfl)
        simp only [Act.put, List.setIfInBounds_toArray, List.set_cons_zero, List.set_cons_succ]
        refine take_at (i := 2) (v := ?_) (some 40) rfl rfl (by kernel_rfl) (by kernel_rfl) (by kernel_rfl) (fun _ _ _ h => h) (Or.inl ⟨by rfl, ?_⟩) (by assumption) ?_
        rotate_left
        · (intro w hSw; (try dsimp only at hSw); (try obtain ⟨_q1, _q2⟩ := hSw); go_simp; try with_reducible rfl)
        simp only [Act.put, List.setIfInBounds_toArray, List.set_cons_zero, List.set_cons_succ]
        refine take_at (i := 3) (v := ?_) (some 41) rfl rfl (by kernel_rfl) (by kernel_rfl) (by kernel_rfl) (fun _ _ _ h => h) (Or.inl ⟨by rfl, ?_⟩) (by assumption) ?_
        rotate_left
        · (intro w hSw; (try dsimp only at hSw); (try obtain ⟨_q1, _q2⟩ := hSw); go_simp; try with_reducible rfl)
        simp only [Act.put, List.setIfInBounds_toArray, List.set_cons_zero, List.set_cons_succ]
        refine take_at (i := 4) (v := ?_) (some 42) rfl rfl (by kernel_rfl) (by kernel_rfl) (by kernel_rfl) (fun _ _ _ h => h) (Or.inl ⟨by rfl, ?_⟩) (by assumption) ?_
        rotate_left
        · (intro w hSw; (try dsimp only at hSw); (try obtain ⟨_q1, _q2⟩ := hSw); go_simp; try with_reducible rfl)
        simp only [Act.put, List.setIfInBounds_toArray, List.set_cons_zero, List.set_cons_succ]
        refine take_at (i := 6) (v := ?_) (some 44) rfl rfl (by kernel_rfl) (by kernel_rfl) (by kernel_rfl) (fun _ _ _ h => h) (Or.inl ⟨by rfl, ?_⟩) (by assumption) ?_
        rotate_left
        · (intro w hSw; (try dsimp only at hSw); (try obtain ⟨_q1, _q2⟩ := hSw); go_simp; try with_reducible rfl)
        simp only [Act.put, List.setIfInBounds_toArray, List.set_cons_zero, List.set_cons_succ]
        refine take_at (i := 7) (v := ?_) (some 45) rfl rfl (by kernel_rfl) (by kernel_rfl) (by kernel_rfl) (fun _ _ _ h => h) (Or.inl ⟨by rfl, ?_⟩) (by assumption) ?_
        rotate_left
        · (intro w hSw; (try dsimp only at hSw); (try obtain ⟨_q1, _q2⟩ := hSw); go_simp; try with_reducible rfl)
        simp only [Act.put, List.setIfInBounds_toArray, List.set_cons_zero, List.set_cons_succ]
        refine take_at (i := 8) (v := ?_) (some 46) rfl rfl (by kernel_rfl) (by kernel_rfl) (by kernel_rfl) (fun _ _ _ h => h) (Or.inl ⟨by rfl, ?_⟩) (by assumption) ?_
        rotate_left
        · (intro w hSw; (try dsimp only at hSw); (try obtain ⟨_q1, _q2⟩ := hSw); go_simp; try with_reducible rfl)
        simp only [Act.put, List.setIfInBounds_toArray, List.set_cons_zero, List.set_cons_succ]
        refine take_at (i := 9) (v := ?_) (some 47) rfl rfl (by kernel_rfl) (by kernel_rfl) (by kernel_rfl) (fun _ _ _ h => h) (Or.inl ⟨by rfl, ?_⟩) (by assumption) ?_
        rotate_left
        · (intro w hSw; (try dsimp only at hSw); (try obtain ⟨_q1, _q2⟩ := hSw); go_simp; try with_reducible rfl)
        simp only [Act.put, List.setIfInBounds_toArray, List.set_cons_zero, List.set_cons_succ]
        refine take_at (i := 10) (v := ?_) (some 48) rfl rfl (by kernel_rfl) (by kernel_rfl) (by kernel_rfl) (fun _ _ _ h => h) (Or.inl ⟨by rfl, ?_⟩) (by assumption) ?_
        rotate_left
        · (intro w hSw; (try dsimp only at hSw); (try obtain ⟨_q1, _q2⟩ := hSw); go_simp; try with_reducible rfl)
        simp only [Act.put, List.setIfInBounds_toArray, List.set_cons_zero, List.set_cons_succ]
        refine take_at (i := 11) (v := ?_) (some 49) rfl rfl (by kernel_rfl) (by kernel_rfl) (by kernel_rfl) (fun _ _ _ h => h) (Or.inl ⟨by rfl, ?_⟩) (by assumption) ?_
        rotate_left
        · (intro w hSw; (try dsimp only at hSw); (try obtain ⟨_q1, _q2⟩ := hSw); go_simp; try with_reducible rfl)
        simp only [Act.put, List.setIfInBounds_toArray, List.set_cons_zero, List.set_cons_succ]
        refine take_at (i := 12) (v := ?_) (some 50) rfl rfl (by kernel_rfl) (by kernel_rfl) (by kernel_rfl) (fun _ _ _ h => h) (Or.inl ⟨by rfl, ?_⟩) (by assumption) ?_
        rotate_left
        · (intro w hSw; (try dsimp only at hSw); (try obtain ⟨_q1, _q2⟩ := hSw); go_simp; try with_reducible rfl)
        simp only [Act.put, List.setIfInBounds_toArray, List.set_cons_zero, List.set_cons_succ]
        refine take_at (i := 13) (v := ?_) (some 51) rfl rfl (by kernel_rfl) (by kernel_rfl) (by kernel_rfl) (fun _ _ _ h => h) (Or.inl ⟨by rfl, ?_⟩) (by assumption) ?_
        rotate_left
        · (intro w hSw; (try dsimp only at hSw); (try obtain ⟨_q1, _q2⟩ := hSw); go_simp; try with_reducible rfl)
        simp only [Act.put, List.setIfInBounds_toArray, List.set_cons_zero, List.set_cons_succ]
        refine take_at (i := 14) (v := ?_) (some 52) rfl rfl (by kernel_rfl) (by kernel_rfl) (by kernel_rfl) (fun _ _ _ h => h) (Or.inl ⟨by rfl, ?_⟩) (by assumption) ?_
        rotate_left
        · (intro w hSw; (try dsimp only at hSw); (try obtain ⟨_q1, _q2⟩ := hSw); go_simp; try with_reducible rfl)
        simp only [Act.put, List.setIfInBounds_toArray, List.set_cons_zero, List.set_cons_succ]
        refine take_at (i := 15) (v := ?_) (some 53) rfl rfl (by kernel_rfl) (by kernel_rfl) (by kernel_rfl) (fun _ _ _ h => h) (Or.inl ⟨by rfl, ?_⟩) (by assumption) ?_
        rotate_left
        · (intro w hSw; (try dsimp only at hSw); (try obtain ⟨_q1, _q2⟩ := hSw); go_simp; try with_reducible rfl)
        simp only [Act.put, List.setIfInBounds_toArray, List.set_cons_zero, List.set_cons_succ]
        refine take_at (i := 16) (v := ?_) (some 54) rfl rfl (by kernel_rfl) (by kernel_rfl) (by kernel_rfl) (fun _ _ _ h => h) (Or.inl ⟨by rfl, ?_⟩) (by assumption) ?_
        rotate_left
        · (intro w hSw; (try dsimp only at hSw); (try obtain ⟨_q1, _q2⟩ := hSw); go_simp; try with_reducible rfl)
        simp only [Act.put, List.setIfInBounds_toArray, List.set_cons_zero, List.set_cons_succ]
        refine take_at (i := 17) (v := ?_) (some 55) rfl rfl (by kernel_rfl) (by kernel_rfl) (by kernel_rfl) (fun _ _ _ h => h) (Or.inl ⟨by rfl, ?_⟩) (by assumption) ?_
        rotate_left
        · (intro w hSw; (try dsimp only at hSw); (try obtain ⟨_q1, _q2⟩ := hSw); go_simp; try with_reducible rfl)
        simp only [Act.put, List.setIfInBounds_toArray, List.set_cons_zero, List.set_cons_succ]
        refine step_at (i := 5) (some 43) rfl rfl (by rfl) (by kernel_rfl) (.int .u8 ((byteN h k (k / 4) : Nat) : Int)) X.drew (by simp [execOp, go_sem, Act.eval, cg]) (by assumption) (fun hHeld => ?_)
        simp only [Act.put, List.setIfInBounds_toArray, List.set_cons_zero, List.set_cons_succ]
        refine take_at (i := 18) (v := ?_) (some 56) rfl rfl (by kernel_rfl) (by kernel_rfl) (by kernel_rfl) (fun _ _ _ h => h) (Or.inl ⟨by rfl, ?_⟩) (by assumption) ?_
        rotate_left
        · (intro w hSw; (try dsimp only at hSw); (try obtain ⟨_q1, _q2⟩ := hSw); go_simp; try with_reducible rfl)
        simp only [Act.put, List.setIfInBounds_toArray, List.set_cons_zero, List.set_cons_succ]
        refine take_at (i := 19) (v := ?_) (some 57) rfl rfl (by kernel_rfl) (by kernel_rfl) (by kernel_rfl) (fun _ _ _ h => h) (Or.inl ⟨by rfl, ?_⟩) (by assumption) ?_
        rotate_left
        · (intro w hSw; (try dsimp only at hSw); (try obtain ⟨_q1, _q2⟩ := hSw); go_simp; try with_reducible rfl)
        simp only [Act.put, List.setIfInBounds_toArray, List.set_cons_zero, List.set_cons_succ]
        refine mute_at (i := 20) none rfl rfl (by rfl) (by kernel_rfl) _ (put_mute 5 (.tmp 57) (.tmp 56) rfl _ _ rfl rfl hst) ⟨RB.out.a.c, RB.out.a.w.1 k k8.out⟩ (fun hHeld => ?_)
        simp only [Act.put]
        refine wpAnyH_done (by kernel_rfl) ?_ _
        refine NoPanic.normal ?_
        clear cr cB cg fg hst
        go_wp2
        exact ⟨⟨k + 1, k8.out, by simp, RB.out⟩, meas_m n k k8.out⟩
      · obtain ⟨g, cap, hv, hg, hcap, lg⟩ := I.out.o.form (by omega) (fun j _ => byF_range n h HH.out n2 k j)
        subst hv
        have hl : 2 + (k + 3) / 4 = 2 + k / 4 + 1 := by omega
        have QX := hidIt (And.intro I.out.a (And.intro (show Own wr W.heap.size (.slice (some ⟨g, 0, none⟩) (2 + k / 4 + 1) cap) (2 + k / 4 + 1) (byF n h k) by have := I.out.o; rwa [hl] at this) (And.intro I.out.w (And.intro hg hcap))))
        have hzz : ((k : Int) % 4 == 0) = false := by simp; omega
        rw [hl]
        clear hg hcap lg hz hl
        obtain ⟨X, hX⟩ : ∃ X, wr = X := ⟨_, rfl⟩
        subst hX
        go_wp2
        have cr : wr.drew.cell? ⟨r, 0, none⟩ = some (.slice (some ⟨B, 0, none⟩) n n) := QX.out.1.c
        have cB : wr.drew.cell? ⟨B, k, none⟩ = some (.int .i64 ((h k : Nat) : Int)) := QX.out.1.w.1 k k8.out
        have cg : wr.drew.cell? ⟨g, 2 + k / 4, none⟩ = some (.int .u8 ((byteN h k (k / 4) : Nat) : Int)) := by
          have := World.ownsRow.cellAt QX.out.2.1 (2 + k / 4) (by omega)
          rw [cl_at .u8 _ _ _ (by omega), byF_at] at this
          exact this
        have fg : wr.drew.frozen? ⟨g, 2 + k / 4, none⟩ = false := World.ownsRow.frozenAt QX.out.2.1 (2 + k / 4)
        have sh := shl_small h HH.out k
        have j1 : (2 + (k : Int) / 4).toNat = 2 + k / 4 := by omega
        have j2 : (0 : Int) ≤ 2 + (k : Int) / 4 := by omega
        have j3 : 2 + (k : Int) / 4 < 2 + (k : Int) / 4 + 1 := by omega
        have j4 : (0 : Int) ≤ 2 * ((k : Int) % 4) := by omega
        have tm : Int.tmod (k : Int) 4 = (k : Int) % 4 := Int.tmod_eq_emod_of_nonneg (by omega)
        have j5 : 2 * ((k : Int) % 4) ≤ 64 := by omega
        have j6 : (2 * ((k : Int) % 4)).toNat = 2 * (k % 4) := by omega
        have j7 : IntKind.i64.wrap (2 * ((k : Int) % 4)) = 2 * ((k : Int) % 4) := by rw [IntKind.wrap_i64]; omega
        have j8 : wrap64 (2 * ((k : Int) % 4)) = 2 * ((k : Int) % 4) := by unfold wrap64; omega
        have j9 : IntKind.i64.wrap (((h k : Nat) : Int) * 2 ^ (2 * (k % 4))) = ((h k * 4 ^ (k % 4) : Nat) : Int) := by rw [sh.1, IntKind.wrap_i64]; have := sh.2; omega
        have j10 : IntKind.u8.wrap ((h k * 4 ^ (k % 4) : Nat) : Int) = ((h k * 4 ^ (k % 4) : Nat) : Int) := by rw [IntKind.wrap_u8']; have := sh.2; omega
        have j11 := byte_add h HH.out k
        have RB : Hid (RbI W r B n h (k + 1) (.slice (some ⟨g, 0, none⟩) (2 + k / 4 + 1) cap) (wr.drew.setCell ⟨g, 2 + k / 4, none⟩ (.int .u8 ((byteN h k (k / 4) + h k * 4 ^ (k % 4) : Nat) : Int)))) := by
          have o := (Own.below QX.out.2.1 (Below.refl _ _).drew).stored (2 + k / 4) ((byteN h k (k / 4) + h k * 4 ^ (k % 4) : Nat) : Int) (by omega)
          rw [byF_step] at o
          have bb : But g wr (wr.drew.setCell ⟨g, 2 + k / 4, none⟩ (.int .u8 ((byteN h k (k / 4) + h k * 4 ^ (k % 4) : Nat) : Int))) := (But.refl _ _).drew.trans (But.set _ _ _)
          have hg := QX.out.2.2.2.1
          exact ⟨QX.out.1.but bb (by omega) (by omega), by rw [show 2 + (k + 1 + 3) / 4 = 2 + k / 4 + 1 by omega]; exact o, QX.out.2.2.1.trans (bb.below hg QX.out.2.2.1.size)⟩
        have hst : (Instr.storeAt 5 (.pointer (some ⟨g, 2 + k / 4, none⟩)) (.int .u8 ((byteN h k (k / 4) + h k * 4 ^ (k % 4) : Nat) : Int))).run Tryd.prog wr.drew = .ok () (wr.drew.setCell ⟨g, 2 + k / 4, none⟩ (.int .u8 ((byteN h k (k / 4) + h k * 4 ^ (k % 4) : Nat) : Int))) := by simp [go_sem, cg, fg]
        clear sh
        generalize ((byteN h k (k / 4) + h k * 4 ^ (k % 4) : Nat) : Int) = zz at j11 RB hst
        generalize ((h k * 4 ^ (k % 4) : Nat) : Int) = y at j9 j10 j11
        generalize (wr.drew.setCell ⟨g, 2 + k / 4, none⟩ (.int .u8 zz)) = Y at RB hst
        refine wp_region_noPanic ?_
        refine wp_region_held_drew (S := fun Y => Y.cell? ⟨r, 0, none⟩ = some (.slice (some ⟨B, 0, none⟩) n n) ∧ Y.cell? ⟨B, k, none⟩ = some (.int .i64 ((h k : Nat) : Int))) (by kernel_rfl) ⟨cr, cB⟩ (fun hHeld => ?_)
        refine take_at (i := 0) (v := ?_) (some 38) rfl rfl (by kernel_rfl) (by kernel_rfl) (by kernel_rfl) (fun _ _ _ h => h) (Or.inl ⟨by rfl, ?_⟩) (by assumption) ?_
        rotate_left
        · (intro w hSw; (try dsimp only at hSw); (try obtain ⟨_q1, _q2⟩ := hSw); go_simp; try with_reducible rfl)
        simp only [Act.put, List.setIfInBounds_toArray, List.set_cons_zero, List.set_cons_succ]
        refine take_at (i := 1) (v := ?_) (some 39) rfl rfl (by kernel_rfl) (by kernel_rfl) (by kernel_rfl) (fun _ _ _ h => h) (Or.inl ⟨by rfl, ?_⟩) (by assumption) ?_
        rotate_left
        · (intro w hSw; (try dsimp only at hSw); (try obtain ⟨_q1, _q2⟩ := hSw); go_simp; try with_reducible rfl)
        simp only [Act.put, List.setIfInBounds_toArray, List.set_cons_zero, List.set_cons_succ]
        refine take_at (i := 2) (v := ?_) (some 40) rfl rfl (by kernel_rfl) (by kernel_rfl) (by kernel_rfl) (fun _ _ _ h => h) (Or.inl ⟨by rfl, ?_⟩) (by assumption) ?_
        rotate_left
        · (intro w hSw; (try dsimp only at hSw); (try obtain ⟨_q1, _q2⟩ := hSw); go_simp; try with_reducible rfl)
        simp only [Act.put, List.setIfInBounds_toArray, List.set_cons_zero, List.set_cons_succ]
        refine take_at (i := 3) (v := ?_) (some 41) rfl rfl (by kernel_rfl) (by kernel_rfl) (by kernel_rfl) (fun _ _ _ h => h) (Or.inl ⟨by rfl, ?_⟩) (by assumption) ?_
        rotate_left
        · (intro w hSw; (try dsimp only at hSw); (try obtain ⟨_q1, _q2⟩ := hSw); go_simp; try with_reducible rfl)
        simp only [Act.put, List.setIfInBounds_toArray, List.set_cons_zero, List.set_cons_succ]
        refine take_at (i := 4) (v := ?_) (some 42) rfl rfl (by kernel_rfl) (by kernel_rfl) (by kernel_rfl) (fun _ _ _ h => h) (Or.inl ⟨by rfl, ?_⟩) (by assumption) ?_
        rotate_left
        · (intro w hSw; (try dsimp only at hSw); (try obtain ⟨_q1, _q2⟩ := hSw); go_simp; try with_reducible rfl)
        simp only [Act.put, List.setIfInBounds_toArray, List.set_cons_zero, List.set_cons_succ]
        refine take_at (i := 6) (v := ?_) (some 44) rfl rfl (by kernel_rfl) (by kernel_rfl) (by kernel_rfl) (fun _ _ _ h => h) (Or.inl ⟨by rfl, ?_⟩) (by assumption) ?_
        rotate_left
        · (intro w hSw; (try dsimp only at hSw); (try obtain ⟨_q1, _q2⟩ := hSw); go_simp; try with_reducible rfl)
        simp only [Act.put, List.setIfInBounds_toArray, List.set_cons_zero, List.set_cons_succ]
        refine take_at (i := 7) (v := ?_) (some 45) rfl rfl (by kernel_rfl) (by kernel_rfl) (by kernel_rfl) (fun _ _ _ h => h) (Or.inl ⟨by rfl, ?_⟩) (by assumption) ?_
        rotate_left
        · (intro w hSw; (try dsimp only at hSw); (try obtain ⟨_q1, _q2⟩ := hSw); go_simp; try with_reducible rfl)
        simp only [Act.put, List.setIfInBounds_toArray, List.set_cons_zero, List.set_cons_succ]
        refine take_at (i := 8) (v := ?_) (some 46) rfl rfl (by kernel_rfl) (by kernel_rfl) (by kernel_rfl) (fun _ _ _ h => h) (Or.inl ⟨by rfl, ?_⟩) (by assumption) ?_
        rotate_left
        · (intro w hSw; (try dsimp only at hSw); (try obtain ⟨_q1, _q2⟩ := hSw); go_simp; try with_reducible rfl)
        simp only [Act.put, List.setIfInBounds_toArray, List.set_cons_zero, List.set_cons_succ]
        refine take_at (i := 9) (v := ?_) (some 47) rfl rfl (by kernel_rfl) (by kernel_rfl) (by kernel_rfl) (fun _ _ _ h => h) (Or.inl ⟨by rfl, ?_⟩) (by assumption) ?_
        rotate_left
        · (intro w hSw; (try dsimp only at hSw); (try obtain ⟨_q1, _q2⟩ := hSw); go_simp; try with_reducible rfl)
        simp only [Act.put, List.setIfInBounds_toArray, List.set_cons_zero, List.set_cons_succ]
        refine take_at (i := 10) (v := ?_) (some 48) rfl rfl (by kernel_rfl) (by kernel_rfl) (by kernel_rfl) (fun _ _ _ h => h) (Or.inl ⟨by rfl, ?_⟩) (by assumption) ?_
        rotate_left
        · (intro w hSw; (try dsimp only at hSw); (try obtain ⟨_q1, _q2⟩ := hSw); go_simp; try with_reducible rfl)
        simp only [Act.put, List.setIfInBounds_toArray, List.set_cons_zero, List.set_cons_succ]
        refine take_at (i := 11) (v := ?_) (some 49) rfl rfl (by kernel_rfl) (by kernel_rfl) (by kernel_rfl) (fun _ _ _ h => h) (Or.inl ⟨by rfl, ?_⟩) (by assumption) ?_
        rotate_left
        · (intro w hSw; (try dsimp only at hSw); (try obtain ⟨_q1, _q2⟩ := hSw); go_simp; try with_reducible rfl)
        simp only [Act.put, List.setIfInBounds_toArray, List.set_cons_zero, List.set_cons_succ]
        refine take_at (i := 12) (v := ?_) (some 50) rfl rfl (by kernel_rfl) (by kernel_rfl) (by kernel_rfl) (fun _ _ _ h => h) (Or.inl ⟨by rfl, ?_⟩) (by assumption) ?_
        rotate_left
        · (intro w hSw; (try dsimp only at hSw); (try obtain ⟨_q1, _q2⟩ := hSw); go_simp; try with_reducible rfl)
        simp only [Act.put, List.setIfInBounds_toArray, List.set_cons_zero, List.set_cons_succ]
        refine take_at (i := 13) (v := ?_) (some 51) rfl rfl (by kernel_rfl) (by kernel_rfl) (by kernel_rfl) (fun _ _ _ h => h) (Or.inl ⟨by rfl, ?_⟩) (by assumption) ?_
        rotate_left
        · (intro w hSw; (try dsimp only at hSw); (try obtain ⟨_q1, _q2⟩ := hSw); go_simp; try with_reducible rfl)
        simp only [Act.put, List.setIfInBounds_toArray, List.set_cons_zero, List.set_cons_succ]
        refine take_at (i := 14) (v := ?_) (some 52) rfl rfl (by kernel_rfl) (by kernel_rfl) (by kernel_rfl) (fun _ _ _ h => h) (Or.inl ⟨by rfl, ?_⟩) (by assumption) ?_
        rotate_left
        · (intro w hSw; (try dsimp only at hSw); (try obtain ⟨_q1, _q2⟩ := hSw); go_simp; try with_reducible rfl)
        simp only [Act.put, List.setIfInBounds_toArray, List.set_cons_zero, List.set_cons_succ]
        refine take_at (i := 15) (v := ?_) (some 53) rfl rfl (by kernel_rfl) (by kernel_rfl) (by kernel_rfl) (fun _ _ _ h => h) (Or.inl ⟨by rfl, ?_⟩) (by assumption) ?_
        rotate_left
        · (intro w hSw; (try dsimp only at hSw); (try obtain ⟨_q1, _q2⟩ := hSw); go_simp; try with_reducible rfl)
        simp only [Act.put, List.setIfInBounds_toArray, List.set_cons_zero, List.set_cons_succ]
        refine take_at (i := 16) (v := ?_) (some 54) rfl rfl (by kernel_rfl) (by kernel_rfl) (by kernel_rfl) (fun _ _ _ h => h) (Or.inl ⟨by rfl, ?_⟩) (by assumption) ?_
        rotate_left
        · (intro w hSw; (try dsimp only at hSw); (try obtain ⟨_q1, _q2⟩ := hSw); go_simp; try with_reducible rfl)
        simp only [Act.put, List.setIfInBounds_toArray, List.set_cons_zero, List.set_cons_succ]
        refine take_at (i := 17) (v := ?_) (some 55) rfl rfl (by kernel_rfl) (by kernel_rfl) (by kernel_rfl) (fun _ _ _ h => h) (Or.inl ⟨by rfl, ?_⟩) (by assumption) ?_
        rotate_left
        · (intro w hSw; (try dsimp only at hSw); (try obtain ⟨_q1, _q2⟩ := hSw); go_simp; try with_reducible rfl)
        simp only [Act.put, List.setIfInBounds_toArray, List.set_cons_zero, List.set_cons_succ]
        refine step_at (i := 5) (some 43) rfl rfl (by rfl) (by kernel_rfl) (.int .u8 ((byteN h k (k / 4) : Nat) : Int)) wr.drew (by simp [execOp, go_sem, Act.eval, cg]) (by assumption) (fun hHeld => ?_)
        simp only [Act.put, List.setIfInBounds_toArray, List.set_cons_zero, List.set_cons_succ]
        refine take_at (i := 18) (v := ?_) (some 56) rfl rfl (by kernel_rfl) (by kernel_rfl) (by kernel_rfl) (fun _ _ _ h => h) (Or.inl ⟨by rfl, ?_⟩) (by assumption) ?_
        rotate_left
        · (intro w hSw; (try dsimp only at hSw); (try obtain ⟨_q1, _q2⟩ := hSw); go_simp; try with_reducible rfl)
        simp only [Act.put, List.setIfInBounds_toArray, List.set_cons_zero, List.set_cons_succ]
        refine take_at (i := 19) (v := ?_) (some 57) rfl rfl (by kernel_rfl) (by kernel_rfl) (by kernel_rfl) (fun _ _ _ h => h) (Or.inl ⟨by rfl, ?_⟩) (by assumption) ?_
        rotate_left
        · (intro w hSw; (try dsimp only at hSw); (try obtain ⟨_q1, _q2⟩ := hSw); go_simp; try with_reducible rfl)
        simp only [Act.put, List.setIfInBounds_toArray, List.set_cons_zero, List.set_cons_succ]
        refine mute_at (i := 20) none rfl rfl (by rfl) (by kernel_rfl) _ (put_mute 5 (.tmp 57) (.tmp 56) rfl _ _ rfl rfl hst) ⟨RB.out.a.c, RB.out.a.w.1 k k8.out⟩ (fun hHeld => ?_)
        simp only [Act.put]
        refine wpAnyH_done (by kernel_rfl) ?_ _
        refine NoPanic.normal ?_
        clear cr cB cg fg hst
        go_wp2
        exact ⟨⟨k + 1, k8.out, by simp, RB.out⟩, meas_m n k k8.out⟩
    · obtain rfl : k = n := by omega
      have i0 : ¬ (k : Int) < (k : Int) := by omega
      obtain ⟨g, cap, hv, hg, hcap, lg⟩ := I.out.o.form (by omega) (fun j _ => byF_range k h HH.out n2 k j)
      subst hv
      have c0 := I.out.a.c
      have FIN := hidIt (And.intro hg (And.intro hcap (And.intro lg I.out.w)))
      clear hg hcap lg
      go_wp2
      go_ret
      exact ⟨g, cap, rfl, FIN.out⟩
end Go.Proofs.YtkncnpjhfcfmnaaDoor
