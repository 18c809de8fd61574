/-
  Walks, not a claim by itself: bytes.Repeat of a copy's bytes. By the verifier.
-/
import Derived.Test.YtfapmogjmjlokaaSRep0
import Derived.Test.YtfapmogjmjlokaaReg
namespace Go.Proofs.Ytfapmogjmjlokaa
open Go.RowKit
/-- A buffer of N cells in block g, p of which are known. -/
structure BufAt (W : World) (g N p : Nat) (f : Nat → Int) : Prop where
  there : ∀ j, j < N → (W.cell? ⟨g, j, none⟩).isSome = true
  fr : ∀ j, W.frozen? ⟨g, j, none⟩ = false
  cell : ∀ j, j < p → W.cell? ⟨g, j, none⟩ = some (.int .u8 (f j))
  byte : ∀ j, j < p → 0 ≤ f j ∧ f j < 256
  lt : g < W.heap.size
  le : p ≤ N
theorem BufAt.arg {W : World} {g N p : Nat} {f : Nat → Int} (h : BufAt W g N p f) : Arg W (some ⟨g, 0, none⟩) p f := Arg.of ⟨fun j hj => by rw [Nat.zero_add]; exact h.cell j hj, h.byte, h.lt⟩
theorem BufAt.drew {W : World} {g N p : Nat} {f : Nat → Int} (h : BufAt W g N p f) : BufAt W.drew g N p f := ⟨h.there, h.fr, h.cell, h.byte, h.lt, h.le⟩
/-- Bytes are laid behind those that are known. -/
theorem copy_buf {W : World} {g N p n C C0 c : Nat} {F f : Nat → Int} {a : Option Addr} (h : BufAt W g N p F) (hc : c = Nat.min n (N - p)) (hA : Arg W a n f) (h0 : 0 < c) :
    ∃ W2, (∀ ty, (Builtin.copy_ #[27, 27] ty #[.slice (some ⟨g, p, none⟩) (N - p) C0, .slice a n C]).run Try.prog W = .ok (goInt c) W2) ∧ BufAt W2 g N (p + c) (cat F p f) ∧ But g W W2 ∧ W2.heap.size = W.heap.size := by
  have c1 : c ≤ n := by rw [hc]; exact Nat.min_le_left _ _
  have c2 : c ≤ N - p := by rw [hc]; exact Nat.min_le_right _ _
  have le := h.le
  rcases hA with ⟨h1, _⟩ | ⟨_, b, off, rfl, hl⟩
  · omega
  refine ⟨W.setCells g p (cl .u8 c f), fun ty => ?_, ⟨fun j hj => ?_, fun j => by rw [World.frozen?_setCells]; exact h.fr j, fun j hj => ?_, fun j hj => ?_, by rw [size_cells]; exact h.lt, by omega⟩, But.cells _ _ _, size_cells _ _ _ _⟩
  · have := run_copy_cells (P := Try.prog) W 27 27 ty 5 g p (N - p) C0 ⟨b, off, none⟩ n C (cl .u8 c f) Try.underlying27 (by kernel_rfl) (by rw [cl_len]; exact hc)
      (fun j v hj => by obtain ⟨hk, rfl⟩ := cl_at' hj; rw [Addr.add_mid]; exact hl.1 j (by omega))
      (fun j hj => by rw [cl_len] at hj; exact h.there (p + j) (by omega)) (fun j _ => h.fr _) (cl_one _ _ _)
    rw [cl_len] at this
    exact this
  · by_cases q : p ≤ j ∧ j < p + c
    · have := World.cell?_setCells_in g (cl .u8 c f) p W (fun i hi => by rw [cl_len] at hi; exact h.there (p + i) (by omega)) (j - p) (by rw [cl_len]; omega)
      rw [show p + (j - p) = j by omega] at this
      rw [this]; rfl
    · rw [World.cell?_setCells_out g _ _ _ _ (fun _ _ => by rw [cl_len]; show j < p ∨ p + c ≤ j; omega)]
      exact h.there j hj
  · unfold cat
    by_cases q : j < p
    · rw [if_pos q, World.cell?_setCells_out g _ _ _ _ (fun _ _ => by rw [cl_len]; show j < p ∨ p + c ≤ j; omega)]
      exact h.cell j q
    · have := World.cell?_setCells_in g (cl .u8 c f) p W (fun i hi => by rw [cl_len] at hi; exact h.there (p + i) (by omega)) (j - p) (by rw [cl_len]; omega)
      rw [show p + (j - p) = j by omega] at this
      rw [if_neg q, this, ← List.getElem?_eq_getElem, cl_at .u8 c f (j - p) (by omega)]
  · unfold cat
    by_cases q : j < p
    · rw [if_pos q]; exact h.byte j q
    · rw [if_neg q]; exact hl.2.1 _ (by omega)
/-- Bytes, over and over. -/
def rep (f : Nat → Int) (j : Nat) : Int := f (j % 512)
def repRel (w : World) (g N : Nat) (f : Nat → Int) (i : Value) (wr : World) : Prop := ∃ p : Nat, 512 ≤ p ∧ p ≤ N ∧ p % 512 = 0 ∧ i = .int .i64 p ∧ BufAt wr g N p (rep f) ∧ Below g w wr
def RepPost (w : World) (N : Nat) (f : Nat → Int) (e : Ending) (w' : World) : Prop := ∃ g, e = .returned (.slice (some ⟨g, 0, none⟩) N N) ∧ w.heap.size ≤ g ∧ Lies w' g 0 N (rep f) ∧ Below w.heap.size w w'
set_option maxRecDepth 100000 in
set_option maxHeartbeats 1000000 in
theorem repeat_any (b off C n N : Nat) (f : Nat → Int) (w : World) (hL : Lies w b off 512 f) (hn : 1 ≤ n) (hN : N = n * 512) (hN8 : N ≤ 8192)
    (hM : ∀ w, Calls Try.prog 64 #[.int .u64 512, .int .u64 (n : Int)] w fun e w' => e = .returned (.tuple #[.int .u64 0, .int .u64 (N : Int)]) ∧ w' = w) :
    Calls Try.prog 48 #[.slice (some ⟨b, off, none⟩) 512 C, .int .i64 (n : Int)] w (RepPost w N f) := by
  have HM : Hid (∀ w, Calls Try.prog 64 #[.int .u64 512, .int .u64 (n : Int)] w fun e w' => e = .returned (.tuple #[.int .u64 0, .int .u64 (N : Int)]) ∧ w' = w) := hM
  obtain ⟨cs, hnz, hcs⟩ := nozero_run w N (by omega)
  have B1 : Below w.heap.size w (w.alloc (.cells cs 5)).drew.drew := ((Below.refl _ _).alloc (Nat.le_refl _) _).drew.drew
  have L1 : Lies (w.alloc (.cells cs 5)).drew.drew b off 512 f := hL.below B1
  have U0 : BufAt (w.alloc (.cells cs 5)).drew.drew w.heap.size N 0 (rep f) := (BufAt.drew (BufAt.drew ⟨fun j hj => by
    rw [World.cell?_alloc_at _ _ _ _ rfl, Array.getElem?_eq_getElem (by omega)]; rfl, fun j => by simp [go_sem], fun j hj => by omega, fun j hj => by omega, by rw [World.size_alloc]; exact Nat.lt_succ_self _, by omega⟩))
  obtain ⟨W2, hc1, U2, B2, z2⟩ := copy_buf (C := C) (C0 := N) (c := 512) U0 (by show 512 = Nat.min 512 (N - 0); exact (Nat.min_eq_left (by omega)).symm) (Arg.of L1) (by omega)
  rw [Nat.zero_add] at U2
  rw [Nat.sub_zero] at hc1
  have ST : Hid (repRel w w.heap.size N f (.int .i64 512) W2) := ⟨512, by omega, by omega, rfl, rfl, ⟨U2.there, U2.fr, fun j hj => by rw [U2.cell j hj]; unfold cat rep; rw [if_neg (by omega), Nat.sub_zero, Nat.mod_eq_of_lt hj], fun j hj => by unfold rep; rw [Nat.mod_eq_of_lt hj]; exact hL.2.1 j hj, U2.lt, U2.le⟩, B1.trans (B2.below (Nat.le_refl _) B1.size)⟩
  have FB : Hid (∀ j, j < 512 → 0 ≤ f j ∧ f j < 256) := hL.2.1
  have n0 : ¬ (n : Int) = 0 := by omega
  have n1 : ¬ (n : Int) < 0 := by omega
  have n2 : ¬ (9223372036854775807 : Int) < N := by omega
  have n3 : ¬ (N : Int) = 0 := by omega
  have n4 : ¬ (8192 : Int) < N := by omega
  have n5 : (N : Int) ≤ cs.size := by omega
  have n6 : (0 : Int) ≤ N := by omega
  have n7 : N ≤ 8192 := hN8
  have n8 : n ≤ 16 := by omega
  have n9 : 512 ≤ N := by omega
  have nm : N % 512 = 0 := by omega
  clear L1 B1 U0 U2 B2 z2 hM hL hN
  go_enter Try.func48, Try.ntmps48
  go_wp2_with (first
    | (go_at_call 64; refine (HM.out _).mono ?_; rintro e w1 ⟨rfl, rfl⟩)
    | (at_builtin; refine wpList_copy_go rfl (.tmp 58) (.tmp 59) 27 27 rfl _ _ rfl rfl hc1 ?_))
  go_loopw [10] (fun i wr => repRel w1 w1.heap.size N f i wr) (fun i _ => N - (RowKit.intOf i).toNat)
  case atStart => exact ST.out
  case round =>
    obtain ⟨p, p5, pN, pm, rfl, hU, hB⟩ := hrel
    clear ST hnz hc1
    have UU : Hid (BufAt wr w1.heap.size N p (rep f)) := hU
    have BE : Hid (Below w1.heap.size w1 wr) := hB
    clear hB
    by_cases hlt : p < N
    · obtain ⟨c, hc⟩ : ∃ c, Nat.min p (N - p) = c := ⟨_, rfl⟩
      have hcp : c ≤ p := by rw [← hc]; exact Nat.min_le_left _ _
      have hcN : c ≤ N - p := by rw [← hc]; exact Nat.min_le_right _ _
      have hc0 : 0 < c := by rw [← hc]; exact Nat.lt_min.2 ⟨by omega, by omega⟩
      obtain ⟨W3, hr3, U3, B3, z3⟩ := copy_buf (C := N) (C0 := N - p) (c := c) hU.drew hc.symm hU.drew.arg hc0
      have hcm : c % 512 = 0 := by
        by_cases q : p ≤ N - p
        · have q1 : Nat.min p (N - p) = p := Nat.min_eq_left q
          rw [← hc, q1]; exact pm
        · have q1 : Nat.min p (N - p) = N - p := Nat.min_eq_right (by omega)
          rw [← hc, q1]; omega
      have RR : Hid (repRel w1 w1.heap.size N f (.int .i64 ((p : Int) + c)) W3) := ⟨p + c, by omega, by omega, by omega, by go_num, ⟨U3.there, U3.fr, fun j hj => by
        rw [U3.cell j hj]
        unfold cat rep
        by_cases q : j < p
        · rw [if_pos q]
        · rw [if_neg q, show (j - p) % 512 = j % 512 by omega], fun j hj => FB.out _ (by omega), U3.lt, U3.le⟩, BE.out.drew.trans (B3.below (Nat.le_refl _) BE.out.size)⟩
      have i0 : (p : Int) < N := by omega
      have i1 : (0 : Int) ≤ (p : Int) := by omega
      have i2 : (p : Int) ≤ N := by omega
      have i3 : ¬ N = p := by omega
      have i4 : IntKind.i64.wrap ((p : Int) + c) = (p : Int) + c := by rw [IntKind.wrap_i64]; omega
      have i5 : min (p : Int) N = p := Int.min_eq_left (by omega)
      have PW : p < p + c := by omega
      clear hU U3 B3 z3 hc hcp hcN hc0 hcm
      go_wp2_with fail
      refine wp_region_noPanic ?_
      refine wp_region_held_drew (S := fun _ => True) (by kernel_rfl) trivial (fun _ => ?_)
      refine take_at (i := 0) (v := ?_) (some 67) rfl rfl (by kernel_rfl) (by kernel_rfl) (by kernel_rfl) (fun _ _ _ h => h) (Or.inl ⟨by rfl, ?_⟩) trivial ?_
      rotate_left
      · (intro w hSw; go_simp; try with_reducible rfl)
      simp only [Act.put, List.setIfInBounds_toArray, List.set_cons_zero, List.set_cons_succ]
      refine take_at (i := 1) (v := ?_) (some 68) rfl rfl (by kernel_rfl) (by kernel_rfl) (by kernel_rfl) (fun _ _ _ h => h) (Or.inl ⟨by rfl, ?_⟩) trivial ?_
      rotate_left
      · (intro w hSw; go_simp; try with_reducible rfl)
      simp only [Act.put, List.setIfInBounds_toArray, List.set_cons_zero, List.set_cons_succ]
      refine take_at (i := 2) (v := ?_) (some 69) rfl rfl (by kernel_rfl) (by kernel_rfl) (by kernel_rfl) (fun _ _ _ h => h) (Or.inl ⟨by rfl, ?_⟩) trivial ?_
      rotate_left
      · (intro w hSw; go_simp; try with_reducible rfl)
      simp only [Act.put, List.setIfInBounds_toArray, List.set_cons_zero, List.set_cons_succ]
      refine take_at (i := 3) (v := ?_) (some 70) rfl rfl (by kernel_rfl) (by kernel_rfl) (by kernel_rfl) (fun _ _ _ h => h) (Or.inl ⟨by rfl, ?_⟩) trivial ?_
      rotate_left
      · (intro w hSw; go_simp; try with_reducible rfl)
      simp only [Act.put, List.setIfInBounds_toArray, List.set_cons_zero, List.set_cons_succ]
      refine take_at (i := 4) (v := ?_) (some 71) rfl rfl (by kernel_rfl) (by kernel_rfl) (by kernel_rfl) (fun _ _ _ h => h) (Or.inl ⟨by rfl, ?_⟩) trivial ?_
      rotate_left
      · (intro w hSw; go_simp; try with_reducible rfl)
      simp only [Act.put, List.setIfInBounds_toArray, List.set_cons_zero, List.set_cons_succ]
      refine take_at (i := 5) (v := ?_) (some 72) rfl rfl (by kernel_rfl) (by kernel_rfl) (by kernel_rfl) (fun _ _ _ h => h) (Or.inl ⟨by rfl, ?_⟩) trivial ?_
      rotate_left
      · (intro w hSw; go_simp; try with_reducible rfl)
      simp only [Act.put, List.setIfInBounds_toArray, List.set_cons_zero, List.set_cons_succ]
      refine take_at (i := 6) (v := ?_) (some 73) rfl rfl (by kernel_rfl) (by kernel_rfl) (by kernel_rfl) (fun _ _ _ h => h) (Or.inl ⟨by rfl, ?_⟩) trivial ?_
      rotate_left
      · (intro w hSw; go_simp; try with_reducible rfl)
      simp only [Act.put, List.setIfInBounds_toArray, List.set_cons_zero, List.set_cons_succ]
      refine step_at (i := 7) (some 74) rfl rfl (by rfl) (by kernel_rfl) (goInt c) W3 (copy_run (.tmp 70) (.tmp 73) 27 27 rfl _ _ rfl rfl (hr3 _)) trivial (fun _ => ?_)
      simp only [Act.put, List.setIfInBounds_toArray, List.set_cons_zero, List.set_cons_succ]
      refine take_at (i := 8) (v := ?_) (some 75) rfl rfl (by kernel_rfl) (by kernel_rfl) (by kernel_rfl) (fun _ _ _ h => h) (Or.inl ⟨by rfl, ?_⟩) trivial ?_
      rotate_left
      · (intro w hSw; go_simp; try with_reducible rfl)
      simp only [Act.put, List.setIfInBounds_toArray, List.set_cons_zero, List.set_cons_succ]
      refine take_at (i := 9) (v := ?_) (some 10) rfl rfl (by kernel_rfl) (by kernel_rfl) (by kernel_rfl) (fun _ _ _ h => h) (Or.inl ⟨by rfl, ?_⟩) trivial ?_
      rotate_left
      · (intro w hSw; go_simp; try with_reducible rfl)
      simp only [Act.put, List.setIfInBounds_toArray, List.set_cons_zero, List.set_cons_succ]
      refine wpAnyH_done (by kernel_rfl) ?_ _
      refine NoPanic.normal ?_
      go_wp2_with fail
      go_roundw
      case rel => exact RR.out
      case measure => simp [RowKit.intOf]; omega
    · obtain rfl : p = N := by omega
      have PP : Hid (RepPost w1 p f (.returned (.slice (some ⟨w1.heap.size, 0, none⟩) p p)) wr) := ⟨w1.heap.size, rfl, Nat.le_refl _, ⟨fun j hj => by rw [Nat.zero_add]; exact hU.cell j hj, hU.byte, hU.lt⟩, BE.out⟩
      clear hU
      go_wp2_with fail
      go_ret
      exact PP.out
end Go.Proofs.Ytfapmogjmjlokaa
