/-
  Walks, not a claim by itself: superblock's fields and putter. By the verifier.
-/
import Derived.Test.YtfapmogjmjlokaaSVal
import Derived.Test.YtfapmogjmjlokaaCBeh
namespace Go.Proofs.Ytfapmogjmjlokaa
open Go.RowKit
theorem over_none (g : Nat → Int) (o : Nat) (f : Nat → Int) : over g o 0 f = g := by
  funext j; unfold over; rw [if_neg (by omega)]
theorem over_step (g : Nat → Int) (o k : Nat) (f : Nat → Int) : upd (over g o k f) (o + k) (f k) = over g o (k + 1) f := by
  funext j
  unfold upd over
  by_cases h : j = o + k
  · rw [if_pos h, if_pos (by omega), show j - o = k by omega]
  · rw [if_neg h]
    by_cases g : o ≤ j ∧ j < o + k
    · rw [if_pos g, if_pos (by omega)]
    · rw [if_neg g, if_neg (show ¬ (o ≤ j ∧ j < o + (k + 1)) by omega)]
/-- The pointers to a superblock's nine numbers. -/
def fptr (b : Nat) : List Value := (List.range 9).map fun k => .pointer (some ⟨b, k, none⟩)
theorem fptr_one (b : Nat) : ∀ v ∈ fptr b, v.oneCell' = true := by
  intro v hv; unfold fptr at hv; rw [List.mem_map] at hv; obtain ⟨j, _, rfl⟩ := hv; rfl
theorem fptr_len (b : Nat) : (fptr b).length = 9 := by unfold fptr; simp
def nils9 : List Value := List.replicate 9 (.pointer none)
theorem fptr_index (b : Nat) (w : World) : ∀ k : Nat, k < 9 → (Instr.index 101 (.agg (fptr b).toArray) (.int .i64 k)).run Try.prog w = .ok (.pointer (some ⟨b, k, none⟩)) w
  | 0, _ | 1, _ | 2, _ | 3, _ | 4, _ | 5, _ | 6, _ | 7, _ | 8, _ => by kernel_rfl
  | k + 9, h => absurd h (by omega)
set_option maxRecDepth 100000 in
set_option maxHeartbeats 400000 in
theorem fields_any (b : Nat) (w : World) : Calls Try.prog 55 #[.pointer (some ⟨b, 0, none⟩)] w fun e w' => e = .returned (.agg (fptr b).toArray) ∧ Below w.heap.size w w' := by
  go_enter Try.func55, Try.ntmps55
  go_wp2_with (first
    | (refine wpList_alloc_rec rfl 101 rfl nils9 w.heap.size rfl (by kernel_rfl) ?_; intro W1 hR1 hB1 hz1)
    | (refine wpList_build_to rfl 101 _ rfl (fptr b).toArray (by kernel_rfl) ?_))
  have T1 : W1.drew.there w.heap.size 0 9 := hR1.2.1
  have hone : ∀ v ∈ ([.pointer (some ⟨b, 0, none⟩), .pointer (some ⟨b, 1, none⟩), .pointer (some ⟨b, 2, none⟩), .pointer (some ⟨b, 3, none⟩), .pointer (some ⟨b, 4, none⟩), .pointer (some ⟨b, 5, none⟩), .pointer (some ⟨b, 6, none⟩), .pointer (some ⟨b, 7, none⟩), .pointer (some ⟨b, 8, none⟩)] : List Value), v.oneCell' = true := fptr_one b
  have hi : (Try.prog.info? 101).map (·.size) = some 9 := by kernel_rfl
  have hlen : ([.pointer (some ⟨b, 0, none⟩), .pointer (some ⟨b, 1, none⟩), .pointer (some ⟨b, 2, none⟩), .pointer (some ⟨b, 3, none⟩), .pointer (some ⟨b, 4, none⟩), .pointer (some ⟨b, 5, none⟩), .pointer (some ⟨b, 6, none⟩), .pointer (some ⟨b, 7, none⟩), .pointer (some ⟨b, 8, none⟩)] : List Value).length = 9 := rfl
  go_region_held3 (fun w' => True) (trivial) (fail)
  have hR2 : Rec19 (W1.drew.setCells w.heap.size 0 [.pointer (some ⟨b, 0, none⟩), .pointer (some ⟨b, 1, none⟩), .pointer (some ⟨b, 2, none⟩), .pointer (some ⟨b, 3, none⟩), .pointer (some ⟨b, 4, none⟩), .pointer (some ⟨b, 5, none⟩), .pointer (some ⟨b, 6, none⟩), .pointer (some ⟨b, 7, none⟩), .pointer (some ⟨b, 8, none⟩)]) w.heap.size 0 (fptr b) := (show Rec19 W1.drew w.heap.size 0 nils9 from hR1).store (fptr b) rfl
  have hB2 : But w.heap.size W1.drew (W1.drew.setCells w.heap.size 0 [.pointer (some ⟨b, 0, none⟩), .pointer (some ⟨b, 1, none⟩), .pointer (some ⟨b, 2, none⟩), .pointer (some ⟨b, 3, none⟩), .pointer (some ⟨b, 4, none⟩), .pointer (some ⟨b, 5, none⟩), .pointer (some ⟨b, 6, none⟩), .pointer (some ⟨b, 7, none⟩), .pointer (some ⟨b, 8, none⟩)]) := But.cells _ _ _
  generalize W1.drew.setCells w.heap.size 0 [.pointer (some ⟨b, 0, none⟩), .pointer (some ⟨b, 1, none⟩), .pointer (some ⟨b, 2, none⟩), .pointer (some ⟨b, 3, none⟩), .pointer (some ⟨b, 4, none⟩), .pointer (some ⟨b, 5, none⟩), .pointer (some ⟨b, 6, none⟩), .pointer (some ⟨b, 7, none⟩), .pointer (some ⟨b, 8, none⟩)] = W2 at hR2 hB2 ⊢
  go_wp2_with fail
  have hl := hR2.run_load 101 _ Try.underlying101 rfl (by rw [fptr_len]; kernel_rfl)
  refine bodyPost_ret (v := .agg (fptr b).toArray) (by simp [results, Try.results55, asAddr, hl]) rfl ⟨rfl, ?_⟩
  exact hB1.drew.trans (hB2.below (Nat.le_refl _) (by show _ ≤ W1.heap.size; omega))
theorem putter_any (v : Value) (w : World) (a : Option Addr) (n C : Nat) (hv : v = .slice a n C) : Calls Try.prog 54 #[v] w fun e w' => e = .returned (.func (.func 67) #[] #[.pointer (some ⟨w.heap.size, 0, none⟩)]) ∧ w' = w.alloc (.cells #[v] 27) := by
  subst hv
  go_enter Try.func54, Try.ntmps54
  go_wp2_with fail
  go_ret
  exact ⟨rfl, rfl⟩
theorem putter_let (v : Value) (w : World) (a : Option Addr) (n C : Nat) (hv : v = .slice a n C) : Calls Try.prog 54 #[v] w fun e w' => e = .returned (.func (.func 67) #[] #[.pointer (some ⟨w.heap.size, 0, none⟩)]) ∧ w'.cell? ⟨w.heap.size, 0, none⟩ = some v ∧ w'.frozen? ⟨w.heap.size, 0, none⟩ = false ∧ Below w.heap.size w w' ∧ w'.heap.size = w.heap.size + 1 := by
  refine (putter_any v w a n C hv).mono ?_
  rintro e w' ⟨rfl, rfl⟩
  exact ⟨rfl, by simp [go_sem], by simp [go_sem], (Below.refl _ _).alloc (Nat.le_refl _) _, by simp⟩
/-- The room that a putter has: block r, from o on. -/
structure PutAt (w : World) (B r N o : Nat) (f : Nat → Int) : Prop where
  cell : w.cell? ⟨B, 0, none⟩ = some (.slice (some ⟨r, o, none⟩) (N - o) (N - o))
  fr : w.frozen? ⟨B, 0, none⟩ = false
  row : IRow w r .u8 N f
  bl : B < w.heap.size
  ne : B ≠ r
def p1Rel (w : World) (r N o : Nat) (f : Nat → Int) (x : Int) (i : Value) (wr : World) : Prop := ∃ k : Nat, k ≤ 4 ∧ i = .int .i64 k ∧ IRow wr r .u8 N (over f o k (byt x)) ∧ But r w wr ∧ wr.heap.size = w.heap.size
theorem p1_step (w wr : World) (r N o k m : Nat) (f : Nat → Int) (x v : Int) (hk : k < 4) (hm : m = o + k) (hv : v = x / 2 ^ (8 * k) % 256) (hR : IRow wr r .u8 N (over f o k (byt x))) (hB : But r w wr) (hz : wr.heap.size = w.heap.size) :
    p1Rel w r N o f x (.int .i64 ((k : Int) + 1)) ((wr.setCell ⟨r, m, none⟩ (.int .u8 v)).drew) := by
  subst hm hv
  exact ⟨k + 1, by omega, by go_num, by rw [byt_eq, ← over_step]; exact (hR.set _ _).drew, (hB.put (.inl rfl) _).drew, by simp [World.setCell]; exact hz⟩
def PutPost (w : World) (B r N o : Nat) (f : Nat → Int) (x : Int) (e : Ending) (w' : World) : Prop := e = .returned (.tuple #[]) ∧ PutAt w' B r N (o + 4) (over f o 4 (byt x)) ∧ Off [r, B] w w' ∧ w'.heap.size = w.heap.size
theorem p1_end (w wr : World) (B r N o : Nat) (f : Nat → Int) (x : Int) (h : PutAt w B r N o f) (hR : IRow wr r .u8 N (over f o 4 (byt x))) (hB : But r w wr) (hz : wr.heap.size = w.heap.size) (m : Nat) (hm : m = N - o - 4) :
    PutPost w B r N o f x (.returned (.tuple #[])) (wr.setCell ⟨B, 0, none⟩ (.slice (some ⟨r, o + 4, none⟩) m m)) := by
  have O : Off [r, B] w (wr.setCell ⟨B, 0, none⟩ (.slice (some ⟨r, o + 4, none⟩) m m)) := (Off.but hB (by simp)).trans (Off.set _ _ _ (by simp))
  have c : wr.cell? ⟨B, 0, none⟩ = some (.slice (some ⟨r, o, none⟩) (N - o) (N - o)) := (hB.cell (p := ⟨B, 0, none⟩) h.bl h.ne).trans h.cell
  have fr : wr.frozen? ⟨B, 0, none⟩ = false := (hB.frozen (p := ⟨B, 0, none⟩) h.bl h.ne).trans h.fr
  refine ⟨rfl, ⟨?_, by simpa using fr, hR.but (But.set _ _ _) (fun e => h.ne e.symm), by simp [World.setCell]; rw [hz]; exact h.bl, h.ne⟩, O, by simp [World.setCell]; exact hz⟩
  rw [World.cell?_setCell_same' _ _ _ (by rw [c]; rfl), hm, show N - (o + 4) = N - o - 4 by omega]
set_option maxRecDepth 100000 in
set_option maxHeartbeats 1000000 in
theorem put1_any (w : World) (B r N o : Nat) (f : Nat → Int) (x : Int) (h : PutAt w B r N o f) (ho : o + 4 < N) (hN : N ≤ 1000000) :
    Calls Try.prog 67 #[.int .i64 x, .pointer (some ⟨B, 0, none⟩)] w (PutPost w B r N o f x) := by
  have HP : Hid (PutAt w B r N o f) := h
  have ST : Hid (p1Rel w r N o f x (.int .i64 0) w) := ⟨0, by omega, rfl, by rw [over_none]; exact h.row, But.refl _ _, rfl⟩
  obtain ⟨n, hn⟩ : ∃ n, N - o = n := ⟨_, rfl⟩
  clear h
  go_enter Try.func67, Try.ntmps67
  go_wp2_with fail
  go_loopw [4] (fun i wr => p1Rel w r N o f x i wr) (fun i _ => 4 - (RowKit.intOf i).toNat)
  case atStart => exact ST.out
  case round =>
    obtain ⟨k, hk, rfl, hR, hB, hz⟩ := hrel
    clear ST
    have BE : Hid (But r w wr) := hB
    have HZ : Hid (wr.heap.size = w.heap.size) := hz
    have RR : Hid (IRow wr r .u8 N (over f o k (byt x))) := hR
    have c := (hB.cell (p := ⟨B, 0, none⟩) HP.out.bl HP.out.ne).trans HP.out.cell
    have fb := (hB.frozen (p := ⟨B, 0, none⟩) HP.out.bl HP.out.ne).trans HP.out.fr
    rw [hn] at c
    by_cases hlt : k < 4
    · have gk := hR.1 (o + k) (by omega)
      have fk := hR.2.1 (o + k)
      clear hR hB hz
      have w8 := wrap_8 k (by omega)
      have i0 : (k : Int) < 4 := by omega
      have i1 : (0 : Int) ≤ 8 * (k : Int) := by omega
      have i2 : 8 * (k : Int) < 64 := by omega
      have i3 : (8 * (k : Int)).toNat = 8 * k := by omega
      have i4 : (0 : Int) ≤ (k : Int) := by omega
      have i5 : (k : Int) < n := by omega
      go_wp2_with fail
      go_region
      go_wp2_with fail
      go_roundw
      case rel => exact p1_step w wr r N o k _ f x _ hlt rfl rfl RR.out BE.out HZ.out
      case measure => simp [RowKit.intOf]; omega
    · obtain rfl : k = 4 := by omega
      have i0 : (4 : Int) ≤ n := by omega
      have i1 : ¬ n = 4 := by omega
      have PP : Hid (PutPost w B r N o f x (.returned (.tuple #[])) (wr.setCell ⟨B, 0, none⟩ (.slice (some ⟨r, o + 4, none⟩) (n - 4) (n - 4)))) := p1_end w wr B r N o f x HP.out RR.out BE.out HZ.out (n - 4) (by omega)
      clear hR hB hz
      rw [show ((4 : Nat) : Int) = 4 from rfl]
      go_wp2_with fail
      go_end0
      exact PP.out
end Go.Proofs.Ytfapmogjmjlokaa
