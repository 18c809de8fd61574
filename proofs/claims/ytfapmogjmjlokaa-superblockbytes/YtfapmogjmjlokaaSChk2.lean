/-
  Walks, not a claim by itself: superblock's Check, whole. By the verifier.
-/
import Derived.Test.YtfapmogjmjlokaaSChk
namespace Go.Proofs.Ytfapmogjmjlokaa
open Go.RowKit
/-- The i-th number that Check looks at, its least and its most. -/
def bNum (s : Sup) (i : Nat) : Int := if i = 0 then s.x 0 else if i = 1 then s.x 1 else if i < 8 then s.x (i + 1) else s.h (i - 8)
def bLeast (i : Nat) : Int := if i = 0 then 1 else 0
def bMost (s : Sup) (i : Nat) : Int := if i = 1 then s.x 2 - 1 else if i = 6 then 512 else mOp
def bF (s : Sup) (c : Nat) : Int := if c % 3 = 0 then bNum s (c / 3) else if c % 3 = 1 then bLeast (c / 3) else bMost s (c / 3)
theorem bF_0 (s : Sup) (i : Nat) : bF s (i * 3) = bNum s i := by unfold bF; rw [if_pos (by omega), show i * 3 / 3 = i by omega]
theorem bF_1 (s : Sup) (i : Nat) : bF s (i * 3 + 1) = bLeast i := by unfold bF; rw [if_neg (by omega), if_pos (by omega), show (i * 3 + 1) / 3 = i by omega]
theorem bF_2 (s : Sup) (i : Nat) : bF s (i * 3 + 2) = bMost s i := by unfold bF; rw [if_neg (by omega), if_neg (by omega), show (i * 3 + 2) / 3 = i by omega]
theorem allR_bF (s : Sup) (n : Nat) : allR n (bF s) ↔ ∀ i, i < n → InR (bNum s i) (bLeast i) (bMost s i) := by
  unfold allR
  constructor
  · intro h i hi; have := h i hi; rwa [bF_0, bF_1, bF_2] at this
  · intro h i hi; rw [bF_0, bF_1, bF_2]; exact h i hi
theorem may_iff (s : Sup) (h1 : s.x 2 = 3 ∨ s.x 2 = 5 ∨ s.x 2 = 7) (h2 : s.k ≤ 32) : s.May ↔ allR (8 + 2 * s.k) (bF s) := by
  rw [allR_bF]
  constructor
  · rintro ⟨_, _, a, b, c, d, e, f, g, h, k⟩ i hi
    by_cases q : i < 8
    · match i, q with
      | 0, _ => exact a
      | 1, _ => exact b
      | 2, _ => exact c
      | 3, _ => exact d
      | 4, _ => exact e
      | 5, _ => exact f
      | 6, _ => exact g
      | 7, _ => exact h
      | n + 8, q => omega
    · have e1 : bNum s i = s.h (i - 8) := by unfold bNum; rw [if_neg (by omega), if_neg (by omega), if_neg (by omega)]
      have e2 : bLeast i = 0 := by unfold bLeast; rw [if_neg (by omega)]
      have e3 : bMost s i = mOp := by unfold bMost; rw [if_neg (by omega), if_neg (by omega)]
      rw [e1, e2, e3]
      exact k (i - 8) (by omega)
  · intro h
    refine ⟨h1, h2, h 0 (by omega), h 1 (by omega), h 2 (by omega), h 3 (by omega), h 4 (by omega), h 5 (by omega), h 6 (by omega), h 7 (by omega), fun j hj => ?_⟩
    have := h (8 + j) (by omega)
    have e1 : bNum s (8 + j) = s.h j := by unfold bNum; rw [if_neg (by omega), if_neg (by omega), if_neg (by omega), show 8 + j - 8 = j by omega]
    have e2 : bLeast (8 + j) = 0 := by unfold bLeast; rw [if_neg (by omega)]
    have e3 : bMost s (8 + j) = mOp := by unfold bMost; rw [if_neg (by omega), if_neg (by omega)]
    rwa [e1, e2, e3] at this
/-- What Check answers. -/
noncomputable def chkV (s : Sup) : Int := if s.May then 0 else 2
theorem info_bnd : (Try.prog.info? 78).map (fun i => (i.zero, i.size, i.bytes)) = some (some (.agg #[.int .i64 0, .int .i64 0, .int .i64 0]), 3, 24) := by kernel_rfl
set_option maxRecDepth 100000 in
theorem check_n (s : Sup) (a : Option Addr) (C : Nat) (w : World) (h : ¬ (s.x 2 = 3 ∨ s.x 2 = 5 ∨ s.x 2 = 7)) :
    Calls Try.prog 16 #[supV s a C] w fun e w' => e = .returned (.int .i64 2) ∧ Below w.heap.size w w' := by
  have HC : Hid (∀ w, Calls Try.prog 40 #[.int .i64 (s.x 2)] w fun e w' => e = .returned (.bool false) ∧ w' = w) := fun w => by
    have := count_any (s.x 2) w
    rwa [decide_eq_false h] at this
  clear h
  unfold supV
  go_enter Try.func16, Try.ntmps16
  go_wp2_with (first
    | (refine wpList_box_rec rfl 26 (.tmp 0) rfl (supC s a C) rfl w.heap.size rfl ?_; intro W0 R0 B0 z0; obtain ⟨c2, _⟩ := R0.cel 2 (.int .i64 (s.x 2)) rfl)
    | (go_at_call 40; refine (HC.out _).mono ?_; rintro e w1 ⟨rfl, rfl⟩))
  go_ret
  exact ⟨rfl, B0⟩
set_option maxRecDepth 100000 in
theorem check_k (s : Sup) (a : Option Addr) (C : Nat) (w : World) (h : s.x 2 = 3 ∨ s.x 2 = 5 ∨ s.x 2 = 7) (hk : 32 < s.k) :
    Calls Try.prog 16 #[supV s a C] w fun e w' => e = .returned (.int .i64 2) ∧ Below w.heap.size w w' := by
  have HC : Hid (∀ w, Calls Try.prog 40 #[.int .i64 (s.x 2)] w fun e w' => e = .returned (.bool true) ∧ w' = w) := fun w => by
    have := count_any (s.x 2) w
    rwa [decide_eq_true h] at this
  have e1 : (32 : Int) < s.k := by omega
  clear h
  unfold supV
  go_enter Try.func16, Try.ntmps16
  go_wp2_with (first
    | (refine wpList_box_rec rfl 26 (.tmp 0) rfl (supC s a C) rfl w.heap.size rfl ?_; intro W0 R0 B0 z0; obtain ⟨c2, _⟩ := R0.cel 2 (.int .i64 (s.x 2)) rfl; obtain ⟨c10, _⟩ := R0.cel 10 (.slice a s.k C) rfl)
    | (go_at_call 40; refine (HC.out _).mono ?_; rintro e w1 ⟨rfl, rfl⟩))
  go_ret
  exact ⟨rfl, B0⟩
def chkRel (w : World) (s : Sup) (v i : Value) (wr : World) : Prop := ∃ k : Nat, k ≤ s.k ∧ i = .int .i64 k ∧ OwnI wr w.heap.size 78 3 v (8 + 2 * k) (bF s) ∧ Below w.heap.size w wr
/-- The cells of the first eight. -/
theorem bF_8 (s : Sup) : (cl .i64 (8 * 3) (bF s)).toArray = #[.int .i64 (s.x 0), .int .i64 1, .int .i64 1073741824, .int .i64 (s.x 1), .int .i64 0, .int .i64 (s.x 2 - 1), .int .i64 (s.x 3), .int .i64 0, .int .i64 1073741824, .int .i64 (s.x 4), .int .i64 0, .int .i64 1073741824, .int .i64 (s.x 5), .int .i64 0, .int .i64 1073741824, .int .i64 (s.x 6), .int .i64 0, .int .i64 1073741824, .int .i64 (s.x 7), .int .i64 0, .int .i64 512, .int .i64 (s.x 8), .int .i64 0, .int .i64 1073741824] := rfl
theorem bF_two (s : Sup) (k : Nat) (j : Nat) (hj : j < 6) : ([s.h (2 * k), 0, 1073741824, s.h (2 * k + 1), 0, 1073741824] : List Int).getD j 0 = bF s ((8 + 2 * k) * 3 + j) := by
  have e0 : ∀ i, bNum s (8 + i) = s.h i := fun i => by unfold bNum; rw [if_neg (by omega), if_neg (by omega), if_neg (by omega), show 8 + i - 8 = i by omega]
  have e1 : ∀ i, bLeast (8 + i) = 0 := fun i => by unfold bLeast; rw [if_neg (by omega)]
  have e2 : ∀ i, bMost s (8 + i) = mOp := fun i => by unfold bMost; rw [if_neg (by omega), if_neg (by omega)]
  match j, hj with
  | 0, _ => rw [show (8 + 2 * k) * 3 + 0 = (8 + 2 * k) * 3 by omega, bF_0, e0]; rfl
  | 1, _ => rw [bF_1, e1]; rfl
  | 2, _ => rw [bF_2, e2]; rfl
  | 3, _ => rw [show (8 + 2 * k) * 3 + 3 = (8 + (2 * k + 1)) * 3 by omega, bF_0, e0]; rfl
  | 4, _ => rw [show (8 + 2 * k) * 3 + 4 = (8 + (2 * k + 1)) * 3 + 1 by omega, bF_1, e1]; rfl
  | 5, _ => rw [show (8 + 2 * k) * 3 + 5 = (8 + (2 * k + 1)) * 3 + 2 by omega, bF_2, e2]; rfl
/-- Two more are appended. -/
theorem chk_step (w wr V : World) (s : Sup) (k : Nat) (v : Value) (hk : k < s.k) (hk32 : s.k ≤ 32) (ho : OwnI wr w.heap.size 78 3 v (8 + 2 * k) (bF s)) (hB : Below w.heap.size w wr) (hV : Below wr.heap.size wr V) :
    ∃ v' W', (Builtin.append_ #[79, 79] 79 #[v, .slice (some ⟨V.heap.size, 0, none⟩) 2 2]).run Try.prog (V.alloc (.cells #[.int .i64 (s.h (2 * k)), .int .i64 0, .int .i64 1073741824, .int .i64 (s.h (2 * k + 1)), .int .i64 0, .int .i64 1073741824] 78)) = .ok v' W' ∧ chkRel w s v' (.int .i64 ((k : Int) + 1)) W' := by
  have hU : Below V.heap.size V (V.alloc (.cells #[.int .i64 (s.h (2 * k)), .int .i64 0, .int .i64 1073741824, .int .i64 (s.h (2 * k + 1)), .int .i64 0, .int .i64 1073741824] 78)) := (Below.refl _ _).alloc (Nat.le_refl _) _
  have hc : ∀ j, j < 2 * 3 → (V.alloc (.cells #[.int .i64 (s.h (2 * k)), .int .i64 0, .int .i64 1073741824, .int .i64 (s.h (2 * k + 1)), .int .i64 0, .int .i64 1073741824] 78)).cell? ⟨V.heap.size, 0 + j, none⟩ = some (.int .i64 (bF s ((8 + 2 * k) * 3 + j))) := fun j hj => by
    rw [World.cell?_alloc_at _ _ _ _ rfl, Nat.zero_add, ← bF_two s k j (by omega)]
    match j, hj with
    | 0, _ | 1, _ | 2, _ | 3, _ | 4, _ | 5, _ => rfl
  generalize (V.alloc (.cells #[.int .i64 (s.h (2 * k)), .int .i64 0, .int .i64 1073741824, .int .i64 (s.h (2 * k + 1)), .int .i64 0, .int .i64 1073741824] 78)) = U at hU hc
  have hb : Below wr.heap.size wr U := hV.trans (hU.mono hV.size)
  obtain ⟨v', W', h1, h2, h3⟩ := OwnI.app (ty := 79) (C := 2) (m := 2) Try.underlying79 info_bnd rfl (by omega) (by omega) (ho.below hb) V.heap.size 0 hc (by omega) (Nat.le_trans hB.size hb.size)
  refine ⟨v', W', h1, k + 1, by omega, by go_num, ?_, (hB.trans (hb.mono hB.size)).trans h3⟩
  rw [show 8 + 2 * (k + 1) = 8 + 2 * k + 2 by omega]
  exact h2.congr (fun j _ => by
    unfold cat
    by_cases q : j < (8 + 2 * k) * 3
    · rw [if_pos q]
    · rw [if_neg q]; show bF s ((8 + 2 * k) * 3 + (j - (8 + 2 * k) * 3)) = bF s j; rw [show (8 + 2 * k) * 3 + (j - (8 + 2 * k) * 3) = j by omega])
set_option maxRecDepth 100000 in
set_option maxHeartbeats 1000000 in
theorem check_go (s : Sup) (a : Option Addr) (C : Nat) (w : World) (hA : HArg w a s.k s.h) (h : s.x 2 = 3 ∨ s.x 2 = 5 ∨ s.x 2 = 7) (hk : s.k ≤ 32) :
    Calls Try.prog 16 #[supV s a C] w fun e w' => e = .returned (.int .i64 (chkV s)) ∧ Below w.heap.size w w' := by
  have HC : Hid (∀ w, Calls Try.prog 40 #[.int .i64 (s.x 2)] w fun e w' => e = .returned (.bool true) ∧ w' = w) := fun w => by
    have := count_any (s.x 2) w
    rwa [decide_eq_true h] at this
  have HA : Hid (HArg w a s.k s.h) := hA
  have e1 : ¬ (32 : Int) < s.k := by omega
  have MI : Hid (s.May ↔ allR (8 + 2 * s.k) (bF s)) := may_iff s h hk
  have w1 : IntKind.i64.wrap (s.x 2 - 1) = s.x 2 - 1 := by rw [IntKind.wrap_i64]; omega
  have w2 : wrap64 (s.x 2 - 1) = s.x 2 - 1 := by unfold wrap64; omega
  clear h hA
  unfold supV
  go_enter Try.func16, Try.ntmps16
  go_wp2_with (first
    | (refine wpList_box_rec rfl 26 (.tmp 0) rfl (supC s a C) rfl w.heap.size rfl ?_; intro W0 R0 B0 z0
       obtain ⟨c0, _⟩ := R0.cel 0 (.int .i64 (s.x 0)) rfl
       obtain ⟨c1, _⟩ := R0.cel 1 (.int .i64 (s.x 1)) rfl
       obtain ⟨c2, _⟩ := R0.cel 2 (.int .i64 (s.x 2)) rfl
       obtain ⟨c3, _⟩ := R0.cel 3 (.int .i64 (s.x 3)) rfl
       obtain ⟨c4, _⟩ := R0.cel 4 (.int .i64 (s.x 4)) rfl
       obtain ⟨c5, _⟩ := R0.cel 5 (.int .i64 (s.x 5)) rfl
       obtain ⟨c6, _⟩ := R0.cel 6 (.int .i64 (s.x 6)) rfl
       obtain ⟨c7, _⟩ := R0.cel 7 (.int .i64 (s.x 7)) rfl
       obtain ⟨c8, _⟩ := R0.cel 8 (.int .i64 (s.x 8)) rfl
       obtain ⟨c10, _⟩ := R0.cel 10 (.slice a s.k C) rfl)
    | (go_at_call 40; refine (HC.out _).mono ?_; rintro e w1 ⟨rfl, rfl⟩))
  have ST : Hid (chkRel w s (.slice (some ⟨w.heap.size + 1, 0, none⟩) 8 8) (.int .i64 0) (w1.alloc (.cells (cl .i64 (8 * 3) (bF s)).toArray 78))) := by
    have := OwnI.lit w1 w.heap.size 78 3 8 (bF s) (by omega) (by omega)
    rw [z0] at this
    exact ⟨0, by omega, rfl, this, B0.alloc (by omega) _⟩
  rw [bF_8] at ST
  clear R0 B0 z0 c0 c1 c2 c3 c4 c5 c6 c7 c8 c10 HC
  go_loopw [3, 49] (fun v i wr => chkRel w s v i wr) (fun _ i _ => s.k - (RowKit.intOf i).toNat)
  case atStart => exact ST.out
  case round =>
    obtain ⟨k, hks, rfl, hO, hB⟩ := hrel
    clear ST
    have OO : Hid (OwnI wr w.heap.size 78 3 u3 (8 + 2 * k) (bF s)) := hO
    have BE : Hid (Below w.heap.size w wr) := hB
    by_cases hlt : k < s.k
    · rcases HA.out with e | ⟨b, off, rfl, hc, hb⟩
      · omega
      have RG : wr.rangeAt b (off + k * 2) [.int .i64 (s.h (2 * k)), .int .i64 (s.h (2 * k + 1))] := fun j v hj => by
        have h2 : j < 2 := (List.getElem?_eq_some_iff.1 hj).1
        have c := (hB.cell (p := ⟨b, off + (2 * k + j), none⟩) hb).trans (hc (2 * k + j) (by omega))
        rw [show off + k * 2 + j = off + (2 * k + j) by omega, c]
        match j, h2 with
        | 0, _ | 1, _ => simpa using hj
      have HR : Hid (wr.rangeAt b (off + k * 2) [.int .i64 (s.h (2 * k)), .int .i64 (s.h (2 * k + 1))]) := RG
      have i0 : (k : Int) < s.k := by omega
      have i1 : (0 : Int) ≤ (k : Int) := by omega
      clear hO hB hc RG
      go_wp2_with (first
        | (refine wpList_load_mid (P := Try.prog) rfl 75 (.tmp 51) rfl b (off + k * 2) (by first | rfl | simp) _ _ HR.out Try.underlying75 rfl (by kernel_rfl) ?_)
        | (refine wpList_alloc_rec rfl 75 rfl [.int .i64 0, .int .i64 0] wr.heap.size rfl (by kernel_rfl) ?_; intro W5 R5 B5 z5)
        | (refine wpList_store_rec rfl 75 (.tmp 5) (.tmp 52) rfl wr.heap.size 0 _ [.int .i64 (s.h (2 * k)), .int .i64 (s.h (2 * k + 1))] rfl rfl R5 rfl (by kernel_rfl) (by intro v hv; simp at hv; rcases hv with rfl | rfl <;> rfl) ?_; intro W6 R6 B6
           obtain ⟨d0, _⟩ := R6.cel 0 _ rfl
           obtain ⟨d1, _⟩ := R6.cel 1 _ rfl
           have V6 : Below wr.heap.size wr W6 := B5.trans (B6.below (Nat.le_refl _) (by omega))
           obtain ⟨v7, W7, hr7, rel7⟩ := chk_step w wr W6 s k u3 hlt hk OO.out BE.out V6
           have R7 : Hid (chkRel w s v7 (.int .i64 ((k : Int) + 1)) W7) := rel7
           clear rel7 R6 B6 R5 B5 z5 V6)
        | (at_builtin; refine wpList_append_go rfl (.tmp 53) (.tmp 60) 79 79 rfl _ _ rfl rfl hr7 ?_))
      go_roundw
      case rel => exact R7.out
      case measure => simp [RowKit.intOf]; omega
    · obtain rfl : k = s.k := by omega
      obtain ⟨g, cap, rfl, hg1, hg2, hg3, hg4⟩ := hO.form (by omega)
      have CA : Hid (Calls Try.prog 41 #[.slice (some ⟨g, 0, none⟩) (8 + 2 * s.k) cap, .func (.func 42) #[] #[]] wr fun e w' => e = .returned (.bool (!decide (allR (8 + 2 * s.k) (bF s)))) ∧ Below wr.heap.size wr w') := contains_any g (8 + 2 * s.k) cap (bF s) wr hg3 hg4 (by omega)
      clear hO hB hg1 hg2 hg3 hg4 OO
      by_cases q : s.May
      · have A : Hid (decide (allR (8 + 2 * s.k) (bF s)) = true) := decide_eq_true (MI.out.1 q)
        have E : Hid (chkV s = 0) := if_pos q
        clear q
        go_wp2_with (go_at_call 41; refine CA.out.mono ?_; rintro e w8 ⟨rfl, B8⟩; rw [A.out])
        go_ret
        exact ⟨by rw [E.out]; rfl, BE.out.trans (B8.mono BE.out.size)⟩
      · have A : Hid (decide (allR (8 + 2 * s.k) (bF s)) = false) := decide_eq_false (fun h => q (MI.out.2 h))
        have E : Hid (chkV s = 2) := if_neg q
        clear q
        go_wp2_with (go_at_call 41; refine CA.out.mono ?_; rintro e w8 ⟨rfl, B8⟩; rw [A.out])
        go_ret
        exact ⟨by rw [E.out]; rfl, BE.out.trans (B8.mono BE.out.size)⟩
theorem check_any (s : Sup) (a : Option Addr) (C : Nat) (w : World) (hA : HArg w a s.k s.h) :
    Calls Try.prog 16 #[supV s a C] w fun e w' => e = .returned (.int .i64 (chkV s)) ∧ Below w.heap.size w w' := by
  by_cases h : s.x 2 = 3 ∨ s.x 2 = 5 ∨ s.x 2 = 7
  · by_cases hk : s.k ≤ 32
    · exact check_go s a C w hA h hk
    · have e : chkV s = 2 := if_neg (fun m => hk m.2.1)
      rw [e]
      exact check_k s a C w h (by omega)
  · have e : chkV s = 2 := if_neg (fun m => h m.1)
    rw [e]
    exact check_n s a C w h
end Go.Proofs.Ytfapmogjmjlokaa
