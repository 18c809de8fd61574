/-
  Walks, not a claim by itself: RecordReads, over whatever bytes. By the verifier.
-/
import Derived.Test.YtjofoeelkeacgaaEql
import Derived.Test.YtjofoeelkeacgaaAOf
import Derived.Test.YtjofoeelkeacgaaTOf
import Derived.Test.YtjofoeelkeacgaaQARead
import Derived.Test.YtjofoeelkeacgaaQTRead
import Derived.Test.YtjofoeelkeacgaaKept
import Derived.Test.YtjofoeelkeacgaaRKnown
namespace Go.Proofs.Ytjofoeelkeacgaa
open Go.RowKit
/-- What is read of n bytes, and the error's number. -/
def outOf (n : Nat) (f : Nat → Int) : Fld := if n = 128 then recOf f else ⟨0, 0, 0, 0, 0, 0, 0, 0, 0, 0, 0, 0, 0, 0, 0, 0, 0, 0, 0⟩
def codeOf (n : Nat) : Int := if n = 128 then 0 else 4
theorem out_yes (f : Nat → Int) : outOf 128 f = recOf f ∧ codeOf 128 = 0 := ⟨rfl, rfl⟩
theorem out_no (n : Nat) (f : Nat → Int) (h : n ≠ 128) : (outOf n f).cells = zero19 ∧ codeOf n = 4 := by
  unfold outOf codeOf
  rw [if_neg h, if_neg h]
  exact ⟨rfl, rfl⟩
theorem readA_all (s : Option Addr) (n C : Nat) (f : Nat → Int) (w : World) (h : Arg w s n f) (hC : n ≤ C) :
    Calls Try.prog 16 #[.slice s n C] w fun e w' => e = .returned (.tuple #[.agg (outOf n f).cells.toArray, .int .i64 (codeOf n)]) ∧ Below w.heap.size w w' := by
  by_cases g : n = 128
  · subst g
    rcases h with ⟨h0, _⟩ | ⟨_, b, off, rfl, hl⟩
    · cases h0
    · rw [(out_yes f).1, (out_yes f).2]
      exact readAccount_ok b off C f w hl hC
  · rw [(out_no n f g).1, (out_no n f g).2]
    exact readAccount_no s n C w g
theorem readT_all (s : Option Addr) (n C : Nat) (f : Nat → Int) (w : World) (h : Arg w s n f) (hC : n ≤ C) :
    Calls Try.prog 18 #[.slice s n C] w fun e w' => e = .returned (.tuple #[.agg (outOf n f).cells.toArray, .int .i64 (codeOf n)]) ∧ Below w.heap.size w w' := by
  by_cases g : n = 128
  · subst g
    rcases h with ⟨h0, _⟩ | ⟨_, b, off, rfl, hl⟩
    · cases h0
    · rw [(out_yes f).1, (out_yes f).2]
      exact readTransfer_ok b off C f w hl hC
  · rw [(out_no n f g).1, (out_no n f g).2]
    exact readTransfer_no s n C w g
theorem qreadA_all (s : Option Addr) (n C : Nat) (f : Nat → Int) (w : World) (h : Arg w s n f) (hC : n ≤ C) :
    Calls Try.prog 17 #[.slice s n C] w fun e w' => e = .returned (.tuple #[.agg (outOf n f).cells.toArray, .int .i64 (codeOf n)]) ∧ Below w.heap.size w w' := by
  by_cases g : n = 128
  · subst g
    rcases h with ⟨h0, _⟩ | ⟨_, b, off, rfl, hl⟩
    · cases h0
    · rw [(out_yes f).1, (out_yes f).2]
      exact qreadAccount_ok b off C f w hl hC
  · rw [(out_no n f g).1, (out_no n f g).2]
    exact qreadAccount_no s n C w g
theorem qreadT_all (s : Option Addr) (n C : Nat) (f : Nat → Int) (w : World) (h : Arg w s n f) (hC : n ≤ C) :
    Calls Try.prog 19 #[.slice s n C] w fun e w' => e = .returned (.tuple #[.agg (outOf n f).cells.toArray, .int .i64 (codeOf n)]) ∧ Below w.heap.size w w' := by
  by_cases g : n = 128
  · subst g
    rcases h with ⟨h0, _⟩ | ⟨_, b, off, rfl, hl⟩
    · cases h0
    · rw [(out_yes f).1, (out_yes f).2]
      exact qreadTransfer_ok b off C f w hl hC
  · rw [(out_no n f g).1, (out_no n f g).2]
    exact qreadTransfer_no s n C w g
theorem lentF_low (n : Nat) (f : Nat → Int) (m j : Nat) (h : j < n) : lentF n f m j = f j := by
  unfold lentF lay
  rw [if_pos h]
  exact if_pos h
theorem lent_arg {w w1 : World} {a : Option Addr} {g n : Nat} {f : Nat → Int} (h : Arg w a n f) (hR : Row w1 g (n + 3) (lentF n f 3)) : Arg w1 (some ⟨g, 0, none⟩) n f := by
  rcases h with ⟨rfl, _⟩ | ⟨h0, b, off, rfl, hl⟩
  · exact .inl ⟨rfl, .inr ⟨_, rfl⟩⟩
  · refine .inr ⟨h0, g, 0, rfl, fun j hj => ?_, hl.2.1, hR.2.2⟩
    rw [Nat.zero_add, hR.1 j (by omega), lentF_low n f 3 j hj]
set_option maxRecDepth 100000 in
theorem reads_long (a : Option Addr) (n C : Nat) (w : World) (hn : 1000 < n) :
    Calls Try.prog 4 #[.slice a n C] w fun e w' => e = .returned (.bool true) ∧ Below w.heap.size w w' := by
  have h1 : (1000 : Int) < n := by omega
  go_enter Try.func4, Try.ntmps4
  go_wp2_with fail
  go_ret
  exact ⟨rfl, Below.refl _ _⟩
set_option maxRecDepth 100000 in
set_option maxHeartbeats 4000000 in
theorem reads_any (a : Option Addr) (n C : Nat) (f : Nat → Int) (w : World) (h : Arg w a n f) (hC : n ≤ C) (hn : n ≤ 1000) :
    Calls Try.prog 4 #[.slice a n C] w fun e w' => e = .returned (.bool true) ∧ Below w.heap.size w w' := by
  have HA : Hid (Arg w a n f) := h
  clear h
  have h1 : ¬ (1000 : Int) < n := by omega
  go_enter Try.func4, Try.ntmps4
  go_wp2_with fail
  refine (lent_any a n C f _ HA.out (by omega)).mono ?_
  rintro e w1 ⟨g, rfl, hg, R1, B1⟩
  have A1 := HA.out.below B1
  have I1 := lent_arg HA.out R1
  clear HA
  go_wp2_with fail
  refine (readA_all _ n (n + 3) f _ I1 (by omega)).mono ?_
  rintro e w2 ⟨rfl, K2⟩
  have A2 := A1.below K2
  have I2 := I1.below K2
  have R2 := R1.below K2
  have B2 := B1.trans (K2.mono B1.size)
  clear A1 I1 R1 B1 K2
  go_wp2_with (refine wpList_store_rec rfl 28 (.tmp 4) _ rfl w2.heap.size 0 zero19 (outOf n f).cells rfl rfl (Rec19.new w2 28 zero19) rfl (by kernel_rfl) (outOf n f).cells_one ?_; intro w3 S4x3 K; have D : Below w2.heap.size w2 w3 := ((Below.refl _ _).alloc (Nat.le_refl _) _).trans (K.below (Nat.le_refl _) (by simp)); have A3 := A2.below D; have I3 := I2.below D; have R3 := R2.below D; have B3 := B2.trans (D.mono B2.size); clear K D A2 I2 R2 B2)
  refine (qreadA_all a n C f _ A3 hC).mono ?_
  rintro e w4 ⟨rfl, K4⟩
  have A4 := A3.below K4
  have I4 := I3.below K4
  have R4 := R3.below K4
  have B4 := B3.trans (K4.mono B3.size)
  have S4x4 := S4x3.below K4
  clear A3 I3 R3 B3 K4 S4x3
  go_wp2_with (refine wpList_store_rec rfl 28 (.tmp 6) _ rfl w4.heap.size 0 zero19 (outOf n f).cells rfl rfl (Rec19.new w4 28 zero19) rfl (by kernel_rfl) (outOf n f).cells_one ?_; intro w5 S6x5 K; have D : Below w4.heap.size w4 w5 := ((Below.refl _ _).alloc (Nat.le_refl _) _).trans (K.below (Nat.le_refl _) (by simp)); have A5 := A4.below D; have I5 := I4.below D; have R5 := R4.below D; have B5 := B4.trans (D.mono B4.size); have S4x5 := S4x4.below D; clear K D A4 I4 R4 B4 S4x4)
  refine (readT_all _ n (n + 3) f _ I5 (by omega)).mono ?_
  rintro e w6 ⟨rfl, K6⟩
  have A6 := A5.below K6
  have I6 := I5.below K6
  have R6 := R5.below K6
  have B6 := B5.trans (K6.mono B5.size)
  have S4x6 := S4x5.below K6
  have S6x6 := S6x5.below K6
  clear A5 I5 R5 B5 K6 S4x5 S6x5
  go_wp2_with (refine wpList_store_rec rfl 30 (.tmp 8) _ rfl w6.heap.size 0 zero19 (outOf n f).cells rfl rfl (Rec19.new w6 30 zero19) rfl (by kernel_rfl) (outOf n f).cells_one ?_; intro w7 S8x7 K; have D : Below w6.heap.size w6 w7 := ((Below.refl _ _).alloc (Nat.le_refl _) _).trans (K.below (Nat.le_refl _) (by simp)); have A7 := A6.below D; have I7 := I6.below D; have R7 := R6.below D; have B7 := B6.trans (D.mono B6.size); have S4x7 := S4x6.below D; have S6x7 := S6x6.below D; clear K D A6 I6 R6 B6 S4x6 S6x6)
  refine (qreadT_all a n C f _ A7 hC).mono ?_
  rintro e w8 ⟨rfl, K8⟩
  have A8 := A7.below K8
  have I8 := I7.below K8
  have R8 := R7.below K8
  have B8 := B7.trans (K8.mono B7.size)
  have S4x8 := S4x7.below K8
  have S6x8 := S6x7.below K8
  have S8x8 := S8x7.below K8
  clear A7 I7 R7 B7 K8 S4x7 S6x7 S8x7
  go_wp2_with (first
    | (refine wpList_store_rec rfl 30 (.tmp 10) _ rfl w8.heap.size 0 zero19 (outOf n f).cells rfl rfl (Rec19.new w8 30 zero19) rfl (by kernel_rfl) (outOf n f).cells_one ?_; intro w9 S10x9 K; have D : Below w8.heap.size w8 w9 := ((Below.refl _ _).alloc (Nat.le_refl _) _).trans (K.below (Nat.le_refl _) (by simp)); have A9 := A8.below D; have I9 := I8.below D; have R9 := R8.below D; have B9 := B8.trans (D.mono B8.size); have S4x9 := S4x8.below D; have S6x9 := S6x8.below D; have S8x9 := S8x8.below D; clear K D A8 I8 R8 B8 S4x8 S6x8 S8x8)
    | (refine wpList_load_w (by rfl) 28 (.tmp 4) rfl w2.heap.size 0 (outOf n f).cells rfl _ Try.underlying28 rfl (by kernel_rfl) S4x9 ?_)
    | (refine wpList_load_w (by rfl) 28 (.tmp 6) rfl w4.heap.size 0 (outOf n f).cells rfl _ Try.underlying28 rfl (by kernel_rfl) S6x9 ?_)
    | (refine wpList_load_w (by rfl) 30 (.tmp 8) rfl w6.heap.size 0 (outOf n f).cells rfl _ Try.underlying30 rfl (by kernel_rfl) S8x9 ?_)
    | (refine wpList_load_w (by rfl) 30 (.tmp 10) rfl w8.heap.size 0 (outOf n f).cells rfl _ Try.underlying30 rfl (by kernel_rfl) S10x9 ?_)
    | (refine wpList_eql_w (by rfl) 28 _ (.tmp 37) (.tmp 38) rfl (outOf n f).cells.toArray rfl rfl (eql_acc (outOf n f)) guard_acc ?_)
    | (refine wpList_eql_w (by rfl) 30 _ (.tmp 46) (.tmp 47) rfl (outOf n f).cells.toArray rfl rfl (eql_tr (outOf n f)) guard_tr ?_))
  refine (kept_any g a n C f _ A9 (by omega) R9).mono ?_
  rintro e w10 ⟨rfl, K10⟩
  have B10 : Hid (Below w.heap.size w w10) := B9.trans (K10.mono B9.size)
  clear A9 I9 R9 B9 K10 S4x9 S6x9 S8x9 S10x9
  go_wp2_with fail
  refine (awake_any _).mono ?_
  rintro e w11 ⟨rfl, K11⟩
  go_wp2_with fail
  go_ret
  exact ⟨rfl, B10.out.trans (K11.mono B10.out.size)⟩
end Go.Proofs.Ytjofoeelkeacgaa
