/-
  Walks, not a claim by itself: the reference's Eight, begin and table. By the verifier.
-/
import Derived.Test.YtmlllglgjpmicaaBApp
import Derived.Test.YtmlllglgjpmicaaHBlk2
namespace Go.Proofs.Ytmlllglgjpmicaa
open Go.RowKit
/-- A number's eight bytes, the highest first. -/
def e8 (x : Int) (j : Nat) : Int := x / 2 ^ (56 - 8 * j) % 256
theorem e8_byte (x : Int) (j : Nat) : 0 ≤ e8 x j ∧ e8 x j < 256 := by unfold e8; omega
def e8Rel (w : World) (x : Int) (v i : Value) (wr : World) : Prop := ∃ k : Nat, k ≤ 8 ∧ i = .int .i64 k ∧ Own wr w.heap.size v k (e8 x) ∧ Below w.heap.size w wr
/-- What Eight answers. -/
def EightPost (w : World) (x : Int) (e : Ending) (w' : World) : Prop := ∃ v, e = .returned v ∧ Own w' w.heap.size v 8 (e8 x) ∧ Below w.heap.size w w'
theorem one_arg (w : World) (x : Int) (hx : 0 ≤ x ∧ x < 256) : Arg (w.alloc (.cells #[.int .u8 x] 5)) (some ⟨w.heap.size, 0, none⟩) 1 (fun _ => x) :=
  Arg.of ((IRow.new w 5 .u8 1 (fun _ => x)).lies (fun _ _ => hx))
set_option maxRecDepth 100000 in
set_option maxHeartbeats 400000 in
theorem eight_any (x : Int) (w : World) : Calls Try.prog 50 #[.int .u64 x] w (EightPost w x) := by
  have ST : Hid (e8Rel w x (.slice none 0 0) (.int .i64 0) w) := ⟨0, by omega, rfl, Own.nil w _ _, Below.refl _ _⟩
  go_enter Try.func50, Try.ntmps50
  go_wp2_with fail
  go_loopw [3, 4] (fun v i wr => e8Rel w x v i wr) (fun _ i _ => 8 - (intOf i).toNat)
  case atStart => exact ST.out
  case round =>
    obtain ⟨k, hk, rfl, ho, hB⟩ := hrel
    clear ST
    by_cases hlt : k < 8
    · have i0 : (k : Int) < 8 := by omega
      have i1 : (0 : Int) ≤ 56 - 8 * (k : Int) := by omega
      have i2 : 56 - 8 * (k : Int) < 64 := by omega
      have i3 : (56 - 8 * (k : Int)).toNat = 56 - 8 * k := by omega
      obtain ⟨v', W', hr, hO, hB'⟩ := app_arg 25 (wr.alloc (.cells #[.int .u8 (x / 2 ^ (56 - 8 * k) % 256)] 5)) w.heap.size k 1 1 _ (some ⟨wr.heap.size, 0, none⟩) (e8 x) (fun _ => x / 2 ^ (56 - 8 * k) % 256) (ho.below ((Below.refl _ _).alloc (Nat.le_refl _) _)) (one_arg wr _ (by omega)) (by omega) (by have := hB.size; simp; omega)
      have R : Hid (e8Rel w x v' (.int .i64 ((k : Int) + 1)) W') := ⟨k + 1, by omega, by go_num, hO.congr (fun j hj => by
        unfold cat
        by_cases e : j < k
        · rw [if_pos e]
        · rw [if_neg e, show j = k by omega]; rfl), (hB.alloc hB.size _).trans hB'⟩
      clear hO hB' ho hB
      go_wp2_with (at_builtin; refine wpList_append_go rfl (.tmp 9) (.tmp 16) 25 25 rfl _ _ rfl rfl hr ?_)
      exact ⟨R.out, by simp [intOf]; omega⟩
    · obtain rfl : k = 8 := by omega
      go_wp2_with fail
      exact bodyPost_ret (by simp [results, Try.results50, go_sem]) rfl ⟨_, rfl, ho, hB⟩
set_option maxRecDepth 100000 in
theorem table_any (w : World) : Calls Try.prog 52 #[] w fun e w' => e = .returned (.agg (cl .u32 64 KF).toArray) ∧ Below w.heap.size w w' := by
  go_enter Try.func52, Try.ntmps52
  go_wp2_with (first
    | (refine wpList_alloc_row rfl 80 rfl .u32 64 w.heap.size rfl zero32_64 ?_; intro W1 hR1 hB1 hz1)
    | (refine wpList_build_to rfl 80 _ rfl (cl .u32 64 KF).toArray (by kernel_rfl) ?_)
    | (refine wpList_store_row rfl 80 (.tmp 0) (.tmp 1) rfl w.heap.size .u32 64 KF (fun _ => 0) rfl rfl hR1 (by kernel_rfl) ?_; intro W2 hR2 hB2 hz2))
  have hl := hR2.run_load 80 _ Try.underlying80 rfl (by kernel_rfl)
  refine bodyPost_ret (v := .agg (cl .u32 64 KF).toArray) (by simp [results, Try.results52, asAddr, Act.put, hl]) rfl ⟨rfl, ?_⟩
  exact hB1.trans (hB2.below (Nat.le_refl _) (by omega))
set_option maxRecDepth 100000 in
theorem begin_any (w : World) : Calls Try.prog 51 #[] w fun e w' => e = .returned H0.val ∧ Below w.heap.size w w' := by
  go_enter Try.func51, Try.ntmps51
  go_wp2
  refine bodyPost_ret (v := H0.val) (by simp [results, Try.results51, go_sem, H0]) rfl ⟨rfl, ?_⟩
  exact (Below.refl _ _).alloc (Nat.le_refl _) _
end Go.Proofs.Ytmlllglgjpmicaa
