/-
  Plain facts, not a claim by itself: an array of sixteen bytes held against itself. By the verifier.
-/
import Derived.Test.YthgoionmooolaaaBytes
import Derived.ChangeKeysEq
namespace Go.Proofs.Ythgoionmooolaaa
open Go.RowKit
theorem und16 : Try.prog.underlying 33 = some (.array 16 5) := by kernel_rfl
theorem cell8 : Try.prog.cellsOf 5 = 1 := by kernel_rfl
theorem items_same (X : Array Value) (w : World) : ∀ is : List Nat, (∀ i ∈ is, ∃ k : Int, X[i]? = some (.int .u8 k)) → (Op.eqItems 9999 5 1 X X is).run Try.prog w = .ok true w
  | [], _ => by simp [Op.eqItems]
  | i :: is, h => by
    obtain ⟨k, hk⟩ := h i (List.mem_cons_self)
    have ih := items_same X w is (fun j hj => h j (List.mem_cons_of_mem _ hj))
    have hp : (part 5 X (i * 1)).run Try.prog w = .ok (.int .u8 k) w := by
      simp [part, isAgg, Sem.run_bind, run_underlying Try.underlying5, hk]
    have he : (Op.equalIn 9999 5 (.int .u8 k) (.int .u8 k)).run Try.prog w = .ok true w := by
      rw [run_equalIn_int w 9998 5 .u8 .u8 k k Try.underlying5]
      simp
    simp only [Op.eqItems, Sem.run_bind, hp, he, Result.andThen_ok]
    simp [ih]
theorem eq16 (h l : Int) (w : World) : (binOp .eql 33 (BytesOf h l) (BytesOf h l)).run Try.prog w = .ok (.bool true) w := by
  obtain ⟨i, hi, _⟩ : ∃ i, Try.prog.info? 5 = some i ∧ True := by
    have : (Try.prog.info? 5).isSome = true := by kernel_rfl
    obtain ⟨i, hi⟩ := Option.isSome_iff_exists.1 this
    exact ⟨i, hi, trivial⟩
  rw [run_eql_struct, run_equalIn_array w 9999 _ _ und16 hi, cell8, items_same _ w (List.range 16) ?_]
  · rfl
  · intro i hi
    have hi := List.mem_range.1 hi
    match i, hi with
    | 0, _ | 1, _ | 2, _ | 3, _ | 4, _ | 5, _ | 6, _ | 7, _ | 8, _ | 9, _ | 10, _ | 11, _ | 12, _ | 13, _ | 14, _ | 15, _ => exact ⟨_, rfl⟩
    | i + 16, hi => omega
theorem guard16 : Try.prog.eqGuardType Try.prog.depth 33 = false := by kernel_rfl
end Go.Proofs.Ythgoionmooolaaa
