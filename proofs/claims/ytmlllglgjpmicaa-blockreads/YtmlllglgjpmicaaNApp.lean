/-
  Laws for the walk, not a claim by itself: noughts behind bytes that the call has made itself. By the verifier.
-/
import Derived.Test.YtmlllglgjpmicaaBApp
import Derived.Lib.AppendZerosOnto
namespace Go.Proofs.Ytmlllglgjpmicaa
open Go.RowKit
theorem zeroCells_cl (m : Nat) : (Builtin.zeroCells (Value.int .u8 0).cells m).toList = cl .u8 m (fun _ => 0) := by
  refine List.ext_getElem? fun j => ?_
  by_cases h : j < m
  · rw [cl_at .u8 m _ j h]
    simp [Builtin.zeroCells, Value.cells, h, Nat.mod_one]
  · rw [List.getElem?_eq_none (by simp [Builtin.zeroCells, Value.cells]; omega), List.getElem?_eq_none (by rw [cl_len]; omega)]
end Go.Proofs.Ytmlllglgjpmicaa
