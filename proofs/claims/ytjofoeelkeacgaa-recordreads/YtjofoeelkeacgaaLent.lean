/-
  Walks, not a claim by itself: the kit's SameBytes and LentBytes. By the verifier.
-/
import Derived.Test.YtjofoeelkeacgaaMade
import Derived.Test.YtjofoeelkeacgaaTake
import Derived.Laws.BytesArg
import Derived.Deep.MidRow
namespace Go.Proofs.Ytjofoeelkeacgaa
open Go.RowKit
/-- Bytes as a text. -/
def txtN (n : Nat) (f : Nat → Int) : ByteArray := strOfNums ((List.range n).map f)
theorem conv_rowN (u : World) (b off n cap : Nat) (f : Nat → Int) (h : ∀ j, j < n → u.cell? ⟨b, off + j, none⟩ = some (.int .u8 (f j))) :
    (convert 31 9 (.slice (some ⟨b, off, none⟩) n cap)).run Try.prog u = .ok (.string (txtN n f)) u :=
  run_convert_bytes_arg (P := Try.prog) u 31 5 Try.underlying31 Try.underlying5 b off n cap ((List.range n).map f) (by simp) (fun i hi => by
    rw [h i hi, List.getD_eq_getElem?_getD, List.getElem?_map, List.getElem?_range hi]; rfl) 9 Try.underlying9
theorem same_trueN (b b' off off' n cap cap' : Nat) (f : Nat → Int) (w : World) (hf : ∀ j, j < n → w.cell? ⟨b, off + j, none⟩ = some (.int .u8 (f j))) (hg : ∀ j, j < n → w.cell? ⟨b', off' + j, none⟩ = some (.int .u8 (f j))) :
    Calls Try.prog 10 #[.slice (some ⟨b, off, none⟩) n cap, .slice (some ⟨b', off', none⟩) n cap'] w fun e w' => e = .returned (.bool true) ∧ w' = w := by
  have c1 := conv_rowN w b off n cap f hf
  have c2 := conv_rowN w b' off' n cap' f hg
  clear hf hg
  go_enter Try.func10, Try.ntmps10
  go_wp2
  go_ret
  exact ⟨rfl, rfl⟩
/-- A copy at the list of a plain region's operations, its run known. -/
theorem wpList_copy_go {P : Program} {ops : Array Oper} {rest : List Oper} {o : Oper} {a : Act} {w : World} {Q : Exit → Act → World → Prop} (hgd : o.guard = none) (d s : Operand) (dT sT : TypeId)
    (ho : o.op = .call { callee := .builtin .copy, args := #[d, s], argTypes := #[dT, sT] }) (v u : Value) (hd : a.eval d = v) (hs : a.eval s = u) {v' : Value} {w' : World}
    (hr : ∀ ty, (Builtin.copy_ #[dT, sT] ty #[v, u]).run P w = .ok v' w') (h : wpList P ops Q rest (a.put o.dst v') w') : wpList P ops Q (o :: rest) a w := by
  refine wpList_plain hgd fun K hK => ?_
  unfold Oper.wp
  simp [execOp, ho, resolve, invoke, builtin, hd, hs, hr, Result.andThen]
  exact hK _ _ h
/-- A slice of n bytes that may be nil where n is 0. -/
def Arg (w : World) (a : Option Addr) (n : Nat) (f : Nat → Int) : Prop := (n = 0 ∧ (a = none ∨ ∃ p, a = some p)) ∨ (0 < n ∧ ∃ b off, a = some ⟨b, off, none⟩ ∧ Lies w b off n f)
theorem Arg.below {w w' : World} {a : Option Addr} {n : Nat} {f : Nat → Int} (h : Arg w a n f) (hB : Below w.heap.size w w') : Arg w' a n f := by
  rcases h with h | ⟨h0, b, off, rfl, hl⟩
  · exact .inl h
  · exact .inr ⟨h0, b, off, rfl, hl.below hB⟩
theorem Row.cells {u : World} {b N n : Nat} {f g : Nat → Int} (r : Row u b N g) (hn : n ≤ N) : Row (u.setCells b 0 ((List.range n).map fun j => .int .u8 (f j))) b N (fun j => if j < n then f j else g j) := by
  have hl : ((List.range n).map fun j => Value.int .u8 (f j)).length = n := by simp
  refine ⟨fun j hj => ?_, fun j => by rw [World.frozen?_setCells]; exact r.2.1 j, by exact Nat.lt_of_lt_of_le r.2.2 (But.cells _ _ _).size⟩
  show _ = some (Value.int .u8 (if j < n then f j else g j))
  by_cases h : j < n
  · rw [if_pos h]
    have := World.cell?_setCells_in b ((List.range n).map fun j => .int .u8 (f j)) 0 u (fun i hi => by rw [Nat.zero_add, r.1 i (by rw [hl] at hi; omega)]; rfl) j (by rw [hl]; exact h)
    rw [Nat.zero_add] at this
    rw [this]
    simp
  · rw [if_neg h, World.cell?_setCells_out b _ _ _ _ (fun _ _ => .inr (by rw [hl]; show 0 + n ≤ j; omega))]
    exact r.1 j hj
theorem copy_arg (W : World) (g N n C : Nat) (a : Option Addr) (f h0 : Nat → Int) (hR : Row W g N h0) (hn : n ≤ N) (hA : Arg W a n f) :
    ∃ W2, (∀ ty, (Builtin.copy_ #[31, 31] ty #[.slice (some ⟨g, 0, none⟩) N N, .slice a n C]).run Try.prog W = .ok (goInt n) W2) ∧ Row W2 g N (fun j => if j < n then f j else h0 j) ∧ But g W W2 := by
  rcases hA with ⟨rfl, _⟩ | ⟨hp, b, off, rfl, hl⟩
  · refine ⟨W, fun ty => run_copy_none (P := Try.prog) W 31 31 ty 5 _ _ N N 0 C Try.underlying31 (by kernel_rfl) (Nat.min_eq_left (Nat.zero_le _)), ?_, But.refl _ _⟩
    exact ⟨fun j hj => by rw [hR.1 j hj]; rfl, hR.2⟩
  · have len : ((List.range n).map fun j => Value.int .u8 (f j)).length = n := by simp
    refine ⟨W.setCells g 0 ((List.range n).map fun j => .int .u8 (f j)), fun ty => ?_, hR.cells hn, But.cells _ _ _⟩
    have := run_copy_cells (P := Try.prog) W 31 31 ty 5 g 0 N N ⟨b, off, none⟩ n C ((List.range n).map fun j => .int .u8 (f j)) Try.underlying31 (by kernel_rfl) (by rw [len]; exact (Nat.min_eq_left hn).symm)
      (fun j v hj => by
        rw [Addr.add_mid]
        rw [List.getElem?_map] at hj
        by_cases k : j < n
        · rw [List.getElem?_range k] at hj
          rw [hl.1 j k]
          exact hj
        · rw [List.getElem?_eq_none (by simp; omega)] at hj
          cases hj)
      (fun j hj => by rw [len] at hj; rw [Nat.zero_add, hR.1 j (by omega)]; rfl) (fun j _ => hR.2.1 _) (fun v hv => by rw [List.mem_map] at hv; obtain ⟨j, _, rfl⟩ := hv; rfl)
    rw [len] at this
    exact this
end Go.Proofs.Ytjofoeelkeacgaa
