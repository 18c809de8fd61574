/-
  Plain notions, laws and walks, not a claim by itself: slices of bytes, copied, made, held against one another. By the verifier.
-/
import Derived.Test.YtelcijfcgflagaaBase
namespace Go.Proofs.Ytelcijfcgflagaa
open Go.RowKit

/-- Bytes that lie in a block. -/
def Lies (u : World) (b off n : Nat) (f : Nat → Int) : Prop := (∀ j, j < n → u.cell? ⟨b, off + j, none⟩ = some (.int .u8 (f j))) ∧ (∀ j, j < n → 0 ≤ f j ∧ f j < 256) ∧ b < u.heap.size
theorem Lies.below {u v : World} {b off n : Nat} {f : Nat → Int} (h : Lies u b off n f) (hb : Below u.heap.size u v) : Lies v b off n f :=
  ⟨fun j hj => (hb.cell (p := ⟨b, off + j, none⟩) h.2.2).trans (h.1 j hj), h.2.1, Nat.lt_of_lt_of_le h.2.2 hb.size⟩
theorem Lies.but {u v : World} {b c off n : Nat} {f : Nat → Int} (h : Lies u b off n f) (hb : But c u v) (hn : b ≠ c) : Lies v b off n f :=
  ⟨fun j hj => (hb.cell (p := ⟨b, off + j, none⟩) h.2.2 hn).trans (h.1 j hj), h.2.1, Nat.lt_of_lt_of_le h.2.2 hb.size⟩
theorem Lies.alloc {u : World} {b off n : Nat} {f : Nat → Int} (h : Lies u b off n f) (o : Obj) : Lies (u.alloc o) b off n f := h.below ((Below.refl _ _).alloc (Nat.le_refl _) _)
theorem Lies.part {u : World} {b off n : Nat} {f : Nat → Int} (h : Lies u b off n f) (i k : Nat) (hk : i + k ≤ n) : Lies u b (off + i) k (fun j => f (i + j)) :=
  ⟨fun j hj => by rw [Nat.add_assoc]; exact h.1 (i + j) (by omega), fun j hj => h.2.1 (i + j) (by omega), h.2.2⟩

/-- A slice of n bytes that may be nil where n is 0. -/
def Arg (w : World) (a : Option Addr) (n : Nat) (f : Nat → Int) : Prop := (n = 0 ∧ (a = none ∨ ∃ p, a = some p)) ∨ (0 < n ∧ ∃ b off, a = some ⟨b, off, none⟩ ∧ Lies w b off n f)
theorem Arg.below {w w' : World} {a : Option Addr} {n : Nat} {f : Nat → Int} (h : Arg w a n f) (hB : Below w.heap.size w w') : Arg w' a n f := by
  rcases h with h | ⟨h0, b, off, rfl, hl⟩
  · exact .inl h
  · exact .inr ⟨h0, b, off, rfl, hl.below hB⟩
theorem Arg.part {w : World} {b off n : Nat} {f : Nat → Int} (h : Lies w b off n f) (i k : Nat) (hk : i + k ≤ n) : Arg w (some ⟨b, off + i, none⟩) k (fun j => f (i + j)) := by
  by_cases e : k = 0
  · exact .inl ⟨e, .inr ⟨_, rfl⟩⟩
  · exact .inr ⟨by omega, b, off + i, rfl, h.part i k hk⟩
theorem Arg.of {w : World} {b off n : Nat} {f : Nat → Int} (h : Lies w b off n f) : Arg w (some ⟨b, off, none⟩) n f := by
  by_cases e : n = 0
  · exact .inl ⟨e, .inr ⟨_, rfl⟩⟩
  · exact .inr ⟨by omega, b, off, rfl, h⟩
theorem IRow.lies {w : World} {b N : Nat} {f : Nat → Int} (h : IRow w b .u8 N f) (hb : ∀ j, j < N → 0 ≤ f j ∧ f j < 256) : Lies w b 0 N f := ⟨fun j hj => by rw [Nat.zero_add]; exact h.1 j hj, hb, h.2.2⟩
theorem Arg.bytes {w : World} {a : Option Addr} {n : Nat} {f : Nat → Int} (h : Arg w a n f) : ∀ j, j < n → 0 ≤ f j ∧ f j < 256 := by
  rcases h with ⟨rfl, _⟩ | ⟨_, b, off, _, hl⟩
  · intro j hj; omega
  · exact hl.2.1
theorem Arg.congr {w : World} {a : Option Addr} {n : Nat} {f g : Nat → Int} (h : Arg w a n f) (e : ∀ j, j < n → f j = g j) : Arg w a n g := by
  rcases h with h | ⟨h0, b, off, ha, hl⟩
  · exact .inl h
  · exact .inr ⟨h0, b, off, ha, fun j hj => by rw [hl.1 j hj, e j hj], fun j hj => by rw [← e j hj]; exact hl.2.1 j hj, hl.2.2⟩
/-- c of f's numbers laid over g from o on. -/
def over (g : Nat → Int) (o c : Nat) (f : Nat → Int) (j : Nat) : Int := if o ≤ j ∧ j < o + c then f (j - o) else g j
theorem IRow.cells {u : World} {b : Nat} {k : IntKind} {N o c : Nat} {f g : Nat → Int} (r : IRow u b k N g) (hn : o + c ≤ N) : IRow (u.setCells b o (cl k c f)) b k N (over g o c f) := by
  refine ⟨fun j hj => ?_, fun j => by rw [World.frozen?_setCells]; exact r.2.1 j, by rw [size_cells]; exact r.2.2⟩
  unfold over
  by_cases h : o ≤ j ∧ j < o + c
  · rw [if_pos h]
    have := World.cell?_setCells_in b (cl k c f) o u (fun i hi => by rw [cl_len] at hi; rw [r.1 (o + i) (by omega)]; rfl) (j - o) (by rw [cl_len]; omega)
    rw [show o + (j - o) = j by omega] at this
    rw [this, ← List.getElem?_eq_getElem, cl_at k c f (j - o) (by omega)]
  · rw [if_neg h, World.cell?_setCells_out b _ _ _ _ (fun _ _ => by rw [cl_len]; show j < o ∨ o + c ≤ j; omega)]
    exact r.1 j hj
/-- copy of bytes into a row. -/
theorem copy_row (W : World) (g N o L C0 n C c : Nat) (a : Option Addr) (f h0 : Nat → Int) (hR : IRow W g .u8 N h0) (hn : o + L ≤ N) (hc : c = Nat.min n L) (hA : Arg W a n f) :
    ∃ W2, (∀ ty, (Builtin.copy_ #[43, 43] ty #[.slice (some ⟨g, o, none⟩) L C0, .slice a n C]).run Try.prog W = .ok (goInt c) W2) ∧ IRow W2 g .u8 N (over h0 o c f) ∧ But g W W2 ∧ W2.heap.size = W.heap.size := by
  have c1 : c ≤ n := by rw [hc]; exact Nat.min_le_left _ _
  have c2 : c ≤ L := by rw [hc]; exact Nat.min_le_right _ _
  by_cases e : c = 0
  · subst e
    refine ⟨W, fun ty => run_copy_none (P := Try.prog) W 43 43 ty 5 _ _ L C0 n C Try.underlying43 (by kernel_rfl) hc.symm, hR.congr (fun j _ => ?_), But.refl _ _, rfl⟩
    unfold over
    rw [if_neg (by omega)]
  · rcases hA with ⟨h, _⟩ | ⟨_, b, off, rfl, hl⟩
    · omega
    refine ⟨W.setCells g o (cl .u8 c f), fun ty => ?_, hR.cells (by omega), But.cells _ _ _, size_cells _ _ _ _⟩
    have := run_copy_cells (P := Try.prog) W 43 43 ty 5 g o L C0 ⟨b, off, none⟩ n C (cl .u8 c f) Try.underlying43 (by kernel_rfl) (by rw [cl_len]; exact hc)
      (fun j v hj => by obtain ⟨hk, rfl⟩ := cl_at' hj; rw [Addr.add_mid]; exact hl.1 j (by omega))
      (fun j hj => by rw [cl_len] at hj; rw [hR.1 (o + j) (by omega)]; rfl) (fun j _ => hR.2.1 _) (cl_one _ _ _)
    rw [cl_len] at this
    exact this
/-- A copy at the list of a plain region's operations, its run known. -/
theorem wpList_copy_go {P : Program} {ops : Array Oper} {rest : List Oper} {o : Oper} {a : Act} {w : World} {Q : Exit → Act → World → Prop} (hgd : o.guard = none) (d s : Operand) (dT sT : TypeId)
    (ho : o.op = .call { callee := .builtin .copy, args := #[d, s], argTypes := #[dT, sT] }) (v u : Value) (hd : a.eval d = v) (hs : a.eval s = u) {v' : Value} {w' : World}
    (hr : ∀ ty, (Builtin.copy_ #[dT, sT] ty #[v, u]).run P w = .ok v' w') (h : wpList P ops Q rest (a.put o.dst v') w') : wpList P ops Q (o :: rest) a w := by
  refine wpList_plain hgd fun K hK => ?_
  unfold Oper.wp
  simp [execOp, ho, resolve, invoke, builtin, hd, hs, hr, Result.andThen]
  exact hK _ _ h
/-- The cells of n bytes that are made. -/
def zeros (n : Nat) : Array Value := madeCells #[.int .u8 0] n
theorem make_bytes (n : Nat) (h : n ≤ 281474976710656) (w : World) : (Instr.makeSlice 43 (.int .i64 (n : Int)) (.int .i64 (n : Int))).run Try.prog w = .ok (.slice (some ⟨w.heap.size, 0, none⟩) n n) (w.alloc (.cells (zeros n) 5)) :=
  run_make_row' 43 5 (.int .u8 0) 1 Try.underlying43 (by kernel_rfl) rfl .i64 .i64 n (by omega) (by omega) w
theorem zeros_at (n j : Nat) (h : j < n) : (zeros n)[j]? = some (.int .u8 0) := by
  unfold zeros
  simp [madeCells, h, Nat.mod_one]
theorem IRow.made (w : World) (n : Nat) (T : TypeId) : IRow (w.alloc (.cells (zeros n) T)) w.heap.size .u8 n (fun _ => 0) := by
  refine ⟨fun j hj => ?_, fun j => by simp [go_sem], by simp⟩
  rw [World.cell?_alloc_at _ _ _ _ rfl]
  simpa using zeros_at n j hj
/-- Bytes as a text. -/
def txtN (n : Nat) (f : Nat → Int) : ByteArray := strOfNums ((List.range n).map f)
theorem txtN_congr (n : Nat) (f g : Nat → Int) (h : ∀ j, j < n → f j = g j) : txtN n f = txtN n g := by
  unfold txtN; rw [List.map_congr_left (g := g) fun j hj => h j (List.mem_range.1 hj)]
theorem txtN_size (n : Nat) (f : Nat → Int) : (txtN n f).size = n := by unfold txtN; rw [strOfNums_size]; simp
theorem txtN_at (n : Nat) (f : Nat → Int) (j : Nat) (h : j < n) : (txtN n f).data.toList[j]? = some (UInt8.ofNat (f j).toNat) := by
  unfold txtN
  rw [strOfNums_data, List.getElem?_map, List.getElem?_map, List.getElem?_range h]
  rfl
theorem txtN_inj {n m : Nat} {f g : Nat → Int} (hf : ∀ j, j < n → 0 ≤ f j ∧ f j < 256) (hg : ∀ j, j < m → 0 ≤ g j ∧ g j < 256) (h : txtN n f = txtN m g) : n = m ∧ ∀ j, j < n → f j = g j := by
  have e : n = m := by rw [← txtN_size n f, h, txtN_size]
  refine ⟨e, fun j hj => ?_⟩
  have h1 := txtN_at n f j hj
  have h2 := txtN_at m g j (by omega)
  rw [h, h2] at h1
  injection h1 with h1
  have h3 := congrArg UInt8.toNat h1
  rw [UInt8.toNat_ofNat_of_lt' (by have := hg j (by omega); simp [UInt8.size]; omega), UInt8.toNat_ofNat_of_lt' (by have := hf j hj; simp [UInt8.size]; omega)] at h3
  have := hf j hj
  have := hg j (by omega)
  omega
theorem conv_arg (u : World) (a : Option Addr) (n cap : Nat) (f : Nat → Int) (h : Arg u a n f) :
    (convert 43 9 (.slice a n cap)).run Try.prog u = .ok (.string (txtN n f)) u := by
  rcases h with ⟨rfl, rfl | ⟨p, rfl⟩⟩ | ⟨_, b, off, rfl, hl⟩
  · exact run_convert_bytes_nil (P := Try.prog) u 43 5 Try.underlying43 Try.underlying5 0 cap 9 Try.underlying9
  · have hl : (loadCells p 0).run Try.prog u = .ok (([] : List Int).map (Value.int .u8)).toArray u := by simpa using run_loadCells_list (P := Try.prog) u p [] (by simp)
    rw [run_convert_bytes_string u 43 9 5 _ 0 cap Try.underlying43 Try.underlying5 Try.underlying9, run_bytesToString u _ 0 cap [] hl]
    rfl
  · exact run_convert_bytes_arg (P := Try.prog) u 43 5 Try.underlying43 Try.underlying5 b off n cap ((List.range n).map f) (by simp) (fun i hi => by
      rw [hl.1 i hi, List.getD_eq_getElem?_getD, List.getElem?_map, List.getElem?_range hi]; rfl) 9 Try.underlying9
theorem bytes_beq (x y : ByteArray) : (x.toList == y.toList) = decide (x = y) := by
  rw [ByteArray.toList_eq, ByteArray.toList_eq]
  by_cases h : x = y
  · subst h; simp
  · have : ¬ x.data = y.data := fun e => h (by cases x; cases y; exact congrArg _ e)
    simp [h, this]
/-- SameBytes. -/
theorem same_any (a a' : Option Addr) (n m C C' : Nat) (f g : Nat → Int) (w : World) (hf : Arg w a n f) (hg : Arg w a' m g) :
    Calls Try.prog 57 #[.slice a n C, .slice a' m C'] w fun e w' => e = .returned (.bool (decide (txtN n f = txtN m g))) ∧ w' = w := by
  have c1 := conv_arg w a n C f hf
  have c2 := conv_arg w a' m C' g hg
  clear hf hg
  generalize txtN n f = x at c1 ⊢
  generalize txtN m g = y at c2 ⊢
  go_enter Try.func57, Try.ntmps57
  go_wp2
  rw [bytes_beq]
  go_ret
  exact ⟨rfl, rfl⟩
end Go.Proofs.Ytelcijfcgflagaa
