/-
  Walks, not a claim by itself: texts that are compared and copied. By the verifier.
-/
import Derived.Test.YtelcijfcgflagaaTxt
import Derived.Lib.BytesEntry
namespace Go.Proofs.Ytelcijfcgflagaa
open Go.RowKit
theorem bytesOf_arg (w : World) (a : Option Addr) (n C : Nat) (f : Nat → Int) (h : Arg w a n f) : (Extern.Bytes.bytesOf (.slice a n C)).run Try.prog w = .ok (txtN n f) w := by
  rcases h with ⟨rfl, rfl | ⟨p, rfl⟩⟩ | ⟨_, b, off, rfl, hl⟩
  · rfl
  · rfl
  · have := Lib.run_loadBytesX (P := Try.prog) w ((List.range n).map f) ⟨b, off, none⟩ .empty (fun j x hj => by
      rw [List.getElem?_map] at hj
      by_cases e : j < n
      · rw [List.getElem?_range e] at hj
        injection hj with hj
        rw [← hj, Addr.add_mid]
        exact hl.1 j e
      · rw [List.getElem?_eq_none (by simpa using e)] at hj
        cases hj)
    simp only [List.length_map, List.length_range] at this
    show (Extern.Bytes.loadBytes _ n _).run Try.prog w = _
    rw [this]
    congr 1
    unfold txtN strOfNums Lib.bytesOf
    apply ByteArray.ext
    simp
theorem compare_run {W : World} {N M : List Nat} {s s' : Value} {t t' : ByteArray} (h : Txt W N s t) (h' : Txt W M s' t') : (callFunc 56 #[s, s']).run Try.prog W = .ok (.value (.int .i64 (cmpB t t'))) W := by
  obtain ⟨a, C, f, rfl, hA, ht, _⟩ := h
  obtain ⟨a', C', f', rfl, hA', ht', _⟩ := h'
  rw [run_callFunc_extern Try.func56 (by kernel_rfl) (by kernel_rfl) (by kernel_rfl) (e := Extern.BytealgCompare.compare) (by kernel_rfl)]
  have : (Extern.BytealgCompare.compare #[.slice a t.size C, .slice a' t'.size C']).run Try.prog W = .ok (.int .i64 (cmpB t t')) W := by
    change Sem.run Try.prog (do pure (goInt (Extern.BytealgCompare.cmp (← Extern.Bytes.bytesOf (.slice a t.size C)) (← Extern.Bytes.bytesOf (.slice a' t'.size C'))))) W = _
    simp only [Sem.run_bind, Sem.run_pure, Result.andThen, bytesOf_arg W a _ C f hA, bytesOf_arg W a' _ C' f' hA', ht, ht']
    rw [Lib.cmp_eq]
    rfl
  rw [this]
  rfl
set_option maxRecDepth 100000 in
theorem ycmp_any {W : World} {N M : List Nat} {s s' : Value} {t t' : ByteArray} (h : Txt W N s t) (h' : Txt W M s' t') : Calls Try.prog 35 #[s, s'] W fun e w' => e = .returned (.int .i64 (cmpB t t')) ∧ w' = W := by
  have R := hidIt (compare_run h h')
  clear h h'
  go_enter Try.func35, Try.ntmps35
  go_wp2
  rw [R.out]
  rw [Oper.upon_value]
  go_wp2
  go_ret
  exact ⟨rfl, rfl⟩
/-- How many cells a block has. -/
def hsz (W : World) (g : Nat) : Nat := match W.heap[g]? with
  | some (.cells cur _ _) => cur.size
  | _ => 0
/-- A slice of bytes of its own that reads as t. -/
def Fr (W : World) (base : Nat) (s : Value) (t : ByteArray) : Prop := (t.size = 0 ∧ s = .slice none 0 0) ∨ ∃ g F, s = .slice (some ⟨g, 0, none⟩) t.size (hsz W g) ∧ base ≤ g ∧ 0 < t.size ∧ t.size ≤ hsz W g ∧ hsz W g ≤ maxLen ∧ IRow W g .u8 (hsz W g) F ∧ txtN t.size F = t ∧ ∀ j, j < hsz W g → 0 ≤ F j ∧ F j < 256
theorem hsz_eq {W W' : World} {g : Nat} (h : W'.heap[g]? = W.heap[g]?) : hsz W' g = hsz W g := by unfold hsz; rw [h]
theorem Fr.off {W W' : World} {base : Nat} {s : Value} {t : ByteArray} {N : List Nat} (h : Fr W base s t) (hO : Off N W W') (hN : ∀ b, b ∈ N → b < base) : Fr W' base s t := by
  rcases h with h | ⟨g, F, hs, hb, h0, h1, h2, hR, ht, hF⟩
  · exact .inl h
  · have hg : g ∉ N := fun q => by have := hN g q; omega
    have e := hsz_eq (hO.block g hR.2.2 hg)
    exact .inr ⟨g, F, by rw [e]; exact hs, hb, h0, by rw [e]; exact h1, by rw [e]; exact h2, by rw [e]; exact hR.off hO hg, ht, by rw [e]; exact hF⟩
theorem Fr.below {W W' : World} {base : Nat} {s : Value} {t : ByteArray} (h : Fr W base s t) (hB : Below W.heap.size W W') : Fr W' base s t := h.off (Off.of (bs := []) hB) (fun _ h => by cases h)
theorem Fr.low {W : World} {base base' : Nat} {s : Value} {t : ByteArray} (h : Fr W base s t) (hb : base' ≤ base) : Fr W base' s t := by
  rcases h with h | ⟨g, F, hs, hg, r⟩
  · exact .inl h
  · exact .inr ⟨g, F, hs, Nat.le_trans hb hg, r⟩
theorem empty_of (t : ByteArray) (h : t.size = 0) : t = ByteArray.empty := by
  apply ByteArray.ext
  exact Array.eq_empty_of_size_eq_zero h
theorem Fr.txt {W : World} {base : Nat} {s : Value} {t : ByteArray} {N : List Nat} (h : Fr W base s t) (hN : ∀ b, b ∈ N → b < base) : Txt W N s t := by
  rcases h with ⟨h0, rfl⟩ | ⟨g, F, rfl, hb, h0, h1, h2, hR, ht, hF⟩
  · rw [empty_of t h0]; exact Txt.nil W N 0
  · refine ⟨_, _, F, rfl, .inr ⟨h0, g, 0, rfl, fun j hj => by rw [Nat.zero_add]; exact hR.1 j (by omega), fun j hj => hF j (by omega), hR.2.2⟩, ht, fun _ q hq hm => ?_⟩
    injection hq with hq
    subst hq
    have := hN _ hm
    simp at this
    omega
theorem zc_at (n j : Nat) (h : j < n) : (Builtin.zeroCells (Value.int .u8 0).cells n)[j]? = some (.int .u8 0) := by
  unfold Builtin.zeroCells
  rw [Array.getElem?_map, show (Value.int .u8 0).cells.size = 1 from rfl, Nat.mul_one, Array.getElem?_range, if_pos h]
  simp [Value.cells, Nat.mod_one]
/-- What fresh answers. -/
def FrPost (W : World) (t : ByteArray) (e : Ending) (w' : World) : Prop := ∃ s', e = .returned s' ∧ Fr w' W.heap.size s' t ∧ Below W.heap.size W w'
theorem fresh_run {W : World} {N : List Nat} {s : Value} {t : ByteArray} (h : Txt W N s t) (hn : t.size ≤ 1000000) (ty : TypeId) : ∃ s' W', (Builtin.append_ #[43, 43] ty #[.slice none 0 0, s]).run Try.prog W = .ok s' W' ∧ Fr W' W.heap.size s' t ∧ Below W.heap.size W W' := by
  obtain ⟨a, C, f, rfl, hA, ht, _⟩ := h
  obtain ⟨i0, hi, hz0, hz1, hz2⟩ := info_parts info_u8
  rcases hA with ⟨h0, hq⟩ | ⟨h0, b, off, rfl, hl⟩
  · refine ⟨.slice none 0 0, W, ?_, .inl ⟨h0, rfl⟩, Below.refl _ _⟩
    rw [h0]
    rcases hq with rfl | ⟨p, rfl⟩
    · simp [Builtin.append_, run_underlying Try.underlying43, sizeOf, typeInfo, hi, Builtin.lenOf, Builtin.firstCells]
    · simp [Builtin.append_, run_underlying Try.underlying43, sizeOf, typeInfo, hi, Builtin.lenOf, Builtin.firstCells, loadCells, loadCellsFrom]
  · have hr := run_append_nil (P := Try.prog) W 43 ty 5 i0 (.int .u8 0) Try.underlying43 hi hz0 ⟨b, off, none⟩ t.size C (cl .u8 t.size f) (by rw [cl_len, hz1, Nat.mul_one]) (fun j u hj => by obtain ⟨h, rfl⟩ := cl_at' hj; rw [Addr.add_mid]; exact hl.1 j h) h0 (by omega) (by rw [hz2]; omega)
    have hge := grownCap_ge W t.size 0 5
    have hle := grownCap_le_maxLen W t.size 0 5 (by unfold maxLen; omega)
    generalize grownCap W t.size 0 5 = C1 at *
    refine ⟨_, _, hr, .inr ⟨W.heap.size, fun j => if j < t.size then f j else 0, ?_⟩, (Below.refl W.heap.size W).drew.alloc (Nat.le_refl _) _⟩
    have hc : ∀ j, j < C1 → ((cl .u8 t.size f).toArray ++ Builtin.zeroCells (Value.int .u8 0).cells (C1 - t.size))[j]? = some (.int .u8 (if j < t.size then f j else 0)) := fun j hj => by
      by_cases e : j < t.size
      · rw [Array.getElem?_append_left (by simp [cl_len]; exact e), if_pos e]
        simpa using cl_at .u8 t.size f j e
      · rw [Array.getElem?_append_right (by simp [cl_len]; omega), if_neg e]
        rw [List.size_toArray, cl_len]
        exact zc_at (C1 - t.size) (j - t.size) (by omega)
    have hz : hsz (W.drew.alloc (.cells ((cl .u8 t.size f).toArray ++ Builtin.zeroCells (Value.int .u8 0).cells (C1 - t.size)) 5)) W.heap.size = C1 := by
      have e : (W.drew.alloc (.cells ((cl .u8 t.size f).toArray ++ Builtin.zeroCells (Value.int .u8 0).cells (C1 - t.size)) 5)).heap[W.heap.size]? = some _ := heap_alloc_new W.drew _
      unfold hsz
      rw [e]
      simp [cl_len, size_zeroCells, Value.cells]
      omega
    rw [hz]
    refine ⟨rfl, Nat.le_refl _, h0, hge, hle, ⟨fun j hj => ?_, fun j => by simp [go_sem], by simp⟩, ?_, fun j hj => ?_⟩
    · rw [World.cell?_alloc_at (w := W.drew) _ _ W.heap.size j rfl]
      exact hc j hj
    · rw [← ht, txtN_size]
      refine txtN_congr _ _ _ fun j hj => if_pos hj
    · by_cases e : j < t.size
      · simp only [if_pos e]; exact hl.2.1 j e
      · simp only [if_neg e]; decide
end Go.Proofs.Ytelcijfcgflagaa
