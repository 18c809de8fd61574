/-
  Walks, not a claim by itself: u128.Bytes, word and Read. By the verifier.
-/
import Derived.Test.YtijpoipcadhchaaDoorMPlain
namespace Go.Proofs.YtijpoipcadhchaaDoor
open Go.RowKit
def Word (x : Int) : Prop := 0 ≤ x ∧ x < 18446744073709551616
/-- A number of 128 bits as Go has it. -/
abbrev U (h l : Int) : Value := .agg #[.int .u64 h, .int .u64 l]
/-- The bytes of a number as Go has them, the lowest first. -/
abbrev BytesOf (h l : Int) : Value := .agg #[.int .u8 (l % 256), .int .u8 (l / 256 % 256), .int .u8 (l / 65536 % 256), .int .u8 (l / 16777216 % 256), .int .u8 (l / 4294967296 % 256), .int .u8 (l / 1099511627776 % 256), .int .u8 (l / 281474976710656 % 256), .int .u8 (l / 72057594037927936), .int .u8 (h % 256), .int .u8 (h / 256 % 256), .int .u8 (h / 65536 % 256), .int .u8 (h / 16777216 % 256), .int .u8 (h / 4294967296 % 256), .int .u8 (h / 1099511627776 % 256), .int .u8 (h / 281474976710656 % 256), .int .u8 (h / 72057594037927936)]

set_option maxRecDepth 100000 in
set_option maxHeartbeats 4000000 in
theorem bytes_any (h l : Int) (w : World) (h1 : Word h) (h2 : Word l) :
    Calls Tryd.prog 86 #[U h l] w fun e w' => e = .returned (BytesOf h l) ∧ Below w.heap.size w w' := by
  obtain ⟨a1, a2⟩ := h1
  obtain ⟨b1, b2⟩ := h2
  go_enter Tryd.func86, Tryd.ntmps86
  go_wp2
  refine wp_loop_rounds 9 ?_
  iterate 9 (rw [rounds_succ]; go_wp2)
  exact bodyPost_ret (v := BytesOf h l) (by simp [results, Tryd.results86, go_sem]) rfl ⟨rfl, (((Below.refl _ _).alloc (Nat.le_refl _) _).alloc (by simp) _).alloc (by simp; omega) _⟩

/-- A number's bytes, as a function. -/
def wide (h l : Int) (j : Nat) : Int := if j < 8 then byt l j else byt h (j - 8)
/-- The cells of a number's bytes. -/
def cells16 (h l : Int) : List Value := cl .u8 16 (wide h l)
theorem cells16_eq (h l : Int) (h1 : Word h) (h2 : Word l) : BytesOf h l = .agg (cells16 h l).toArray := by
  obtain ⟨a1, a2⟩ := h1
  obtain ⟨b1, b2⟩ := h2
  have e7 : l / 72057594037927936 = l / 72057594037927936 % 256 := by omega
  have e15 : h / 72057594037927936 = h / 72057594037927936 % 256 := by omega
  rw [BytesOf, e7, e15]
  simp [cells16, cl, List.range, List.range.loop, wide, byt, up8]
theorem ret_int {k : IntKind} {a b : Int} (h : a = b) : Ending.returned (.int k a) = .returned (.int k b) := by rw [h]
theorem or_zero (b : Int) (h0 : 0 ≤ b) (h1 : b < 18446744073709551616) : bits .or .u64 0 b = b := by
  have := or_hi 0 b 18446744073709551616 64 (by decide) (by omega) h0 h1 (by omega)
  simpa using this
set_option maxRecDepth 100000 in
set_option maxHeartbeats 4000000 in
theorem word_any (b off cap : Nat) (b0 b1 b2 b3 b4 b5 b6 b7 : Int) (w : World)
    (c0 : w.cell? ⟨b, off, none⟩ = some (.int .u8 b0)) (c1 : w.cell? ⟨b, off + 1, none⟩ = some (.int .u8 b1)) (c2 : w.cell? ⟨b, off + 2, none⟩ = some (.int .u8 b2)) (c3 : w.cell? ⟨b, off + 3, none⟩ = some (.int .u8 b3))
    (c4 : w.cell? ⟨b, off + 4, none⟩ = some (.int .u8 b4)) (c5 : w.cell? ⟨b, off + 5, none⟩ = some (.int .u8 b5)) (c6 : w.cell? ⟨b, off + 6, none⟩ = some (.int .u8 b6)) (c7 : w.cell? ⟨b, off + 7, none⟩ = some (.int .u8 b7))
    (h0 : 0 ≤ b0 ∧ b0 < 256) (h1 : 0 ≤ b1 ∧ b1 < 256) (h2 : 0 ≤ b2 ∧ b2 < 256) (h3 : 0 ≤ b3 ∧ b3 < 256) (h4 : 0 ≤ b4 ∧ b4 < 256) (h5 : 0 ≤ b5 ∧ b5 < 256) (h6 : 0 ≤ b6 ∧ b6 < 256) (h7 : 0 ≤ b7 ∧ b7 < 256) :
    Calls Tryd.prog 89 #[.slice (some ⟨b, off, none⟩) 8 cap] w fun e w' => e = .returned (.int .u64 (b0 + b1 * 256 + b2 * 65536 + b3 * 16777216 + b4 * 4294967296 + b5 * 1099511627776 + b6 * 281474976710656 + b7 * 72057594037927936)) ∧ w' = w := by
  obtain ⟨p0, q0⟩ := h0; obtain ⟨p1, q1⟩ := h1; obtain ⟨p2, q2⟩ := h2; obtain ⟨p3, q3⟩ := h3
  obtain ⟨p4, q4⟩ := h4; obtain ⟨p5, q5⟩ := h5; obtain ⟨p6, q6⟩ := h6; obtain ⟨p7, q7⟩ := h7
  go_enter Tryd.func89, Tryd.ntmps89
  go_wp2
  refine wp_loop_rounds 9 ?_
  iterate 9 (rw [rounds_succ]; go_wp2)
  go_ret
  exact ⟨ret_int (by rw [or_zero b0 p0 (by omega), or_lo b1 _ 256 8 (by decide) p1 (by omega) (by omega) (by omega), or_lo b2 _ 65536 16 (by decide) p2 (by omega) (by omega) (by omega), or_lo b3 _ 16777216 24 (by decide) p3 (by omega) (by omega) (by omega), or_lo b4 _ 4294967296 32 (by decide) p4 (by omega) (by omega) (by omega), or_lo b5 _ 1099511627776 40 (by decide) p5 (by omega) (by omega) (by omega), or_lo b6 _ 281474976710656 48 (by decide) p6 (by omega) (by omega) (by omega), or_lo b7 _ 72057594037927936 56 (by decide) p7 (by omega) (by omega) (by omega)]), rfl⟩

/-- The number of eight bytes, the lowest first. -/
def le8 (f : Nat → Int) : Int := f 0 + f 1 * 256 + f 2 * 65536 + f 3 * 16777216 + f 4 * 4294967296 + f 5 * 1099511627776 + f 6 * 281474976710656 + f 7 * 72057594037927936
theorem le8_word (f : Nat → Int) (hf : ∀ j, j < 8 → 0 ≤ f j ∧ f j < 256) : Word (le8 f) := by
  have h0 := hf 0 (by omega); have h1 := hf 1 (by omega); have h2 := hf 2 (by omega); have h3 := hf 3 (by omega)
  have h4 := hf 4 (by omega); have h5 := hf 5 (by omega); have h6 := hf 6 (by omega); have h7 := hf 7 (by omega)
  unfold Word le8
  omega
theorem word_row (b off cap : Nat) (f : Nat → Int) (w : World) (hc : ∀ j, j < 8 → w.cell? ⟨b, off + j, none⟩ = some (.int .u8 (f j))) (hf : ∀ j, j < 8 → 0 ≤ f j ∧ f j < 256) :
    Calls Tryd.prog 89 #[.slice (some ⟨b, off, none⟩) 8 cap] w fun e w' => e = .returned (.int .u64 (le8 f)) ∧ w' = w :=
  word_any b off cap (f 0) (f 1) (f 2) (f 3) (f 4) (f 5) (f 6) (f 7) w (hc 0 (by omega)) (hc 1 (by omega)) (hc 2 (by omega)) (hc 3 (by omega)) (hc 4 (by omega)) (hc 5 (by omega)) (hc 6 (by omega)) (hc 7 (by omega))
    (hf 0 (by omega)) (hf 1 (by omega)) (hf 2 (by omega)) (hf 3 (by omega)) (hf 4 (by omega)) (hf 5 (by omega)) (hf 6 (by omega)) (hf 7 (by omega))
/-- Sixteen bytes lie in a row. -/
def Row16 (u : World) (b off : Nat) (f : Nat → Int) : Prop := (∀ j, j < 16 → u.cell? ⟨b, off + j, none⟩ = some (.int .u8 (f j))) ∧ (∀ j, j < 16 → 0 ≤ f j ∧ f j < 256) ∧ b < u.heap.size
theorem Row16.below {u v : World} {b off : Nat} {f : Nat → Int} (h : Row16 u b off f) (hb : Below u.heap.size u v) : Row16 v b off f :=
  ⟨fun j hj => (hb.cell (p := ⟨b, off + j, none⟩) h.2.2).trans (h.1 j hj), h.2.1, Nat.lt_of_lt_of_le h.2.2 hb.size⟩
theorem Row16.drew {u : World} {b off : Nat} {f : Nat → Int} (h : Row16 u b off f) : Row16 u.drew b off f := h
theorem Row16.alloc {u : World} {b off : Nat} {f : Nat → Int} (h : Row16 u b off f) (o : Obj) : Row16 (u.alloc o) b off f := h.below ((Below.refl _ _).alloc (Nat.le_refl _) _)

theorem read_no (a : Option Addr) (len cap : Nat) (w : World) (h : len ≠ 16) :
    Calls Tryd.prog 82 #[.slice a len cap] w fun e w' => e = .returned (.tuple #[U 0 0, .int .i64 4]) ∧ Below w.heap.size w w' := by
  have h' : ((len : Int) != 16) = true := by simp; omega
  go_enter Tryd.func82, Tryd.ntmps82
  go_wp2
  exact bodyPost_ret (v := .tuple #[U 0 0, .int .i64 4]) (by simp [results, Tryd.results82, go_sem]) rfl ⟨rfl, (Below.refl _ _).alloc (Nat.le_refl _) _⟩

set_option maxHeartbeats 1000000 in
theorem read_ok (b off cap : Nat) (f : Nat → Int) (w : World) (hcap : 16 ≤ cap) (h : Row16 w b off f) :
    Calls Tryd.prog 82 #[.slice (some ⟨b, off, none⟩) 16 cap] w fun e w' => e = .returned (.tuple #[U (le8 fun j => f (8 + j)) (le8 f), .int .i64 0]) ∧ Below w.heap.size w w' := by
  have k1 : (8 : Int) ≤ cap := by omega
  have k2 : (16 : Int) ≤ cap := by omega
  have k3 : ¬ cap = 8 := by omega
  have k4 : ¬ cap = 0 := by omega
  have H : Hid (Row16 w b off f) := h
  clear h
  go_enter Tryd.func82, Tryd.ntmps82
  go_wp2_with fail
  go_region_held3 (fun w' => True) (trivial)
    (first
      | (go_at_call 89; (go_fit (word_row b (off + 8) (cap - 8) (fun j => f (8 + j)) _ (fun j hj => by rw [Nat.add_assoc]; exact (((H.out).alloc _).drew).1 (8 + j) (by omega)) (fun j hj => H.out.2.1 (8 + j) (by omega)))); rintro e w' ⟨rfl, hw⟩; rw [hw]; clear hw)
      | (go_at_call 89; go_must (go_fit (word_row b off cap f _ (fun j hj => (((H.out).alloc _).drew).1 j (by omega)) (fun j hj => H.out.2.1 j (by omega)))); rintro e w' ⟨rfl, hw⟩; rw [hw]; clear hw))
  go_wp2
  refine bodyPost_ret (v := .tuple #[U (le8 fun j => f (8 + j)) (le8 f), .int .i64 0]) (by simp [results, Tryd.results82, go_sem]) rfl ⟨rfl, ?_⟩
  repeat (first | exact Below.refl _ _ | refine Below.drew ?_ | refine Below.alloc ?_ (by simp <;> omega) _)
theorem le8_ps (f : Nat → Int) : le8 f = ps f 8 := by
  unfold le8 ps ps ps ps ps ps ps ps ps
  simp
theorem wide_byte (h l : Int) (j : Nat) : 0 ≤ wide h l j ∧ wide h l j < 256 := by
  unfold wide
  split
  · exact byt_byte _ _
  · exact byt_byte _ _
theorem bytes_cl (h l : Int) (w : World) (h1 : Word h) (h2 : Word l) :
    Calls Tryd.prog 86 #[U h l] w fun e w' => e = .returned (.agg (cl .u8 16 (wide h l)).toArray) ∧ Below w.heap.size w w' := by
  refine (bytes_any h l w h1 h2).mono ?_
  rintro e w' ⟨rfl, hb⟩
  exact ⟨by rw [cells16_eq h l h1 h2]; rfl, hb⟩
end Go.Proofs.YtijpoipcadhchaaDoor
