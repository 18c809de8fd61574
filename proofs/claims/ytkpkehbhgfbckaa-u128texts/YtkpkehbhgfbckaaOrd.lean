/-
  Plain facts, not a claim by itself: keys are sorted, as bytes, as the numbers are. By the verifier.
-/
import Derived.Test.YtkpkehbhgfbckaaKey
import Derived.Laws.BytesArg
namespace Go.Proofs.Ytkpkehbhgfbckaa
open Go.RowKit

/-- The number of bytes, the highest first. -/
def be : List Int → Int
  | [] => 0
  | x :: xs => x * 256 ^ xs.length + be xs
/-- All are bytes. -/
def Byt (l : List Int) : Prop := ∀ x ∈ l, 0 ≤ x ∧ x < 256
theorem be_bound : ∀ l : List Int, Byt l → 0 ≤ be l ∧ be l < 256 ^ l.length := by
  intro l
  induction l with
  | nil => intro _; exact ⟨Int.le_refl 0, by simp [be]⟩
  | cons x xs ih =>
    intro h
    obtain ⟨h0, h1⟩ := h x (List.mem_cons_self ..)
    obtain ⟨i0, i1⟩ := ih (fun y hy => h y (List.mem_cons_of_mem _ hy))
    have hp : (0 : Int) < 256 ^ xs.length := Int.pow_pos (by decide)
    have e : (256 : Int) ^ (x :: xs).length = 256 ^ xs.length * 256 := by rw [List.length_cons, Int.pow_succ]
    rw [e]
    unfold be
    generalize (256 : Int) ^ xs.length = p at *
    have m0 : 0 ≤ x * p := Int.mul_nonneg h0 (Int.le_of_lt hp)
    have m1 : x * p ≤ 255 * p := Int.mul_le_mul_of_nonneg_right (by omega) (Int.le_of_lt hp)
    exact ⟨by omega, by omega⟩
/-- A byte. -/
def u8 (n : Int) : UInt8 := UInt8.ofNat n.toNat
theorem u8_lt (x y : Int) (hx : 0 ≤ x ∧ x < 256) (hy : 0 ≤ y ∧ y < 256) : (u8 x < u8 y) ↔ x < y := by
  unfold u8
  rw [UInt8.lt_iff_toNat_lt, UInt8.toNat_ofNat', UInt8.toNat_ofNat']
  have a : x.toNat % 2 ^ 8 = x.toNat := Nat.mod_eq_of_lt (by omega)
  have b : y.toNat % 2 ^ 8 = y.toNat := Nat.mod_eq_of_lt (by omega)
  rw [a, b]
  omega
theorem u8_eq (x y : Int) (hx : 0 ≤ x ∧ x < 256) (hy : 0 ≤ y ∧ y < 256) : (u8 x = u8 y) ↔ x = y := by
  constructor
  · intro h
    have h' := congrArg UInt8.toNat h
    unfold u8 at h'
    rw [UInt8.toNat_ofNat', UInt8.toNat_ofNat'] at h'
    have a : x.toNat % 2 ^ 8 = x.toNat := Nat.mod_eq_of_lt (by omega)
    have b : y.toNat % 2 ^ 8 = y.toNat := Nat.mod_eq_of_lt (by omega)
    rw [a, b] at h'
    omega
  · intro h; rw [h]
theorem be_step (x y p a b : Int) (ha : 0 ≤ a ∧ a < p) (hb : 0 ≤ b ∧ b < p) : (x * p + a < y * p + b) ↔ (x < y ∨ x = y ∧ a < b) := by
  constructor
  · intro h
    by_cases h1 : x < y
    · exact .inl h1
    · by_cases h2 : x = y
      · subst h2; exact .inr ⟨rfl, by omega⟩
      · exfalso
        have : (y + 1) * p ≤ x * p := Int.mul_le_mul_of_nonneg_right (by omega) (by omega)
        rw [Int.add_mul] at this
        omega
  · rintro (h | ⟨rfl, h⟩)
    · have : (x + 1) * p ≤ y * p := Int.mul_le_mul_of_nonneg_right (by omega) (by omega)
      rw [Int.add_mul] at this
      omega
    · omega
theorem less_be : ∀ l m : List Int, l.length = m.length → Byt l → Byt m → Op.bytesLess (l.map u8) (m.map u8) = decide (be l < be m) := by
  intro l
  induction l with
  | nil => intro m h _ _; match m, h with | [], _ => rfl
  | cons x xs ih =>
    intro m h hl hm
    match m, h with
    | y :: ys, h =>
      have hlen : xs.length = ys.length := by simpa using h
      have hx := hl x (List.mem_cons_self ..)
      have hy := hm y (List.mem_cons_self ..)
      have tx : Byt xs := fun z hz => hl z (List.mem_cons_of_mem _ hz)
      have ty : Byt ys := fun z hz => hm z (List.mem_cons_of_mem _ hz)
      have bx := be_bound xs tx
      have bY := be_bound ys ty
      have e := be_step x y (256 ^ ys.length) (be xs) (be ys) (by rw [← hlen]; exact bx) bY
      show (decide (u8 x < u8 y) || (u8 x == u8 y && Op.bytesLess (xs.map u8) (ys.map u8))) = decide (x * 256 ^ xs.length + be xs < y * 256 ^ ys.length + be ys)
      rw [ih ys hlen tx ty, hlen]
      rw [Bool.eq_iff_iff]
      simp only [Bool.or_eq_true, Bool.and_eq_true, decide_eq_true_eq, beq_iff_eq, u8_lt x y hx hy, u8_eq x y hx hy]
      exact e.symm
theorem be_inj : ∀ l m : List Int, l.length = m.length → Byt l → Byt m → be l = be m → l = m := by
  intro l
  induction l with
  | nil => intro m h _ _ _; match m, h with | [], _ => rfl
  | cons x xs ih =>
    intro m h hl hm he
    match m, h with
    | y :: ys, h =>
      have hlen : xs.length = ys.length := by simpa using h
      have tx : Byt xs := fun z hz => hl z (List.mem_cons_of_mem _ hz)
      have ty : Byt ys := fun z hz => hm z (List.mem_cons_of_mem _ hz)
      have bx := be_bound xs tx
      have bY := be_bound ys ty
      have e1 := be_step x y (256 ^ ys.length) (be xs) (be ys) (by rw [← hlen]; exact bx) bY
      have e2 := be_step y x (256 ^ ys.length) (be ys) (be xs) bY (by rw [← hlen]; exact bx)
      unfold be at he
      rw [hlen] at he
      have n1 : ¬ (x < y ∨ x = y ∧ be xs < be ys) := fun k => by have := e1.2 k; omega
      have n2 : ¬ (y < x ∨ y = x ∧ be ys < be xs) := fun k => by have := e2.2 k; omega
      have exy : x = y := by omega
      have eb : be xs = be ys := by omega
      rw [exy, ih ys hlen tx ty eb]

/-- A number's bytes, the highest first. -/
def keyL (h l : Int) : List Int := [h / 72057594037927936, h / 281474976710656 % 256, h / 1099511627776 % 256, h / 4294967296 % 256, h / 16777216 % 256, h / 65536 % 256, h / 256 % 256, h % 256, l / 72057594037927936, l / 281474976710656 % 256, l / 1099511627776 % 256, l / 4294967296 % 256, l / 16777216 % 256, l / 65536 % 256, l / 256 % 256, l % 256]
theorem key_getD (h l : Int) : ∀ j, j < 16 → (bytesL h l).getD (15 - j) 0 = (keyL h l).getD j 0
  | 0, _ => rfl
  | 1, _ => rfl
  | 2, _ => rfl
  | 3, _ => rfl
  | 4, _ => rfl
  | 5, _ => rfl
  | 6, _ => rfl
  | 7, _ => rfl
  | 8, _ => rfl
  | 9, _ => rfl
  | 10, _ => rfl
  | 11, _ => rfl
  | 12, _ => rfl
  | 13, _ => rfl
  | 14, _ => rfl
  | 15, _ => rfl
  | j + 16, h => by omega
theorem key_len (h l : Int) : (keyL h l).length = 16 := rfl
theorem word_sum (x : Int) : x % 256 + (x / 256 % 256) * 256 + (x / 65536 % 256) * 65536 + (x / 16777216 % 256) * 16777216 + (x / 4294967296 % 256) * 4294967296 + (x / 1099511627776 % 256) * 1099511627776 + (x / 281474976710656 % 256) * 281474976710656 + x / 72057594037927936 * 72057594037927936 = x := by omega
theorem key_byt (h l : Int) (h1 : Word h) (h2 : Word l) : Byt (keyL h l) := by
  obtain ⟨a1, a2⟩ := h1; obtain ⟨b1, b2⟩ := h2
  unfold keyL
  intro x hx
  simp only [List.mem_cons, List.not_mem_nil, or_false] at hx
  rcases hx with rfl | rfl | rfl | rfl | rfl | rfl | rfl | rfl | rfl | rfl | rfl | rfl | rfl | rfl | rfl | rfl <;> omega
theorem key_be (h l : Int) : be (keyL h l) = V h l := by
  have e1 := word_sum h
  have e2 := word_sum l
  simp only [keyL, be, List.length_cons, List.length_nil]
  unfold V
  omega
/-- A key as text. -/
def KS (h l : Int) : ByteArray := strOfNums (keyL h l)
theorem KS_toList (h l : Int) : (KS h l).toList = (keyL h l).map u8 := by
  unfold KS; rw [ByteArray.toList_eq, strOfNums_data]; rfl
theorem KS_less (ah al bh bl : Int) (h1 : Word ah) (h2 : Word al) (h3 : Word bh) (h4 : Word bl) : Op.bytesLess (KS ah al).toList (KS bh bl).toList = decide (V ah al < V bh bl) := by
  rw [KS_toList, KS_toList, less_be (keyL ah al) (keyL bh bl) rfl (key_byt ah al h1 h2) (key_byt bh bl h3 h4), key_be, key_be]
theorem map_u8_inj : ∀ l m : List Int, Byt l → Byt m → l.map u8 = m.map u8 → l = m := by
  intro l
  induction l with
  | nil => intro m _ _ h; match m, h with | [], _ => rfl
  | cons x xs ih =>
    intro m hl hm h
    match m, h with
    | y :: ys, h =>
      simp only [List.map_cons, List.cons.injEq] at h
      rw [(u8_eq x y (hl x (List.mem_cons_self ..)) (hm y (List.mem_cons_self ..))).1 h.1, ih ys (fun z hz => hl z (List.mem_cons_of_mem _ hz)) (fun z hz => hm z (List.mem_cons_of_mem _ hz)) h.2]
theorem KS_eq (ah al bh bl : Int) (h1 : Word ah) (h2 : Word al) (h3 : Word bh) (h4 : Word bl) : ((KS ah al).toList == (KS bh bl).toList) = decide (V ah al = V bh bl) := by
  rw [KS_toList, KS_toList, Bool.eq_iff_iff]
  simp only [beq_iff_eq, decide_eq_true_eq]
  constructor
  · intro h
    have := map_u8_inj _ _ (key_byt ah al h1 h2) (key_byt bh bl h3 h4) h
    rw [← key_be, ← key_be bh bl, this]
  · intro h
    have e : keyL ah al = keyL bh bl := be_inj (keyL ah al) (keyL bh bl) rfl (key_byt ah al h1 h2) (key_byt bh bl h3 h4) (by rw [key_be, key_be, h])
    rw [e]
/-- string(Key(a)), wherever the key lies. -/
theorem conv_key (u : World) (b : Nat) (h l : Int) (hc : ∀ j, j < 16 → u.cell? ⟨b, j, none⟩ = some (.int .u8 ((bytesL h l).getD (15 - j) 0))) :
    (convert 34 9 (.slice (some ⟨b, 0, none⟩) 16 16)).run Try.prog u = .ok (.string (KS h l)) u :=
  run_convert_bytes_arg (P := Try.prog) u 34 5 Try.underlying34 Try.underlying5 b 0 16 16 (keyL h l) rfl (fun i hi => by
    rw [Nat.zero_add, hc i hi, key_getD h l i hi]) 9 Try.underlying9
end Go.Proofs.Ytkpkehbhgfbckaa
