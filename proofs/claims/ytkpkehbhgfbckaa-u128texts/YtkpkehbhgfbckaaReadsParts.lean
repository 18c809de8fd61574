/-
  Walks, not a claim by itself: U128Reads comes out true. By the verifier.
-/
import Derived.Test.YtkpkehbhgfbckaaKnown
import Derived.Test.YtkpkehbhgfbckaaReadKey
import Derived.Test.YtkpkehbhgfbckaaTxtVal
import Derived.Test.YtkpkehbhgfbckaaOrd
import Derived.Deep.MidRow
namespace Go.Proofs.Ytkpkehbhgfbckaa
open Go.RowKit

theorem word_sum' (x : Int) : x % 256 + x / 256 % 256 * 256 + x / 65536 % 256 * 65536 + x / 16777216 % 256 * 16777216 + x / 4294967296 % 256 * 4294967296 + x / 1099511627776 % 256 * 1099511627776 + x / 281474976710656 % 256 * 281474976710656 + x / 72057594037927936 * 72057594037927936 = x := by omega
theorem le_lo (h l : Int) : le8 (fun j => (bytesL h l).getD j 0) = l := word_sum' l
theorem le_hi (h l : Int) : le8 (fun j => (bytesL h l).getD (8 + j) 0) = h := word_sum' h
theorem ke_lo (h l : Int) : le8 (fun j => (bytesL h l).getD (15 - (15 - j)) 0) = l := word_sum' l
theorem ke_hi (h l : Int) : le8 (fun j => (bytesL h l).getD (15 - (7 - j)) 0) = h := word_sum' h
theorem bytes_byt (h l : Int) (h1 : Word h) (h2 : Word l) : ∀ j, j < 16 → 0 ≤ (bytesL h l).getD j 0 ∧ (bytesL h l).getD j 0 < 256 := by
  obtain ⟨a1, a2⟩ := h1; obtain ⟨b1, b2⟩ := h2
  intro j hj
  match j, hj with
  | 0, _ => show 0 ≤ l % 256 ∧ l % 256 < 256; omega
  | 1, _ => show 0 ≤ l / 256 % 256 ∧ l / 256 % 256 < 256; omega
  | 2, _ => show 0 ≤ l / 65536 % 256 ∧ l / 65536 % 256 < 256; omega
  | 3, _ => show 0 ≤ l / 16777216 % 256 ∧ l / 16777216 % 256 < 256; omega
  | 4, _ => show 0 ≤ l / 4294967296 % 256 ∧ l / 4294967296 % 256 < 256; omega
  | 5, _ => show 0 ≤ l / 1099511627776 % 256 ∧ l / 1099511627776 % 256 < 256; omega
  | 6, _ => show 0 ≤ l / 281474976710656 % 256 ∧ l / 281474976710656 % 256 < 256; omega
  | 7, _ => show 0 ≤ l / 72057594037927936 ∧ l / 72057594037927936 < 256; omega
  | 8, _ => show 0 ≤ h % 256 ∧ h % 256 < 256; omega
  | 9, _ => show 0 ≤ h / 256 % 256 ∧ h / 256 % 256 < 256; omega
  | 10, _ => show 0 ≤ h / 65536 % 256 ∧ h / 65536 % 256 < 256; omega
  | 11, _ => show 0 ≤ h / 16777216 % 256 ∧ h / 16777216 % 256 < 256; omega
  | 12, _ => show 0 ≤ h / 4294967296 % 256 ∧ h / 4294967296 % 256 < 256; omega
  | 13, _ => show 0 ≤ h / 1099511627776 % 256 ∧ h / 1099511627776 % 256 < 256; omega
  | 14, _ => show 0 ≤ h / 281474976710656 % 256 ∧ h / 281474976710656 % 256 < 256; omega
  | 15, _ => show 0 ≤ h / 72057594037927936 ∧ h / 72057594037927936 < 256; omega
  | j + 16, hj => omega
/-- Bytes that were read are written as they were. -/
theorem bytes_back (f : Nat → Int) (hf : ∀ j, j < 16 → 0 ≤ f j ∧ f j < 256) : ∀ j, j < 16 → (bytesL (le8 fun j => f (8 + j)) (le8 f)).getD j 0 = f j := by
  have h0 := hf 0 (by omega); have h1 := hf 1 (by omega); have h2 := hf 2 (by omega); have h3 := hf 3 (by omega)
  have h4 := hf 4 (by omega); have h5 := hf 5 (by omega); have h6 := hf 6 (by omega); have h7 := hf 7 (by omega)
  have h8 := hf 8 (by omega); have h9 := hf 9 (by omega); have h10 := hf 10 (by omega); have h11 := hf 11 (by omega)
  have h12 := hf 12 (by omega); have h13 := hf 13 (by omega); have h14 := hf 14 (by omega); have h15 := hf 15 (by omega)
  have el : le8 f = f 0 + f 1 * 256 + f 2 * 65536 + f 3 * 16777216 + f 4 * 4294967296 + f 5 * 1099511627776 + f 6 * 281474976710656 + f 7 * 72057594037927936 := rfl
  have eh : le8 (fun j => f (8 + j)) = f 8 + f 9 * 256 + f 10 * 65536 + f 11 * 16777216 + f 12 * 4294967296 + f 13 * 1099511627776 + f 14 * 281474976710656 + f 15 * 72057594037927936 := rfl
  generalize le8 f = l at *
  generalize le8 (fun j => f (8 + j)) = h at *
  intro j hj
  match j, hj with
  | 0, _ => show l % 256 = f 0; omega
  | 1, _ => show l / 256 % 256 = f 1; omega
  | 2, _ => show l / 65536 % 256 = f 2; omega
  | 3, _ => show l / 16777216 % 256 = f 3; omega
  | 4, _ => show l / 4294967296 % 256 = f 4; omega
  | 5, _ => show l / 1099511627776 % 256 = f 5; omega
  | 6, _ => show l / 281474976710656 % 256 = f 6; omega
  | 7, _ => show l / 72057594037927936 = f 7; omega
  | 8, _ => show h % 256 = f 8; omega
  | 9, _ => show h / 256 % 256 = f 9; omega
  | 10, _ => show h / 65536 % 256 = f 10; omega
  | 11, _ => show h / 16777216 % 256 = f 11; omega
  | 12, _ => show h / 4294967296 % 256 = f 12; omega
  | 13, _ => show h / 1099511627776 % 256 = f 13; omega
  | 14, _ => show h / 281474976710656 % 256 = f 14; omega
  | 15, _ => show h / 72057594037927936 = f 15; omega
  | j + 16, hj => omega
theorem key_back (f : Nat → Int) (hf : ∀ j, j < 16 → 0 ≤ f j ∧ f j < 256) (j : Nat) (hj : j < 16) : (bytesL (le8 fun j => f (7 - j)) (le8 fun j => f (15 - j))).getD (15 - j) 0 = f j := by
  have := bytes_back (fun j => f (15 - j)) (fun j hj => hf (15 - j) (by omega)) (15 - j) (by omega)
  have e : le8 (fun j => f (7 - j)) = le8 (fun j => f (15 - (8 + j))) := rfl
  rw [e, this]
  rw [show 15 - (15 - j) = j from by omega]

/-- A number lies in a block that may be written. -/
def AtW (u : World) (b : Nat) (h l : Int) : Prop := u.cell? ⟨b, 0, none⟩ = some (.int .u64 h) ∧ u.cell? ⟨b, 1, none⟩ = some (.int .u64 l) ∧ u.frozen? ⟨b, 0, none⟩ = false ∧ u.frozen? ⟨b, 1, none⟩ = false ∧ b < u.heap.size
theorem AtW.below {u v : World} {b : Nat} {h l : Int} (k : AtW u b h l) (hb : Below u.heap.size u v) : AtW v b h l := by
  obtain ⟨c0, c1, f0, f1, z⟩ := k
  exact ⟨(hb.cell z).trans c0, (hb.cell z).trans c1, (hb.frozen z).trans f0, (hb.frozen z).trans f1, Nat.lt_of_lt_of_le z hb.size⟩
theorem AtW.alloc {u : World} {b : Nat} {h l : Int} (k : AtW u b h l) (o : Obj) : AtW (u.alloc o) b h l := k.below ((Below.refl _ _).alloc (Nat.le_refl _) _)
theorem AtW.new (u : World) (h l : Int) (t : TypeId) : AtW (u.alloc (.cells #[.int .u64 h, .int .u64 l] t)) u.heap.size h l := ⟨by simp [go_sem], by simp [go_sem], by simp [go_sem], by simp [go_sem], by simp⟩
theorem AtW.set {u : World} {b : Nat} {h l : Int} (k : AtW u b h l) (p q : Int) : AtW ((u.setCell ⟨b, 0, none⟩ (.int .u64 p)).setCell ⟨b, 1, none⟩ (.int .u64 q)) b p q := by
  obtain ⟨c0, c1, f0, f1, z⟩ := k
  refine ⟨?_, ?_, by simp [f0], by simp [f1], by simp [World.setCell]; omega⟩
  · rw [World.cell?_setCell_other _ _ _ _ (by simp), World.cell?_setCell_same _ _ _ c0]
  · rw [World.cell?_setCell_same _ _ _ (u := .int .u64 l)]
    rw [World.cell?_setCell_other _ _ _ _ (by simp), c1]
theorem AtW.other {u : World} {b : Nat} {h l : Int} (k : AtW u b h l) (b' o : Nat) (v : Value) (hne : b' ≠ b) : AtW (u.setCell ⟨b', o, none⟩ v) b h l := by
  obtain ⟨c0, c1, f0, f1, z⟩ := k
  refine ⟨?_, ?_, by simp [f0], by simp [f1], by simp [World.setCell]; omega⟩
  · rw [World.cell?_setCell_other _ _ _ _ (by intro e; injection e; omega), c0]
  · rw [World.cell?_setCell_other _ _ _ _ (by intro e; injection e; omega), c1]
theorem size_setCells (b : Nat) : ∀ (vs : List Value) (o : Nat) (u : World), (u.setCells b o vs).heap.size = u.heap.size
  | [], _, _ => rfl
  | v :: r, o, u => by rw [World.setCells, size_setCells b r]; simp [World.setCell]
theorem AtW.cells {u : World} {b : Nat} {h l : Int} (k : AtW u b h l) (b' o : Nat) (vs : List Value) (hne : b' ≠ b) : AtW (u.setCells b' o vs) b h l := by
  obtain ⟨c0, c1, f0, f1, z⟩ := k
  refine ⟨?_, ?_, by rw [World.frozen?_setCells, f0], by rw [World.frozen?_setCells, f1], by rw [size_setCells]; exact z⟩
  · rw [World.cell?_setCells_out b' vs o u _ (fun e => absurd e.symm hne), c0]
  · rw [World.cell?_setCells_out b' vs o u _ (fun e => absurd e.symm hne), c1]
theorem Below.cells {B : Nat} {a u : World} (h : Below B a u) (b : Nat) (hb : B ≤ b) : ∀ (vs : List Value) (o : Nat), Below B a (u.setCells b o vs)
  | vs, o => by
    induction vs generalizing u o with
    | nil => exact h
    | cons v r ih => exact ih (h.setCell (p := ⟨b, o, none⟩) hb v) (o + 1)
/-- Sixteen cells that may be written. -/
def Row (u : World) (b : Nat) : Prop := u.there b 0 16 ∧ b < u.heap.size
theorem Row.below {u v : World} {b : Nat} (k : Row u b) (hb : Below u.heap.size u v) : Row v b :=
  ⟨fun j hj => ⟨by rw [hb.cell (p := ⟨b, 0 + j, none⟩) k.2]; exact (k.1 j hj).1, by rw [hb.frozen (p := ⟨b, 0 + j, none⟩) k.2]; exact (k.1 j hj).2⟩, Nat.lt_of_lt_of_le k.2 hb.size⟩
theorem Row.alloc {u : World} {b : Nat} (k : Row u b) (o : Obj) : Row (u.alloc o) b := k.below ((Below.refl _ _).alloc (Nat.le_refl _) _)
theorem Row.set {u : World} {b : Nat} (k : Row u b) (b' o : Nat) (v : Value) (hne : b' ≠ b) : Row (u.setCell ⟨b', o, none⟩ v) b :=
  ⟨fun j hj => ⟨by rw [World.cell?_setCell_other _ _ _ _ (by intro e; injection e; omega)]; exact (k.1 j hj).1, by rw [World.frozen?_setCell]; exact (k.1 j hj).2⟩, by have := k.2; simp [World.setCell]; omega⟩
theorem row_new (u : World) (h l : Int) (h1 : Word h) (h2 : Word l) : Row16 (u.alloc (.cells #[.int .u8 (l % 256), .int .u8 (l / 256 % 256), .int .u8 (l / 65536 % 256), .int .u8 (l / 16777216 % 256), .int .u8 (l / 4294967296 % 256), .int .u8 (l / 1099511627776 % 256), .int .u8 (l / 281474976710656 % 256), .int .u8 (l / 72057594037927936), .int .u8 (h % 256), .int .u8 (h / 256 % 256), .int .u8 (h / 65536 % 256), .int .u8 (h / 16777216 % 256), .int .u8 (h / 4294967296 % 256), .int .u8 (h / 1099511627776 % 256), .int .u8 (h / 281474976710656 % 256), .int .u8 (h / 72057594037927936)] 42)) u.heap.size 0 (fun j => (bytesL h l).getD j 0) ∧ Row (u.alloc (.cells #[.int .u8 (l % 256), .int .u8 (l / 256 % 256), .int .u8 (l / 65536 % 256), .int .u8 (l / 16777216 % 256), .int .u8 (l / 4294967296 % 256), .int .u8 (l / 1099511627776 % 256), .int .u8 (l / 281474976710656 % 256), .int .u8 (l / 72057594037927936), .int .u8 (h % 256), .int .u8 (h / 256 % 256), .int .u8 (h / 65536 % 256), .int .u8 (h / 16777216 % 256), .int .u8 (h / 4294967296 % 256), .int .u8 (h / 1099511627776 % 256), .int .u8 (h / 281474976710656 % 256), .int .u8 (h / 72057594037927936)] 42)) u.heap.size := by
  have hc : ∀ j, j < 16 → (u.alloc (.cells #[.int .u8 (l % 256), .int .u8 (l / 256 % 256), .int .u8 (l / 65536 % 256), .int .u8 (l / 16777216 % 256), .int .u8 (l / 4294967296 % 256), .int .u8 (l / 1099511627776 % 256), .int .u8 (l / 281474976710656 % 256), .int .u8 (l / 72057594037927936), .int .u8 (h % 256), .int .u8 (h / 256 % 256), .int .u8 (h / 65536 % 256), .int .u8 (h / 16777216 % 256), .int .u8 (h / 4294967296 % 256), .int .u8 (h / 1099511627776 % 256), .int .u8 (h / 281474976710656 % 256), .int .u8 (h / 72057594037927936)] 42)).cell? ⟨u.heap.size, 0 + j, none⟩ = some (.int .u8 ((bytesL h l).getD j 0)) := by
    intro j hj
    rw [Nat.zero_add, World.cell?_alloc_at _ _ _ _ rfl]
    match j, hj with
    | 0, _ => rfl
    | 1, _ => rfl
    | 2, _ => rfl
    | 3, _ => rfl
    | 4, _ => rfl
    | 5, _ => rfl
    | 6, _ => rfl
    | 7, _ => rfl
    | 8, _ => rfl
    | 9, _ => rfl
    | 10, _ => rfl
    | 11, _ => rfl
    | 12, _ => rfl
    | 13, _ => rfl
    | 14, _ => rfl
    | 15, _ => rfl
    | j + 16, hj => omega
  refine ⟨⟨hc, bytes_byt h l h1 h2, by simp⟩, fun j hj => ⟨by rw [hc j hj]; rfl, by simp [go_sem]⟩, by simp⟩

theorem all16 (b0 b1 b2 b3 b4 b5 b6 b7 b8 b9 b10 b11 b12 b13 b14 b15 : Int) : (#[.int .u8 b0, .int .u8 b1, .int .u8 b2, .int .u8 b3, .int .u8 b4, .int .u8 b5, .int .u8 b6, .int .u8 b7, .int .u8 b8, .int .u8 b9, .int .u8 b10, .int .u8 b11, .int .u8 b12, .int .u8 b13, .int .u8 b14, .int .u8 b15] : Array Value).all (·.oneCell') = true := by simp [Value.oneCell']
/-- Sixteen bytes as a text. -/
def txt16 (f : Nat → Int) : ByteArray := strOfNums ((List.range 16).map f)
theorem conv_row (u : World) (b off cap : Nat) (f : Nat → Int) (h : ∀ j, j < 16 → u.cell? ⟨b, off + j, none⟩ = some (.int .u8 (f j))) :
    (convert 34 9 (.slice (some ⟨b, off, none⟩) 16 cap)).run Try.prog u = .ok (.string (txt16 f)) u :=
  run_convert_bytes_arg (P := Try.prog) u 34 5 Try.underlying34 Try.underlying5 b off 16 cap ((List.range 16).map f) (by simp) (fun i hi => by
    rw [h i hi, List.getD_eq_getElem?_getD, List.getElem?_map, List.getElem?_range hi]; rfl) 9 Try.underlying9
theorem txt16_congr (f g : Nat → Int) (h : ∀ j, j < 16 → f j = g j) : txt16 f = txt16 g := by
  unfold txt16
  rw [List.map_congr_left fun j hj => h j (List.mem_range.1 hj)]
theorem same_true (b b' off off' cap cap' : Nat) (f g : Nat → Int) (w : World) (hf : ∀ j, j < 16 → w.cell? ⟨b, off + j, none⟩ = some (.int .u8 (f j))) (hg : ∀ j, j < 16 → w.cell? ⟨b', off' + j, none⟩ = some (.int .u8 (g j))) (h : ∀ j, j < 16 → f j = g j) :
    Calls Try.prog 26 #[.slice (some ⟨b, off, none⟩) 16 cap, .slice (some ⟨b', off', none⟩) 16 cap'] w fun e w' => e = .returned (.bool true) ∧ w' = w := by
  have c1 := conv_row w b off cap f hf
  have c2 := conv_row w b' off' cap' g hg
  rw [← txt16_congr f g h] at c2
  clear hf hg h
  go_enter Try.func26, Try.ntmps26
  go_wp2
  go_ret
  exact ⟨rfl, rfl⟩
/-- The law of a store of a row, its world under a name. -/
theorem wpList_store_op {P : Program} {ops : Array Oper} {rest : List Oper} {op : Oper} {a : Act} {w : World} {Q : Exit → Act → World → Prop} (hgd : op.guard = none) (ty : TypeId) (x y : Operand) (ho : op.op = .store ty x y)
    (b o : Nat) (cells : Array Value) (hx : a.eval x = .pointer (some ⟨b, o, none⟩)) (hy : a.eval y = .agg cells)
    (ht : w.there b o cells.size) (hi : (P.info? ty).map (·.size) = some cells.size) (h1 : cells.all (·.oneCell') = true)
    (h : ∀ W, Hid (W = w.setCells b o cells.toList) → wpList P ops Q rest (a.put op.dst undef) W) : wpList P ops Q (op :: rest) a w :=
  wpList_store_mid hgd ty x y ho b o cells hx hy ht hi h1 (h _ rfl)
/-- A number's bytes as cells. -/
def cellsL (h l : Int) : List Value := (bytesL h l).map (Value.int .u8)
theorem set_row {u : World} {b : Nat} (k : Row u b) (h l : Int) (j : Nat) (hj : j < 16) : (u.setCells b 0 (cellsL h l)).cell? ⟨b, 0 + j, none⟩ = some (.int .u8 ((bytesL h l).getD j 0)) := by
  have hl : (cellsL h l).length = 16 := rfl
  rw [World.cell?_setCells_in b (cellsL h l) 0 u (fun i hi => (k.1 i (by omega)).1) j (by omega)]
  congr 1
  match j, hj with
  | 0, _ => rfl
  | 1, _ => rfl
  | 2, _ => rfl
  | 3, _ => rfl
  | 4, _ => rfl
  | 5, _ => rfl
  | 6, _ => rfl
  | 7, _ => rfl
  | 8, _ => rfl
  | 9, _ => rfl
  | 10, _ => rfl
  | 11, _ => rfl
  | 12, _ => rfl
  | 13, _ => rfl
  | 14, _ => rfl
  | 15, _ => rfl
  | j + 16, hj => omega
theorem store_facts {w u W : World} {L Y Z : Nat} {yh yl zh zl : Int} (h l : Int) (kL : Row u L) (kY : AtW u Y yh yl) (kZ : AtW u Z zh zl) (E : Below w.heap.size w u) (hL : w.heap.size ≤ L) (hY : L ≠ Y) (hZ : L ≠ Z) (hW : W = u.setCells L 0 (cellsL h l)) :
    (∀ j, j < 16 → W.cell? ⟨L, 0 + j, none⟩ = some (.int .u8 ((bytesL h l).getD j 0))) ∧ AtW W Y yh yl ∧ AtW W Z zh zl ∧ Below w.heap.size w W := by
  subst hW
  exact ⟨fun j hj => set_row kL h l j hj, kY.cells _ _ _ hY, kZ.cells _ _ _ hZ, Below.cells E L hL _ _⟩
end Go.Proofs.Ytkpkehbhgfbckaa
