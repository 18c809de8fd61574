/-
  Walks, not a claim by itself: rows of sixteen bytes, for the reference's walks. By the verifier.
-/
import Derived.Test.YtkpkehbhgfbckaaRBytes
import Derived.Test.YtkpkehbhgfbckaaPs
import Derived.Test.YtkpkehbhgfbckaaCmp
import Derived.Deep.DeepCutAuto
import Derived.Deep.QuietTactic
import Derived.BigQuiet
namespace Go.Proofs.Ytkpkehbhgfbckaa
open Go.RowKit

/-- A program under a letter, but for the departures that it follows: so that the region's walk opens a store of sixteen cells by itself. -/
def withF (p : Program) (F : List Departure) : Program := { p with follow := F }
theorem prog_withF : ∃ p, withF p Try.prog.follow = Try.prog := ⟨Try.prog, rfl⟩
/-- A row of sixteen bytes. -/
def RowF (u : World) (b : Nat) (f : Nat → Int) : Prop := (∀ j, j < 16 → u.cell? ⟨b, j, none⟩ = some (.int .u8 (f j))) ∧ b < u.heap.size
theorem RowF.below {u v : World} {b : Nat} {f : Nat → Int} (k : RowF u b f) (hb : Below u.heap.size u v) : RowF v b f :=
  ⟨fun j hj => (hb.cell (p := ⟨b, j, none⟩) k.2).trans (k.1 j hj), Nat.lt_of_lt_of_le k.2 hb.size⟩
theorem RowF.alloc {u : World} {b : Nat} {f : Nat → Int} (k : RowF u b f) (o : Obj) : RowF (u.alloc o) b f := k.below ((Below.refl _ _).alloc (Nat.le_refl _) _)
theorem RowF.drew {u : World} {b : Nat} {f : Nat → Int} (k : RowF u b f) : RowF u.drew b f := k
theorem RowF.new (u : World) (n : Nat) (h l : Int) (b0 b1 b2 b3 b4 b5 b6 b7 b8 b9 b10 b11 b12 b13 b14 b15 : Int) (T : TypeId) (hs : Hid ([b0, b1, b2, b3, b4, b5, b6, b7, b8, b9, b10, b11, b12, b13, b14, b15] = bytesL h l)) (hn : n = u.heap.size) : RowF (u.alloc (.cells #[.int .u8 b0, .int .u8 b1, .int .u8 b2, .int .u8 b3, .int .u8 b4, .int .u8 b5, .int .u8 b6, .int .u8 b7, .int .u8 b8, .int .u8 b9, .int .u8 b10, .int .u8 b11, .int .u8 b12, .int .u8 b13, .int .u8 b14, .int .u8 b15] T)) n (bf h l) := by
  subst hn
  refine ⟨fun j hj => ?_, by simp⟩
  rw [World.cell?_alloc_at _ _ _ _ rfl]
  unfold bf
  rw [← hs.out]
  match j, hj with
  | 0, _ => rfl
  | 1, _ => rfl
  | 2, _ => rfl
  | 3, _ => rfl
  | 4, _ => rfl
  | 5, _ => rfl
  | 6, _ => rfl
  | 7, _ => rfl
  | 8, _ => rfl
  | 9, _ => rfl
  | 10, _ => rfl
  | 11, _ => rfl
  | 12, _ => rfl
  | 13, _ => rfl
  | 14, _ => rfl
  | 15, _ => rfl
  | j + 16, hj => omega
/-- The reference's Bytes, its bytes under letters. -/
theorem rbytes_let (h l : Int) (w : World) (h1 : Word h) (h2 : Word l) :
    Calls Try.prog 30 #[U h l] w fun e w' => ∃ b0 b1 b2 b3 b4 b5 b6 b7 b8 b9 b10 b11 b12 b13 b14 b15 : Int, e = .returned (.agg #[.int .u8 b0, .int .u8 b1, .int .u8 b2, .int .u8 b3, .int .u8 b4, .int .u8 b5, .int .u8 b6, .int .u8 b7, .int .u8 b8, .int .u8 b9, .int .u8 b10, .int .u8 b11, .int .u8 b12, .int .u8 b13, .int .u8 b14, .int .u8 b15]) ∧ Hid ([b0, b1, b2, b3, b4, b5, b6, b7, b8, b9, b10, b11, b12, b13, b14, b15] = bytesL h l) ∧ ∃ c1 c2 c3 : Array Value, w' = ((w.alloc (.cells c1 24)).alloc (.cells c2 42)).alloc (.cells c3 42) := by
  refine (rbytes_one h l w h1 h2).mono ?_
  rintro e w' ⟨rfl, hw⟩
  exact ⟨_, _, _, _, _, _, _, _, _, _, _, _, _, _, _, _, rfl, rfl, hw⟩
theorem there_new (u : World) (n : Nat) (hn : n = u.heap.size) : (u.alloc (.cells #[.int .u8 0, .int .u8 0, .int .u8 0, .int .u8 0, .int .u8 0, .int .u8 0, .int .u8 0, .int .u8 0, .int .u8 0, .int .u8 0, .int .u8 0, .int .u8 0, .int .u8 0, .int .u8 0, .int .u8 0, .int .u8 0] 42)).there n 0 16 = True := by
  subst hn
  refine eq_true fun j hj => ?_
  rw [Nat.zero_add]
  refine ⟨?_, by simp [go_sem]⟩
  rw [World.cell?_alloc_at _ _ _ _ rfl]
  match j, hj with
  | 0, _ => rfl
  | 1, _ => rfl
  | 2, _ => rfl
  | 3, _ => rfl
  | 4, _ => rfl
  | 5, _ => rfl
  | 6, _ => rfl
  | 7, _ => rfl
  | 8, _ => rfl
  | 9, _ => rfl
  | 10, _ => rfl
  | 11, _ => rfl
  | 12, _ => rfl
  | 13, _ => rfl
  | 14, _ => rfl
  | 15, _ => rfl
  | j + 16, hj => omega
theorem there_alloc (u : World) (o : Obj) (b : Nat) (hb : b < u.heap.size) : (u.alloc o).there b 0 16 = u.there b 0 16 := by
  have k : Below u.heap.size u (u.alloc o) := (Below.refl _ _).alloc (Nat.le_refl _) _
  unfold World.there
  refine forall_congr fun j => ?_
  rw [k.cell (p := ⟨b, 0 + j, none⟩) hb, k.frozen (p := ⟨b, 0 + j, none⟩) hb]
theorem there_drew (u : World) (b : Nat) : u.drew.there b 0 16 = u.there b 0 16 := rfl
theorem there_cells (u : World) (b' : Nat) (vs : List Value) (b : Nat) (h : b' ≠ b) : (u.setCells b' 0 vs).there b 0 16 = u.there b 0 16 := by
  unfold World.there
  refine forall_congr fun j => ?_
  rw [World.frozen?_setCells, World.cell?_setCells_out b' vs 0 u _ (fun e => absurd e.symm h)]
theorem RowF.same (u : World) (b : Nat) (h l : Int) (b0 b1 b2 b3 b4 b5 b6 b7 b8 b9 b10 b11 b12 b13 b14 b15 : Int) (hs : Hid ([b0, b1, b2, b3, b4, b5, b6, b7, b8, b9, b10, b11, b12, b13, b14, b15] = bytesL h l)) (ht : u.there b 0 16) (hb : b < u.heap.size) : RowF (u.setCells b 0 [.int .u8 b0, .int .u8 b1, .int .u8 b2, .int .u8 b3, .int .u8 b4, .int .u8 b5, .int .u8 b6, .int .u8 b7, .int .u8 b8, .int .u8 b9, .int .u8 b10, .int .u8 b11, .int .u8 b12, .int .u8 b13, .int .u8 b14, .int .u8 b15]) b (bf h l) := by
  have e : ([.int .u8 b0, .int .u8 b1, .int .u8 b2, .int .u8 b3, .int .u8 b4, .int .u8 b5, .int .u8 b6, .int .u8 b7, .int .u8 b8, .int .u8 b9, .int .u8 b10, .int .u8 b11, .int .u8 b12, .int .u8 b13, .int .u8 b14, .int .u8 b15] : List Value) = cellsL h l := by
    unfold cellsL
    rw [← hs.out]
    rfl
  rw [e]
  refine ⟨fun j hj => ?_, by rw [size_setCells]; exact hb⟩
  have := set_row ⟨ht, hb⟩ h l j hj
  rw [Nat.zero_add] at this
  exact this
theorem RowF.cells {u : World} {b : Nat} {f : Nat → Int} (k : RowF u b f) (b' o : Nat) (vs : List Value) (hne : b' ≠ b) : RowF (u.setCells b' o vs) b f :=
  ⟨fun j hj => by rw [World.cell?_setCells_out b' vs o u _ (fun e => absurd e.symm hne), k.1 j hj], by rw [size_setCells]; exact k.2⟩
theorem cell_under (u : World) (b' : Nat) (vs : List Value) (b o : Nat) (h : b < b') : (u.setCells b' 0 vs).cell? ⟨b, o, none⟩ = u.cell? ⟨b, o, none⟩ :=
  World.cell?_setCells_out b' vs 0 u _ (fun e => by have : b = b' := e; omega)
end Go.Proofs.Ytkpkehbhgfbckaa
