/-
  Walks, not a claim by itself: closures that write headers and prepares. By the verifier.
-/
import Derived.Test.YtijpoipcadhchaaDoorJDo
import Derived.Test.YtijpoipcadhchaaDoorOUnw
namespace Go.Proofs.YtijpoipcadhchaaDoor
open Go.RowKit
/-- What a closure has boxed. -/
structure HBox (W : World) (x y z : Nat) (p : Option Addr) (n : Int) (v : Value) : Prop where
  cx : W.cell? ⟨x, 0, none⟩ = some (.pointer p)
  cy : W.cell? ⟨y, 0, none⟩ = some (.int .i64 n)
  cz : W.cell? ⟨z, 0, none⟩ = some v
  lx : x < W.heap.size
  ly : y < W.heap.size
  lz : z < W.heap.size
theorem HBox.off {W W' : World} {x y z : Nat} {p : Option Addr} {n : Int} {v : Value} {bs : List Nat} (h : HBox W x y z p n v) (hO : Off bs W W') (hx : x ∉ bs) (hy : y ∉ bs) (hz : z ∉ bs) : HBox W' x y z p n v :=
  ⟨(hO.cell (p := ⟨x, 0, none⟩) h.lx hx).trans h.cx, (hO.cell (p := ⟨y, 0, none⟩) h.ly hy).trans h.cy, (hO.cell (p := ⟨z, 0, none⟩) h.lz hz).trans h.cz, Nat.lt_of_lt_of_le h.lx hO.size, Nat.lt_of_lt_of_le h.ly hO.size, Nat.lt_of_lt_of_le h.lz hO.size⟩
theorem HBox.below {W W' : World} {x y z : Nat} {p : Option Addr} {n : Int} {v : Value} (h : HBox W x y z p n v) (hB : Below W.heap.size W W') : HBox W' x y z p n v := h.off (Off.of (bs := []) hB) (by simp) (by simp) (by simp)
theorem box3 (W : World) (p : Option Addr) (n : Int) (a : Option Addr) (k C : Nat) (t0 t1 t2 : TypeId) : HBox (((W.alloc (.cells #[.pointer p] t0)).alloc (.cells #[.int .i64 n] t1)).alloc (.cells #[.slice a k C] t2)) W.heap.size (W.heap.size + 1) (W.heap.size + 2) p n (.slice a k C) := by
  refine ⟨?_, ?_, ?_, by simp; omega, by simp, by simp⟩ <;> simp [go_sem]
/-- A closure that was made. -/
def MadeC (W : World) (v : Value) (p : Option Addr) (n : Int) (s : Value) (e : Ending) (w' : World) : Prop := e = .returned v ∧ HBox w' W.heap.size (W.heap.size + 1) (W.heap.size + 2) p n s ∧ Below W.heap.size W w'
theorem whead_any (W : World) (p : Option Addr) (n : Int) (a : Option Addr) (k C : Nat) : Calls Tryd.prog 32 #[.pointer p, .int .i64 n, .slice a k C] W (MadeC W (DeedV.head W.heap.size (W.heap.size + 1) (W.heap.size + 2)).val p n (.slice a k C)) := by
  go_enter Tryd.func32, Tryd.ntmps32
  go_wp2_with fail
  go_ret
  exact ⟨rfl, box3 W p n a k C _ _ _, (((Below.refl _ _).alloc (Nat.le_refl _) _).alloc (by simp) _).alloc (by simp; omega) _⟩
theorem wprep_any (W : World) (p : Option Addr) (n : Int) (a : Option Addr) (k C : Nat) : Calls Tryd.prog 30 #[.pointer p, .int .i64 n, .slice a k C] W (MadeC W (DeedV.prep W.heap.size (W.heap.size + 1) (W.heap.size + 2)).val p n (.slice a k C)) := by
  go_enter Tryd.func30, Tryd.ntmps30
  go_wp2_with fail
  go_ret
  exact ⟨rfl, box3 W p n a k C _ _ _, (((Below.refl _ _).alloc (Nat.le_refl _) _).alloc (by simp) _).alloc (by simp; omega) _⟩
/-- A closure is done: it writes. -/
theorem head1_any (W : World) (x y z : Nat) (p : Option Addr) (n i c : Int) (a : Option Addr) (k C : Nat) (Q : World → Prop) (h : HBox W x y z p n (.slice a k C)) (h0 : 0 ≤ n) (h1 : n ≤ 1000) (hi : i = 8 + n) (hW : Calls Tryd.prog 50 #[.pointer p, .int .i64 i, .slice a k C] W fun e w' => e = .returned (.int .i64 c) ∧ Q w') :
    Calls Tryd.prog 55 #[ptr0 x, ptr0 y, ptr0 z] W fun e w' => e = .returned (.int .i64 c) ∧ Q w' := by
  subst hi
  have c0 := h.cx
  have c1 := h.cy
  have c2 := h.cz
  have HW : Hid (Calls Tryd.prog 50 #[.pointer p, .int .i64 (8 + n), .slice a k C] W fun e w' => e = .returned (.int .i64 c) ∧ Q w') := hW
  have i1 : IntKind.i64.wrap (8 + n) = 8 + n := by rw [IntKind.wrap_i64]; omega
  have i2 : wrap64 (8 + n) = 8 + n := by unfold wrap64; omega
  clear hW h
  unfold ptr0
  go_enter Tryd.func55, Tryd.ntmps55
  go_wp2_with (go_at_call 50; refine HW.out.mono ?_; rintro e w1 ⟨rfl, h1⟩; have H1 : Hid (Q w1) := h1; clear h1)
  go_ret
  exact ⟨rfl, H1.out⟩
theorem prep1_any (W : World) (x y z : Nat) (p : Option Addr) (n i c : Int) (a : Option Addr) (k C : Nat) (Q : World → Prop) (h : HBox W x y z p n (.slice a k C)) (h0 : 0 ≤ n) (h1 : n ≤ 1000) (hi : i = 24 + n * 5) (hW : Calls Tryd.prog 50 #[.pointer p, .int .i64 i, .slice a k C] W fun e w' => e = .returned (.int .i64 c) ∧ Q w') :
    Calls Tryd.prog 49 #[ptr0 x, ptr0 y, ptr0 z] W fun e w' => e = .returned (.int .i64 c) ∧ Q w' := by
  subst hi
  have c0 := h.cx
  have c1 := h.cy
  have c2 := h.cz
  have HW : Hid (Calls Tryd.prog 50 #[.pointer p, .int .i64 (24 + n * 5), .slice a k C] W fun e w' => e = .returned (.int .i64 c) ∧ Q w') := hW
  have i1 : IntKind.i64.wrap (n * 5) = n * 5 := by rw [IntKind.wrap_i64]; omega
  have i2 : wrap64 (n * 5) = n * 5 := by unfold wrap64; omega
  have i3 : IntKind.i64.wrap (24 + n * 5) = 24 + n * 5 := by rw [IntKind.wrap_i64]; omega
  have i4 : wrap64 (24 + n * 5) = 24 + n * 5 := by unfold wrap64; omega
  clear hW h
  unfold ptr0
  go_enter Tryd.func49, Tryd.ntmps49
  go_wp2_with (go_at_call 50; refine HW.out.mono ?_; rintro e w1 ⟨rfl, h1⟩; have H1 : Hid (Q w1) := h1; clear h1)
  go_ret
  exact ⟨rfl, H1.out⟩
/-- What says that a slot is unwritten. -/
theorem junw_any (n : Nat) (hn : n < 16) (W : World) (hT : Tab W) : Calls Tryd.prog 36 #[.int .i64 (n : Int)] W fun e w' => ∃ g, e = .returned (.slice (some ⟨g, 0, none⟩) 256 256) ∧ W.heap.size ≤ g ∧ IRow w' g .u8 256 (unwF n) ∧ Below W.heap.size W w' := by
  have UN : Hid (Calls Tryd.prog 58 #[.int .i64 (n : Int)] W fun e w' => ∃ g, e = .returned (.tuple #[.slice (some ⟨g, 0, none⟩) 256 256, .int .i64 0]) ∧ W.heap.size ≤ g ∧ IRow w' g .u8 256 (unwF n) ∧ Below W.heap.size W w') := unwritten_ok n W hT (isSl_iff.2 ⟨by omega, by omega⟩)
  clear hT
  go_enter Tryd.func36, Tryd.ntmps36
  go_wp2_with (go_at_call 58; refine UN.out.mono ?_; rintro e w1 ⟨g, rfl, h1, h2, h3⟩; have H1 : Hid (W.heap.size ≤ g ∧ IRow w1 g .u8 256 (unwF n) ∧ Below W.heap.size W w1) := ⟨h1, h2, h3⟩; clear h1 h2 h3)
  go_ret
  exact ⟨g, rfl, H1.out.1, H1.out.2.1, H1.out.2.2⟩
end Go.Proofs.YtijpoipcadhchaaDoor
