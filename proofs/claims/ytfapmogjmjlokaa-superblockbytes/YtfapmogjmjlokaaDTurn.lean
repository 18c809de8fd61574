
/-
  Walks, not a claim by itself: Turn, Sectors. By the verifier.
-/
import Derived.Test.YtfapmogjmjlokaaDThree
namespace Go.Proofs.Ytfapmogjmjlokaa
open Go.RowKit Go.Maps
/-- A disk of which a byte is turned. -/
def Dsk.turn (D : Dsk) (x p : Nat) (v : Int) : Dsk := { D with sec := upd D.sec (x * 256 + p) (bits .xor .u8 (D.sec (x * 256 + p)) v) }
theorem xor_byte (a b : Int) (h1 : 0 ≤ a ∧ a < 256) (h2 : 0 ≤ b ∧ b < 256) : 0 ≤ bits .xor .u8 a b ∧ bits .xor .u8 a b < 256 := by
  rw [u8_xor a b h1.1 h1.2 h2.1 h2.2]
  have : a.toNat ^^^ b.toNat < 2 ^ 8 := Nat.xor_lt_two_pow (by omega) (by omega)
  omega
theorem DiskAt.turned {W : World} {d s m : Nat} {D : Dsk} (h : DiskAt W d s m D) (x p : Nat) (v : Int) (hx : x < D.N) (hp : p < 256) (hv : 0 ≤ v ∧ v < 256) : DiskAt (W.setCell ⟨s, x * 256 + p, none⟩ (.int .u8 (bits .xor .u8 (D.sec (x * 256 + p)) v))) d s m (D.turn x p v) := by
  have B : But s W (W.setCell ⟨s, x * 256 + p, none⟩ (.int .u8 (bits .xor .u8 (D.sec (x * 256 + p)) v))) := But.set _ _ _
  have O : Off [s] W (W.setCell ⟨s, x * 256 + p, none⟩ (.int .u8 (bits .xor .u8 (D.sec (x * 256 + p)) v))) := Off.but B (by simp)
  have e1 := h.ds
  have e2 := h.sm
  exact { h with recd := h.recd.off O (by simp; omega), row := h.row.set _ _, map := h.map.off O (by simp; omega), sb := fun j hj => (by
    show 0 ≤ upd D.sec _ _ j ∧ upd D.sec _ _ j < 256
    unfold upd
    split
    · exact xor_byte _ _ (h.sb _ (by omega)) hv
    · exact h.sb j hj) }
set_option maxRecDepth 100000 in
set_option maxHeartbeats 1000000 in
theorem turn_ok (W : World) (d s m x p : Nat) (D : Dsk) (v : Int) (h : DiskAt W d s m D) (hx : x < D.N) (hp : p < 256) (hv : 0 ≤ v ∧ v < 256) :
    Calls Try.prog 28 #[.pointer (some ⟨d, 0, none⟩), .int .i64 (x : Int), .int .i64 (p : Int), .int .u8 v] W fun e w' => e = .returned (.int .i64 0) ∧ DiskAt w' d s m (D.turn x p v) ∧ Off [s] W w' := by
  obtain ⟨c1, _⟩ := h.recd.cel 1 _ rfl
  have c2 := h.row.1 (x * 256 + p) (by omega)
  have f2 := h.row.2.1 (x * 256 + p)
  have HD : Hid (DiskAt W d s m D) := h
  have PP : Hid (DiskAt (W.drew.setCell ⟨s, x * 256 + p, none⟩ (.int .u8 (bits .xor .u8 (D.sec (x * 256 + p)) v))) d s m (D.turn x p v) ∧ Off [s] W (W.drew.setCell ⟨s, x * 256 + p, none⟩ (.int .u8 (bits .xor .u8 (D.sec (x * 256 + p)) v)))) := ⟨h.drew.turned x p v hx hp hv, (Off.refl [s] W).drew.trans (Off.set _ _ _ (by simp))⟩
  have p0 : ¬ (p : Int) < 0 := by omega
  have p1 : ¬ (256 : Int) ≤ p := by omega
  have x0 : ¬ (x : Int) < 0 := by omega
  have x1 : ¬ (D.N : Int) ≤ x := by omega
  have x2 : (x : Int) < D.N := by omega
  have p2 : (p : Int) < 256 := by omega
  have x3 : (0 : Int) ≤ x := by omega
  have p3 : (0 : Int) ≤ p := by omega
  have sd : ¬ s = d := fun e => h.ds e.symm
  clear h
  go_enter Try.func28, Try.ntmps28
  go_wp2_with (go_at_call 51; refine (made_ok _ d s m D HD.out).mono ?_; rintro e w1 ⟨rfl, rfl⟩)
  go_region
  go_wp2_with fail
  go_ret
  exact ⟨rfl, PP.out⟩
end Go.Proofs.Ytfapmogjmjlokaa
