/-
  Walks, not a claim by itself: New, settle, Flush, Read. By the verifier.
-/
import Derived.Test.YtfapmogjmjlokaaDOne
import Derived.Carry
namespace Go.Proofs.Ytfapmogjmjlokaa
open Go.RowKit Go.Maps
/-- A new disk. -/
def dsk0 (n : Nat) : Dsk := ⟨n, fun _ => 0, fun _ => false, fun _ => 0, 0, none, false, n⟩
theorem info_sec : (Try.prog.info? 95).map (fun i => (i.zero, i.size, i.bytes)) = some (some (secV fun _ => 0), 256, 256) := by kernel_rfl
theorem make_secs (n : Nat) (h : n ≤ 65536) (w : World) : ∃ cs, (Instr.makeSlice 43 (.int .i64 (n : Int)) (.int .i64 (n : Int))).run Try.prog w = .ok (.slice (some ⟨w.heap.size, 0, none⟩) n n) (w.alloc (.cells cs 95)) ∧ IRow (w.alloc (.cells cs 95)) w.heap.size .u8 (n * 256) (fun _ => 0) := by
  obtain ⟨i, hi, hz0, hz1, hz2⟩ := info_parts info_sec
  have h1 := run_make (P := Try.prog) w 43 95 i (secV fun _ => 0) Try.underlying43 hi hz0 .i64 .i64 n n (by omega) (by omega) (by rw [hz2]; omega) (by omega)
  rw [Int.toNat_natCast] at h1
  refine ⟨_, h1, fun j hj => ?_, fun j => by simp [go_sem], by simp⟩
  rw [World.cell?_alloc_at _ _ _ _ rfl, hz1]
  have e : (secV fun _ => 0).cells = (cl .u8 256 fun _ => 0).toArray := rfl
  rw [e]
  unfold madeCells
  have l : (cl .u8 256 fun _ => 0).toArray.size = 256 := by simp [cl_len]
  have k := cl_at .u8 256 (fun _ => 0) (j % 256) (by omega)
  simp only [Array.getElem?_map, Array.getElem?_range]
  rw [if_pos hj]
  simp only [Option.map_some, l]
  rw [getElem!_pos _ _ (by rw [l]; omega)]
  simp only [List.getElem_toArray]
  rw [List.getElem?_eq_getElem (by rw [cl_len]; omega)] at k
  exact k
set_option maxRecDepth 100000 in
theorem new_no (n : Int) (w : World) (h : n < 1 ∨ 65536 < n) : Calls Try.prog 24 #[.int .i64 n] w fun e w' => e = .returned (.tuple #[.pointer none, .int .i64 5]) ∧ w' = w := by
  by_cases a : n < 1
  · clear h
    go_enter Try.func24, Try.ntmps24
    go_wp2_with fail
    go_ret2
    exact ⟨rfl, rfl⟩
  · have b : 65536 < n := by omega
    clear h
    go_enter Try.func24, Try.ntmps24
    go_wp2_with fail
    go_ret2
    exact ⟨rfl, rfl⟩
/-- What New answers. -/
def NewPost (w : World) (n : Nat) (e : Ending) (w' : World) : Prop := ∃ d s m, e = .returned (.tuple #[.pointer (some ⟨d, 0, none⟩), .int .i64 0]) ∧ w.heap.size ≤ d ∧ w.heap.size ≤ s ∧ w.heap.size ≤ m ∧ DiskAt w' d s m (dsk0 n) ∧ Below w.heap.size w w'
set_option maxRecDepth 100000 in
theorem new_ok (n : Nat) (w : World) (h1 : 1 ≤ n) (h2 : n ≤ 65536) : Calls Try.prog 24 #[.int .i64 (n : Int)] w (NewPost w n) := by
  obtain ⟨cs, hmk, hrow⟩ := make_secs n h2 w
  have HR : Hid (IRow (w.alloc (.cells cs 95)) w.heap.size .u8 (n * 256) (fun _ => 0)) := hrow
  have hmm := fun w => run_makeMap (P := Try.prog) 44 w
  have a : ¬ (n : Int) < 1 := by omega
  have b : ¬ (65536 : Int) < n := by omega
  have R0 := Rec19.new ((w.alloc (.cells cs 95)).alloc (.map #[] 0)) 47 [.pointer (some ⟨w.heap.size + 1 + 1, 0, none⟩), .slice (some ⟨w.heap.size, 0, none⟩) n n, .map (some (w.heap.size + 1)), .int .i64 0, .pointer none, .bool false]
  have M0 := MapOk.new (w.alloc (.cells cs 95)) n (fun _ => 0)
  rw [World.size_alloc, World.size_alloc] at R0
  rw [World.size_alloc] at M0
  have B0 : Below w.heap.size w (((w.alloc (.cells cs 95)).alloc (.map #[] 0)).alloc (.cells #[.pointer (some ⟨w.heap.size + 1 + 1, 0, none⟩), .slice (some ⟨w.heap.size, 0, none⟩) n n, .map (some (w.heap.size + 1)), .int .i64 0, .pointer none, .bool false] 47)) :=
    (((Below.refl _ _).alloc (Nat.le_refl _) _).alloc (by simp) _).alloc (by simp; omega) _
  have DD : Hid (DiskAt (((w.alloc (.cells cs 95)).alloc (.map #[] 0)).alloc (.cells #[.pointer (some ⟨w.heap.size + 1 + 1, 0, none⟩), .slice (some ⟨w.heap.size, 0, none⟩) n n, .map (some (w.heap.size + 1)), .int .i64 0, .pointer none, .bool false] 47)) (w.heap.size + 1 + 1) w.heap.size (w.heap.size + 1) (dsk0 n) ∧ Below w.heap.size w (((w.alloc (.cells cs 95)).alloc (.map #[] 0)).alloc (.cells #[.pointer (some ⟨w.heap.size + 1 + 1, 0, none⟩), .slice (some ⟨w.heap.size, 0, none⟩) n n, .map (some (w.heap.size + 1)), .int .i64 0, .pointer none, .bool false] 47))) := by
    refine ⟨⟨R0, (hrow.alloc _).alloc _, M0.same (Below.heap_alloc _ _ _ (by simp)), fun j _ => ⟨Int.le_refl _, by show (0 : Int) < 256; decide⟩, fun n j _ h => (by cases h), h1, h2, by omega, by omega, by omega⟩, B0⟩
  clear hrow R0 M0 B0
  go_enter Try.func24, Try.ntmps24
  go_wp2_with fail
  exact bodyPost_ret (v := .tuple #[.pointer (some ⟨w.heap.size + 1 + 1, 0, none⟩), .int .i64 0]) (by simp [results, Try.results24]) rfl ⟨_, _, _, rfl, by omega, by omega, by omega, DD.out.1, DD.out.2⟩
/-- All sectors are safe. -/
def Dsk.safe (D : Dsk) : Dsk := { D with lo := fun _ => false }
/-- One change more. -/
def Dsk.more (D : Dsk) : Dsk := { D with ops := D.ops + 1 }
theorem settle_ok (W : World) (d s m : Nat) (D : Dsk) (h : DiskAt W d s m D) : Calls Try.prog 80 #[.pointer (some ⟨d, 0, none⟩)] W fun e w' => e = .returned (.tuple #[]) ∧ DiskAt w' d s W.heap.size D.safe ∧ Off [d] W w' := by
  have hmm := fun w => run_makeMap (P := Try.prog) 44 w
  have hd := h.dl
  have hs := h.sl
  have O1 : Off [d] W ((W.setCell ⟨d, 2, none⟩ (.map (some W.heap.size))).alloc (.map #[] 0)) := (Off.set W 2 _ (by simp)).alloc _
  have R1 := (h.recd.put 2 (.map (some W.heap.size))).below ((Below.refl _ _).alloc (Nat.le_refl _) (.map #[] 0))
  have zz : (W.setCell ⟨d, 2, none⟩ (.map (some W.heap.size))).heap.size = W.heap.size := by simp [World.setCell]
  have M1 := MapOk.new (W.setCell ⟨d, 2, none⟩ (.map (some W.heap.size))) D.N D.ob
  rw [zz] at M1
  have DD : Hid (DiskAt ((W.setCell ⟨d, 2, none⟩ (.map (some W.heap.size))).alloc (.map #[] 0)) d s W.heap.size D.safe ∧ Off [d] W ((W.setCell ⟨d, 2, none⟩ (.map (some W.heap.size))).alloc (.map #[] 0))) :=
    ⟨⟨R1, h.row.off O1 (by have := h.ds; simp; omega), M1, h.sb, fun n j _ q => (by cases q), h.n1, h.n2, h.ds, by omega, by omega⟩, O1⟩
  obtain ⟨c2, f2⟩ := h.recd.cel 2 _ rfl
  have c2' : (W.alloc (.map #[] 0)).cell? ⟨d, 2, none⟩ = some (.map (some m)) := by rw [World.cell?_alloc_past _ _ _ (by show d < W.heap.size; omega)]; exact c2
  have f2' : (W.alloc (.map #[] 0)).frozen? ⟨d, 2, none⟩ = false := (Below.frozen ((Below.refl W.heap.size W).alloc (Nat.le_refl _) (.map #[] 0)) hd).trans f2
  clear h R1 O1 M1 zz c2 f2
  go_enter Try.func80, Try.ntmps80
  go_wp2_with fail
  go_end0
  exact ⟨rfl, DD.out.1, DD.out.2⟩
end Go.Proofs.Ytfapmogjmjlokaa
