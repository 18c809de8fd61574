/-
  Walks, not a claim by itself: u128.Parse. By the verifier.
-/
import Derived.Test.YtkpkehbhgfbckaaPut
import Derived.Test.YtkpkehbhgfbckaaIsNum
namespace Go.Proofs.Ytkpkehbhgfbckaa
open Go.RowKit

/-- The number of digits. -/
def val (l : List UInt8) : Nat := l.foldl (fun a c => a * 10 + (c.toNat - 48)) 0
theorem val_snoc (l : List UInt8) (c : UInt8) : val (l ++ [c]) = val l * 10 + (c.toNat - 48) := by
  unfold val; rw [List.foldl_append]; rfl
theorem val_take (s : ByteArray) (k : Nat) (h : k < s.size) : val (s.data.toList.take (k + 1)) = val (s.data.toList.take k) * 10 + ((s[k]'h).toNat - 48) := by
  rw [List.take_succ_eq_append_getElem (by simpa using h), val_snoc]; rfl
theorem val_foldl_le (l : List UInt8) (a b : Nat) (h : a ≤ b) : a ≤ l.foldl (fun a c => a * 10 + (c.toNat - 48)) b := by
  induction l generalizing b with
  | nil => exact h
  | cons c l ih => exact ih _ (by show a ≤ b * 10 + (c.toNat - 48); omega)
theorem val_take_le (l : List UInt8) (k : Nat) : val (l.take k) ≤ val l := by
  have e : val l = (l.drop k).foldl (fun a c => a * 10 + (c.toNat - 48)) (val (l.take k)) := by
    unfold val
    rw [← List.foldl_append, List.take_append_drop]
  rw [e]
  exact val_foldl_le _ _ _ (Nat.le_refl _)

/-- The cells of Parse's two variables. -/
def Cells4 (w u : World) (x y : Int) : Prop :=
  u.cell? ⟨w.heap.size, 0, none⟩ = some (.int .u64 0) ∧ u.cell? ⟨w.heap.size, 1, none⟩ = some (.int .u64 0) ∧ u.cell? ⟨w.heap.size + 1, 0, none⟩ = some (.int .u64 x) ∧ u.cell? ⟨w.heap.size + 1, 1, none⟩ = some (.int .u64 y) ∧
  u.frozen? ⟨w.heap.size, 0, none⟩ = false ∧ u.frozen? ⟨w.heap.size, 1, none⟩ = false ∧ u.frozen? ⟨w.heap.size + 1, 0, none⟩ = false ∧ u.frozen? ⟨w.heap.size + 1, 1, none⟩ = false ∧
  w.heap.size + 1 < u.heap.size ∧ Below w.heap.size w u
theorem Cells4.set {w u : World} {x y : Int} (h : Cells4 w u x y) (p q : Int) : Cells4 w ((u.setCell ⟨w.heap.size + 1, 0, none⟩ (.int .u64 p)).setCell ⟨w.heap.size + 1, 1, none⟩ (.int .u64 q)) p q := by
  obtain ⟨c0, c1, d0, d1, f0, f1, g0, g1, hz, bel⟩ := h
  refine ⟨?_, ?_, ?_, ?_, by simp [f0], by simp [f1], by simp [g0], by simp [g1], by simp [World.setCell]; omega, (bel.setCell (Nat.le_succ _) _).setCell (Nat.le_succ _) _⟩
  · rw [World.cell?_setCell_other _ _ _ _ (by simp), World.cell?_setCell_other _ _ _ _ (by simp), c0]
  · rw [World.cell?_setCell_other _ _ _ _ (by simp), World.cell?_setCell_other _ _ _ _ (by simp), c1]
  · rw [World.cell?_setCell_other _ _ _ _ (by simp), World.cell?_setCell_same _ _ _ d0]
  · rw [World.cell?_setCell_same _ _ _ (u := .int .u64 y)]
    rw [World.cell?_setCell_other _ _ _ _ (by simp), d1]
theorem Cells4.other {w u : World} {x y : Int} (h : Cells4 w u x y) (b o : Nat) (v : Value) (hb : w.heap.size + 1 < b) : Cells4 w (u.setCell ⟨b, o, none⟩ v) x y := by
  obtain ⟨c0, c1, d0, d1, f0, f1, g0, g1, hz, bel⟩ := h
  refine ⟨?_, ?_, ?_, ?_, by simp [f0], by simp [f1], by simp [g0], by simp [g1], by simp [World.setCell]; omega, bel.setCell (by simp; omega) _⟩
  · rw [World.cell?_setCell_other _ _ _ _ (by intro e; injection e; omega), c0]
  · rw [World.cell?_setCell_other _ _ _ _ (by intro e; injection e; omega), c1]
  · rw [World.cell?_setCell_other _ _ _ _ (by intro e; injection e; omega), d0]
  · rw [World.cell?_setCell_other _ _ _ _ (by intro e; injection e; omega), d1]
theorem Cells4.alloc {w u : World} {x y : Int} (h : Cells4 w u x y) (o : Obj) : Cells4 w (u.alloc o) x y := by
  obtain ⟨c0, c1, d0, d1, f0, f1, g0, g1, hz, bel⟩ := h
  have b1 : Below u.heap.size u (u.alloc o) := (Below.refl _ _).alloc (Nat.le_refl _) _
  exact ⟨(b1.cell (by simp; omega)).trans c0, (b1.cell (by simp; omega)).trans c1, (b1.cell (by simp; omega)).trans d0, (b1.cell (by simp; omega)).trans d1,
    (b1.frozen (by simp; omega)).trans f0, (b1.frozen (by simp; omega)).trans f1, (b1.frozen (by simp; omega)).trans g0, (b1.frozen (by simp; omega)).trans g1, by simp; omega, bel.alloc (by omega) _⟩
/-- What holds at the head of Parse's loop. -/
def ParseRel (w : World) (s : ByteArray) (i : Value) (wr : World) : Prop := ∃ (k : Nat) (x y : Int), k ≤ s.size ∧ i = .int .i64 k ∧ Word x ∧ Word y ∧ V x y = val (s.data.toList.take k) ∧ Cells4 w wr x y

theorem parse_long (s : ByteArray) (w : World) (hs : 39 < s.size) :
    Calls Try.prog 32 #[.string s] w fun e w' => e = .returned (.tuple #[U 0 0, .int .i64 3]) ∧ Below w.heap.size w w' := by
  have h : (39 : Int) < s.size := by omega
  go_enter Try.func32, Try.ntmps32
  go_wp2
  exact bodyPost_ret (v := .tuple #[U 0 0, .int .i64 3]) (by simp [results, Try.results32, go_sem]) rfl ⟨rfl, (Below.refl _ _).alloc (Nat.le_refl _) _⟩

theorem parse_no (s : ByteArray) (w : World) (hs : s.size ≤ 39) (hn : ¬ NumP s) :
    Calls Try.prog 32 #[.string s] w fun e w' => e = .returned (.tuple #[U 0 0, .int .i64 4]) ∧ Below w.heap.size w w' := by
  have h : (s.size : Int) ≤ 39 := by omega
  go_enter Try.func32, Try.ntmps32
  go_wp2_with fail
  refine (isnum_any s _ hs).mono ?_
  rintro e w1 ⟨b, rfl, hb, hw⟩
  obtain rfl : b = false := by cases b with | false => rfl | true => exact absurd (hb.1 rfl) hn
  clear hb
  rw [hw]
  clear hw
  go_wp2_with fail
  exact bodyPost_ret (v := .tuple #[U 0 0, .int .i64 4]) (by simp [results, Try.results32, go_sem]) rfl ⟨rfl, (Below.refl _ _).alloc (Nat.le_refl _) _⟩

/-- What Parse ends in, of a text that is a number. -/
def ParseEnds (s : ByteArray) (w : World) (e : Ending) (w' : World) : Prop := ((val s.data.toList < 340282366920938463463374607431768211456 ∧ ∃ x y : Int, e = .returned (.tuple #[U x y, .int .i64 0]) ∧ Word x ∧ Word y ∧ V x y = val s.data.toList) ∨
      (340282366920938463463374607431768211456 ≤ val s.data.toList ∧ e = .returned (.tuple #[U 0 0, .int .i64 15]))) ∧ Below w.heap.size w w'
theorem index_str (s : ByteArray) (k : Nat) (h : k < s.size) (w : World) : (Instr.index 9 (.string s) (.int .i64 k)).run Try.prog w = .ok (.int .u8 ((s[k]'h).toNat : Int)) w := by
  rw [run_index_string w 9 s .i64 k Try.underlying9, dif_pos ⟨by omega, by omega⟩]; simp
set_option maxHeartbeats 2000000 in
theorem parse_num (s : ByteArray) (w : World) (hs : s.size ≤ 39) (hn : NumP s) :
    Calls Try.prog 32 #[.string s] w fun e w' => ParseEnds s w e w' := by
  have h : (s.size : Int) ≤ 39 := by omega
  have HN : Hid (NumP s) := hn
  go_enter Try.func32, Try.ntmps32
  go_wp2_with fail
  refine (isnum_any s _ hs).mono ?_
  rintro e w1 ⟨b, rfl, hb, hw⟩
  obtain rfl : b = true := hb.2 hn
  clear hb hn
  rw [hw]
  clear hw
  go_wp2_with fail
  go_loopw [18] (fun i wr => ParseRel w s i wr) (fun i _ => s.size - (intOf i).toNat)
  case atStart =>
    refine ⟨0, 0, 0, by omega, rfl, word_zero, word_zero, rfl, ?_⟩
    exact ⟨by simp [go_sem], by simp [go_sem], by simp [go_sem], by simp [go_sem], by simp [go_sem], by simp [go_sem], by simp [go_sem], by simp [go_sem], by simp, ((Below.refl _ _).alloc (Nat.le_refl _) _).alloc (by simp) _⟩
  case round =>
    obtain ⟨k, x, y, hk, rfl, hx, hy, hv, c0, c1, d0, d1, f0, f1, g0, g1, hz, bel⟩ := hrel
    have BE : Hid (Below w.heap.size w wr) := bel
    have HV : Hid (V x y = val (s.data.toList.take k)) := hv
    clear bel hv
    by_cases hlt : k < s.size
    · have hd := HN.out.1 k hlt
      obtain ⟨d, hdd⟩ : ∃ d : Int, d = ((s[k]'hlt).toNat : Int) := ⟨_, rfl⟩
      have hd0 : 48 ≤ d := by omega
      have hd1 : d ≤ 57 := by omega
      have hvt := val_take s k hlt
      by_cases ho : V x y * 10 + (d - 48) < 340282366920938463463374607431768211456
      · have HO : Hid (V x y * 10 + (d - 48) < 340282366920938463463374607431768211456) := ho
        have hix : ∀ w, (Instr.index 9 (.string s) (.int .i64 k)).run Try.prog w = .ok (.int .u8 d) w := by rw [hdd]; exact index_str s k hlt
        have VT : Hid (V x y * 10 + (d - 48) = ((val (s.data.toList.take (k + 1)) : Nat) : Int)) := by
          unfold Hid; rw [hvt, HV.out, hdd]; omega
        have hz0 : w.heap.size < wr.heap.size := by omega
        clear ho hd hdd hvt
        go_wp2_with fail
        go_region_held3 (fun w' => w'.cell? ⟨w.heap.size + 1, 0, none⟩ = some (.int .u64 x) ∧ w'.cell? ⟨w.heap.size + 1, 1, none⟩ = some (.int .u64 y) ∧ w.heap.size + 1 < w'.heap.size) (first | (simp [*, go_sem, World.cell?_alloc_past]; done) | (simp [*, go_sem, World.cell?_alloc_past]; omega))
          (first
            | (go_at_call 46; go_must (go_fit (put_ok x y d _ hx hy hd0 hd1 HO.out)); rintro e w2 ⟨p, q, rfl, hp, hq, hpq, hb2⟩; have j0 := hb2.cell (p := ⟨w.heap.size + 1, 0, none⟩) (by simp; omega); have j1 := hb2.cell (p := ⟨w.heap.size + 1, 1, none⟩) (by simp; omega); have j2 := hb2.size; have j4 := fun h => hb2.cell (p := ⟨wr.heap.size, 0, none⟩) h; have j5 := fun h => hb2.cell (p := ⟨wr.heap.size, 1, none⟩) h; have j6 := fun h => hb2.frozen (p := ⟨wr.heap.size, 0, none⟩) h; have j7 := fun h => hb2.frozen (p := ⟨wr.heap.size, 1, none⟩) h; have k0 := hb2.cell (p := ⟨w.heap.size, 0, none⟩) (by simp; omega); have k1 := hb2.cell (p := ⟨w.heap.size, 1, none⟩) (by simp; omega); have k2 := hb2.frozen (p := ⟨w.heap.size, 0, none⟩) (by simp; omega); have k3 := hb2.frozen (p := ⟨w.heap.size, 1, none⟩) (by simp; omega); have k4 := hb2.frozen (p := ⟨w.heap.size + 1, 0, none⟩) (by simp; omega); have k5 := hb2.frozen (p := ⟨w.heap.size + 1, 1, none⟩) (by simp; omega); have m := hb2.mono (B' := w.heap.size) (by first | (simp; done) | (simp; omega)); simp [*, go_sem] at j0 j1 j2 k0 k1 k2 k3 k4 k5; have j3 : w.heap.size + 1 < w2.heap.size := (by omega); have j8 : w.heap.size < w2.heap.size := (by omega)))
        all_goals go_wp2
        all_goals
          have hm : Below w.heap.size w w2 := by first | exact BE.out.drew.trans m | exact ((BE.out.alloc (by omega) _).drew).trans m
          have C : Cells4 w w2 x y := ⟨k0, k1, j0, j1, k2, k3, k4, k5, j3, hm⟩
          refine ⟨⟨k + 1, p, q, by omega, by go_num, hp, hq, ?_, ?_⟩, by simp [intOf]; omega⟩
        · rw [hpq.out, VT.out]
        · exact (C.set p q).alloc _
        · rw [hpq.out, VT.out]
        · exact ((C.other _ _ _ hz).other _ _ _ hz).set p q
        · rw [hpq.out, VT.out]
        · exact ((C.other _ _ _ hz).other _ _ _ hz).set p q
      · have HO : Hid (340282366920938463463374607431768211456 ≤ V x y * 10 + (d - 48)) := by unfold Hid; omega
        have hix : ∀ w, (Instr.index 9 (.string s) (.int .i64 k)).run Try.prog w = .ok (.int .u8 d) w := by rw [hdd]; exact index_str s k hlt
        have VT : Hid (340282366920938463463374607431768211456 ≤ val s.data.toList) := by
          have h1 := val_take_le s.data.toList (k + 1)
          unfold Hid; rw [hvt] at h1; rw [HV.out, hdd] at ho; omega
        have hz0 : w.heap.size < wr.heap.size := by omega
        clear ho hd hdd hvt
        go_wp2_with fail
        go_region_held3 (fun w' => w'.cell? ⟨w.heap.size + 1, 0, none⟩ = some (.int .u64 x) ∧ w'.cell? ⟨w.heap.size + 1, 1, none⟩ = some (.int .u64 y) ∧ w.heap.size + 1 < w'.heap.size) (first | (simp [*, go_sem, World.cell?_alloc_past]; done) | (simp [*, go_sem, World.cell?_alloc_past]; omega))
          (first
            | (go_at_call 46; go_must (go_fit (put_over x y d _ hx hy hd0 hd1 HO.out)); rintro e w2 ⟨rfl, hb2⟩; have j0 := hb2.cell (p := ⟨w.heap.size + 1, 0, none⟩) (by simp; omega); have j1 := hb2.cell (p := ⟨w.heap.size + 1, 1, none⟩) (by simp; omega); have j2 := hb2.size; have j4 := fun h => hb2.cell (p := ⟨wr.heap.size, 0, none⟩) h; have j5 := fun h => hb2.cell (p := ⟨wr.heap.size, 1, none⟩) h; have j6 := fun h => hb2.frozen (p := ⟨wr.heap.size, 0, none⟩) h; have j7 := fun h => hb2.frozen (p := ⟨wr.heap.size, 1, none⟩) h; have k0 := hb2.cell (p := ⟨w.heap.size, 0, none⟩) (by simp; omega); have k1 := hb2.cell (p := ⟨w.heap.size, 1, none⟩) (by simp; omega); have k2 := hb2.frozen (p := ⟨w.heap.size, 0, none⟩) (by simp; omega); have k3 := hb2.frozen (p := ⟨w.heap.size, 1, none⟩) (by simp; omega); have k4 := hb2.frozen (p := ⟨w.heap.size + 1, 0, none⟩) (by simp; omega); have k5 := hb2.frozen (p := ⟨w.heap.size + 1, 1, none⟩) (by simp; omega); have m := hb2.mono (B' := w.heap.size) (by first | (simp; done) | (simp; omega)); simp [*, go_sem] at j0 j1 j2 k0 k1 k2 k3 k4 k5; have j3 : w.heap.size + 1 < w2.heap.size := (by omega); have j8 : w.heap.size < w2.heap.size := (by omega)))
        all_goals go_wp2
        all_goals
          have hm : Below w.heap.size w w2 := by first | exact BE.out.drew.trans m | exact ((BE.out.alloc (by omega) _).drew).trans m
          refine bodyPost_ret (v := .tuple #[U 0 0, .int .i64 15]) ?_ rfl ⟨.inr ⟨VT.out, rfl⟩, ?_⟩
          · go_light
            simp [results, Try.results32, go_sem, k0, k1, j8]
          first
            | exact ((((hm.setCell (p := ⟨wr.heap.size, 0, none⟩) (Nat.le_of_lt hz0) _).setCell (p := ⟨wr.heap.size, 1, none⟩) (Nat.le_of_lt hz0) _).setCell (p := ⟨w.heap.size, 0, none⟩) (Nat.le_refl _) _).setCell (p := ⟨w.heap.size, 1, none⟩) (Nat.le_refl _) _)
            | exact (((hm.setCell (p := ⟨w.heap.size, 0, none⟩) (Nat.le_refl _) _).setCell (p := ⟨w.heap.size, 1, none⟩) (Nat.le_refl _) _).alloc (by simp [World.setCell]; omega) _)
    · obtain rfl : k = s.size := by omega
      have hv := HV.out
      have el : s.data.toList.take s.size = s.data.toList := List.take_of_length_le (Nat.le_of_eq Array.length_toList)
      rw [el] at hv
      have FIN : Hid (val s.data.toList < 340282366920938463463374607431768211456 ∧ V x y = val s.data.toList) := ⟨by unfold Word V at *; omega, hv⟩
      clear hv el
      go_wp2_with fail
      refine bodyPost_ret (v := .tuple #[U x y, .int .i64 0]) (by simp [results, Try.results32, go_sem, c0, c1]) rfl ⟨.inl ⟨FIN.out.1, x, y, rfl, hx, hy, FIN.out.2⟩, ?_⟩
      exact (BE.out.setCell (Nat.le_refl _) _).setCell (Nat.le_refl _) _
end Go.Proofs.Ytkpkehbhgfbckaa
