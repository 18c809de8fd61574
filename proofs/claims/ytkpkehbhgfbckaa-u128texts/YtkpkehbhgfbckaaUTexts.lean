/-
  Walks, not a claim by itself: U128Texts comes out true. By the verifier.
-/
import Derived.Test.YtkpkehbhgfbckaaAwake
import Derived.Test.YtkpkehbhgfbckaaURPar2
import Derived.Test.YtkpkehbhgfbckaaURPar3
namespace Go.Proofs.Ytkpkehbhgfbckaa
open Go.RowKit
theorem rparse_post (s : ByteArray) (w : World) (hs : s.size ≤ 39) : Calls Try.prog 33 #[.string s] w fun e w' => RPost s e ∧ Below w.heap.size w w' := by
  by_cases h0 : s.size = 0
  · exact rparse_none s w h0
  by_cases h1 : s.size = 1
  · exact rparse_one s w hs h1
  by_cases hf : ((s[0]'(by omega)).toNat : Int) = 48
  · exact rparse_zero s w hs (by omega) hf
  · exact rparse_two s w hs (by omega) hf
/-- The program's Parse and the reference's hand back one and the same. -/
theorem par_fix (s : ByteArray) : ∃ p q n : Int, (∀ w, Calls Try.prog 32 #[.string s] w fun e w' => e = .returned (.tuple #[U p q, .int .i64 n]) ∧ Below w.heap.size w w') ∧ (∀ w, Calls Try.prog 33 #[.string s] w fun e w' => e = .returned (.tuple #[U p q, .int .i64 n]) ∧ Below w.heap.size w w') := by
  by_cases hs : s.size ≤ 39
  · obtain ⟨p, q, n, h⟩ := RPost.one s
    exact ⟨p, q, n, fun w => (parse_post s w hs).mono fun e w' ⟨h1, h2⟩ => ⟨h e h1, h2⟩, fun w => (rparse_post s w hs).mono fun e w' ⟨h1, h2⟩ => ⟨h e h1, h2⟩⟩
  · exact ⟨0, 0, 3, fun w => parse_long s w (by omega), fun w => rparse_long s w (by omega)⟩
set_option maxHeartbeats 1000000 in
theorem texts_long (ah al : Int) (s : ByteArray) (w : World) (h : 1000 < s.size) :
    Calls Try.prog 6 #[U ah al, .string s] w fun e w' => e = .returned (.bool true) ∧ Below w.heap.size w w' := by
  have e1 : (1000 : Int) < s.size := by omega
  go_enter Try.func6, Try.ntmps6
  go_wp2_with fail
  go_ret
  exact ⟨rfl, (Below.refl _ _).alloc (Nat.le_refl _) _⟩
theorem keepT {u v : World} {A X Y : Nat} {ah al p q : Int} (hb : Below u.heap.size u v) (h : u.cell? ⟨A, 0, none⟩ = some (.int .u64 ah) ∧ u.cell? ⟨A, 1, none⟩ = some (.int .u64 al) ∧ u.cell? ⟨X, 0, none⟩ = some (.int .u64 p) ∧ u.cell? ⟨X, 1, none⟩ = some (.int .u64 q) ∧ u.cell? ⟨Y, 0, none⟩ = some (.int .u64 p) ∧ u.cell? ⟨Y, 1, none⟩ = some (.int .u64 q) ∧ A < u.heap.size ∧ X < u.heap.size ∧ Y < u.heap.size) :
    v.cell? ⟨A, 0, none⟩ = some (.int .u64 ah) ∧ v.cell? ⟨A, 1, none⟩ = some (.int .u64 al) ∧ v.cell? ⟨X, 0, none⟩ = some (.int .u64 p) ∧ v.cell? ⟨X, 1, none⟩ = some (.int .u64 q) ∧ v.cell? ⟨Y, 0, none⟩ = some (.int .u64 p) ∧ v.cell? ⟨Y, 1, none⟩ = some (.int .u64 q) ∧ A < v.heap.size ∧ X < v.heap.size ∧ Y < v.heap.size := by
  obtain ⟨cA0, cA1, cX0, cX1, cY0, cY1, zA, zX, zY⟩ := h
  exact ⟨(hb.cell zA).trans cA0, (hb.cell zA).trans cA1, (hb.cell zX).trans cX0, (hb.cell zX).trans cX1, (hb.cell zY).trans cY0, (hb.cell zY).trans cY1, Nat.lt_of_lt_of_le zA hb.size, Nat.lt_of_lt_of_le zX hb.size, Nat.lt_of_lt_of_le zY hb.size⟩
set_option maxRecDepth 100000 in
set_option maxHeartbeats 4000000 in
theorem texts_any (ah al : Int) (s : ByteArray) (w : World) (h1 : Word ah) (h2 : Word al) (hs : s.size ≤ 1000) :
    Calls Try.prog 6 #[U ah al, .string s] w fun e w' => e = .returned (.bool true) ∧ Below w.heap.size w w' := by
  have e1 : ¬ (1000 : Int) < s.size := by omega
  obtain ⟨p, q, n, pa0, pr0⟩ := par_fix s
  have pa : Hid (∀ w, Calls Try.prog 32 #[.string s] w fun e w' => e = .returned (.tuple #[U p q, .int .i64 n]) ∧ Below w.heap.size w w') := pa0
  have pr : Hid (∀ w, Calls Try.prog 33 #[.string s] w fun e w' => e = .returned (.tuple #[U p q, .int .i64 n]) ∧ Below w.heap.size w w') := pr0
  clear pa0 pr0
  obtain ⟨tx, htx⟩ : ∃ tx, tx = strOfNums (txt (V ah al).toNat) := ⟨_, rfl⟩
  have t1 := fun w => text_any ah al w h1 h2
  have t2 := fun w => rtext_any ah al w h1 h2
  rw [← htx] at t1 t2
  have T1 : Hid (∀ w, Calls Try.prog 34 #[U ah al] w fun e w' => e = .returned (.string tx) ∧ Below w.heap.size w w') := t1
  have T2 : Hid (∀ w, Calls Try.prog 35 #[U ah al] w fun e w' => e = .returned (.string tx) ∧ Below w.heap.size w w') := t2
  clear t1 t2 htx
  go_enter Try.func6, Try.ntmps6
  go_wp2_with fail
  refine (pa.out _).mono ?_
  rintro e w1 ⟨rfl, hb1⟩
  have A1 := ((AtW.new w ah al 24).below hb1).alloc (.cells #[.int .u64 p, .int .u64 q] 24)
  have X1 := AtW.new w1 p q 24
  have E1 : Hid (Below w.heap.size w w1) := ((Below.refl _ _).alloc (Nat.le_refl _) _).trans (hb1.mono (by simp))
  have E1' : Hid (Below w.heap.size w (w1.alloc (.cells #[.int .u64 p, .int .u64 q] 24))) := E1.out.alloc E1.out.size _
  clear hb1 E1
  go_wp2_with fail
  refine (pr.out _).mono ?_
  rintro e w2 ⟨rfl, hb2⟩
  have A2 := (A1.below hb2).alloc (.cells #[.int .u64 p, .int .u64 q] 24)
  have X2 := (X1.below hb2).alloc (.cells #[.int .u64 p, .int .u64 q] 24)
  have Y2 := AtW.new w2 p q 24
  have E2 : Hid (Below w.heap.size w w2) := E1'.out.trans (hb2.mono E1'.out.size)
  have E2' : Hid (Below w.heap.size w (w2.alloc (.cells #[.int .u64 p, .int .u64 q] 24))) := E2.out.alloc E2.out.size _
  clear A1 X1 E1' E2 hb2 pa pr
  have SH0 := And.intro A2.1 (And.intro A2.2.1 (And.intro X2.1 (And.intro X2.2.1 (And.intro Y2.1 (And.intro Y2.2.1 (And.intro A2.2.2.2.2 (And.intro X2.2.2.2.2 Y2.2.2.2.2)))))))
  have SH : Hid _ := SH0
  clear SH0 A2 X2 Y2
  go_wp2_with fail
  go_region_held3 (fun w' => w'.cell? ⟨w.heap.size, 0, none⟩ = some (.int .u64 ah) ∧ w'.cell? ⟨w.heap.size, 1, none⟩ = some (.int .u64 al) ∧ w'.cell? ⟨w1.heap.size, 0, none⟩ = some (.int .u64 p) ∧ w'.cell? ⟨w1.heap.size, 1, none⟩ = some (.int .u64 q) ∧ w'.cell? ⟨w2.heap.size, 0, none⟩ = some (.int .u64 p) ∧ w'.cell? ⟨w2.heap.size, 1, none⟩ = some (.int .u64 q) ∧ w.heap.size < w'.heap.size ∧ w1.heap.size < w'.heap.size ∧ w2.heap.size < w'.heap.size) (first | exact S8.out | exact S7.out | exact S6.out | exact SH.out)
    (first
      | (go_at_call 34; go_must (go_fit (T1.out _)); rintro e w6 ⟨rfl, hb6⟩; have S6 : Hid _ := keepT hb6 SH.out; have E6' : Hid (Below w.heap.size w w6) := E2'.out.drew.trans (hb6.mono E2'.out.size))
      | (go_at_call 35; go_must (go_fit (T2.out _)); rintro e w7 ⟨rfl, hb7⟩; have S7 : Hid _ := keepT hb7 S6.out; have E7' : Hid (Below w.heap.size w w7) := E6'.out.trans (hb7.mono E6'.out.size))
      | (go_at_call 17; go_must (go_fit (awake_any _)); rintro e w8 ⟨rfl, hb8⟩; have S8 : Hid _ := keepT hb8 S7.out; have E8' : Hid (Below w.heap.size w w8) := E7'.out.trans (hb8.mono E7'.out.size)))
  go_wp2
  go_ret
  exact ⟨rfl, E8'.out⟩
theorem texts_all (ah al : Int) (s : ByteArray) (w : World) (h1 : Word ah) (h2 : Word al) :
    Calls Try.prog 6 #[U ah al, .string s] w fun e w' => e = .returned (.bool true) ∧ Below w.heap.size w w' := by
  by_cases hs : s.size ≤ 1000
  · exact texts_any ah al s w h1 h2 hs
  · exact texts_long ah al s w (by omega)
end Go.Proofs.Ytkpkehbhgfbckaa
