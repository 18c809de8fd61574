/-
  Walks, not a claim by itself: RecordWrites. By the verifier.
-/
import Derived.Test.YthpcfbmnciijpaaQImg
import Derived.Test.YthpcfbmnciijpaaQTB
import Derived.Test.YthpcfbmnciijpaaABytes
import Derived.Test.YthpcfbmnciijpaaTBytes
import Derived.Test.YthpcfbmnciijpaaRAwake
import Derived.Test.YthpcfbmnciijpaaBApart3
import Derived.Test.YthpcfbmnciijpaaReg
namespace Go.Proofs.Ythpcfbmnciijpaa
open Go.RowKit
/-- A record's cells. -/
def Fld.cs (a : Fld) : List Value := [.int .u64 a.h0, .int .u64 a.l0, .int .u64 a.h1, .int .u64 a.l1, .int .u64 a.h2, .int .u64 a.l2, .int .u64 a.h3, .int .u64 a.l3, .int .u64 a.h4, .int .u64 a.l4, .int .u64 a.h5, .int .u64 a.l5, .int .u64 a.p, .int .u32 a.q, .int .u32 a.r, .int .u32 a.s, .int .u16 a.t, .int .u16 a.u, .int .u64 a.v]
theorem Fld.val_cs (a : Fld) : a.val = .agg a.cs.toArray := rfl
theorem wpList_load_w {ops : Array Oper} {rest : List Oper} {op : Oper} {a : Act} {w : World} {Q : Exit → Act → World → Prop} (hw : Region.wanted op (yielded ops a.tmps) = true) (ty : TypeId) (x : Operand) (ho : op.op = .load ty x)
    (n o : Nat) (cs : List Value) (hx : a.eval x = .pointer (some ⟨n, o, none⟩)) (d : TypeDesc) (hu : Try.prog.underlying ty = some d) (hd : d.isRow = true) (hi : (Try.prog.info? ty).map (·.size) = some cs.length)
    (h : Rec19 w n o cs) (hK : wpList Try.prog ops Q rest (a.put op.dst (.agg cs.toArray)) w) : wpList Try.prog ops Q (op :: rest) a w := by
  refine wpList_step fun K hK' => ?_
  rw [if_pos hw]
  exact wp_load_mid (P := Try.prog) ty x ho n o hx cs d h.1 hu hd hi (hK' _ _ hK)
/-- The two records, and all that was. -/
def wrS (w : World) (a t : Fld) (W : World) : Prop := Rec19 W w.heap.size 0 a.cs ∧ Rec19 W (w.heap.size + 1) 0 t.cs ∧ Below w.heap.size w W
theorem wrS.below {w : World} {a t : Fld} {W W' : World} (h : wrS w a t W) (hB : Below W.heap.size W W') : wrS w a t W' := ⟨h.1.below hB, h.2.1.below hB, h.2.2.trans (hB.mono h.2.2.size)⟩
theorem wrS.keep {w : World} {a t : Fld} {W W' : World} (h : W.rangeAt w.heap.size 0 a.cs ∧ W.rangeAt (w.heap.size + 1) 0 t.cs ∧ Hid (wrS w a t W)) (hB : Below W.heap.size W W') : W'.rangeAt w.heap.size 0 a.cs ∧ W'.rangeAt (w.heap.size + 1) 0 t.cs ∧ Hid (wrS w a t W') :=
  have k := h.2.2.out.below hB
  ⟨k.1.1, k.2.1.1, k⟩
theorem lay_byte {f g : Nat → Int} {m n : Nat} (hf : ∀ j, 0 ≤ f j ∧ f j < 256) (hg : ∀ j, 0 ≤ g j ∧ g j < 256) : ∀ j, 0 ≤ lay f m n g j ∧ lay f m n g j < 256 := by
  intro j
  unfold lay
  split
  · exact hf j
  · split
    · exact hg _
    · exact hf j
theorem byt_byte (x : Int) (j : Nat) : 0 ≤ byt x j ∧ byt x j < 256 := by unfold byt; omega
theorem img_byte (a : Fld) : ∀ j, 0 ≤ a.img j ∧ a.img j < 256 :=
  lay_byte (lay_byte (lay_byte (lay_byte (lay_byte (lay_byte (lay_byte (lay_byte (lay_byte (lay_byte (lay_byte (lay_byte (lay_byte (fun _ => by omega) (wide_byte _ _)) (wide_byte _ _)) (wide_byte _ _)) (wide_byte _ _)) (wide_byte _ _)) (wide_byte _ _)) (byt_byte _)) (byt_byte _)) (byt_byte _)) (byt_byte _)) (byt_byte _)) (byt_byte _)) (byt_byte _)
set_option maxRecDepth 100000 in
set_option maxHeartbeats 2000000 in
theorem writes_any (a t : Fld) (w : World) (ha : a.wf) (ht : t.wf) :
    Calls Try.prog 3 #[a.val, t.val] w fun e w' => e = .returned (.bool true) ∧ Below w.heap.size w w' := by
  go_enter Try.func3, Try.ntmps3
  go_wp2_with fail
  have S0 : wrS w a t ((w.alloc (.cells a.cs.toArray 28)).alloc (.cells t.cs.toArray 30)) := by
    refine ⟨(Rec19.new w _ a.cs).below ((Below.refl _ _).alloc (Nat.le_refl _) _), ?_, ((Below.refl _ _).alloc (Nat.le_refl _) _).alloc (by simp) _⟩
    have := Rec19.new (w.alloc (.cells a.cs.toArray 28)) 30 t.cs
    rw [World.size_alloc] at this
    exact this
  obtain ⟨W0, hW0⟩ : ∃ W0, W0 = (w.alloc (.cells a.cs.toArray 28)).alloc (.cells t.cs.toArray 30) := ⟨_, rfl⟩
  rw [← hW0] at S0
  have S1 : Hid (wrS w a t W0) := S0
  clear S0
  change Code.wp Try.prog _ _ _ ((w.alloc (.cells a.cs.toArray 28)).alloc (.cells t.cs.toArray 30))
  rw [← hW0]
  clear hW0
  refine wp_region_noPanic ?_
  refine wp_region_held_drew (S := fun W => W.rangeAt w.heap.size 0 a.cs ∧ W.rangeAt (w.heap.size + 1) 0 t.cs ∧ Hid (wrS w a t W)) (by kernel_rfl) ?_ (fun hHeld => ?_)
  · have k := S1.out.below (Below.refl _ _).drew
    exact ⟨k.1.1, k.2.1.1, k⟩
  refine take_at (i := 0) (v := _) (some 8) rfl rfl (by kernel_rfl) (by kernel_rfl) (by kernel_rfl) (fun _ _ _ h => h) (yieldsIf_load_mid (by rfl) _ _ rfl _ _ rfl _ _ (fun _ h => h.1) Try.underlying28 rfl (by kernel_rfl)) (by assumption) ?_
  simp only [Act.put, List.setIfInBounds_toArray, List.set_cons_zero, List.set_cons_succ]
  refine take_at (i := 2) (v := _) (some 10) rfl rfl (by kernel_rfl) (by kernel_rfl) (by kernel_rfl) (fun _ _ _ h => h) (yieldsIf_load_mid (by rfl) _ _ rfl _ _ rfl _ _ (fun _ h => h.2.1) Try.underlying30 rfl (by kernel_rfl)) (by assumption) ?_
  simp only [Act.put, List.setIfInBounds_toArray, List.set_cons_zero, List.set_cons_succ]
  refine call_at (i := 1) (some 9) 6 _ _ rfl rfl rfl (by rfl) (by kernel_rfl) #[a.val] rfl Try.func6 (by kernel_rfl) (by kernel_rfl) ?_
  refine (abytes_any a _ ha).mono ?_
  rintro e w1 ⟨x, rfl, hx1, hx2, hB1⟩
  refine ⟨_, rfl, wrS.keep hHeld hB1, fun hH1 => ?_⟩
  simp only [Act.put, List.setIfInBounds_toArray, List.set_cons_zero, List.set_cons_succ]
  refine call_at (i := 3) (some 11) 7 _ _ rfl rfl rfl (by rfl) (by kernel_rfl) #[t.val] rfl Try.func7 (by kernel_rfl) (by kernel_rfl) ?_
  refine (tbytes_any t _ ht).mono ?_
  rintro e w2 ⟨y, rfl, hy1, hy2, hB2⟩
  refine ⟨_, rfl, wrS.keep hH1 hB2, fun hH2 => ?_⟩
  simp only [Act.put, List.setIfInBounds_toArray, List.set_cons_zero, List.set_cons_succ]
  have X2 : Hid (IRow w2 x .u8 128 a.img) := IRow.below hx2 hB2
  have Y2 : Hid (IRow w2 y .u8 128 t.img) := hy2
  have xy : x ≠ y := by have := hx2.2.2; omega
  have xw : w.heap.size ≤ x := by have := hHeld.2.2.out.2.2.size; omega
  have yw : w.heap.size ≤ y := by have := hH1.2.2.out.2.2.size; omega
  have S2 : Hid (wrS w a t w2) := hH2.2.2
  refine take_at (i := 4) (v := ?_) (some 5) rfl rfl (by kernel_rfl) (by kernel_rfl) (by kernel_rfl) (fun _ _ _ h => h) (Or.inl ⟨by rfl, ?_⟩) (by assumption) ?_
  rotate_left
  · (intro w hSw; (try dsimp only at hSw); go_simp; try with_reducible rfl)
  simp only [Act.put, List.setIfInBounds_toArray, List.set_cons_zero, List.set_cons_succ]
  refine take_at (i := 5) (v := ?_) (some 6) rfl rfl (by kernel_rfl) (by kernel_rfl) (by kernel_rfl) (fun _ _ _ h => h) (Or.inl ⟨by rfl, ?_⟩) (by assumption) ?_
  rotate_left
  · (intro w hSw; (try dsimp only at hSw); go_simp; try with_reducible rfl)
  simp only [Act.put, List.setIfInBounds_toArray, List.set_cons_zero, List.set_cons_succ]
  refine wpAnyH_done (by kernel_rfl) ?_ _
  refine NoPanic.normal ?_
  clear hHeld hH1 hH2 S1 hx1 hx2 hB1 hy1 hy2 hB2
  go_wp2_with (refine wpList_load_rec rfl 28 (.tmp 2) rfl w.heap.size 0 a.cs rfl _ Try.underlying28 rfl (by kernel_rfl) S2.out.1 ?_)
  refine (qabytes_any a _ ha).mono ?_
  rintro e w3 ⟨v3, rfl, hO3, hB3⟩
  obtain ⟨g3, cap3, rfl, hg3, hc3, hL3⟩ := (hO3.congr (qimg a)).form (by omega) (fun j _ => img_byte a j)
  have X3 : Hid (IRow w3 x .u8 128 a.img) := X2.out.below hB3
  have Y3 : Hid (IRow w3 y .u8 128 t.img) := Y2.out.below hB3
  have S3 : Hid (wrS w a t w3) := S2.out.below hB3
  have L3 : Hid (Lies w3 g3 0 128 a.img) := hL3
  clear hO3 hB3 hL3 X2 Y2 S2
  go_wp2_with fail
  refine (same_any (some ⟨x, 0, none⟩) (some ⟨g3, 0, none⟩) 128 128 128 cap3 a.img a.img _ (Arg.of (X3.out.lies (fun j _ => img_byte a j))) (Arg.of L3.out)).mono ?_
  rintro e w4 ⟨rfl, hw⟩
  rw [hw, decide_eq_true rfl]
  clear hw w4 L3 hg3 hc3
  go_wp2_with (refine wpList_load_w (by rfl) 30 (.tmp 3) rfl (w.heap.size + 1) 0 t.cs rfl _ Try.underlying30 rfl (by kernel_rfl) S3.out.2.1 ?_)
  refine (qtbytes_any t _ ht).mono ?_
  rintro e w4 ⟨v4, rfl, hO4, hB4⟩
  obtain ⟨g4, cap4, rfl, hg4, hc4, hL4⟩ := (hO4.congr (qimg t)).form (by omega) (fun j _ => img_byte t j)
  have X4 : Hid (IRow w4 x .u8 128 a.img) := X3.out.below hB4
  have Y4 : Hid (IRow w4 y .u8 128 t.img) := Y3.out.below hB4
  have S4 : Hid (wrS w a t w4) := S3.out.below hB4
  have L4 : Hid (Lies w4 g4 0 128 t.img) := hL4
  clear hO4 hB4 hL4 X3 Y3 S3
  go_wp2_with fail
  refine (same_any (some ⟨y, 0, none⟩) (some ⟨g4, 0, none⟩) 128 128 128 cap4 t.img t.img _ (Arg.of (Y4.out.lies (fun j _ => img_byte t j))) (Arg.of L4.out)).mono ?_
  rintro e w5 ⟨rfl, hw⟩
  rw [hw, decide_eq_true rfl]
  clear hw w5 L4 hg4 hc4
  go_wp2_with (refine wpList_load_w (by rfl) 28 (.tmp 2) rfl w.heap.size 0 a.cs rfl _ Try.underlying28 rfl (by kernel_rfl) S4.out.1 ?_)
  refine (abytes_any a _ ha).mono ?_
  rintro e w5 ⟨z, rfl, hz1, hz2, hB5⟩
  have X5 : Hid (IRow w5 x .u8 128 a.img) := X4.out.below hB5
  have Y5 : Hid (IRow w5 y .u8 128 t.img) := Y4.out.below hB5
  have Z5 : Hid (IRow w5 z .u8 128 a.img) := hz2
  have S5 : Hid (wrS w a t w5) := S4.out.below hB5
  have xz : x ≠ z := by have := X4.out.2.2; omega
  have yz : y ≠ z := by have := Y4.out.2.2; omega
  have zw : w.heap.size ≤ z := by have := S4.out.2.2.size; omega
  clear hz1 hz2 hB5 X4 Y4 S4
  go_wp2_with fail
  refine (three_apart w.heap.size w5 ⟨some ⟨x, 0, none⟩, 128, 128⟩ ⟨some ⟨y, 0, none⟩, 128, 128⟩ ⟨some ⟨z, 0, none⟩, 128, 128⟩ a.img t.img a.img
    ⟨Nat.le_refl _, by show 128 ≤ 1000000; decide, fun j _ => img_byte a j, .inr ⟨x, rfl, xw, X5.out⟩⟩ ⟨Nat.le_refl _, by show 128 ≤ 1000000; decide, fun j _ => img_byte t j, .inr ⟨y, rfl, yw, Y5.out⟩⟩ ⟨Nat.le_refl _, by show 128 ≤ 1000000; decide, fun j _ => img_byte a j, .inr ⟨z, rfl, zw, Z5.out⟩⟩ S5.out.2.2.size
    (fun p hp => by cases hp; exact X5.out.2.2) (fun p hp => by cases hp; exact Y5.out.2.2) (fun p hp => by cases hp; exact Z5.out.2.2)
    (fun p q hp hq => by cases hp; cases hq; exact xy) (fun p q hp hq => by cases hp; cases hq; exact xz) (fun p q hp hq => by cases hp; cases hq; exact yz)).mono ?_
  rintro e w6 ⟨rfl, hB6⟩
  have E6 : Hid (Below w.heap.size w w6) := S5.out.2.2.trans hB6
  clear hB6 X5 Y5 Z5 S5
  go_wp2_with fail
  refine (awake_any _).mono ?_
  rintro e w7 ⟨rfl, hB7⟩
  go_wp2_with fail
  go_ret
  exact ⟨rfl, E6.out.trans (hB7.mono E6.out.size)⟩
end Go.Proofs.Ythpcfbmnciijpaa
