/-
  Walks, not a claim by itself: the chapter's examples (U128Known) come out true. By the verifier.
-/
import Derived.Test.YtkpkehbhgfbckaaAwake
import Derived.Test.YtkpkehbhgfbckaaKey
import Derived.Test.YtkpkehbhgfbckaaParse
namespace Go.Proofs.Ytkpkehbhgfbckaa
open Go.RowKit

theorem parses_true (s : ByteArray) (h l c : Int) (w : World) (hp : ∀ w, Calls Try.prog 32 #[.string s] w fun e w' => e = .returned (.tuple #[U h l, .int .i64 c]) ∧ Below w.heap.size w w') :
    Calls Try.prog 36 #[.string s, U h l, .int .i64 c] w fun e w' => e = .returned (.bool true) ∧ Below w.heap.size w w' := by
  have HP : Hid (∀ w, Calls Try.prog 32 #[.string s] w fun e w' => e = .returned (.tuple #[U h l, .int .i64 c]) ∧ Below w.heap.size w w') := hp
  clear hp
  go_enter Try.func36, Try.ntmps36
  go_wp2_with fail
  refine (HP.out _).mono ?_
  rintro e w1 ⟨rfl, hb⟩
  have c0 := (hb.cell (p := ⟨w.heap.size, 0, none⟩) (by simp)).trans (by simp [go_sem] : _ = some (.int .u64 h))
  have c1 := (hb.cell (p := ⟨w.heap.size, 1, none⟩) (by simp)).trans (by simp [go_sem] : _ = some (.int .u64 l))
  have hz : w.heap.size < w1.heap.size := by have := hb.size; simp at this; omega
  have B : Hid (Below w.heap.size w w1) := ((Below.refl _ _).alloc (Nat.le_refl _) _).trans (hb.mono (by simp))
  clear hb
  go_wp2_with fail
  go_ret
  exact ⟨rfl, B.out.alloc (by omega) _⟩

theorem parse_yes (s : ByteArray) (h l : Int) (w : World) (hs : s.size ≤ 39) (hn : NumP s) (h1 : Word h) (h2 : Word l) (hv : V h l = val s.data.toList) :
    Calls Try.prog 32 #[.string s] w fun e w' => e = .returned (.tuple #[U h l, .int .i64 0]) ∧ Below w.heap.size w w' := by
  refine (parse_num s w hs hn).mono ?_
  rintro e w' ⟨⟨_, x, y, rfl, hx, hy, hxy⟩ | ⟨ho, _⟩, hb⟩
  · obtain ⟨a1, a2⟩ := h1; obtain ⟨b1, b2⟩ := h2; obtain ⟨c1, c2⟩ := hx; obtain ⟨d1, d2⟩ := hy
    rw [← hv] at hxy
    unfold V at hxy
    obtain rfl : x = h := by omega
    obtain rfl : y = l := by omega
    exact ⟨rfl, hb⟩
  · exfalso
    obtain ⟨a1, a2⟩ := h1; obtain ⟨b1, b2⟩ := h2
    unfold V at hv
    omega
theorem parse_far (s : ByteArray) (w : World) (hs : s.size ≤ 39) (hn : NumP s) (hv : 340282366920938463463374607431768211456 ≤ val s.data.toList) :
    Calls Try.prog 32 #[.string s] w fun e w' => e = .returned (.tuple #[U 0 0, .int .i64 15]) ∧ Below w.heap.size w w' := by
  refine (parse_num s w hs hn).mono ?_
  rintro e w' ⟨⟨h, _⟩ | ⟨_, rfl⟩, hb⟩
  · omega
  · exact ⟨rfl, hb⟩

/-- The text of 2^128 - 1, and of 2^128. -/
def most : ByteArray := ⟨#[51, 52, 48, 50, 56, 50, 51, 54, 54, 57, 50, 48, 57, 51, 56, 52, 54, 51, 52, 54, 51, 51, 55, 52, 54, 48, 55, 52, 51, 49, 55, 54, 56, 50, 49, 49, 52, 53, 53]⟩
def more : ByteArray := ⟨#[51, 52, 48, 50, 56, 50, 51, 54, 54, 57, 50, 48, 57, 51, 56, 52, 54, 51, 52, 54, 51, 51, 55, 52, 54, 48, 55, 52, 51, 49, 55, 54, 56, 50, 49, 49, 52, 53, 54]⟩
theorem num_most : NumP most := by unfold NumP; decide +kernel
theorem num_more : NumP more := by unfold NumP; decide +kernel
theorem val_most : val most.data.toList = 340282366920938463463374607431768211455 := by kernel_rfl
theorem val_more : val more.data.toList = 340282366920938463463374607431768211456 := by kernel_rfl
theorem num_01 : ¬ NumP ⟨#[48, 49]⟩ := by unfold NumP; decide +kernel
theorem num_nil : ¬ NumP ⟨#[]⟩ := by unfold NumP; decide +kernel
theorem text_most : strOfNums (txt (V 18446744073709551615 18446744073709551615).toNat) = most := by kernel_rfl
theorem text_nought : strOfNums (txt (V 0 0).toNat) = ⟨#[48]⟩ := by kernel_rfl

theorem p1 (w : World) : Calls Try.prog 36 #[.string ⟨#[51, 52, 48, 50, 56, 50, 51, 54, 54, 57, 50, 48, 57, 51, 56, 52, 54, 51, 52, 54, 51, 51, 55, 52, 54, 48, 55, 52, 51, 49, 55, 54, 56, 50, 49, 49, 52, 53, 53]⟩, U 18446744073709551615 18446744073709551615, .int .i64 0] w fun e w' => e = .returned (.bool true) ∧ Below w.heap.size w w' :=
  parses_true most _ _ _ w fun w => parse_yes most _ _ w (by decide) num_most ⟨by decide, by decide⟩ ⟨by decide, by decide⟩ (by rw [val_most]; decide)
theorem p2 (w : World) : Calls Try.prog 36 #[.string ⟨#[51, 52, 48, 50, 56, 50, 51, 54, 54, 57, 50, 48, 57, 51, 56, 52, 54, 51, 52, 54, 51, 51, 55, 52, 54, 48, 55, 52, 51, 49, 55, 54, 56, 50, 49, 49, 52, 53, 54]⟩, U 0 0, .int .i64 15] w fun e w' => e = .returned (.bool true) ∧ Below w.heap.size w w' :=
  parses_true more _ _ _ w fun w => parse_far more w (by decide) num_more (by rw [val_more]; decide)
theorem p3 (w : World) : Calls Try.prog 36 #[.string ⟨#[48, 49]⟩, U 0 0, .int .i64 4] w fun e w' => e = .returned (.bool true) ∧ Below w.heap.size w w' :=
  parses_true ⟨#[48, 49]⟩ _ _ _ w fun w => parse_no _ w (by decide) num_01
theorem p4 (w : World) : Calls Try.prog 36 #[.string ⟨#[]⟩, U 0 0, .int .i64 4] w fun e w' => e = .returned (.bool true) ∧ Below w.heap.size w w' :=
  parses_true ⟨#[]⟩ _ _ _ w fun w => parse_no _ w (by decide) num_nil
/-- Forty ones. -/
def ones : ByteArray := ⟨(Lib.repeatL [49] 40).toArray⟩
theorem p5 (w : World) : Calls Try.prog 36 #[.string ones, U 0 0, .int .i64 3] w fun e w' => e = .returned (.bool true) ∧ Below w.heap.size w w' :=
  parses_true ones _ _ _ w fun w => parse_long _ w (by decide +kernel)
theorem rep40 (w : World) : Calls Try.prog 38 #[.string ⟨#[49]⟩, .int .i64 40] w fun e w' => e = .returned (.string ones) ∧ Below w.heap.size w w' :=
  Try.strings_Repeat ⟨#[49]⟩ 40 w (by decide) (by decide)

/-- The number 2^64 less one. -/
theorem sub_64 (w : World) : Calls Try.prog 11 #[U 1 0, U 0 1] w fun e w' => e = .returned (.tuple #[U 0 18446744073709551615, .bool false]) ∧ Below w.heap.size w w' := by
  refine (sub_ok 1 0 0 1 w ⟨by decide, by decide⟩ word_zero word_zero ⟨by decide, by decide⟩ (by decide)).mono ?_
  rintro e w' ⟨x, y, rfl, ⟨a1, a2⟩, ⟨b1, b2⟩, hv, hb⟩
  have hv := hv.out
  unfold V at hv
  obtain rfl : x = 0 := by omega
  obtain rfl : y = 18446744073709551615 := by omega
  exact ⟨rfl, hb⟩
theorem sub_12 (w : World) : Calls Try.prog 11 #[U 0 1, U 0 2] w fun e w' => e = .returned (.tuple #[U 0 0, .bool true]) ∧ Below w.heap.size w w' :=
  sub_below _ _ _ _ w word_zero ⟨by decide, by decide⟩ word_zero ⟨by decide, by decide⟩ (by decide)
theorem text_top (w : World) : Calls Try.prog 34 #[U 18446744073709551615 18446744073709551615] w fun e w' => e = .returned (.string most) ∧ Below w.heap.size w w' := by
  rw [← text_most]
  exact text_any _ _ w ⟨by decide, by decide⟩ ⟨by decide, by decide⟩
theorem text_0 (w : World) : Calls Try.prog 34 #[U 0 0] w fun e w' => e = .returned (.string ⟨#[48]⟩) ∧ Below w.heap.size w w' := by
  rw [← text_nought]
  exact text_any _ _ w word_zero word_zero

/-- What lies in the variables of U128Known. -/
def KF (A B K L : Nat) (u : World) : Prop := u.cell? ⟨A, 0, none⟩ = some (.int .u64 0) ∧ u.cell? ⟨A, 1, none⟩ = some (.int .u64 18446744073709551615) ∧ u.cell? ⟨B, 0, none⟩ = some (.int .u64 0) ∧ u.cell? ⟨B, 1, none⟩ = some (.int .u64 0) ∧
  u.cell? ⟨K, 14, none⟩ = some (.int .u8 1) ∧ u.cell? ⟨K, 15, none⟩ = some (.int .u8 2) ∧ u.cell? ⟨L, 0, none⟩ = some (.int .u8 2) ∧ u.cell? ⟨L, 1, none⟩ = some (.int .u8 1) ∧ A < u.heap.size ∧ B < u.heap.size ∧ K < u.heap.size ∧ L < u.heap.size
theorem KF.below {A B K L : Nat} {u v : World} (h : KF A B K L u) (hb : Below u.heap.size u v) : KF A B K L v := by
  obtain ⟨a0, a1, b0, b1, k0, k1, l0, l1, zA, zB, zK, zL⟩ := h
  have hz := hb.size
  exact ⟨(hb.cell zA).trans a0, (hb.cell zA).trans a1, (hb.cell zB).trans b0, (hb.cell zB).trans b1, (hb.cell zK).trans k0, (hb.cell zK).trans k1, (hb.cell zL).trans l0, (hb.cell zL).trans l1, by omega, by omega, by omega, by omega⟩

set_option maxRecDepth 100000 in
set_option maxHeartbeats 4000000 in
theorem known_any (w : World) : Calls Try.prog 7 #[] w fun e w' => e = .returned (.bool true) ∧ Below w.heap.size w w' := by
  go_enter Try.func7, Try.ntmps7
  go_wp2_with fail
  refine (of_any 1 _).mono ?_
  rintro e w1 ⟨rfl, hb1⟩
  go_wp2_with fail
  refine (sub_64 _).mono ?_
  rintro e w2 ⟨rfl, hb2⟩
  go_wp2_with fail
  refine (of_any 1 _).mono ?_
  rintro e w3 ⟨rfl, hb3⟩
  go_wp2_with fail
  refine (of_any 2 _).mono ?_
  rintro e w4 ⟨rfl, hb4⟩
  go_wp2_with fail
  refine (sub_12 _).mono ?_
  rintro e w5 ⟨rfl, hb5⟩
  go_wp2_with fail
  refine (of_any 258 _).mono ?_
  rintro e w6 ⟨rfl, hb6⟩
  go_wp2_with fail
  refine (key_any 0 258 _ word_zero ⟨by decide, by decide⟩).mono ?_
  rintro e w7 ⟨rfl, hk, _, hkz, hb7⟩
  go_wp2_with fail
  refine (of_any 258 _).mono ?_
  rintro e w8 ⟨rfl, hb8⟩
  go_wp2_with fail
  refine (bytes_any 0 258 _ word_zero ⟨by decide, by decide⟩).mono ?_
  rintro e w9 ⟨rfl, hb9⟩
  go_wp2_with fail
  have s1 := hb1.size
  have s2 := hb2.size
  have s3 : w2.heap.size + 1 ≤ w3.heap.size := by have := hb3.size; simpa using this
  have s4 := hb4.size
  have s5 := hb5.size
  have s6 : w5.heap.size + 1 ≤ w6.heap.size := by have := hb6.size; simpa using this
  have s7 := hb7.size
  have s8 := hb8.size
  have s9 := hb9.size
  have F : KF w2.heap.size w5.heap.size (w6.heap.size + 1) w9.heap.size (w9.alloc (.cells #[.int .u8 2, .int .u8 1, .int .u8 0, .int .u8 0, .int .u8 0, .int .u8 0, .int .u8 0, .int .u8 0, .int .u8 0, .int .u8 0, .int .u8 0, .int .u8 0, .int .u8 0, .int .u8 0, .int .u8 0, .int .u8 0] 42)) := by
    have p5 : ∀ o, (w9.alloc (.cells #[.int .u8 2, .int .u8 1, .int .u8 0, .int .u8 0, .int .u8 0, .int .u8 0, .int .u8 0, .int .u8 0, .int .u8 0, .int .u8 0, .int .u8 0, .int .u8 0, .int .u8 0, .int .u8 0, .int .u8 0, .int .u8 0] 42)).cell? ⟨w5.heap.size, o, none⟩ = (w5.alloc (.cells #[.int .u64 0, .int .u64 0] 24)).cell? ⟨w5.heap.size, o, none⟩ := by
      intro o
      rw [World.cell?_alloc_past _ _ _ (by omega), hb9.cell (by simp; omega), hb8.cell (by simp; omega), hb7.cell (by simp; omega), hb6.cell (by simp)]
    have p2 : ∀ o, (w9.alloc (.cells #[.int .u8 2, .int .u8 1, .int .u8 0, .int .u8 0, .int .u8 0, .int .u8 0, .int .u8 0, .int .u8 0, .int .u8 0, .int .u8 0, .int .u8 0, .int .u8 0, .int .u8 0, .int .u8 0, .int .u8 0, .int .u8 0] 42)).cell? ⟨w2.heap.size, o, none⟩ = (w2.alloc (.cells #[.int .u64 0, .int .u64 18446744073709551615] 24)).cell? ⟨w2.heap.size, o, none⟩ := by
      intro o
      rw [World.cell?_alloc_past _ _ _ (by omega), hb9.cell (by simp; omega), hb8.cell (by simp; omega), hb7.cell (by simp; omega), hb6.cell (by simp; omega), World.cell?_alloc_past _ _ _ (by omega), hb5.cell (by simp; omega), hb4.cell (by simp; omega), hb3.cell (by simp)]
    refine ⟨?_, ?_, ?_, ?_, ?_, ?_, ?_, ?_, by simp; omega, by simp; omega, by simp; omega, by simp⟩
    · rw [p2]; simp [go_sem]
    · rw [p2]; simp [go_sem]
    · rw [p5]; simp [go_sem]
    · rw [p5]; simp [go_sem]
    · rw [World.cell?_alloc_past _ _ _ (by omega), hb9.cell (by simp; omega), hb8.cell (by simp; omega), hk 14 (by omega)]; rfl
    · rw [World.cell?_alloc_past _ _ _ (by omega), hb9.cell (by simp; omega), hb8.cell (by simp; omega), hk 15 (by omega)]; rfl
    · simp [go_sem]
    · simp [go_sem]
  have HB : Hid (Below w.heap.size w (w9.alloc (.cells #[.int .u8 2, .int .u8 1, .int .u8 0, .int .u8 0, .int .u8 0, .int .u8 0, .int .u8 0, .int .u8 0, .int .u8 0, .int .u8 0, .int .u8 0, .int .u8 0, .int .u8 0, .int .u8 0, .int .u8 0, .int .u8 0] 42))) :=
    ((((((((((hb1.trans (hb2.mono s1)).alloc (by omega) _).trans (hb3.mono (by simp; omega))).trans (hb4.mono (by omega))).trans (hb5.mono (by omega))).alloc (by omega) _).trans (hb6.mono (by simp; omega))).trans (hb7.mono (by omega))).trans (hb8.mono (by omega))).trans (hb9.mono (by omega))).alloc (by omega) _
  have s0 : w.heap.size ≤ w9.heap.size := by omega
  generalize hA : w2.heap.size = A at *
  generalize hB : w5.heap.size = B at *
  generalize hK : w6.heap.size + 1 = K at *
  clear hA hB hK hk hkz hb1 hb2 hb3 hb4 hb5 hb6 hb7 hb8 hb9 s1 s2 s3 s4 s5 s6 s7 s8 s9
  refine (awake_any _).mono ?_
  rintro e w10 ⟨rfl, hb10⟩
  have F10 := F.below hb10
  have HB10 : Hid (Below w.heap.size w w10) := HB.out.trans (hb10.mono (by simp; omega))
  have s10 : w.heap.size ≤ w10.heap.size := HB10.out.size
  clear F HB hb10 s0
  have G : Hid (KF A B K w9.heap.size w10) := F10
  obtain ⟨a0, a1, b0, b1, _, _, _, _, _, _, _, _⟩ := F10
  go_wp2_with fail
  refine (of_any 0 _).mono ?_
  rintro e w11 ⟨rfl, hb11⟩
  clear a0 a1 b0 b1
  have G11 : Hid (KF A B K w9.heap.size w11) := (G.out).below hb11
  have HB11 : Hid (Below w.heap.size w w11) := HB10.out.trans (hb11.mono s10)
  have s11 : w.heap.size ≤ w11.heap.size := HB11.out.size
  clear G HB10 hb11 s10
  go_wp2_with fail
  refine (text_0 _).mono ?_
  rintro e w12 ⟨rfl, hb12⟩
  have G12 : Hid (KF A B K w9.heap.size w12) := (G11.out).below hb12
  have HB12 : Hid (Below w.heap.size w w12) := HB11.out.trans (hb12.mono s11)
  have s12 : w.heap.size ≤ w12.heap.size := HB12.out.size
  clear G11 HB11 hb12 s11
  go_wp2_with fail
  refine (top_any _).mono ?_
  rintro e w13 ⟨rfl, hb13⟩
  have G13 : Hid (KF A B K w9.heap.size w13) := (G12.out).below hb13
  have HB13 : Hid (Below w.heap.size w w13) := HB12.out.trans (hb13.mono s12)
  have s13 : w.heap.size ≤ w13.heap.size := HB13.out.size
  clear G12 HB12 hb13 s12
  go_wp2_with fail
  refine (p1 _).mono ?_
  rintro e w14 ⟨rfl, hb14⟩
  have G14 : Hid (KF A B K w9.heap.size w14) := (G13.out).below hb14
  have HB14 : Hid (Below w.heap.size w w14) := HB13.out.trans (hb14.mono s13)
  have s14 : w.heap.size ≤ w14.heap.size := HB14.out.size
  clear G13 HB13 hb14 s13
  go_wp2_with fail
  refine (p2 _).mono ?_
  rintro e w15 ⟨rfl, hb15⟩
  have G15 : Hid (KF A B K w9.heap.size w15) := (G14.out).below hb15
  have HB15 : Hid (Below w.heap.size w w15) := HB14.out.trans (hb15.mono s14)
  have s15 : w.heap.size ≤ w15.heap.size := HB15.out.size
  clear G14 HB14 hb15 s14
  go_wp2_with fail
  refine (p3 _).mono ?_
  rintro e w16 ⟨rfl, hb16⟩
  have G16 : Hid (KF A B K w9.heap.size w16) := (G15.out).below hb16
  have HB16 : Hid (Below w.heap.size w w16) := HB15.out.trans (hb16.mono s15)
  have s16 : w.heap.size ≤ w16.heap.size := HB16.out.size
  clear G15 HB15 hb16 s15
  go_wp2_with fail
  refine (p4 _).mono ?_
  rintro e w17 ⟨rfl, hb17⟩
  have G17 : Hid (KF A B K w9.heap.size w17) := (G16.out).below hb17
  have HB17 : Hid (Below w.heap.size w w17) := HB16.out.trans (hb17.mono s16)
  have s17 : w.heap.size ≤ w17.heap.size := HB17.out.size
  clear G16 HB16 hb17 s16
  go_wp2_with fail
  refine (rep40 _).mono ?_
  rintro e w18 ⟨rfl, hb18⟩
  have G18 : Hid (KF A B K w9.heap.size w18) := (G17.out).below hb18
  have HB18 : Hid (Below w.heap.size w w18) := HB17.out.trans (hb18.mono s17)
  have s18 : w.heap.size ≤ w18.heap.size := HB18.out.size
  clear G17 HB17 hb18 s17
  go_wp2_with fail
  refine (p5 _).mono ?_
  rintro e w19 ⟨rfl, hb19⟩
  have G19 : Hid (KF A B K w9.heap.size w19) := (G18.out).below hb19
  have HB19 : Hid (Below w.heap.size w w19) := HB18.out.trans (hb19.mono s18)
  have s19 : w.heap.size ≤ w19.heap.size := HB19.out.size
  clear G18 HB18 hb19 s18
  obtain ⟨_, _, _, _, k0, k1, l0, l1, _, _, _, _⟩ := G19.out
  go_wp2_with fail
  refine (top_any _).mono ?_
  rintro e w20 ⟨rfl, hb20⟩
  clear k0 k1 l0 l1
  have HB20 : Hid (Below w.heap.size w w20) := HB19.out.trans (hb20.mono s19)
  have s20 : w.heap.size ≤ w20.heap.size := HB20.out.size
  clear hb20 HB19 s19
  go_wp2_with fail
  refine (text_top _).mono ?_
  rintro e w21 ⟨rfl, hb21⟩
  have HB21 : Hid (Below w.heap.size w w21) := HB20.out.trans (hb21.mono s20)
  unfold most
  go_wp2_with fail
  go_ret
  exact ⟨rfl, HB21.out⟩
end Go.Proofs.Ytkpkehbhgfbckaa
