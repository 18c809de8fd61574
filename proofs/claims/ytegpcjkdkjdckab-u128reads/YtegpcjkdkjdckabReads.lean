/-
  Walks, not a claim by itself: U128Reads comes out true. By the verifier.
-/
import Derived.Test.YtegpcjkdkjdckabReadsParts
namespace Go.Proofs.Ytegpcjkdkjdckab
open Go.RowKit

theorem Row16.from' {w u : World} {b off : Nat} {f : Nat → Int} (h : Row16 w b off f) (hb : Below w.heap.size w u) : Row16 u b off f := h.below hb
theorem parse_text (h l : Int) (w : World) (h1 : Word h) (h2 : Word l) :
    Calls Try.prog 10 #[.string (strOfNums (txt (V h l).toNat))] w fun e w' => e = .returned (.tuple #[U h l, .int .i64 0]) ∧ Below w.heap.size w w' := by
  have n0 : 0 ≤ V h l := by obtain ⟨_, _⟩ := h1; obtain ⟨_, _⟩ := h2; unfold V; omega
  have n1 : V h l < 340282366920938463463374607431768211456 := by obtain ⟨_, _⟩ := h1; obtain ⟨_, _⟩ := h2; unfold V; omega
  refine parse_yes _ h l w ?_ (num_txt _) h1 h2 ?_
  · rw [strOfNums_size]
    exact txt_len 38 _ (by rw [show (10 : Nat) ^ (38 + 1) = 1000000000000000000000000000000000000000 from by decide]; omega)
  · rw [str_list, val_txt]; omega
theorem parse_good (s : ByteArray) (w : World) (hs : s.size ≤ 39) (hn : NumP s) (hv : val s.data.toList < 340282366920938463463374607431768211456) :
    Calls Try.prog 10 #[.string s] w fun e w' => ∃ x y : Int, e = .returned (.tuple #[U x y, .int .i64 0]) ∧ Word x ∧ Word y ∧ Hid (strOfNums (txt (V x y).toNat) = s) ∧ Below w.heap.size w w' := by
  refine (parse_num s w hs hn).mono ?_
  rintro e w' ⟨⟨_, x, y, rfl, hx, hy, hxy⟩ | ⟨ho, _⟩, hb⟩
  · refine ⟨x, y, rfl, hx, hy, ?_, hb⟩
    unfold Hid
    rw [hxy, Int.toNat_natCast]
    exact txt_val s hn
  · omega

set_option maxRecDepth 100000 in
set_option maxHeartbeats 8000000 in
theorem reads_tt (ah al : Int) (b off cap : Nat) (f : Nat → Int) (s : ByteArray) (w : World) (h1 : Word ah) (h2 : Word al) (hR : Row16 w b off f) (hcap : 16 ≤ cap) (hs : s.size ≤ 39) (hn : NumP s) (hval : val s.data.toList < 340282366920938463463374607431768211456) :
    Calls Try.prog 3 #[U ah al, (.slice (some ⟨b, off, none⟩) 16 cap), .string s] w fun e w' => e = .returned (.bool true) ∧ Below w.heap.size w w' := by
  have s1 : (s.size : Int) ≤ 39 := by omega
  have HN : Hid (NumP s) := hn
  have HV : Hid (val s.data.toList < 340282366920938463463374607431768211456) := hval
  clear hn hval
  have HR : Hid (Row16 w b off f) := hR
  clear hR
  have hcut := fun b => cut16 b
  go_enter Try.func3, Try.ntmps3
  go_wp2_with fail
  refine (known_any _).mono ?_
  rintro e w1 ⟨rfl, hb1⟩
  have A1 := (AtW.new w ah al 24).below hb1
  have E1 : Hid (Below w.heap.size w w1) := ((Below.refl _ _).alloc (Nat.le_refl _) _).trans (hb1.mono (by simp))
  clear hb1
  obtain ⟨a0, a1, _, _, az⟩ := id A1
  go_wp2_with fail
  refine (bytes_any ah al _ h1 h2).mono ?_
  rintro e w2 ⟨rfl, hb2⟩
  have A2 := (A1.below hb2).alloc (.cells #[.int .u8 (al % 256), .int .u8 (al / 256 % 256), .int .u8 (al / 65536 % 256), .int .u8 (al / 16777216 % 256), .int .u8 (al / 4294967296 % 256), .int .u8 (al / 1099511627776 % 256), .int .u8 (al / 281474976710656 % 256), .int .u8 (al / 72057594037927936), .int .u8 (ah % 256), .int .u8 (ah / 256 % 256), .int .u8 (ah / 65536 % 256), .int .u8 (ah / 16777216 % 256), .int .u8 (ah / 4294967296 % 256), .int .u8 (ah / 1099511627776 % 256), .int .u8 (ah / 281474976710656 % 256), .int .u8 (ah / 72057594037927936)] 27)
  have E2 : Hid (Below w.heap.size w w2) := E1.out.trans (hb2.mono E1.out.size)
  have E2' : Hid (Below w.heap.size w (w2.alloc (.cells #[.int .u8 (al % 256), .int .u8 (al / 256 % 256), .int .u8 (al / 65536 % 256), .int .u8 (al / 16777216 % 256), .int .u8 (al / 4294967296 % 256), .int .u8 (al / 1099511627776 % 256), .int .u8 (al / 281474976710656 % 256), .int .u8 (al / 72057594037927936), .int .u8 (ah % 256), .int .u8 (ah / 256 % 256), .int .u8 (ah / 65536 % 256), .int .u8 (ah / 16777216 % 256), .int .u8 (ah / 4294967296 % 256), .int .u8 (ah / 1099511627776 % 256), .int .u8 (ah / 281474976710656 % 256), .int .u8 (ah / 72057594037927936)] 27))) := E2.out.alloc E2.out.size _
  obtain ⟨R2, L2⟩ := row_new w2 ah al h1 h2
  have lt1 : w.heap.size < w2.heap.size := Nat.lt_of_lt_of_le az hb2.size
  clear a0 a1 az A1 E1 E2 hb2
  go_wp2_with fail
  refine (read_ok w2.heap.size 0 16 _ _ (by omega) R2).mono ?_
  rintro e w3 ⟨rfl, hb3⟩
  rw [le_hi, le_lo]
  have A3 := (A2.below hb3).alloc (.cells #[.int .u64 ah, .int .u64 al] 24)
  have L3 := (L2.below hb3).alloc (.cells #[.int .u64 ah, .int .u64 al] 24)
  have X3 := AtW.new w3 ah al 24
  have E3 : Hid (Below w.heap.size w w3) := E2'.out.trans (hb3.mono E2'.out.size)
  have E3' : Hid (Below w.heap.size w (w3.alloc (.cells #[.int .u64 ah, .int .u64 al] 24))) := E3.out.alloc E3.out.size _
  have lt2 : w2.heap.size < w3.heap.size := by have := hb3.size; simp at this; omega
  clear A2 L2 R2 E2' E3 hb3
  obtain ⟨a0, a1, _, _, az⟩ := id A3
  go_wp2_with fail
  refine (key_any ah al _ h1 h2).mono ?_
  rintro e w4 ⟨rfl, hk4, _, hz4, hb4⟩
  rw [World.size_alloc] at hk4 hz4
  have R4 : Row16 w4 (w3.heap.size + 1 + 1) 0 (fun j => (bytesL ah al).getD (15 - j) 0) := ⟨fun j hj => by rw [Nat.zero_add]; exact hk4 j hj, fun j hj => bytes_byt ah al h1 h2 (15 - j) (by omega), hz4⟩
  have A4 := A3.below hb4
  have L4 := L3.below hb4
  have X4 := X3.below hb4
  have E4 : Hid (Below w.heap.size w w4) := E3'.out.trans (hb4.mono E3'.out.size)
  clear a0 a1 az A3 L3 X3 E3' hk4 hz4
  go_wp2_with fail
  refine (readkey_ok (w3.heap.size + 1 + 1) 0 16 _ _ R4).mono ?_
  rintro e w5 ⟨rfl, hb5⟩
  rw [ke_hi, ke_lo]
  have A5 := (A4.below hb5).alloc (.cells #[.int .u64 ah, .int .u64 al] 24)
  have L5 := (L4.below hb5).alloc (.cells #[.int .u64 ah, .int .u64 al] 24)
  have X5 := (X4.below hb5).alloc (.cells #[.int .u64 ah, .int .u64 al] 24)
  have Y5 := AtW.new w5 ah al 24
  have E5 : Hid (Below w.heap.size w w5) := E4.out.trans (hb5.mono E4.out.size)
  have E5' : Hid (Below w.heap.size w (w5.alloc (.cells #[.int .u64 ah, .int .u64 al] 24))) := E5.out.alloc E5.out.size _
  have lt3 : w3.heap.size < w5.heap.size := by have := hb5.size; have := X4.2.2.2.2; omega
  clear A4 L4 X4 E4 E5 R4 hb4 hb5
  obtain ⟨a0, a1, _, _, az⟩ := id A5
  go_wp2_with fail
  refine (text_any ah al _ h1 h2).mono ?_
  rintro e w6 ⟨rfl, hb6⟩
  have A6 := A5.below hb6
  have L6 := L5.below hb6
  have X6 := X5.below hb6
  have Y6 := Y5.below hb6
  have E6 : Hid (Below w.heap.size w w6) := E5'.out.trans (hb6.mono E5'.out.size)
  have lt4 : w5.heap.size < w6.heap.size := Y6.2.2.2.2
  clear a0 a1 az A5 L5 X5 Y5 E5' hb6
  go_wp2_with fail
  refine (parse_text ah al _ h1 h2).mono ?_
  rintro e w7 ⟨rfl, hb7⟩
  have A7 := (A6.below hb7).alloc (.cells #[.int .u64 ah, .int .u64 al] 24)
  have L7 := (L6.below hb7).alloc (.cells #[.int .u64 ah, .int .u64 al] 24)
  have X7 := (X6.below hb7).alloc (.cells #[.int .u64 ah, .int .u64 al] 24)
  have Y7 := (Y6.below hb7).alloc (.cells #[.int .u64 ah, .int .u64 al] 24)
  have Z7 := AtW.new w7 ah al 24
  have E7 : Hid (Below w.heap.size w w7) := E6.out.trans (hb7.mono E6.out.size)
  have E7' : Hid (Below w.heap.size w (w7.alloc (.cells #[.int .u64 ah, .int .u64 al] 24))) := E7.out.alloc E7.out.size _
  have lt5 : w5.heap.size < w7.heap.size := Nat.lt_of_lt_of_le lt4 hb7.size
  clear A6 L6 X6 Y6 E6 E7 hb7 lt4
  obtain ⟨a0, a1, _, _, az⟩ := id A7
  obtain ⟨x0, x1, _, _, xz⟩ := id X7
  obtain ⟨y0, y1, _, _, yz⟩ := id Y7
  obtain ⟨z0, z1, _, _, zz⟩ := id Z7
  go_wp2_with fail
  refine (read_ok b off cap f _ hcap (HR.out.from' E7'.out)).mono ?_
  rintro e w8 ⟨rfl, hb8⟩
  have wx1 : Word (le8 fun j => f (8 + j)) := le8_word _ (fun j hj => HR.out.2.1 (8 + j) (by omega))
  have wx2 : Word (le8 f) := le8_word _ (fun j hj => HR.out.2.1 j (by omega))
  have wy1 : Word (le8 fun j => f (7 - j)) := le8_word _ (fun j hj => HR.out.2.1 (7 - j) (by omega))
  have wy2 : Word (le8 fun j => f (15 - j)) := le8_word _ (fun j hj => HR.out.2.1 (15 - j) (by omega))
  have BB : Hid (∀ j, j < 16 → (bytesL (le8 fun j => f (8 + j)) (le8 f)).getD j 0 = f j) := bytes_back f HR.out.2.1
  have KB : Hid (∀ j, j < 16 → (bytesL (le8 fun j => f (7 - j)) (le8 fun j => f (15 - j))).getD (15 - j) 0 = f j) := fun j hj => key_back f HR.out.2.1 j hj
  generalize (le8 fun j => f (8 + j)) = xh at wx1 BB ⊢
  generalize (le8 f) = xl at wx2 BB ⊢
  have A8 := A7.below hb8
  have L8 := L7.below hb8
  have X8 := X7.below hb8
  have Y8 := Y7.below hb8
  have Z8 := Z7.below hb8
  have E8 : Hid (Below w.heap.size w w8) := E7'.out.trans (hb8.mono E7'.out.size)
  clear a0 a1 az x0 x1 xz y0 y1 yz z0 z1 zz A7 L7 X7 Y7 Z7 E7' hb8
  obtain ⟨x0, x1, x2, x3, xz⟩ := id X8
  have L9 := (L8.set w3.heap.size 0 (.int .u64 xh) (by omega)).set w3.heap.size 1 (.int .u64 xl) (by omega)
  have X9 := X8.set xh xl
  have Y9 := (Y8.other w3.heap.size 0 (.int .u64 xh) (by omega)).other w3.heap.size 1 (.int .u64 xl) (by omega)
  have Z9 := (Z8.other w3.heap.size 0 (.int .u64 xh) (by omega)).other w3.heap.size 1 (.int .u64 xl) (by omega)
  have E9 : Hid (Below w.heap.size w ((w8.setCell ⟨w3.heap.size, 0, none⟩ (.int .u64 xh)).setCell ⟨w3.heap.size, 1, none⟩ (.int .u64 xl))) := (E8.out.setCell (p := ⟨w3.heap.size, 0, none⟩) (by simp; omega) _).setCell (p := ⟨w3.heap.size, 1, none⟩) (by simp; omega) _
  clear A8 L8 X8 Y8 Z8 E8
  go_wp2_with fail
  refine (readkey_ok b off cap f _ (HR.out.from' E9.out)).mono ?_
  rintro e w10 ⟨rfl, hb10⟩
  generalize (le8 fun j => f (7 - j)) = yh at wy1 KB ⊢
  generalize (le8 fun j => f (15 - j)) = yl at wy2 KB ⊢
  have L10 := L9.below hb10
  have X10 := X9.below hb10
  have Y10 := Y9.below hb10
  have Z10 := Z9.below hb10
  have E10 : Hid (Below w.heap.size w w10) := E9.out.trans (hb10.mono E9.out.size)
  clear x0 x1 x2 x3 xz L9 X9 Y9 Z9 E9 hb10
  obtain ⟨y0, y1, y2, y3, yz⟩ := id Y10
  have L11 := (L10.set w5.heap.size 0 (.int .u64 yh) (by omega)).set w5.heap.size 1 (.int .u64 yl) (by omega)
  have Y11 := Y10.set yh yl
  have X11 := (X10.other w5.heap.size 0 (.int .u64 yh) (by omega)).other w5.heap.size 1 (.int .u64 yl) (by omega)
  have Z11 := (Z10.other w5.heap.size 0 (.int .u64 yh) (by omega)).other w5.heap.size 1 (.int .u64 yl) (by omega)
  have E11 : Hid (Below w.heap.size w ((w10.setCell ⟨w5.heap.size, 0, none⟩ (.int .u64 yh)).setCell ⟨w5.heap.size, 1, none⟩ (.int .u64 yl))) := (E10.out.setCell (p := ⟨w5.heap.size, 0, none⟩) (by simp; omega) _).setCell (p := ⟨w5.heap.size, 1, none⟩) (by simp; omega) _
  clear L10 X10 Y10 Z10 E10
  go_wp2_with fail
  refine (parse_good s _ hs HN.out HV.out).mono ?_
  rintro e w12 ⟨zh, zl, rfl, wz1, wz2, hz, hb12⟩
  have L12 := L11.below hb12
  have X12 := X11.below hb12
  have Y12 := Y11.below hb12
  have Z12 := Z11.below hb12
  have E12 : Hid (Below w.heap.size w w12) := E11.out.trans (hb12.mono E11.out.size)
  clear y0 y1 y2 y3 yz L11 X11 Y11 Z11 E11 hb12
  obtain ⟨z0, z1, z2, z3, zz⟩ := id Z12
  have L13 := (L12.set w7.heap.size 0 (.int .u64 zh) (by omega)).set w7.heap.size 1 (.int .u64 zl) (by omega)
  have Z13 := Z12.set zh zl
  have X13 := (X12.other w7.heap.size 0 (.int .u64 zh) (by omega)).other w7.heap.size 1 (.int .u64 zl) (by omega)
  have Y13 := (Y12.other w7.heap.size 0 (.int .u64 zh) (by omega)).other w7.heap.size 1 (.int .u64 zl) (by omega)
  have E13 : Hid (Below w.heap.size w ((w12.setCell ⟨w7.heap.size, 0, none⟩ (.int .u64 zh)).setCell ⟨w7.heap.size, 1, none⟩ (.int .u64 zl))) := (E12.out.setCell (p := ⟨w7.heap.size, 0, none⟩) (by simp; omega) _).setCell (p := ⟨w7.heap.size, 1, none⟩) (by simp; omega) _
  clear L12 X12 Y12 Z12 E12
  obtain ⟨x0, x1, _, _, xz⟩ := id X13
  go_wp2_with fail
  refine (bytes_any xh xl _ wx1 wx2).mono ?_
  rintro e w14 ⟨rfl, hb14⟩
  have L14 := L13.below hb14
  have Y14 := Y13.below hb14
  have Z14 := Z13.below hb14
  have E14 : Hid (Below w.heap.size w w14) := E13.out.trans (hb14.mono E13.out.size)
  clear x0 x1 xz z0 z1 z2 z3 zz L13 X13 Y13 Z13 E13 hb14
  go_wp2_with (refine wpList_store_op rfl 27 (.tmp 8) (.tmp 87) rfl w2.heap.size 0 _ rfl rfl L14.1 (by kernel_rfl) (all16 _ _ _ _ _ _ _ _ _ _ _ _ _ _ _ _) ?_; intro W15 hW15; obtain ⟨R15, Y15, Z15, E15'⟩ := store_facts xh xl L14 Y14 Z14 E14.out (Nat.le_of_lt lt1) (by omega) (by omega) hW15.out; have E15 : Hid (Below w.heap.size w W15) := E15'; clear hW15 E15' L14 Y14 Z14 E14)
  refine (same_true w2.heap.size b 0 off 16 cap _ f _ R15 (HR.out.from' E15.out).1 BB.out).mono ?_
  rintro e w16 ⟨rfl, hw16⟩
  rw [hw16]
  clear hw16 w16 R15
  obtain ⟨y0, y1, _, _, yz⟩ := id Y15
  go_wp2_with fail
  refine (key_any yh yl _ wy1 wy2).mono ?_
  rintro e w17 ⟨rfl, hk17, _, hz17, hb17⟩
  have Z17 := Z15.below hb17
  have E17 : Hid (Below w.heap.size w w17) := E15.out.trans (hb17.mono E15.out.size)
  clear y0 y1 yz Y15 Z15 E15 hb17
  go_wp2_with fail
  refine (same_true (W15.heap.size + 1) b 0 off 16 cap (fun j => (bytesL yh yl).getD (15 - j) 0) f _ (fun j hj => by rw [Nat.zero_add]; exact hk17 j hj) (HR.out.from' E17.out).1 KB.out).mono ?_
  rintro e w18 ⟨rfl, hw18⟩
  rw [hw18]
  clear hw18 w18 hk17 hz17
  obtain ⟨z0, z1, _, _, zz⟩ := Z17
  go_wp2_with fail
  refine (text_any zh zl _ wz1 wz2).mono ?_
  rintro e w19 ⟨rfl, hb19⟩
  rw [hz.out]
  go_wp2_with fail
  go_ret
  exact ⟨rfl, E17.out.trans (hb19.mono E17.out.size)⟩

set_option maxRecDepth 100000 in
set_option maxHeartbeats 8000000 in
theorem reads_ft (ah al : Int) (ad : Option Addr) (len cap : Nat) (s : ByteArray) (w : World) (h1 : Word ah) (h2 : Word al) (hlen : len ≠ 16) (hle : len ≤ 1000) (hs : s.size ≤ 39) (hn : NumP s) (hval : val s.data.toList < 340282366920938463463374607431768211456) :
    Calls Try.prog 3 #[U ah al, (.slice ad len cap), .string s] w fun e w' => e = .returned (.bool true) ∧ Below w.heap.size w w' := by
  have s1 : (s.size : Int) ≤ 39 := by omega
  have HN : Hid (NumP s) := hn
  have HV : Hid (val s.data.toList < 340282366920938463463374607431768211456) := hval
  clear hn hval
  have s2 : (len : Int) ≤ 1000 := by omega
  have hcut := fun b => cut16 b
  go_enter Try.func3, Try.ntmps3
  go_wp2_with fail
  refine (known_any _).mono ?_
  rintro e w1 ⟨rfl, hb1⟩
  have A1 := (AtW.new w ah al 24).below hb1
  have E1 : Hid (Below w.heap.size w w1) := ((Below.refl _ _).alloc (Nat.le_refl _) _).trans (hb1.mono (by simp))
  clear hb1
  obtain ⟨a0, a1, _, _, az⟩ := id A1
  go_wp2_with fail
  refine (bytes_any ah al _ h1 h2).mono ?_
  rintro e w2 ⟨rfl, hb2⟩
  have A2 := (A1.below hb2).alloc (.cells #[.int .u8 (al % 256), .int .u8 (al / 256 % 256), .int .u8 (al / 65536 % 256), .int .u8 (al / 16777216 % 256), .int .u8 (al / 4294967296 % 256), .int .u8 (al / 1099511627776 % 256), .int .u8 (al / 281474976710656 % 256), .int .u8 (al / 72057594037927936), .int .u8 (ah % 256), .int .u8 (ah / 256 % 256), .int .u8 (ah / 65536 % 256), .int .u8 (ah / 16777216 % 256), .int .u8 (ah / 4294967296 % 256), .int .u8 (ah / 1099511627776 % 256), .int .u8 (ah / 281474976710656 % 256), .int .u8 (ah / 72057594037927936)] 27)
  have E2 : Hid (Below w.heap.size w w2) := E1.out.trans (hb2.mono E1.out.size)
  have E2' : Hid (Below w.heap.size w (w2.alloc (.cells #[.int .u8 (al % 256), .int .u8 (al / 256 % 256), .int .u8 (al / 65536 % 256), .int .u8 (al / 16777216 % 256), .int .u8 (al / 4294967296 % 256), .int .u8 (al / 1099511627776 % 256), .int .u8 (al / 281474976710656 % 256), .int .u8 (al / 72057594037927936), .int .u8 (ah % 256), .int .u8 (ah / 256 % 256), .int .u8 (ah / 65536 % 256), .int .u8 (ah / 16777216 % 256), .int .u8 (ah / 4294967296 % 256), .int .u8 (ah / 1099511627776 % 256), .int .u8 (ah / 281474976710656 % 256), .int .u8 (ah / 72057594037927936)] 27))) := E2.out.alloc E2.out.size _
  obtain ⟨R2, L2⟩ := row_new w2 ah al h1 h2
  have lt1 : w.heap.size < w2.heap.size := Nat.lt_of_lt_of_le az hb2.size
  clear a0 a1 az A1 E1 E2 hb2
  go_wp2_with fail
  refine (read_ok w2.heap.size 0 16 _ _ (by omega) R2).mono ?_
  rintro e w3 ⟨rfl, hb3⟩
  rw [le_hi, le_lo]
  have A3 := (A2.below hb3).alloc (.cells #[.int .u64 ah, .int .u64 al] 24)
  have L3 := (L2.below hb3).alloc (.cells #[.int .u64 ah, .int .u64 al] 24)
  have X3 := AtW.new w3 ah al 24
  have E3 : Hid (Below w.heap.size w w3) := E2'.out.trans (hb3.mono E2'.out.size)
  have E3' : Hid (Below w.heap.size w (w3.alloc (.cells #[.int .u64 ah, .int .u64 al] 24))) := E3.out.alloc E3.out.size _
  have lt2 : w2.heap.size < w3.heap.size := by have := hb3.size; simp at this; omega
  clear A2 L2 R2 E2' E3 hb3
  obtain ⟨a0, a1, _, _, az⟩ := id A3
  go_wp2_with fail
  refine (key_any ah al _ h1 h2).mono ?_
  rintro e w4 ⟨rfl, hk4, _, hz4, hb4⟩
  rw [World.size_alloc] at hk4 hz4
  have R4 : Row16 w4 (w3.heap.size + 1 + 1) 0 (fun j => (bytesL ah al).getD (15 - j) 0) := ⟨fun j hj => by rw [Nat.zero_add]; exact hk4 j hj, fun j hj => bytes_byt ah al h1 h2 (15 - j) (by omega), hz4⟩
  have A4 := A3.below hb4
  have L4 := L3.below hb4
  have X4 := X3.below hb4
  have E4 : Hid (Below w.heap.size w w4) := E3'.out.trans (hb4.mono E3'.out.size)
  clear a0 a1 az A3 L3 X3 E3' hk4 hz4
  go_wp2_with fail
  refine (readkey_ok (w3.heap.size + 1 + 1) 0 16 _ _ R4).mono ?_
  rintro e w5 ⟨rfl, hb5⟩
  rw [ke_hi, ke_lo]
  have A5 := (A4.below hb5).alloc (.cells #[.int .u64 ah, .int .u64 al] 24)
  have L5 := (L4.below hb5).alloc (.cells #[.int .u64 ah, .int .u64 al] 24)
  have X5 := (X4.below hb5).alloc (.cells #[.int .u64 ah, .int .u64 al] 24)
  have Y5 := AtW.new w5 ah al 24
  have E5 : Hid (Below w.heap.size w w5) := E4.out.trans (hb5.mono E4.out.size)
  have E5' : Hid (Below w.heap.size w (w5.alloc (.cells #[.int .u64 ah, .int .u64 al] 24))) := E5.out.alloc E5.out.size _
  have lt3 : w3.heap.size < w5.heap.size := by have := hb5.size; have := X4.2.2.2.2; omega
  clear A4 L4 X4 E4 E5 R4 hb4 hb5
  obtain ⟨a0, a1, _, _, az⟩ := id A5
  go_wp2_with fail
  refine (text_any ah al _ h1 h2).mono ?_
  rintro e w6 ⟨rfl, hb6⟩
  have A6 := A5.below hb6
  have L6 := L5.below hb6
  have X6 := X5.below hb6
  have Y6 := Y5.below hb6
  have E6 : Hid (Below w.heap.size w w6) := E5'.out.trans (hb6.mono E5'.out.size)
  have lt4 : w5.heap.size < w6.heap.size := Y6.2.2.2.2
  clear a0 a1 az A5 L5 X5 Y5 E5' hb6
  go_wp2_with fail
  refine (parse_text ah al _ h1 h2).mono ?_
  rintro e w7 ⟨rfl, hb7⟩
  have A7 := (A6.below hb7).alloc (.cells #[.int .u64 ah, .int .u64 al] 24)
  have L7 := (L6.below hb7).alloc (.cells #[.int .u64 ah, .int .u64 al] 24)
  have X7 := (X6.below hb7).alloc (.cells #[.int .u64 ah, .int .u64 al] 24)
  have Y7 := (Y6.below hb7).alloc (.cells #[.int .u64 ah, .int .u64 al] 24)
  have Z7 := AtW.new w7 ah al 24
  have E7 : Hid (Below w.heap.size w w7) := E6.out.trans (hb7.mono E6.out.size)
  have E7' : Hid (Below w.heap.size w (w7.alloc (.cells #[.int .u64 ah, .int .u64 al] 24))) := E7.out.alloc E7.out.size _
  have lt5 : w5.heap.size < w7.heap.size := Nat.lt_of_lt_of_le lt4 hb7.size
  clear A6 L6 X6 Y6 E6 E7 hb7 lt4
  obtain ⟨a0, a1, _, _, az⟩ := id A7
  obtain ⟨x0, x1, _, _, xz⟩ := id X7
  obtain ⟨y0, y1, _, _, yz⟩ := id Y7
  obtain ⟨z0, z1, _, _, zz⟩ := id Z7
  go_wp2_with fail
  refine (read_no ad len cap _ hlen).mono ?_
  rintro e w8 ⟨rfl, hb8⟩
  have A8 := A7.below hb8
  have L8 := L7.below hb8
  have X8 := X7.below hb8
  have Y8 := Y7.below hb8
  have Z8 := Z7.below hb8
  have E8 : Hid (Below w.heap.size w w8) := E7'.out.trans (hb8.mono E7'.out.size)
  clear a0 a1 az x0 x1 xz y0 y1 yz z0 z1 zz A7 L7 X7 Y7 Z7 E7' hb8
  obtain ⟨x0, x1, x2, x3, xz⟩ := id X8
  have L9 := (L8.set w3.heap.size 0 (.int .u64 0) (by omega)).set w3.heap.size 1 (.int .u64 0) (by omega)
  have X9 := X8.set 0 0
  have Y9 := (Y8.other w3.heap.size 0 (.int .u64 0) (by omega)).other w3.heap.size 1 (.int .u64 0) (by omega)
  have Z9 := (Z8.other w3.heap.size 0 (.int .u64 0) (by omega)).other w3.heap.size 1 (.int .u64 0) (by omega)
  have E9 : Hid (Below w.heap.size w ((w8.setCell ⟨w3.heap.size, 0, none⟩ (.int .u64 0)).setCell ⟨w3.heap.size, 1, none⟩ (.int .u64 0))) := (E8.out.setCell (p := ⟨w3.heap.size, 0, none⟩) (by simp; omega) _).setCell (p := ⟨w3.heap.size, 1, none⟩) (by simp; omega) _
  clear A8 L8 X8 Y8 Z8 E8
  go_wp2_with fail
  refine (readkey_no ad len cap _ hlen).mono ?_
  rintro e w10 ⟨rfl, hb10⟩
  have L10 := L9.below hb10
  have X10 := X9.below hb10
  have Y10 := Y9.below hb10
  have Z10 := Z9.below hb10
  have E10 : Hid (Below w.heap.size w w10) := E9.out.trans (hb10.mono E9.out.size)
  clear x0 x1 x2 x3 xz L9 X9 Y9 Z9 E9 hb10
  obtain ⟨y0, y1, y2, y3, yz⟩ := id Y10
  have L11 := (L10.set w5.heap.size 0 (.int .u64 0) (by omega)).set w5.heap.size 1 (.int .u64 0) (by omega)
  have Y11 := Y10.set 0 0
  have X11 := (X10.other w5.heap.size 0 (.int .u64 0) (by omega)).other w5.heap.size 1 (.int .u64 0) (by omega)
  have Z11 := (Z10.other w5.heap.size 0 (.int .u64 0) (by omega)).other w5.heap.size 1 (.int .u64 0) (by omega)
  have E11 : Hid (Below w.heap.size w ((w10.setCell ⟨w5.heap.size, 0, none⟩ (.int .u64 0)).setCell ⟨w5.heap.size, 1, none⟩ (.int .u64 0))) := (E10.out.setCell (p := ⟨w5.heap.size, 0, none⟩) (by simp; omega) _).setCell (p := ⟨w5.heap.size, 1, none⟩) (by simp; omega) _
  clear L10 X10 Y10 Z10 E10
  go_wp2_with fail
  refine (parse_good s _ hs HN.out HV.out).mono ?_
  rintro e w12 ⟨zh, zl, rfl, wz1, wz2, hz, hb12⟩
  have L12 := L11.below hb12
  have X12 := X11.below hb12
  have Y12 := Y11.below hb12
  have Z12 := Z11.below hb12
  have E12 : Hid (Below w.heap.size w w12) := E11.out.trans (hb12.mono E11.out.size)
  clear y0 y1 y2 y3 yz L11 X11 Y11 Z11 E11 hb12
  obtain ⟨z0, z1, z2, z3, zz⟩ := id Z12
  have L13 := (L12.set w7.heap.size 0 (.int .u64 zh) (by omega)).set w7.heap.size 1 (.int .u64 zl) (by omega)
  have Z13 := Z12.set zh zl
  have X13 := (X12.other w7.heap.size 0 (.int .u64 zh) (by omega)).other w7.heap.size 1 (.int .u64 zl) (by omega)
  have Y13 := (Y12.other w7.heap.size 0 (.int .u64 zh) (by omega)).other w7.heap.size 1 (.int .u64 zl) (by omega)
  have E13 : Hid (Below w.heap.size w ((w12.setCell ⟨w7.heap.size, 0, none⟩ (.int .u64 zh)).setCell ⟨w7.heap.size, 1, none⟩ (.int .u64 zl))) := (E12.out.setCell (p := ⟨w7.heap.size, 0, none⟩) (by simp; omega) _).setCell (p := ⟨w7.heap.size, 1, none⟩) (by simp; omega) _
  clear L12 X12 Y12 Z12 E12
  obtain ⟨x0, x1, _, _, xz⟩ := id X13
  go_wp2_with fail
  refine (bytes_any 0 0 _ word_zero word_zero).mono ?_
  rintro e w14 ⟨rfl, hb14⟩
  have L14 := L13.below hb14
  have Y14 := Y13.below hb14
  have Z14 := Z13.below hb14
  have E14 : Hid (Below w.heap.size w w14) := E13.out.trans (hb14.mono E13.out.size)
  clear x0 x1 xz z0 z1 z2 z3 zz L13 X13 Y13 Z13 E13 hb14
  go_wp2_with (refine wpList_store_op rfl 27 (.tmp 8) (.tmp 87) rfl w2.heap.size 0 _ rfl rfl L14.1 (by kernel_rfl) (all16 _ _ _ _ _ _ _ _ _ _ _ _ _ _ _ _) ?_; intro W15 hW15; obtain ⟨R15, Y15, Z15, E15'⟩ := store_facts 0 0 L14 Y14 Z14 E14.out (Nat.le_of_lt lt1) (by omega) (by omega) hW15.out; have E15 : Hid (Below w.heap.size w W15) := E15'; clear hW15 E15' L14 Y14 Z14 E14; obtain ⟨z0, z1, _, _, zz⟩ := Z15)
  refine (text_any zh zl _ wz1 wz2).mono ?_
  rintro e w19 ⟨rfl, hb19⟩
  rw [hz.out]
  go_wp2_with fail
  go_ret
  exact ⟨rfl, E15.out.trans (hb19.mono E15.out.size)⟩

set_option maxRecDepth 100000 in
set_option maxHeartbeats 8000000 in
theorem reads_tf (ah al : Int) (b off cap : Nat) (f : Nat → Int) (s : ByteArray) (w : World) (h1 : Word ah) (h2 : Word al) (hR : Row16 w b off f) (hcap : 16 ≤ cap) (hs : s.size ≤ 1000) (hbad : ∀ u, Calls Try.prog 10 #[.string s] u fun e w' => ∃ c : Int, e = .returned (.tuple #[U 0 0, .int .i64 c]) ∧ (c != 0) = true ∧ Below u.heap.size u w') :
    Calls Try.prog 3 #[U ah al, (.slice (some ⟨b, off, none⟩) 16 cap), .string s] w fun e w' => e = .returned (.bool true) ∧ Below w.heap.size w w' := by
  have s1 : (s.size : Int) ≤ 1000 := by omega
  have HBad : Hid (∀ u, Calls Try.prog 10 #[.string s] u fun e w' => ∃ c : Int, e = .returned (.tuple #[U 0 0, .int .i64 c]) ∧ (c != 0) = true ∧ Below u.heap.size u w') := hbad
  clear hbad
  have HR : Hid (Row16 w b off f) := hR
  clear hR
  have hcut := fun b => cut16 b
  go_enter Try.func3, Try.ntmps3
  go_wp2_with fail
  refine (known_any _).mono ?_
  rintro e w1 ⟨rfl, hb1⟩
  have A1 := (AtW.new w ah al 24).below hb1
  have E1 : Hid (Below w.heap.size w w1) := ((Below.refl _ _).alloc (Nat.le_refl _) _).trans (hb1.mono (by simp))
  clear hb1
  obtain ⟨a0, a1, _, _, az⟩ := id A1
  go_wp2_with fail
  refine (bytes_any ah al _ h1 h2).mono ?_
  rintro e w2 ⟨rfl, hb2⟩
  have A2 := (A1.below hb2).alloc (.cells #[.int .u8 (al % 256), .int .u8 (al / 256 % 256), .int .u8 (al / 65536 % 256), .int .u8 (al / 16777216 % 256), .int .u8 (al / 4294967296 % 256), .int .u8 (al / 1099511627776 % 256), .int .u8 (al / 281474976710656 % 256), .int .u8 (al / 72057594037927936), .int .u8 (ah % 256), .int .u8 (ah / 256 % 256), .int .u8 (ah / 65536 % 256), .int .u8 (ah / 16777216 % 256), .int .u8 (ah / 4294967296 % 256), .int .u8 (ah / 1099511627776 % 256), .int .u8 (ah / 281474976710656 % 256), .int .u8 (ah / 72057594037927936)] 27)
  have E2 : Hid (Below w.heap.size w w2) := E1.out.trans (hb2.mono E1.out.size)
  have E2' : Hid (Below w.heap.size w (w2.alloc (.cells #[.int .u8 (al % 256), .int .u8 (al / 256 % 256), .int .u8 (al / 65536 % 256), .int .u8 (al / 16777216 % 256), .int .u8 (al / 4294967296 % 256), .int .u8 (al / 1099511627776 % 256), .int .u8 (al / 281474976710656 % 256), .int .u8 (al / 72057594037927936), .int .u8 (ah % 256), .int .u8 (ah / 256 % 256), .int .u8 (ah / 65536 % 256), .int .u8 (ah / 16777216 % 256), .int .u8 (ah / 4294967296 % 256), .int .u8 (ah / 1099511627776 % 256), .int .u8 (ah / 281474976710656 % 256), .int .u8 (ah / 72057594037927936)] 27))) := E2.out.alloc E2.out.size _
  obtain ⟨R2, L2⟩ := row_new w2 ah al h1 h2
  have lt1 : w.heap.size < w2.heap.size := Nat.lt_of_lt_of_le az hb2.size
  clear a0 a1 az A1 E1 E2 hb2
  go_wp2_with fail
  refine (read_ok w2.heap.size 0 16 _ _ (by omega) R2).mono ?_
  rintro e w3 ⟨rfl, hb3⟩
  rw [le_hi, le_lo]
  have A3 := (A2.below hb3).alloc (.cells #[.int .u64 ah, .int .u64 al] 24)
  have L3 := (L2.below hb3).alloc (.cells #[.int .u64 ah, .int .u64 al] 24)
  have X3 := AtW.new w3 ah al 24
  have E3 : Hid (Below w.heap.size w w3) := E2'.out.trans (hb3.mono E2'.out.size)
  have E3' : Hid (Below w.heap.size w (w3.alloc (.cells #[.int .u64 ah, .int .u64 al] 24))) := E3.out.alloc E3.out.size _
  have lt2 : w2.heap.size < w3.heap.size := by have := hb3.size; simp at this; omega
  clear A2 L2 R2 E2' E3 hb3
  obtain ⟨a0, a1, _, _, az⟩ := id A3
  go_wp2_with fail
  refine (key_any ah al _ h1 h2).mono ?_
  rintro e w4 ⟨rfl, hk4, _, hz4, hb4⟩
  rw [World.size_alloc] at hk4 hz4
  have R4 : Row16 w4 (w3.heap.size + 1 + 1) 0 (fun j => (bytesL ah al).getD (15 - j) 0) := ⟨fun j hj => by rw [Nat.zero_add]; exact hk4 j hj, fun j hj => bytes_byt ah al h1 h2 (15 - j) (by omega), hz4⟩
  have A4 := A3.below hb4
  have L4 := L3.below hb4
  have X4 := X3.below hb4
  have E4 : Hid (Below w.heap.size w w4) := E3'.out.trans (hb4.mono E3'.out.size)
  clear a0 a1 az A3 L3 X3 E3' hk4 hz4
  go_wp2_with fail
  refine (readkey_ok (w3.heap.size + 1 + 1) 0 16 _ _ R4).mono ?_
  rintro e w5 ⟨rfl, hb5⟩
  rw [ke_hi, ke_lo]
  have A5 := (A4.below hb5).alloc (.cells #[.int .u64 ah, .int .u64 al] 24)
  have L5 := (L4.below hb5).alloc (.cells #[.int .u64 ah, .int .u64 al] 24)
  have X5 := (X4.below hb5).alloc (.cells #[.int .u64 ah, .int .u64 al] 24)
  have Y5 := AtW.new w5 ah al 24
  have E5 : Hid (Below w.heap.size w w5) := E4.out.trans (hb5.mono E4.out.size)
  have E5' : Hid (Below w.heap.size w (w5.alloc (.cells #[.int .u64 ah, .int .u64 al] 24))) := E5.out.alloc E5.out.size _
  have lt3 : w3.heap.size < w5.heap.size := by have := hb5.size; have := X4.2.2.2.2; omega
  clear A4 L4 X4 E4 E5 R4 hb4 hb5
  obtain ⟨a0, a1, _, _, az⟩ := id A5
  go_wp2_with fail
  refine (text_any ah al _ h1 h2).mono ?_
  rintro e w6 ⟨rfl, hb6⟩
  have A6 := A5.below hb6
  have L6 := L5.below hb6
  have X6 := X5.below hb6
  have Y6 := Y5.below hb6
  have E6 : Hid (Below w.heap.size w w6) := E5'.out.trans (hb6.mono E5'.out.size)
  have lt4 : w5.heap.size < w6.heap.size := Y6.2.2.2.2
  clear a0 a1 az A5 L5 X5 Y5 E5' hb6
  go_wp2_with fail
  refine (parse_text ah al _ h1 h2).mono ?_
  rintro e w7 ⟨rfl, hb7⟩
  have A7 := (A6.below hb7).alloc (.cells #[.int .u64 ah, .int .u64 al] 24)
  have L7 := (L6.below hb7).alloc (.cells #[.int .u64 ah, .int .u64 al] 24)
  have X7 := (X6.below hb7).alloc (.cells #[.int .u64 ah, .int .u64 al] 24)
  have Y7 := (Y6.below hb7).alloc (.cells #[.int .u64 ah, .int .u64 al] 24)
  have Z7 := AtW.new w7 ah al 24
  have E7 : Hid (Below w.heap.size w w7) := E6.out.trans (hb7.mono E6.out.size)
  have E7' : Hid (Below w.heap.size w (w7.alloc (.cells #[.int .u64 ah, .int .u64 al] 24))) := E7.out.alloc E7.out.size _
  have lt5 : w5.heap.size < w7.heap.size := Nat.lt_of_lt_of_le lt4 hb7.size
  clear A6 L6 X6 Y6 E6 E7 hb7 lt4
  obtain ⟨a0, a1, _, _, az⟩ := id A7
  obtain ⟨x0, x1, _, _, xz⟩ := id X7
  obtain ⟨y0, y1, _, _, yz⟩ := id Y7
  obtain ⟨z0, z1, _, _, zz⟩ := id Z7
  go_wp2_with fail
  refine (read_ok b off cap f _ hcap (HR.out.from' E7'.out)).mono ?_
  rintro e w8 ⟨rfl, hb8⟩
  have wx1 : Word (le8 fun j => f (8 + j)) := le8_word _ (fun j hj => HR.out.2.1 (8 + j) (by omega))
  have wx2 : Word (le8 f) := le8_word _ (fun j hj => HR.out.2.1 j (by omega))
  have wy1 : Word (le8 fun j => f (7 - j)) := le8_word _ (fun j hj => HR.out.2.1 (7 - j) (by omega))
  have wy2 : Word (le8 fun j => f (15 - j)) := le8_word _ (fun j hj => HR.out.2.1 (15 - j) (by omega))
  have BB : Hid (∀ j, j < 16 → (bytesL (le8 fun j => f (8 + j)) (le8 f)).getD j 0 = f j) := bytes_back f HR.out.2.1
  have KB : Hid (∀ j, j < 16 → (bytesL (le8 fun j => f (7 - j)) (le8 fun j => f (15 - j))).getD (15 - j) 0 = f j) := fun j hj => key_back f HR.out.2.1 j hj
  generalize (le8 fun j => f (8 + j)) = xh at wx1 BB ⊢
  generalize (le8 f) = xl at wx2 BB ⊢
  have A8 := A7.below hb8
  have L8 := L7.below hb8
  have X8 := X7.below hb8
  have Y8 := Y7.below hb8
  have Z8 := Z7.below hb8
  have E8 : Hid (Below w.heap.size w w8) := E7'.out.trans (hb8.mono E7'.out.size)
  clear a0 a1 az x0 x1 xz y0 y1 yz z0 z1 zz A7 L7 X7 Y7 Z7 E7' hb8
  obtain ⟨x0, x1, x2, x3, xz⟩ := id X8
  have L9 := (L8.set w3.heap.size 0 (.int .u64 xh) (by omega)).set w3.heap.size 1 (.int .u64 xl) (by omega)
  have X9 := X8.set xh xl
  have Y9 := (Y8.other w3.heap.size 0 (.int .u64 xh) (by omega)).other w3.heap.size 1 (.int .u64 xl) (by omega)
  have Z9 := (Z8.other w3.heap.size 0 (.int .u64 xh) (by omega)).other w3.heap.size 1 (.int .u64 xl) (by omega)
  have E9 : Hid (Below w.heap.size w ((w8.setCell ⟨w3.heap.size, 0, none⟩ (.int .u64 xh)).setCell ⟨w3.heap.size, 1, none⟩ (.int .u64 xl))) := (E8.out.setCell (p := ⟨w3.heap.size, 0, none⟩) (by simp; omega) _).setCell (p := ⟨w3.heap.size, 1, none⟩) (by simp; omega) _
  clear A8 L8 X8 Y8 Z8 E8
  go_wp2_with fail
  refine (readkey_ok b off cap f _ (HR.out.from' E9.out)).mono ?_
  rintro e w10 ⟨rfl, hb10⟩
  generalize (le8 fun j => f (7 - j)) = yh at wy1 KB ⊢
  generalize (le8 fun j => f (15 - j)) = yl at wy2 KB ⊢
  have L10 := L9.below hb10
  have X10 := X9.below hb10
  have Y10 := Y9.below hb10
  have Z10 := Z9.below hb10
  have E10 : Hid (Below w.heap.size w w10) := E9.out.trans (hb10.mono E9.out.size)
  clear x0 x1 x2 x3 xz L9 X9 Y9 Z9 E9 hb10
  obtain ⟨y0, y1, y2, y3, yz⟩ := id Y10
  have L11 := (L10.set w5.heap.size 0 (.int .u64 yh) (by omega)).set w5.heap.size 1 (.int .u64 yl) (by omega)
  have Y11 := Y10.set yh yl
  have X11 := (X10.other w5.heap.size 0 (.int .u64 yh) (by omega)).other w5.heap.size 1 (.int .u64 yl) (by omega)
  have Z11 := (Z10.other w5.heap.size 0 (.int .u64 yh) (by omega)).other w5.heap.size 1 (.int .u64 yl) (by omega)
  have E11 : Hid (Below w.heap.size w ((w10.setCell ⟨w5.heap.size, 0, none⟩ (.int .u64 yh)).setCell ⟨w5.heap.size, 1, none⟩ (.int .u64 yl))) := (E10.out.setCell (p := ⟨w5.heap.size, 0, none⟩) (by simp; omega) _).setCell (p := ⟨w5.heap.size, 1, none⟩) (by simp; omega) _
  clear L10 X10 Y10 Z10 E10
  go_wp2_with fail
  refine (HBad.out _).mono ?_
  rintro e w12 ⟨c, rfl, hc, hb12⟩
  have L12 := L11.below hb12
  have X12 := X11.below hb12
  have Y12 := Y11.below hb12
  have Z12 := Z11.below hb12
  have E12 : Hid (Below w.heap.size w w12) := E11.out.trans (hb12.mono E11.out.size)
  clear y0 y1 y2 y3 yz L11 X11 Y11 Z11 E11 hb12
  obtain ⟨z0, z1, z2, z3, zz⟩ := id Z12
  have L13 := (L12.set w7.heap.size 0 (.int .u64 0) (by omega)).set w7.heap.size 1 (.int .u64 0) (by omega)
  have Z13 := Z12.set 0 0
  have X13 := (X12.other w7.heap.size 0 (.int .u64 0) (by omega)).other w7.heap.size 1 (.int .u64 0) (by omega)
  have Y13 := (Y12.other w7.heap.size 0 (.int .u64 0) (by omega)).other w7.heap.size 1 (.int .u64 0) (by omega)
  have E13 : Hid (Below w.heap.size w ((w12.setCell ⟨w7.heap.size, 0, none⟩ (.int .u64 0)).setCell ⟨w7.heap.size, 1, none⟩ (.int .u64 0))) := (E12.out.setCell (p := ⟨w7.heap.size, 0, none⟩) (by simp; omega) _).setCell (p := ⟨w7.heap.size, 1, none⟩) (by simp; omega) _
  clear L12 X12 Y12 Z12 E12
  obtain ⟨x0, x1, _, _, xz⟩ := id X13
  go_wp2_with fail
  refine (bytes_any xh xl _ wx1 wx2).mono ?_
  rintro e w14 ⟨rfl, hb14⟩
  have L14 := L13.below hb14
  have Y14 := Y13.below hb14
  have Z14 := Z13.below hb14
  have E14 : Hid (Below w.heap.size w w14) := E13.out.trans (hb14.mono E13.out.size)
  clear x0 x1 xz z0 z1 z2 z3 zz L13 X13 Y13 Z13 E13 hb14
  go_wp2_with (refine wpList_store_op rfl 27 (.tmp 8) (.tmp 87) rfl w2.heap.size 0 _ rfl rfl L14.1 (by kernel_rfl) (all16 _ _ _ _ _ _ _ _ _ _ _ _ _ _ _ _) ?_; intro W15 hW15; obtain ⟨R15, Y15, Z15, E15'⟩ := store_facts xh xl L14 Y14 Z14 E14.out (Nat.le_of_lt lt1) (by omega) (by omega) hW15.out; have E15 : Hid (Below w.heap.size w W15) := E15'; clear hW15 E15' L14 Y14 Z14 E14)
  refine (same_true w2.heap.size b 0 off 16 cap _ f _ R15 (HR.out.from' E15.out).1 BB.out).mono ?_
  rintro e w16 ⟨rfl, hw16⟩
  rw [hw16]
  clear hw16 w16 R15
  obtain ⟨y0, y1, _, _, yz⟩ := id Y15
  go_wp2_with fail
  refine (key_any yh yl _ wy1 wy2).mono ?_
  rintro e w17 ⟨rfl, hk17, _, hz17, hb17⟩
  have Z17 := Z15.below hb17
  have E17 : Hid (Below w.heap.size w w17) := E15.out.trans (hb17.mono E15.out.size)
  clear y0 y1 yz Y15 Z15 E15 hb17
  go_wp2_with fail
  refine (same_true (W15.heap.size + 1) b 0 off 16 cap (fun j => (bytesL yh yl).getD (15 - j) 0) f _ (fun j hj => by rw [Nat.zero_add]; exact hk17 j hj) (HR.out.from' E17.out).1 KB.out).mono ?_
  rintro e w18 ⟨rfl, hw18⟩
  rw [hw18]
  clear hw18 w18 hk17 hz17
  go_wp2_with fail
  go_ret
  exact ⟨rfl, E17.out⟩

set_option maxRecDepth 100000 in
set_option maxHeartbeats 8000000 in
theorem reads_ff (ah al : Int) (ad : Option Addr) (len cap : Nat) (s : ByteArray) (w : World) (h1 : Word ah) (h2 : Word al) (hlen : len ≠ 16) (hle : len ≤ 1000) (hs : s.size ≤ 1000) (hbad : ∀ u, Calls Try.prog 10 #[.string s] u fun e w' => ∃ c : Int, e = .returned (.tuple #[U 0 0, .int .i64 c]) ∧ (c != 0) = true ∧ Below u.heap.size u w') :
    Calls Try.prog 3 #[U ah al, (.slice ad len cap), .string s] w fun e w' => e = .returned (.bool true) ∧ Below w.heap.size w w' := by
  have s1 : (s.size : Int) ≤ 1000 := by omega
  have HBad : Hid (∀ u, Calls Try.prog 10 #[.string s] u fun e w' => ∃ c : Int, e = .returned (.tuple #[U 0 0, .int .i64 c]) ∧ (c != 0) = true ∧ Below u.heap.size u w') := hbad
  clear hbad
  have s2 : (len : Int) ≤ 1000 := by omega
  have hcut := fun b => cut16 b
  go_enter Try.func3, Try.ntmps3
  go_wp2_with fail
  refine (known_any _).mono ?_
  rintro e w1 ⟨rfl, hb1⟩
  have A1 := (AtW.new w ah al 24).below hb1
  have E1 : Hid (Below w.heap.size w w1) := ((Below.refl _ _).alloc (Nat.le_refl _) _).trans (hb1.mono (by simp))
  clear hb1
  obtain ⟨a0, a1, _, _, az⟩ := id A1
  go_wp2_with fail
  refine (bytes_any ah al _ h1 h2).mono ?_
  rintro e w2 ⟨rfl, hb2⟩
  have A2 := (A1.below hb2).alloc (.cells #[.int .u8 (al % 256), .int .u8 (al / 256 % 256), .int .u8 (al / 65536 % 256), .int .u8 (al / 16777216 % 256), .int .u8 (al / 4294967296 % 256), .int .u8 (al / 1099511627776 % 256), .int .u8 (al / 281474976710656 % 256), .int .u8 (al / 72057594037927936), .int .u8 (ah % 256), .int .u8 (ah / 256 % 256), .int .u8 (ah / 65536 % 256), .int .u8 (ah / 16777216 % 256), .int .u8 (ah / 4294967296 % 256), .int .u8 (ah / 1099511627776 % 256), .int .u8 (ah / 281474976710656 % 256), .int .u8 (ah / 72057594037927936)] 27)
  have E2 : Hid (Below w.heap.size w w2) := E1.out.trans (hb2.mono E1.out.size)
  have E2' : Hid (Below w.heap.size w (w2.alloc (.cells #[.int .u8 (al % 256), .int .u8 (al / 256 % 256), .int .u8 (al / 65536 % 256), .int .u8 (al / 16777216 % 256), .int .u8 (al / 4294967296 % 256), .int .u8 (al / 1099511627776 % 256), .int .u8 (al / 281474976710656 % 256), .int .u8 (al / 72057594037927936), .int .u8 (ah % 256), .int .u8 (ah / 256 % 256), .int .u8 (ah / 65536 % 256), .int .u8 (ah / 16777216 % 256), .int .u8 (ah / 4294967296 % 256), .int .u8 (ah / 1099511627776 % 256), .int .u8 (ah / 281474976710656 % 256), .int .u8 (ah / 72057594037927936)] 27))) := E2.out.alloc E2.out.size _
  obtain ⟨R2, L2⟩ := row_new w2 ah al h1 h2
  have lt1 : w.heap.size < w2.heap.size := Nat.lt_of_lt_of_le az hb2.size
  clear a0 a1 az A1 E1 E2 hb2
  go_wp2_with fail
  refine (read_ok w2.heap.size 0 16 _ _ (by omega) R2).mono ?_
  rintro e w3 ⟨rfl, hb3⟩
  rw [le_hi, le_lo]
  have A3 := (A2.below hb3).alloc (.cells #[.int .u64 ah, .int .u64 al] 24)
  have L3 := (L2.below hb3).alloc (.cells #[.int .u64 ah, .int .u64 al] 24)
  have X3 := AtW.new w3 ah al 24
  have E3 : Hid (Below w.heap.size w w3) := E2'.out.trans (hb3.mono E2'.out.size)
  have E3' : Hid (Below w.heap.size w (w3.alloc (.cells #[.int .u64 ah, .int .u64 al] 24))) := E3.out.alloc E3.out.size _
  have lt2 : w2.heap.size < w3.heap.size := by have := hb3.size; simp at this; omega
  clear A2 L2 R2 E2' E3 hb3
  obtain ⟨a0, a1, _, _, az⟩ := id A3
  go_wp2_with fail
  refine (key_any ah al _ h1 h2).mono ?_
  rintro e w4 ⟨rfl, hk4, _, hz4, hb4⟩
  rw [World.size_alloc] at hk4 hz4
  have R4 : Row16 w4 (w3.heap.size + 1 + 1) 0 (fun j => (bytesL ah al).getD (15 - j) 0) := ⟨fun j hj => by rw [Nat.zero_add]; exact hk4 j hj, fun j hj => bytes_byt ah al h1 h2 (15 - j) (by omega), hz4⟩
  have A4 := A3.below hb4
  have L4 := L3.below hb4
  have X4 := X3.below hb4
  have E4 : Hid (Below w.heap.size w w4) := E3'.out.trans (hb4.mono E3'.out.size)
  clear a0 a1 az A3 L3 X3 E3' hk4 hz4
  go_wp2_with fail
  refine (readkey_ok (w3.heap.size + 1 + 1) 0 16 _ _ R4).mono ?_
  rintro e w5 ⟨rfl, hb5⟩
  rw [ke_hi, ke_lo]
  have A5 := (A4.below hb5).alloc (.cells #[.int .u64 ah, .int .u64 al] 24)
  have L5 := (L4.below hb5).alloc (.cells #[.int .u64 ah, .int .u64 al] 24)
  have X5 := (X4.below hb5).alloc (.cells #[.int .u64 ah, .int .u64 al] 24)
  have Y5 := AtW.new w5 ah al 24
  have E5 : Hid (Below w.heap.size w w5) := E4.out.trans (hb5.mono E4.out.size)
  have E5' : Hid (Below w.heap.size w (w5.alloc (.cells #[.int .u64 ah, .int .u64 al] 24))) := E5.out.alloc E5.out.size _
  have lt3 : w3.heap.size < w5.heap.size := by have := hb5.size; have := X4.2.2.2.2; omega
  clear A4 L4 X4 E4 E5 R4 hb4 hb5
  obtain ⟨a0, a1, _, _, az⟩ := id A5
  go_wp2_with fail
  refine (text_any ah al _ h1 h2).mono ?_
  rintro e w6 ⟨rfl, hb6⟩
  have A6 := A5.below hb6
  have L6 := L5.below hb6
  have X6 := X5.below hb6
  have Y6 := Y5.below hb6
  have E6 : Hid (Below w.heap.size w w6) := E5'.out.trans (hb6.mono E5'.out.size)
  have lt4 : w5.heap.size < w6.heap.size := Y6.2.2.2.2
  clear a0 a1 az A5 L5 X5 Y5 E5' hb6
  go_wp2_with fail
  refine (parse_text ah al _ h1 h2).mono ?_
  rintro e w7 ⟨rfl, hb7⟩
  have A7 := (A6.below hb7).alloc (.cells #[.int .u64 ah, .int .u64 al] 24)
  have L7 := (L6.below hb7).alloc (.cells #[.int .u64 ah, .int .u64 al] 24)
  have X7 := (X6.below hb7).alloc (.cells #[.int .u64 ah, .int .u64 al] 24)
  have Y7 := (Y6.below hb7).alloc (.cells #[.int .u64 ah, .int .u64 al] 24)
  have Z7 := AtW.new w7 ah al 24
  have E7 : Hid (Below w.heap.size w w7) := E6.out.trans (hb7.mono E6.out.size)
  have E7' : Hid (Below w.heap.size w (w7.alloc (.cells #[.int .u64 ah, .int .u64 al] 24))) := E7.out.alloc E7.out.size _
  have lt5 : w5.heap.size < w7.heap.size := Nat.lt_of_lt_of_le lt4 hb7.size
  clear A6 L6 X6 Y6 E6 E7 hb7 lt4
  obtain ⟨a0, a1, _, _, az⟩ := id A7
  obtain ⟨x0, x1, _, _, xz⟩ := id X7
  obtain ⟨y0, y1, _, _, yz⟩ := id Y7
  obtain ⟨z0, z1, _, _, zz⟩ := id Z7
  go_wp2_with fail
  refine (read_no ad len cap _ hlen).mono ?_
  rintro e w8 ⟨rfl, hb8⟩
  have A8 := A7.below hb8
  have L8 := L7.below hb8
  have X8 := X7.below hb8
  have Y8 := Y7.below hb8
  have Z8 := Z7.below hb8
  have E8 : Hid (Below w.heap.size w w8) := E7'.out.trans (hb8.mono E7'.out.size)
  clear a0 a1 az x0 x1 xz y0 y1 yz z0 z1 zz A7 L7 X7 Y7 Z7 E7' hb8
  obtain ⟨x0, x1, x2, x3, xz⟩ := id X8
  have L9 := (L8.set w3.heap.size 0 (.int .u64 0) (by omega)).set w3.heap.size 1 (.int .u64 0) (by omega)
  have X9 := X8.set 0 0
  have Y9 := (Y8.other w3.heap.size 0 (.int .u64 0) (by omega)).other w3.heap.size 1 (.int .u64 0) (by omega)
  have Z9 := (Z8.other w3.heap.size 0 (.int .u64 0) (by omega)).other w3.heap.size 1 (.int .u64 0) (by omega)
  have E9 : Hid (Below w.heap.size w ((w8.setCell ⟨w3.heap.size, 0, none⟩ (.int .u64 0)).setCell ⟨w3.heap.size, 1, none⟩ (.int .u64 0))) := (E8.out.setCell (p := ⟨w3.heap.size, 0, none⟩) (by simp; omega) _).setCell (p := ⟨w3.heap.size, 1, none⟩) (by simp; omega) _
  clear A8 L8 X8 Y8 Z8 E8
  go_wp2_with fail
  refine (readkey_no ad len cap _ hlen).mono ?_
  rintro e w10 ⟨rfl, hb10⟩
  have L10 := L9.below hb10
  have X10 := X9.below hb10
  have Y10 := Y9.below hb10
  have Z10 := Z9.below hb10
  have E10 : Hid (Below w.heap.size w w10) := E9.out.trans (hb10.mono E9.out.size)
  clear x0 x1 x2 x3 xz L9 X9 Y9 Z9 E9 hb10
  obtain ⟨y0, y1, y2, y3, yz⟩ := id Y10
  have L11 := (L10.set w5.heap.size 0 (.int .u64 0) (by omega)).set w5.heap.size 1 (.int .u64 0) (by omega)
  have Y11 := Y10.set 0 0
  have X11 := (X10.other w5.heap.size 0 (.int .u64 0) (by omega)).other w5.heap.size 1 (.int .u64 0) (by omega)
  have Z11 := (Z10.other w5.heap.size 0 (.int .u64 0) (by omega)).other w5.heap.size 1 (.int .u64 0) (by omega)
  have E11 : Hid (Below w.heap.size w ((w10.setCell ⟨w5.heap.size, 0, none⟩ (.int .u64 0)).setCell ⟨w5.heap.size, 1, none⟩ (.int .u64 0))) := (E10.out.setCell (p := ⟨w5.heap.size, 0, none⟩) (by simp; omega) _).setCell (p := ⟨w5.heap.size, 1, none⟩) (by simp; omega) _
  clear L10 X10 Y10 Z10 E10
  go_wp2_with fail
  refine (HBad.out _).mono ?_
  rintro e w12 ⟨c, rfl, hc, hb12⟩
  have L12 := L11.below hb12
  have X12 := X11.below hb12
  have Y12 := Y11.below hb12
  have Z12 := Z11.below hb12
  have E12 : Hid (Below w.heap.size w w12) := E11.out.trans (hb12.mono E11.out.size)
  clear y0 y1 y2 y3 yz L11 X11 Y11 Z11 E11 hb12
  obtain ⟨z0, z1, z2, z3, zz⟩ := id Z12
  have L13 := (L12.set w7.heap.size 0 (.int .u64 0) (by omega)).set w7.heap.size 1 (.int .u64 0) (by omega)
  have Z13 := Z12.set 0 0
  have X13 := (X12.other w7.heap.size 0 (.int .u64 0) (by omega)).other w7.heap.size 1 (.int .u64 0) (by omega)
  have Y13 := (Y12.other w7.heap.size 0 (.int .u64 0) (by omega)).other w7.heap.size 1 (.int .u64 0) (by omega)
  have E13 : Hid (Below w.heap.size w ((w12.setCell ⟨w7.heap.size, 0, none⟩ (.int .u64 0)).setCell ⟨w7.heap.size, 1, none⟩ (.int .u64 0))) := (E12.out.setCell (p := ⟨w7.heap.size, 0, none⟩) (by simp; omega) _).setCell (p := ⟨w7.heap.size, 1, none⟩) (by simp; omega) _
  clear L12 X12 Y12 Z12 E12
  obtain ⟨x0, x1, _, _, xz⟩ := id X13
  go_wp2_with fail
  refine (bytes_any 0 0 _ word_zero word_zero).mono ?_
  rintro e w14 ⟨rfl, hb14⟩
  have L14 := L13.below hb14
  have Y14 := Y13.below hb14
  have Z14 := Z13.below hb14
  have E14 : Hid (Below w.heap.size w w14) := E13.out.trans (hb14.mono E13.out.size)
  clear x0 x1 xz z0 z1 z2 z3 zz L13 X13 Y13 Z13 E13 hb14
  go_wp2_with (refine wpList_store_op rfl 27 (.tmp 8) (.tmp 87) rfl w2.heap.size 0 _ rfl rfl L14.1 (by kernel_rfl) (all16 _ _ _ _ _ _ _ _ _ _ _ _ _ _ _ _) ?_; intro W15 hW15; obtain ⟨R15, Y15, Z15, E15'⟩ := store_facts 0 0 L14 Y14 Z14 E14.out (Nat.le_of_lt lt1) (by omega) (by omega) hW15.out; have E15 : Hid (Below w.heap.size w W15) := E15'; clear hW15 E15' L14 Y14 Z14 E14; obtain ⟨z0, z1, _, _, zz⟩ := Z15)
  go_ret
  exact ⟨rfl, E15.out⟩
end Go.Proofs.Ytegpcjkdkjdckab
