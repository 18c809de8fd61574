/-
  Walks, not a claim by itself: some of the chapter's examples. By the verifier.
-/
import Derived.Test.YtkmgjpeoognpjaaDoorMKn2
namespace Go.Proofs.YtkmgjpeoognpjaaDoor
open Go.RowKit
/-- The chapter's message and its bytes lie there, and the table. -/
def abS (x g : Nat) (W : World) : Prop := Lies W x 0 2 fnAb ∧ IRow W g .u8 258 abF ∧ Tab W
theorem abS.below {x g : Nat} {W W' : World} (h : abS x g W) (hb : Below W.heap.size W W') : abS x g W' := ⟨h.1.below hb, h.2.1.below hb, h.2.2.below hb h.2.2.2⟩
theorem abF32 : abF 32 = 1 := abF_inner 16 (by omega)
theorem abF40 : abF 40 = 2 := abF_inner 24 (by omega)
set_option maxRecDepth 100000 in
set_option maxHeartbeats 400000 in
theorem awake_any (w : World) (hT : Tab w) : Calls Tryd.prog 16 #[] w fun e w' => e = .returned (.bool true) ∧ Below w.heap.size w w' := by
  have hT0 := hT.2
  have TT : Hid (Tab w) := hT
  clear hT
  go_enter Tryd.func16, Tryd.ntmps16
  go_wp2_with (first
    | (go_at_call 22; refine (ab_any _ TT.out).mono ?_; rintro e W1 ⟨x, g, rfl, hg, hL1, hR1, hB1⟩
       have S1 : Hid (abS x g W1) := ⟨hL1, hR1, TT.out.below hB1 hT0⟩
       have E1 : Hid (Below w.heap.size w W1) := hB1
       clear hL1 hR1 hB1)
    | (refine wpList_alloc_rec rfl 29 rfl (msg (fun _ => 0) none 0 0) W1.heap.size rfl zeroMsg ?_; intro W2 R2 B2 z2)
    | (refine wpList_store_rec rfl 29 (.tmp 1) (.tmp 10) rfl W1.heap.size 0 _ (msg hAb (some ⟨x, 0, none⟩) 2 2) rfl rfl R2 rfl (by kernel_rfl) (msg_one _ _ _ _) ?_; intro W3 R3 B3
       have F3 : Below W1.heap.size W1 W3 := B2.trans (B3.below (Nat.le_refl _) (by omega))
       have S3 : Hid (abS x g W3) := S1.out.below F3
       have E3 : Hid (Below w.heap.size w W3) := E1.out.trans (F3.mono E1.out.size)
       have M3 : Hid (Rec19 W3 W1.heap.size 0 (msg hAb (some ⟨x, 0, none⟩) 2 2)) := R3
       clear F3 R2 B2 z2 R3 B3 S1 E1)
    | (go_at_call 17; refine (open_ab g _ S3.out.2.2 S3.out.2.1).mono ?_; rintro e W4 ⟨q, rfl, hq, hL4, hB4⟩
       have S4 : Hid (abS x g W4) := S3.out.below hB4
       have E4 : Hid (Below w.heap.size w W4) := E3.out.trans (hB4.mono E3.out.size)
       have M4 : Hid (Rec19 W4 W1.heap.size 0 (msg hAb (some ⟨x, 0, none⟩) 2 2)) := M3.out.below hB4
       have L4 : Hid (Lies W4 q 0 2 fnAb) := hL4
       clear hq hL4 hB4 S3 E3 M3)
    | (refine wpList_alloc_rec rfl 29 rfl (msg (fun _ => 0) none 0 0) W4.heap.size rfl zeroMsg ?_; intro W5 R5 B5 z5)
    | (refine wpList_store_rec rfl 29 (.tmp 4) (.tmp 18) rfl W4.heap.size 0 _ (msg hAb (some ⟨q, 0, none⟩) 2 2) rfl rfl R5 rfl (by kernel_rfl) (msg_one _ _ _ _) ?_; intro W6 R6 B6
       have F6 : Below W4.heap.size W4 W6 := B5.trans (B6.below (Nat.le_refl _) (by omega))
       have S6 : Hid (abS x g W6) := S4.out.below F6
       have E6 : Hid (Below w.heap.size w W6) := E4.out.trans (F6.mono E4.out.size)
       have M6 : Hid (Rec19 W6 W1.heap.size 0 (msg hAb (some ⟨x, 0, none⟩) 2 2)) := M4.out.below F6
       have N6 : Hid (Rec19 W6 W4.heap.size 0 (msg hAb (some ⟨q, 0, none⟩) 2 2)) := R6
       have L6 : Hid (Lies W6 q 0 2 fnAb) := L4.out.below F6
       clear F6 R5 B5 z5 R6 B6 S4 E4 M4 L4)
    | (go_at_call 23; refine (turned_any (some ⟨g, 0, none⟩) 258 258 257 abF _ (Arg.of (S6.out.2.1.lies abF_byte)) (by omega) (by omega)).mono ?_; rintro e W7 ⟨g7, cap7, rfl, hg7, hc7, hR7, hB7⟩)
    | (go_at_call 17; refine (open_turned g7 cap7 257 _ (S6.out.2.2.below hB7 S6.out.2.2.2) hc7 hR7 x257 ab_turn257).mono ?_; rintro e W8 ⟨rfl, hB8⟩
       have F8 : Below W6.heap.size W6 W8 := hB7.trans (hB8.mono hB7.size)
       have S8' : Hid (abS x g W8) := S6.out.below F8
       have E8 : Hid (Below w.heap.size w W8) := E6.out.trans (F8.mono E6.out.size)
       have M8 : Hid (Rec19 W8 W1.heap.size 0 (msg hAb (some ⟨x, 0, none⟩) 2 2)) := M6.out.below F8
       have N8 : Hid (Rec19 W8 W4.heap.size 0 (msg hAb (some ⟨q, 0, none⟩) 2 2)) := N6.out.below F8
       have L8 : Hid (Lies W8 q 0 2 fnAb) := L6.out.below F8
       clear F8 hB7 hB8 hR7 S6 E6 M6 N6 L6)
    | (refine wpList_alloc_rec rfl 29 rfl (msg (fun _ => 0) none 0 0) W8.heap.size rfl zeroMsg ?_; intro W9 R9 B9 z9)
    | (refine wpList_store_rec rfl 29 (.tmp 6) (.tmp 24) rfl W8.heap.size 0 _ (msg (fun _ => 0) none 0 0) rfl rfl R9 rfl (by kernel_rfl) (msg_one _ _ _ _) ?_; intro X R10 B10
       have F10 : Below W8.heap.size W8 X := B9.trans (B10.below (Nat.le_refl _) (by omega))
       have SX : Hid (abS x g X) := S8'.out.below F10
       have EX : Hid (Below w.heap.size w X) := E8.out.trans (F10.mono E8.out.size)
       have MX : Hid (Rec19 X W1.heap.size 0 (msg hAb (some ⟨x, 0, none⟩) 2 2)) := M8.out.below F10
       have NX : Hid (Rec19 X W4.heap.size 0 (msg hAb (some ⟨q, 0, none⟩) 2 2)) := N8.out.below F10
       have LX : Hid (Lies X q 0 2 fnAb) := L8.out.below F10
       have c32 := SX.out.2.1.1 32 (by omega)
       have c40 := SX.out.2.1.1 40 (by omega)
       rw [abF32] at c32
       rw [abF40] at c40
       clear F10 R9 B9 z9 R10 B10 S8' E8 M8 N8 L8)
    | (refine wpList_load_w (by rfl) 29 (.tmp 4) rfl W4.heap.size 0 (msg hAb (some ⟨q, 0, none⟩) 2 2) rfl _ Tryd.underlying29 rfl (by kernel_rfl) NX.out ?_)
    | (refine wpList_load_w (by rfl) 29 (.tmp 1) rfl W1.heap.size 0 (msg hAb (some ⟨x, 0, none⟩) 2 2) rfl _ Tryd.underlying29 rfl (by kernel_rfl) MX.out ?_)
    | (go_at_call 21; refine (sameMsg_any hAb (some ⟨q, 0, none⟩) (some ⟨x, 0, none⟩) 2 2 2 2 fnAb fnAb _ (Arg.of LX.out) (Arg.of SX.out.1) rfl (fun _ _ => rfl)).mono ?_; rintro e Y ⟨rfl, hBY⟩
       have EY : Hid (Below w.heap.size w Y) := EX.out.trans (hBY.mono EX.out.size)
       clear hBY))
  go_ret
  exact ⟨rfl, EY.out⟩
end Go.Proofs.YtkmgjpeoognpjaaDoor
