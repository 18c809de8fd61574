/-
  Walks, not a claim by itself: header.Head. By the verifier.
-/
import Derived.Test.YtijpoipcadhchaaDoorMSeal
namespace Go.Proofs.YtijpoipcadhchaaDoor
open Go.RowKit
theorem wpList_load_w {ops : Array Oper} {rest : List Oper} {op : Oper} {a : Act} {w : World} {Q : Exit → Act → World → Prop} (hw : Region.wanted op (yielded ops a.tmps) = true) (ty : TypeId) (x : Operand) (ho : op.op = .load ty x)
    (n o : Nat) (cs : List Value) (hx : a.eval x = .pointer (some ⟨n, o, none⟩)) (d : TypeDesc) (hu : Tryd.prog.underlying ty = some d) (hd : d.isRow = true) (hi : (Tryd.prog.info? ty).map (·.size) = some cs.length)
    (h : Rec19 w n o cs) (hK : wpList Tryd.prog ops Q rest (a.put op.dst (.agg cs.toArray)) w) : wpList Tryd.prog ops Q (op :: rest) a w := by
  refine wpList_step fun K hK' => ?_
  rw [if_pos hw]
  exact wp_load_mid (P := Tryd.prog) ty x ho n o hx cs d h.1 hu hd hi (hK' _ _ hK)
theorem sealAt0 (b off n C : Nat) (f : Nat → Int) (w : World) (h : Lies w b off n f) (hn : 16 ≤ n) (hC : n ≤ C) :
    Calls Tryd.prog 63 #[.slice (some ⟨b, off, none⟩) n C, .int .i64 0] w fun e w' => e = .returned (.agg (cl .u8 16 f).toArray) ∧ Below w.heap.size w w' := by
  refine (sealAt_any b off n C 0 f w h (by omega) hC).mono ?_
  rintro e w' ⟨rfl, hb⟩
  exact ⟨by rw [cl_congr .u8 16 (fun j => f (0 + j)) f (fun j _ => by rw [Nat.zero_add])], hb⟩
theorem sealAt16 (b off n C : Nat) (f : Nat → Int) (w : World) (h : Lies w b off n f) (hn : 32 ≤ n) (hC : n ≤ C) :
    Calls Tryd.prog 63 #[.slice (some ⟨b, off, none⟩) n C, .int .i64 16] w fun e w' => e = .returned (.agg (cl .u8 16 (fun j => f (16 + j))).toArray) ∧ Below w.heap.size w w' :=
  sealAt_any b off n C 16 f w h (by omega) hC
/-- Whether the header's seal is right; whether nothing stands behind. -/
def headSeal (f : Nat → Int) : Bool := eqN 16 (sealF 240 (fun j => f (16 + j))) f
def headNone (f : Nat → Int) : Bool := zeroN 148 (fun j => f (108 + j))
/-- What Head answers of 256 bytes. -/
def headCode (f : Nat → Int) : Int := if headSeal f = false then 12 else if headNone f = false ∨ okH (hdrF f) = false then 4 else 0
def headVal (f : Nat → Int) : Nat → Int := if headCode f = 0 then hdrF f else fun _ => 0
/-- The answer: a header and a number. -/
abbrev HE (h : Nat → Int) (e : Int) : Value := .tuple #[.agg (hcs h).toArray, .int .i64 e]
set_option maxRecDepth 100000 in
set_option maxHeartbeats 400000 in
theorem head_len (a : Option Addr) (n C : Nat) (w : World) (hn : n ≠ 256) :
    Calls Tryd.prog 43 #[.slice a n C] w fun e w' => e = .returned (HE (fun _ => 0) 4) ∧ Below w.heap.size w w' := by
  have e1 : ((n : Int) != 256) = true := by simp; omega
  go_enter Tryd.func43, Tryd.ntmps43
  go_wp2_with (first
    | (refine wpList_alloc_rec rfl 26 rfl (hcs fun _ => 0) w.heap.size rfl zeroHdr ?_; intro W1 hR1 hB1 hz1)
    | (refine wpList_build_to rfl 26 _ rfl (hcs fun _ => 0).toArray (by kernel_rfl) ?_)
    | (refine wpList_store_rec rfl 26 (.tmp 2) (.tmp 8) rfl w.heap.size 0 _ (hcs fun _ => 0) rfl rfl hR1 rfl (by kernel_rfl) (hcs_one _) ?_; intro W2 hR2 hB2))
  have hl := hR2.run_load 26 _ Tryd.underlying26 rfl (by kernel_rfl)
  refine bodyPost_ret (v := HE (fun _ => 0) 4) (by simp [results, Tryd.results43, asAddr, hl]) rfl ⟨rfl, ?_⟩
  exact hB1.trans (hB2.below (Nat.le_refl _) (by omega))
set_option maxRecDepth 100000 in
set_option maxHeartbeats 400000 in
theorem head_seal (b off C : Nat) (f : Nat → Int) (w : World) (hT : Tab w) (hL : Lies w b off 256 f) (hC : 256 ≤ C) (hs : headSeal f = false) :
    Calls Tryd.prog 43 #[.slice (some ⟨b, off, none⟩) 256 C] w fun e w' => e = .returned (HE (fun _ => 0) 12) ∧ Below w.heap.size w w' := by
  have hT0 := hT.2
  have TT : Hid (Tab w) := hT
  have LL : Hid (Lies w b off 256 f) := hL
  have HS : Hid (headSeal f = false) := hs
  clear hT hL hs
  have k1 : (16 : Int) ≤ C := by omega
  have k2 : ¬ C = 16 := by omega
  have k3 : (108 : Int) ≤ C := by omega
  have k4 : ¬ C = 108 := by omega
  go_enter Tryd.func43, Tryd.ntmps43
  go_wp2_with (first
    | (refine wpList_alloc_rec rfl 26 rfl (hcs fun _ => 0) w.heap.size rfl zeroHdr ?_; intro W1 hR1 hB1 hz1))
  have L1 : Hid (Lies W1.drew b off 256 f) := LL.out.below hB1.drew
  have R1 : Hid (Rec19 W1.drew w.heap.size 0 (hcs fun _ => 0)) := hR1
  have B1 : Hid (Below w.heap.size w W1.drew) := hB1.drew
  clear hR1 hB1 hz1
  go_region_held3 (fun w' => True) (trivial) (first
    | (go_at_call 63; refine (sealAt0 b off 256 C f _ L1.out (by omega) hC).mono ?_; rintro e W2 ⟨rfl, hB2⟩)
    | (go_at_call 62; refine (right16 (some ⟨b, off + 16, none⟩) 240 (C - 16) (fun j => f (16 + j)) f _ (Arg.part (L1.out.below (by assumption)) 16 240 (by omega)) (by omega) (by omega)).mono ?_; rintro e W3 ⟨rfl, hB3⟩; rw [show eqN 16 (sealF 240 (fun j => f (16 + j))) f = false from HS.out]))
  have B3 : Hid (Below W1.drew.heap.size W1.drew W3) := hB2.trans (hB3.mono hB2.size)
  clear hB2 hB3
  have R3 : Hid (Rec19 W3 w.heap.size 0 (hcs fun _ => 0)) := R1.out.below B3.out
  have L3 : Hid (Lies W3 b off 256 f) := L1.out.below B3.out
  have E3 : Hid (Below w.heap.size w W3) := B1.out.trans (B3.out.mono B1.out.size)
  clear R1 B1 L1 B3
  go_wp2_with (first
    | (refine wpList_build_to rfl 26 _ rfl (hcs fun _ => 0).toArray (by kernel_rfl) ?_)
    | (refine wpList_store_rec rfl 26 (.tmp 2) (.tmp 15) rfl w.heap.size 0 _ (hcs fun _ => 0) rfl rfl R3.out rfl (by kernel_rfl) (hcs_one _) ?_; intro W4 hR4 hB4))
  have hl := hR4.run_load 26 _ Tryd.underlying26 rfl (by kernel_rfl)
  refine bodyPost_ret (v := HE (fun _ => 0) 12) (by simp [results, Tryd.results43, asAddr, hl]) rfl ⟨rfl, ?_⟩
  exact E3.out.trans (hB4.below (Nat.le_refl _) E3.out.size)
set_option maxRecDepth 100000 in
set_option maxHeartbeats 400000 in
theorem head_not (b off C : Nat) (f : Nat → Int) (w : World) (hT : Tab w) (hL : Lies w b off 256 f) (hC : 256 ≤ C) (hs : headSeal f = true) (hz : headNone f = false) :
    Calls Tryd.prog 43 #[.slice (some ⟨b, off, none⟩) 256 C] w fun e w' => e = .returned (HE (fun _ => 0) 4) ∧ Below w.heap.size w w' := by
  have hT0 := hT.2
  have TT : Hid (Tab w) := hT
  have LL : Hid (Lies w b off 256 f) := hL
  have HS : Hid (headSeal f = true) := hs
  have HN : Hid (zeroN 148 (fun j => f (108 + j)) = false) := hz
  clear hT hL hs hz
  have k1 : (16 : Int) ≤ C := by omega
  have k2 : ¬ C = 16 := by omega
  have k3 : (108 : Int) ≤ C := by omega
  have k4 : ¬ C = 108 := by omega
  go_enter Tryd.func43, Tryd.ntmps43
  go_wp2_with (first
    | (refine wpList_alloc_rec rfl 26 rfl (hcs fun _ => 0) w.heap.size rfl zeroHdr ?_; intro W1 hR1 hB1 hz1))
  have L1 : Hid (Lies W1.drew b off 256 f) := LL.out.below hB1.drew
  have R1 : Hid (Rec19 W1.drew w.heap.size 0 (hcs fun _ => 0)) := hR1
  have B1 : Hid (Below w.heap.size w W1.drew) := hB1.drew
  clear hR1 hB1 hz1
  go_region_held3 (fun w' => True) (trivial) (first
    | (go_at_call 63; refine (sealAt0 b off 256 C f _ L1.out (by omega) hC).mono ?_; rintro e W2 ⟨rfl, hB2⟩)
    | (go_at_call 62; refine (right16 (some ⟨b, off + 16, none⟩) 240 (C - 16) (fun j => f (16 + j)) f _ (Arg.part (L1.out.below (by assumption)) 16 240 (by omega)) (by omega) (by omega)).mono ?_; rintro e W3 ⟨rfl, hB3⟩; rw [show eqN 16 (sealF 240 (fun j => f (16 + j))) f = true from HS.out]))
  have B3 : Hid (Below W1.drew.heap.size W1.drew W3) := hB2.trans (hB3.mono hB2.size)
  clear hB2 hB3
  have R3 : Hid (Rec19 W3 w.heap.size 0 (hcs fun _ => 0)) := R1.out.below B3.out
  have L3 : Hid (Lies W3 b off 256 f) := L1.out.below B3.out
  have E3 : Hid (Below w.heap.size w W3) := B1.out.trans (B3.out.mono B1.out.size)
  clear R1 B1 L1 B3
  have T3 : Hid (Tab W3) := TT.out.below E3.out hT0
  go_wp2_with (first
    | (go_at_call 64; refine (headerOf_any b off C f _ T3.out L3.out hC).mono ?_; rintro e W4 ⟨rfl, hB4⟩)
    | (refine wpList_alloc_rec rfl 26 rfl (hcs fun _ => 0) W4.heap.size rfl zeroHdr ?_; intro W5 hR5 hB5 hz5)
    | (refine wpList_store_rec rfl 26 (.tmp 4) (.tmp 17) rfl W4.heap.size 0 _ (hcs (hdrF f)) rfl rfl hR5 rfl (by kernel_rfl) (hcs_one _) ?_; intro W6 hR6 hB6
       have F6 : Below W3.heap.size W3 W6 := (hB4.trans (hB5.mono hB4.size)).trans (hB6.below hB4.size (by have := hB4.size; omega))
       have R6 : Hid (Rec19 W6 w.heap.size 0 (hcs fun _ => 0)) := R3.out.below F6
       have L6 : Hid (Lies W6 b (off + 108) 148 (fun j => f (108 + j))) := (L3.out.below F6).part 108 148 (by omega)
       have E6 : Hid (Below w.heap.size w W6) := E3.out.trans (F6.mono E3.out.size)
       have N6 : Hid (w.heap.size < W4.heap.size) := (Nat.lt_of_lt_of_le R3.out.2.2 hB4.size)
       clear F6 hB4 hB5 hB6 hR5 hz5 R3 L3 E3 T3)
    | (go_at_call 65; refine (noughts_any b (off + 108) 148 _ (fun j => f (108 + j)) _ L6.out (by omega)).mono ?_; rintro e W7 ⟨rfl, hW7⟩; rw [hW7, HN.out]; clear hW7 W7)
    | (refine wpList_build_to rfl 26 _ rfl (hcs fun _ => 0).toArray (by kernel_rfl) ?_)
    | (refine wpList_store_rec rfl 26 (.tmp 2) (.tmp 27) rfl w.heap.size 0 _ (hcs fun _ => 0) rfl rfl R6.out rfl (by kernel_rfl) (hcs_one _) ?_; intro W9 hR9 hB9))
  have hl := hR9.run_load 26 _ Tryd.underlying26 rfl (by kernel_rfl)
  refine bodyPost_ret (v := HE (fun _ => 0) 4) (by simp [results, Tryd.results43, asAddr, hl]) rfl ⟨rfl, ?_⟩
  exact E6.out.trans (hB9.below (Nat.le_refl _) E6.out.size)
set_option maxRecDepth 100000 in
set_option maxHeartbeats 400000 in
theorem head_bad (b off C : Nat) (f : Nat → Int) (w : World) (hT : Tab w) (hL : Lies w b off 256 f) (hC : 256 ≤ C) (hs : headSeal f = true) (hz : headNone f = true) (hk : okH (hdrF f) = false) :
    Calls Tryd.prog 43 #[.slice (some ⟨b, off, none⟩) 256 C] w fun e w' => e = .returned (HE (fun _ => 0) 4) ∧ Below w.heap.size w w' := by
  have hT0 := hT.2
  have TT : Hid (Tab w) := hT
  have LL : Hid (Lies w b off 256 f) := hL
  have HS : Hid (headSeal f = true) := hs
  have HN : Hid (zeroN 148 (fun j => f (108 + j)) = true) := hz
  have CK : chk (hdrF f) = 2 := by unfold chk; rw [hk]; rfl
  clear hT hL hs hz hk
  have k1 : (16 : Int) ≤ C := by omega
  have k2 : ¬ C = 16 := by omega
  have k3 : (108 : Int) ≤ C := by omega
  have k4 : ¬ C = 108 := by omega
  go_enter Tryd.func43, Tryd.ntmps43
  go_wp2_with (first
    | (refine wpList_alloc_rec rfl 26 rfl (hcs fun _ => 0) w.heap.size rfl zeroHdr ?_; intro W1 hR1 hB1 hz1))
  have L1 : Hid (Lies W1.drew b off 256 f) := LL.out.below hB1.drew
  have R1 : Hid (Rec19 W1.drew w.heap.size 0 (hcs fun _ => 0)) := hR1
  have B1 : Hid (Below w.heap.size w W1.drew) := hB1.drew
  clear hR1 hB1 hz1
  go_region_held3 (fun w' => True) (trivial) (first
    | (go_at_call 63; refine (sealAt0 b off 256 C f _ L1.out (by omega) hC).mono ?_; rintro e W2 ⟨rfl, hB2⟩)
    | (go_at_call 62; refine (right16 (some ⟨b, off + 16, none⟩) 240 (C - 16) (fun j => f (16 + j)) f _ (Arg.part (L1.out.below (by assumption)) 16 240 (by omega)) (by omega) (by omega)).mono ?_; rintro e W3 ⟨rfl, hB3⟩; rw [show eqN 16 (sealF 240 (fun j => f (16 + j))) f = true from HS.out]))
  have B3 : Hid (Below W1.drew.heap.size W1.drew W3) := hB2.trans (hB3.mono hB2.size)
  clear hB2 hB3
  have R3 : Hid (Rec19 W3 w.heap.size 0 (hcs fun _ => 0)) := R1.out.below B3.out
  have L3 : Hid (Lies W3 b off 256 f) := L1.out.below B3.out
  have E3 : Hid (Below w.heap.size w W3) := B1.out.trans (B3.out.mono B1.out.size)
  clear R1 B1 L1 B3
  have T3 : Hid (Tab W3) := TT.out.below E3.out hT0
  go_wp2_with (first
    | (go_at_call 64; refine (headerOf_any b off C f _ T3.out L3.out hC).mono ?_; rintro e W4 ⟨rfl, hB4⟩)
    | (refine wpList_alloc_rec rfl 26 rfl (hcs fun _ => 0) W4.heap.size rfl zeroHdr ?_; intro W5 hR5 hB5 hz5)
    | (refine wpList_store_rec rfl 26 (.tmp 4) (.tmp 17) rfl W4.heap.size 0 _ (hcs (hdrF f)) rfl rfl hR5 rfl (by kernel_rfl) (hcs_one _) ?_; intro W6 hR6 hB6
       have F6 : Below W3.heap.size W3 W6 := (hB4.trans (hB5.mono hB4.size)).trans (hB6.below hB4.size (by have := hB4.size; omega))
       have R6 : Hid (Rec19 W6 w.heap.size 0 (hcs fun _ => 0)) := R3.out.below F6
       have L6 : Hid (Lies W6 b (off + 108) 148 (fun j => f (108 + j))) := (L3.out.below F6).part 108 148 (by omega)
       have E6 : Hid (Below w.heap.size w W6) := E3.out.trans (F6.mono E3.out.size)
       have N6 : Hid (w.heap.size < W4.heap.size) := (Nat.lt_of_lt_of_le R3.out.2.2 hB4.size)
       clear F6 hB4 hB5 hB6 hR5 hz5 R3 L3 E3 T3)
    | (go_at_call 65; refine (noughts_any b (off + 108) 148 _ (fun j => f (108 + j)) _ L6.out (by omega)).mono ?_; rintro e W7 ⟨rfl, hW7⟩; rw [hW7, HN.out]; clear hW7 W7)
    | (refine wpList_load_w (by rfl) 26 (.tmp 4) rfl W4.heap.size 0 (hcs (hdrF f)) rfl _ Tryd.underlying26 rfl (by kernel_rfl) hR6 ?_)
    | (go_at_call 66; refine (check_any (hdrF f) _ (TT.out.below E6.out hT0)).mono ?_; rintro e W8 ⟨rfl, hB8⟩; rw [CK]
       have R8 : Hid (Rec19 W8 w.heap.size 0 (hcs fun _ => 0)) := R6.out.below hB8
       have H8 : Hid (Rec19 W8 W4.heap.size 0 (hcs (hdrF f))) := hR6.below hB8
       have E8 : Hid (Below w.heap.size w W8) := E6.out.trans (hB8.mono E6.out.size)
       clear hB8)
    | (refine wpList_build_to rfl 26 _ rfl (hcs fun _ => 0).toArray (by kernel_rfl) ?_)
    | (refine wpList_store_rec rfl 26 (.tmp 2) (.tmp 27) rfl w.heap.size 0 _ (hcs fun _ => 0) rfl rfl R8.out rfl (by kernel_rfl) (hcs_one _) ?_; intro W9 hR9 hB9))
  have hl := hR9.run_load 26 _ Tryd.underlying26 rfl (by kernel_rfl)
  refine bodyPost_ret (v := HE (fun _ => 0) 4) (by simp [results, Tryd.results43, asAddr, hl]) rfl ⟨rfl, ?_⟩
  exact E8.out.trans (hB9.below (Nat.le_refl _) E8.out.size)
set_option maxRecDepth 100000 in
set_option maxHeartbeats 400000 in
theorem head_ok (b off C : Nat) (f : Nat → Int) (w : World) (hT : Tab w) (hL : Lies w b off 256 f) (hC : 256 ≤ C) (hs : headSeal f = true) (hz : headNone f = true) (hk : okH (hdrF f) = true) :
    Calls Tryd.prog 43 #[.slice (some ⟨b, off, none⟩) 256 C] w fun e w' => e = .returned (HE (hdrF f) 0) ∧ Below w.heap.size w w' := by
  have hT0 := hT.2
  have TT : Hid (Tab w) := hT
  have LL : Hid (Lies w b off 256 f) := hL
  have HS : Hid (headSeal f = true) := hs
  have HN : Hid (zeroN 148 (fun j => f (108 + j)) = true) := hz
  have CK : chk (hdrF f) = 0 := by unfold chk; rw [hk]; rfl
  clear hT hL hs hz hk
  have k1 : (16 : Int) ≤ C := by omega
  have k2 : ¬ C = 16 := by omega
  have k3 : (108 : Int) ≤ C := by omega
  have k4 : ¬ C = 108 := by omega
  go_enter Tryd.func43, Tryd.ntmps43
  go_wp2_with (first
    | (refine wpList_alloc_rec rfl 26 rfl (hcs fun _ => 0) w.heap.size rfl zeroHdr ?_; intro W1 hR1 hB1 hz1))
  have L1 : Hid (Lies W1.drew b off 256 f) := LL.out.below hB1.drew
  have R1 : Hid (Rec19 W1.drew w.heap.size 0 (hcs fun _ => 0)) := hR1
  have B1 : Hid (Below w.heap.size w W1.drew) := hB1.drew
  clear hR1 hB1 hz1
  go_region_held3 (fun w' => True) (trivial) (first
    | (go_at_call 63; refine (sealAt0 b off 256 C f _ L1.out (by omega) hC).mono ?_; rintro e W2 ⟨rfl, hB2⟩)
    | (go_at_call 62; refine (right16 (some ⟨b, off + 16, none⟩) 240 (C - 16) (fun j => f (16 + j)) f _ (Arg.part (L1.out.below (by assumption)) 16 240 (by omega)) (by omega) (by omega)).mono ?_; rintro e W3 ⟨rfl, hB3⟩; rw [show eqN 16 (sealF 240 (fun j => f (16 + j))) f = true from HS.out]))
  have B3 : Hid (Below W1.drew.heap.size W1.drew W3) := hB2.trans (hB3.mono hB2.size)
  clear hB2 hB3
  have R3 : Hid (Rec19 W3 w.heap.size 0 (hcs fun _ => 0)) := R1.out.below B3.out
  have L3 : Hid (Lies W3 b off 256 f) := L1.out.below B3.out
  have E3 : Hid (Below w.heap.size w W3) := B1.out.trans (B3.out.mono B1.out.size)
  clear R1 B1 L1 B3
  have T3 : Hid (Tab W3) := TT.out.below E3.out hT0
  go_wp2_with (first
    | (go_at_call 64; refine (headerOf_any b off C f _ T3.out L3.out hC).mono ?_; rintro e W4 ⟨rfl, hB4⟩)
    | (refine wpList_alloc_rec rfl 26 rfl (hcs fun _ => 0) W4.heap.size rfl zeroHdr ?_; intro W5 hR5 hB5 hz5)
    | (refine wpList_store_rec rfl 26 (.tmp 4) (.tmp 17) rfl W4.heap.size 0 _ (hcs (hdrF f)) rfl rfl hR5 rfl (by kernel_rfl) (hcs_one _) ?_; intro W6 hR6 hB6
       have F6 : Below W3.heap.size W3 W6 := (hB4.trans (hB5.mono hB4.size)).trans (hB6.below hB4.size (by have := hB4.size; omega))
       have R6 : Hid (Rec19 W6 w.heap.size 0 (hcs fun _ => 0)) := R3.out.below F6
       have L6 : Hid (Lies W6 b (off + 108) 148 (fun j => f (108 + j))) := (L3.out.below F6).part 108 148 (by omega)
       have E6 : Hid (Below w.heap.size w W6) := E3.out.trans (F6.mono E3.out.size)
       have N6 : Hid (w.heap.size < W4.heap.size) := (Nat.lt_of_lt_of_le R3.out.2.2 hB4.size)
       clear F6 hB4 hB5 hB6 hR5 hz5 R3 L3 E3 T3)
    | (go_at_call 65; refine (noughts_any b (off + 108) 148 _ (fun j => f (108 + j)) _ L6.out (by omega)).mono ?_; rintro e W7 ⟨rfl, hW7⟩; rw [hW7, HN.out]; clear hW7 W7)
    | (refine wpList_load_w (by rfl) 26 (.tmp 4) rfl W4.heap.size 0 (hcs (hdrF f)) rfl _ Tryd.underlying26 rfl (by kernel_rfl) hR6 ?_)
    | (go_at_call 66; refine (check_any (hdrF f) _ (TT.out.below E6.out hT0)).mono ?_; rintro e W8 ⟨rfl, hB8⟩; rw [CK]
       have R8 : Hid (Rec19 W8 w.heap.size 0 (hcs fun _ => 0)) := R6.out.below hB8
       have H8 : Hid (Rec19 W8 W4.heap.size 0 (hcs (hdrF f))) := hR6.below hB8
       have E8 : Hid (Below w.heap.size w W8) := E6.out.trans (hB8.mono E6.out.size)
       clear hB8)
    | (refine wpList_load_rec rfl 26 (.tmp 4) rfl W4.heap.size 0 (hcs (hdrF f)) rfl _ Tryd.underlying26 rfl (by kernel_rfl) H8.out ?_)
    | (refine wpList_build_to rfl 26 _ rfl (hcs fun _ => 0).toArray (by kernel_rfl) ?_)
    | (refine wpList_store_rec rfl 26 (.tmp 2) (.tmp 28) rfl w.heap.size 0 _ (hcs (hdrF f)) rfl rfl R8.out rfl (by kernel_rfl) (hcs_one _) ?_; intro W9 hR9 hB9))
  have hl := hR9.run_load 26 _ Tryd.underlying26 rfl (by kernel_rfl)
  refine bodyPost_ret (v := HE (hdrF f) 0) (by simp [results, Tryd.results43, asAddr, hl]) rfl ⟨rfl, ?_⟩
  exact E8.out.trans (hB9.below (Nat.le_refl _) E8.out.size)
theorem head_any (b off C : Nat) (f : Nat → Int) (w : World) (hT : Tab w) (hL : Lies w b off 256 f) (hC : 256 ≤ C) :
    Calls Tryd.prog 43 #[.slice (some ⟨b, off, none⟩) 256 C] w fun e w' => e = .returned (HE (headVal f) (headCode f)) ∧ Below w.heap.size w w' := by
  by_cases hs : headSeal f = false
  · have e : headCode f = 12 := by unfold headCode; rw [if_pos hs]
    rw [show headVal f = fun _ => 0 from by unfold headVal; rw [e, if_neg (by decide)], e]
    exact head_seal b off C f w hT hL hC hs
  · have hs' : headSeal f = true := by simpa using hs
    by_cases hz : headNone f = false
    · have e : headCode f = 4 := by unfold headCode; rw [if_neg hs, if_pos (.inl hz)]
      rw [show headVal f = fun _ => 0 from by unfold headVal; rw [e, if_neg (by decide)], e]
      exact head_not b off C f w hT hL hC hs' hz
    · have hz' : headNone f = true := by simpa using hz
      by_cases hk : okH (hdrF f) = false
      · have e : headCode f = 4 := by unfold headCode; rw [if_neg hs, if_pos (.inr hk)]
        rw [show headVal f = fun _ => 0 from by unfold headVal; rw [e, if_neg (by decide)], e]
        exact head_bad b off C f w hT hL hC hs' hz' hk
      · have hk' : okH (hdrF f) = true := by simpa using hk
        have e : headCode f = 0 := by unfold headCode; rw [if_neg hs, if_neg (by rw [hz', hk']; simp)]
        rw [show headVal f = hdrF f from by unfold headVal; rw [e, if_pos rfl], e]
        exact head_ok b off C f w hT hL hC hs' hz' hk'
theorem headCode_zero {f : Nat → Int} (h : headCode f = 0) : headSeal f = true ∧ headNone f = true ∧ okH (hdrF f) = true := by
  unfold headCode at h
  by_cases hs : headSeal f = false
  · rw [if_pos hs] at h; omega
  · rw [if_neg hs] at h
    by_cases hz : headNone f = false ∨ okH (hdrF f) = false
    · rw [if_pos hz] at h; omega
    · exact ⟨by simpa using hs, by simpa using fun e => hz (.inl e), by simpa using fun e => hz (.inr e)⟩
theorem headCode_ok {f : Nat → Int} (h1 : headSeal f = true) (h2 : headNone f = true) (h3 : okH (hdrF f) = true) : headCode f = 0 := by
  unfold headCode; rw [h1, h2, h3]; rfl
end Go.Proofs.YtijpoipcadhchaaDoor
