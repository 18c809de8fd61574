/-
  Walks, not a claim by itself: the reference's Head. By the verifier.
-/
import Derived.Test.YtfpgkckcifjkcaaDoorNRd
import Derived.Test.YtfpgkckcifjkcaaDoorNSl
import Derived.Test.YtfpgkckcifjkcaaDoorMLaw
namespace Go.Proofs.YtfpgkckcifjkcaaDoor
open Go.RowKit
/-! What the header's bytes tell. -/
theorem words_hdr (f : Nat → Int) (hf : ∀ j, j < 256 → 0 ≤ f j ∧ f j < 256) : Words (hdrF f) := by
  refine ⟨?_, ?_, ?_⟩
  · rw [hdrF_9]; exact ps_8 _ 8 (by omega) (fun j hj => hf _ (by omega))
  · rw [hdrF_10]; exact ps_8 _ 8 (by omega) (fun j hj => hf _ (by omega))
  · rw [hdrF_13]; exact ps_8 _ 8 (by omega) (fun j hj => hf _ (by omega))
theorem rest_low (f : Nat → Int) (hf : ∀ j, j < 256 → 0 ≤ f j ∧ f j < 256) (j : Nat) (hj : j < 92) : restF (hdrF f) (fun j => f (16 + j)) j = f (16 + j) := by
  unfold restF
  by_cases a : j < 16
  · rw [innerF_seal _ _ j a]
  by_cases c : 52 ≤ j ∧ j < 68
  · obtain ⟨i, rfl⟩ : ∃ i, j = 52 + i := ⟨j - 52, by omega⟩
    rw [show 16 + (52 + i) = 68 + i by omega, innerF_client _ _ i (by omega), wide, hdrF_9, hdrF_10]
    by_cases e : i < 8
    · rw [if_pos e, byt_ps _ 8 i (fun j hj => hf _ (by omega)) e]
    · rw [if_neg e, byt_ps _ 8 (i - 8) (fun j hj => hf _ (by omega)) (by omega), show 76 + (i - 8) = 68 + i by omega]
  by_cases d : 76 ≤ j ∧ j < 84
  · obtain ⟨i, rfl⟩ : ∃ i, j = 76 + i := ⟨j - 76, by omega⟩
    rw [show 16 + (76 + i) = 92 + i by omega, innerF_time _ _ i (by omega), hdrF_13, byt_ps _ 8 i (fun j hj => hf _ (by omega)) (by omega)]
  obtain ⟨k, i, hk, hi, e⟩ := fat_cover (16 + j) (by omega) (by omega) (by omega) (by omega)
  rw [e]
  have := fat_le k hk
  rw [innerF_num _ _ k i hk hi, hdrF_num _ k hk, byt_ps _ 4 i (fun j hj => hf _ (by omega)) hi]
theorem rest_high (f : Nat → Int) (j : Nat) (hj : 92 ≤ j) : restF (hdrF f) (fun j => f (16 + j)) j = 0 := by
  unfold restF
  rw [innerF_none _ _ _ (by omega)]
theorem rest_same (f : Nat → Int) (hf : ∀ j, j < 256 → 0 ≤ f j ∧ f j < 256) (h : headNone f = true) (j : Nat) (hj : j < 240) : restF (hdrF f) (fun j => f (16 + j)) j = f (16 + j) := by
  by_cases e : j < 92
  · exact rest_low f hf j e
  · rw [rest_high f j (by omega)]
    have := (zeroN_iff _ _).1 h (j - 92) (by omega)
    rw [show 16 + j = 108 + (j - 92) by omega]
    exact this.symm
theorem rest_other (f : Nat → Int) (h : headNone f = false) (hs : ∀ j, j < 240 → restF (hdrF f) (fun j => f (16 + j)) j = f (16 + j)) : False := by
  have : headNone f = true := by
    unfold headNone
    rw [zeroN_iff]
    intro j hj
    have := hs (92 + j) (by omega)
    rw [rest_high f _ (by omega)] at this
    rw [show 108 + j = 16 + (92 + j) by omega]
    exact this.symm
  rw [h] at this
  cases this
theorem fin_eq (g h9 : Nat → Int) (a9 a10 a11 a12 a13 a14 a15 : Int) (H : ∀ j, j < 9 → h9 j = g j) (e9 : a9 = g 9) (e10 : a10 = g 10) (e11 : a11 = g 11) (e12 : a12 = g 12) (e13 : a13 = g 13) (e14 : a14 = g 14) (e15 : a15 = g 15) :
    hcs (upd (upd (upd (upd (upd (upd (upd h9 9 a9) 10 a10) 11 a11) 12 a12) 13 a13) 14 a14) 15 a15) = hcs g := by
  refine hcs_congr _ _ (fun j hj => ?_)
  unfold upd
  by_cases q15 : j = 15
  · rw [if_pos q15, e15, q15]
  rw [if_neg q15]
  by_cases q14 : j = 14
  · rw [if_pos q14, e14, q14]
  rw [if_neg q14]
  by_cases q13 : j = 13
  · rw [if_pos q13, e13, q13]
  rw [if_neg q13]
  by_cases q12 : j = 12
  · rw [if_pos q12, e12, q12]
  rw [if_neg q12]
  by_cases q11 : j = 11
  · rw [if_pos q11, e11, q11]
  rw [if_neg q11]
  by_cases q10 : j = 10
  · rw [if_pos q10, e10, q10]
  rw [if_neg q10]
  by_cases q9 : j = 9
  · rw [if_pos q9, e9, q9]
  rw [if_neg q9]
  exact H j (by omega)
theorem hcs_set11 (h : Nat → Int) (v : Int) : (hcs h).set 11 (.int .i64 v) = hcs (upd h 11 v) := rfl
theorem hcs_set12 (h : Nat → Int) (v : Int) : (hcs h).set 12 (.int .i64 v) = hcs (upd h 12 v) := rfl
theorem hcs_set14 (h : Nat → Int) (v : Int) : (hcs h).set 14 (.int .i64 v) = hcs (upd h 14 v) := rfl
theorem hcs_set15 (h : Nat → Int) (v : Int) : (hcs h).set 15 (.int .i64 v) = hcs (upd h 15 v) := rfl
theorem zeroI9 : (Tryd.prog.info? 84).bind (·.zero) = some (.agg (cl .i64 9 fun _ => 0).toArray) := by kernel_rfl
theorem hopen256 (b off C : Nat) (f : Nat → Int) (w : World) (h : Lies w b off 256 f) (hC : 256 ≤ C) (ho : headSeal f = true) :
    Calls Tryd.prog 58 #[.slice (some ⟨b, off, none⟩) 256 C] w fun e w' => ∃ a' cap, e = .returned (.tuple #[.slice a' 240 cap, .int .i64 0]) ∧ Arg w' a' 240 (fun j => f (16 + j)) ∧ Below w.heap.size w w' :=
  hopen_ok (some ⟨b, off, none⟩) 256 C f w (Arg.of h) (by omega) hC (by omega) ho
theorem hopen256_no (b off C : Nat) (f : Nat → Int) (w : World) (h : Lies w b off 256 f) (hC : 256 ≤ C) (ho : headSeal f = false) :
    Calls Tryd.prog 58 #[.slice (some ⟨b, off, none⟩) 256 C] w fun e w' => e = .returned (.tuple #[.slice none 0 0, .int .i64 12]) ∧ Below w.heap.size w w' :=
  hopen_no (some ⟨b, off, none⟩) 256 C f w (Arg.of h) (by omega) hC (by omega) ho
/-- A conversion's run. -/
theorem conv_run {P : Program} {a : Act} {w : World} {o : Oper} (x : Operand) (T1 T2 : TypeId) (hop : o.op = .convert T1 T2 x) (u v : Value) (hx : a.eval x = u) (hr : (convert T1 T2 u).run P w = .ok v w) : (execOp a.eval o).run P w = .ok (.value v) w := by
  simp [execOp, hop, hx, hr, Result.andThen]
set_option maxRecDepth 100000 in
set_option maxHeartbeats 400000 in
theorem nhead_len (a : Option Addr) (n C : Nat) (w : World) (hn : n ≠ 256) :
    Calls Tryd.prog 38 #[.slice a n C] w fun e w' => e = .returned (HE (fun _ => 0) 4) ∧ Below w.heap.size w w' := by
  have e1 : ((n : Int) != 256) = true := by simp; omega
  go_enter Tryd.func38, Tryd.ntmps38
  go_wp2_with (first
    | (refine wpList_alloc_rec rfl 26 rfl (hcs fun _ => 0) w.heap.size rfl zeroHdr ?_; intro W1 hR1 hB1 hz1)
    | (refine wpList_build_to rfl 26 _ rfl (hcs fun _ => 0).toArray (by kernel_rfl) ?_)
    | (refine wpList_store_rec rfl 26 (.tmp 2) (.tmp 14) rfl w.heap.size 0 _ (hcs fun _ => 0) rfl rfl hR1 rfl (by kernel_rfl) (hcs_one _) ?_; intro W2 hR2 hB2))
  have hl := hR2.run_load 26 _ Tryd.underlying26 rfl (by kernel_rfl)
  refine bodyPost_ret (v := HE (fun _ => 0) 4) (by simp [results, Tryd.results38, asAddr, hl]) rfl ⟨rfl, ?_⟩
  exact hB1.trans (hB2.below (Nat.le_refl _) (by omega))
set_option maxRecDepth 100000 in
set_option maxHeartbeats 400000 in
theorem nhead_seal (b off C : Nat) (f : Nat → Int) (w : World) (hL : Lies w b off 256 f) (hC : 256 ≤ C) (hs : headSeal f = false) :
    Calls Tryd.prog 38 #[.slice (some ⟨b, off, none⟩) 256 C] w fun e w' => e = .returned (HE (fun _ => 0) 12) ∧ Below w.heap.size w w' := by
  have LL : Hid (Lies w b off 256 f) := hL
  have HS : Hid (headSeal f = false) := hs
  clear hL hs
  go_enter Tryd.func38, Tryd.ntmps38
  go_wp2_with (first
    | (refine wpList_alloc_rec rfl 26 rfl (hcs fun _ => 0) w.heap.size rfl zeroHdr ?_; intro W1 hR1 hB1 hz1)
    | (go_at_call 58; refine (hopen256_no b off C f _ (LL.out.below hB1) hC HS.out).mono ?_; rintro e V ⟨rfl, hB2⟩
       have RV : Hid (Rec19 V w.heap.size 0 (hcs fun _ => 0)) := hR1.below hB2
       have BV : Hid (Below w.heap.size w V) := hB1.trans (hB2.mono hB1.size)
       clear hR1 hB1 hz1 hB2)
    | (refine wpList_build_to rfl 26 _ rfl (hcs fun _ => 0).toArray (by kernel_rfl) ?_)
    | (refine wpList_store_rec rfl 26 (.tmp 2) (.tmp 22) rfl w.heap.size 0 _ (hcs fun _ => 0) rfl rfl RV.out rfl (by kernel_rfl) (hcs_one _) ?_; intro W9 hR9 hB9))
  have hl := hR9.run_load 26 _ Tryd.underlying26 rfl (by kernel_rfl)
  refine bodyPost_ret (v := HE (fun _ => 0) 12) (by simp [results, Tryd.results38, asAddr, hl]) rfl ⟨rfl, ?_⟩
  exact BV.out.trans (hB9.below (Nat.le_refl _) BV.out.size)
/-- What holds at the head of the first loop; of the second. -/
def n1Rel (V : World) (g : Nat → Int) (i : Value) (wr : World) : Prop := ∃ k : Nat, k ≤ 9 ∧ i = .int .i64 k ∧ IRow wr V.heap.size .i64 9 (fun j => if j < k then g j else 0) ∧ Below V.heap.size V wr
def n2Rel (V : World) (s : Nat → Int) (i : Value) (wr : World) : Prop := ∃ k : Nat, k ≤ 16 ∧ i = .int .i64 k ∧ IRow wr V.heap.size .u8 16 (fun j => if j < k then s j else 0) ∧ Below V.heap.size V wr
theorem till_step (k : Nat) (g : Nat → Int) (j : Nat) : upd (fun j => if j < k then g j else 0) k (g k) j = if j < k + 1 then g j else 0 := by
  unfold upd
  by_cases e : j = k
  · rw [if_pos e, if_pos (by omega), e]
  · rw [if_neg e]
    show (if j < k then g j else 0) = _
    by_cases h : j < k
    · rw [if_pos h, if_pos (by omega)]
    · rw [if_neg h, if_neg (by omega)]
theorem n1_step (V wr : World) (g : Nat → Int) (k : Nat) (v : Int) (hk : k < 9) (hv : v = g k) (hR : IRow wr V.heap.size .i64 9 (fun j => if j < k then g j else 0)) (hB : Below V.heap.size V wr) :
    n1Rel V g (.int .i64 ((k : Int) + 1)) (wr.setCell ⟨V.heap.size, k, none⟩ (.int .i64 v)) := by
  subst hv
  exact ⟨k + 1, by omega, by go_num, (hR.set k (g k)).congr (fun j _ => till_step k g j), hB.setCell (Nat.le_refl _) _⟩
theorem n2_step (V wr : World) (g : Nat → Int) (k : Nat) (v : Int) (hk : k < 16) (hv : v = g k) (hR : IRow wr V.heap.size .u8 16 (fun j => if j < k then g j else 0)) (hB : Below V.heap.size V wr) :
    n2Rel V g (.int .i64 ((k : Int) + 1)) (wr.setCell ⟨V.heap.size, k, none⟩ (.int .u8 v)) := by
  subst hv
  exact ⟨k + 1, by omega, by go_num, (hR.set k (g k)).congr (fun j _ => till_step k g j), hB.setCell (Nat.le_refl _) _⟩
/-- What the last region must keep. -/
def nhS (w : World) (c q : Nat) (g s : Nat → Int) (a' : Option Addr) (W : World) : Prop := Rec19 W c 0 (hcs g) ∧ IRow W q .u8 16 s ∧ Arg W a' 240 s ∧ Rec19 W w.heap.size 0 (hcs fun _ => 0) ∧ Below w.heap.size w W
theorem nhS.below {w : World} {c q : Nat} {g s : Nat → Int} {a' : Option Addr} {W W' : World} (h : nhS w c q g s a' W) (hB : Below W.heap.size W W') : nhS w c q g s a' W' :=
  ⟨h.1.below hB, h.2.1.below hB, h.2.2.1.below hB, h.2.2.2.1.below hB, h.2.2.2.2.trans (hB.mono h.2.2.2.2.size)⟩
theorem nhS.held {w : World} {c q : Nat} {g s : Nat → Int} {a' : Option Addr} {W : World} (h : nhS w c q g s a' W) (cap : Nat) : W.rangeAt c 0 (hcs g) ∧ W.rangeAt q 0 (cl .u8 16 s) ∧ (convert 27 9 (.slice a' 240 cap)).run Tryd.prog W = .ok (.string (txtN 240 s)) W ∧ Hid (nhS w c q g s a' W) :=
  ⟨h.1.1, h.2.1.rec.1, conv_arg W a' 240 cap s h.2.2.1, h⟩
set_option maxRecDepth 100000 in
set_option maxHeartbeats 1000000 in
theorem nhead_full (b off C : Nat) (f : Nat → Int) (w : World) (hL : Lies w b off 256 f) (hC : 256 ≤ C) (hs : headSeal f = true) :
    Calls Tryd.prog 38 #[.slice (some ⟨b, off, none⟩) 256 C] w fun e w' => e = .returned (HE (headVal f) (headCode f)) ∧ Below w.heap.size w w' := by
  have LL : Hid (Lies w b off 256 f) := hL
  have HS : Hid (headSeal f = true) := hs
  obtain ⟨g, hg⟩ : ∃ g, hdrF f = g := ⟨_, rfl⟩
  have HG : Hid (hdrF f = g) := hg
  clear hL hs hg
  have k1 : (68 : Int) ≤ C := by omega
  have k2 : (84 : Int) ≤ C := by omega
  have k3 : ¬ C = 68 := by omega
  go_enter Tryd.func38, Tryd.ntmps38
  go_wp2_with (first
    | (refine wpList_alloc_rec rfl 26 rfl (hcs fun _ => 0) w.heap.size rfl zeroHdr ?_; intro W1 hR1 hB1 hz1)
    | (go_at_call 58; refine (hopen256 b off C f _ (LL.out.below hB1) hC HS.out).mono ?_; rintro e V ⟨a', cap, rfl, hA, hB2⟩
       have RV : Hid (Rec19 V w.heap.size 0 (hcs fun _ => 0)) := hR1.below hB2
       have LV : Hid (Lies V b off 256 f) := (LL.out.below hB1).below hB2
       have AV : Hid (Arg V a' 240 (fun j => f (16 + j))) := hA
       have BV : Hid (Below w.heap.size w V) := hB1.trans (hB2.mono hB1.size)
       clear hR1 hB1 hz1 hB2 hA)
    | (refine wpList_alloc_row rfl 84 rfl .i64 9 V.heap.size rfl zeroI9 ?_; intro W2 R2 B2 z2))
  have ST : Hid (n1Rel V g (.int .i64 0) W2) := ⟨0, by omega, rfl, R2.congr (fun j _ => (if_neg (by omega)).symm), B2⟩
  clear R2 B2 z2
  go_loopw [7] (fun i wr => n1Rel V g i wr) (fun i _ => 9 - (intOf i).toNat)
  case atStart => exact ST.out
  case round =>
    obtain ⟨k, hk, rfl, hR, hB⟩ := hrel
    clear ST
    have LW : Hid (Lies wr b off 256 f) := LV.out.below hB
    by_cases hlt : k < 9
    · have gk := hR.1 k hlt
      have fk := hR.2.1 k
      have e0 : (k : Int) < 9 := by omega
      have SS : Hid (∀ v, v = g k → n1Rel V g (.int .i64 ((k : Int) + 1)) (wr.setCell ⟨V.heap.size, k, none⟩ (.int .i64 v))) := fun v hv => n1_step V wr g k v hlt hv hR hB
      have hv : ps (fun i => f (32 + 4 * k + i)) 4 = g k := by
        have := hdrF_num f k (by omega)
        rw [HG.out] at this
        unfold pos fat at this
        rw [if_pos hlt, if_pos hlt] at this
        exact this.symm
      obtain ⟨v0, v1⟩ := ps_4 (fun i => f (32 + 4 * k + i)) (fun j hj => LW.out.2.1 _ (by omega))
      rw [hv] at v0 v1
      have HV : Hid (ps (fun i => f (32 + 4 * k + i)) 4 = g k) := hv
      clear hv hR hB
      generalize g k = v at v0 v1 SS HV
      have wv : IntKind.i64.wrap v = v := by rw [IntKind.wrap_i64]; omega
      go_wp2_with (go_at_call 59; refine (mat4' b off 256 C (32 + 4 * k) f _ LW.out (by omega) (by omega) _ (by omega)).mono ?_; rintro e w' ⟨rfl, hw'⟩; rw [hw', HV.out]; clear hw')
      exact ⟨SS.out v rfl, by simp [intOf]; omega⟩
    · obtain rfl : k = 9 := by omega
      rw [show ((9 : Nat) : Int) = 9 from rfl]
      have R9 : IRow wr V.heap.size .i64 9 g := hR.congr (fun j hj => if_pos hj)
      have c0 := R9.1 0 (by omega)
      have c1 := R9.1 1 (by omega)
      have c2 := R9.1 2 (by omega)
      have c3 := R9.1 3 (by omega)
      have c4 := R9.1 4 (by omega)
      have c5 := R9.1 5 (by omega)
      have c6 := R9.1 6 (by omega)
      have c7 := R9.1 7 (by omega)
      have c8 := R9.1 8 (by omega)
      have BE : Hid (Below V.heap.size V wr) := hB
      clear R9 hR hB hlt hk
      obtain ⟨h9, hh9⟩ : ∃ h9 : Nat → Int, h9 = fun j => if j < 9 then g j else 0 := ⟨_, rfl⟩
      have H9 : Hid (∀ j, j < 9 → h9 j = g j) := fun j hj => by rw [hh9]; exact if_pos hj
      have e9 : hcs (fun j => if j < 9 then g j else 0) = hcs h9 := by rw [hh9]
      clear hh9
      go_wp2_with (first
        | (refine wpList_build_to rfl 26 _ rfl (hcs fun j => if j < 9 then g j else 0).toArray (by kernel_rfl) ?_; rw [e9])
        | (refine wpList_alloc_rec rfl 26 rfl (hcs fun _ => 0) wr.heap.size rfl zeroHdr ?_; intro W3 R3 B3 z3)
        | (refine wpList_store_rec rfl 26 (.tmp 8) (.tmp 54) rfl wr.heap.size 0 _ (hcs h9) rfl rfl R3 rfl (by kernel_rfl) (hcs_one _) ?_; intro W4 R4 B4
           have F4 : Hid (Below wr.heap.size wr W4) := B3.trans (B4.below (Nat.le_refl _) (by omega))
           have L4 : Hid (Lies W4 b off 256 f) := LW.out.below F4.out
           have S4 : Hid (Rec19 W4 wr.heap.size 0 (hcs h9)) := R4
           have hcV : Hid (V.heap.size ≤ wr.heap.size) := BE.out.size
           have E4 : Hid (Below V.heap.size V W4) := BE.out.trans (F4.out.mono hcV.out)
           clear F4 R3 B3 z3 R4 B4 c0 c1 c2 c3 c4 c5 c6 c7 c8 e9 LW BE)
        | (go_at_call 60; refine (rread_ok b (off + 68) _ (fun i => f (68 + i)) _ (L4.out.part 68 16 (by omega))).mono ?_; rintro e W5 ⟨rfl, hB5⟩
           have S5 : Hid (Rec19 W5 wr.heap.size 0 (hcs h9)) := S4.out.below hB5
           have L5 : Hid (Lies W5 b off 256 f) := L4.out.below hB5
           have E5 : Hid (Below V.heap.size V W5) := E4.out.trans (hB5.mono E4.out.size)
           clear hB5 S4 L4 E4
           obtain ⟨c9, f9⟩ := S5.out.at 9 _ rfl
           obtain ⟨c10, f10⟩ := S5.out.at 10 _ rfl
           rw [le8_ps, le8_ps]
           generalize h9' : ps (fun j => f (68 + (8 + j))) 8 = a9
           generalize h10' : ps (fun i => f (68 + i)) 8 = a10
           have H10 : Hid (a9 = g 9 ∧ a10 = g 10) := ⟨by rw [← HG.out, hdrF_9, ← h9', ps_congr _ (fun i => f (76 + i)) 8 (fun j _ => by show f (68 + (8 + j)) = f (76 + j); rw [← Nat.add_assoc])], by rw [← HG.out, hdrF_10, h10']⟩
           clear h9' h10'))
      have S6 : Hid (Rec19 ((W5.setCell ⟨wr.heap.size, 9, none⟩ (.int .u64 a9)).setCell ⟨wr.heap.size, 10, none⟩ (.int .u64 a10)) wr.heap.size 0 (hcs (upd (upd h9 9 a9) 10 a10))) := by
        have q := (S5.out.set 9 (.int .u64 a9) (by rw [hcs_len]; omega)).set 10 (.int .u64 a10) (by rw [List.length_set, hcs_len]; omega)
        rw [hcs_set9, hcs_set10] at q
        exact q
      have nb : b ≠ wr.heap.size := by have := LV.out.2.2; have := hcV.out; omega
      have L6 : Hid (Lies ((W5.setCell ⟨wr.heap.size, 9, none⟩ (.int .u64 a9)).setCell ⟨wr.heap.size, 10, none⟩ (.int .u64 a10)) b off 256 f) := (L5.out.but (But.set _ _ _) (by omega)).but (But.set _ _ _) (by omega)
      have E6 : Hid (Below V.heap.size V ((W5.setCell ⟨wr.heap.size, 9, none⟩ (.int .u64 a9)).setCell ⟨wr.heap.size, 10, none⟩ (.int .u64 a10))) := (E5.out.setCell (by exact hcV.out) _).setCell (by exact hcV.out) _
      generalize ((W5.setCell ⟨wr.heap.size, 9, none⟩ (.int .u64 a9)).setCell ⟨wr.heap.size, 10, none⟩ (.int .u64 a10)) = X6 at S6 L6 E6 ⊢
      clear c9 f9 c10 f10 S5 L5 E5
      refine (mat4' b off 256 C 84 f _ L6.out (by omega) (by omega) _ (by omega)).mono ?_
      rintro e w' ⟨rfl, hw'⟩
      rw [hw']
      clear hw' w'
      obtain ⟨v0, v1⟩ := ps_4 (fun i => f (84 + i)) (fun j hj => L6.out.2.1 _ (by omega))
      generalize hv : ps (fun i => f (84 + i)) 4 = a11 at v0 v1 ⊢
      have H11 : Hid (a11 = g 11) := by
        have := hdrF_num f 9 (by omega)
        rw [HG.out] at this
        exact hv.symm.trans this.symm
      clear hv
      have wv : IntKind.i64.wrap a11 = a11 := by rw [IntKind.wrap_i64]; omega
      have S7 : Hid (Rec19 (X6.setCell ⟨wr.heap.size, 11, none⟩ (.int .i64 a11)) wr.heap.size 0 (hcs (upd (upd (upd h9 9 a9) 10 a10) 11 a11))) := by
        have q := S6.out.set 11 (.int .i64 a11) (by rw [hcs_len]; omega)
        rw [hcs_set11] at q
        exact q
      have L7 : Hid (Lies (X6.setCell ⟨wr.heap.size, 11, none⟩ (.int .i64 a11)) b off 256 f) := L6.out.but (But.set _ _ _) (by omega)
      have E7 : Hid (Below V.heap.size V (X6.setCell ⟨wr.heap.size, 11, none⟩ (.int .i64 a11))) := E6.out.setCell (by exact hcV.out) _
      obtain ⟨cc, ff⟩ := S6.out.at 11 _ rfl
      generalize (upd (upd h9 9 a9) 10 a10) 11 = y at cc
      clear S6 L6 E6
      go_wp2_with fail
      generalize (X6.setCell ⟨wr.heap.size, 11, none⟩ (.int .i64 a11)) = X7 at S7 L7 E7 ⊢
      clear cc ff v0 v1 wv
      refine (mat4' b off 256 C 88 f _ L7.out (by omega) (by omega) _ (by omega)).mono ?_
      rintro e w' ⟨rfl, hw'⟩
      rw [hw']
      clear hw' w'
      obtain ⟨v0, v1⟩ := ps_4 (fun i => f (88 + i)) (fun j hj => L7.out.2.1 _ (by omega))
      generalize hv : ps (fun i => f (88 + i)) 4 = a12 at v0 v1 ⊢
      have H12 : Hid (a12 = g 12) := by
        have := hdrF_num f 10 (by omega)
        rw [HG.out] at this
        exact hv.symm.trans this.symm
      clear hv
      have wv : IntKind.i64.wrap a12 = a12 := by rw [IntKind.wrap_i64]; omega
      have S8 : Hid (Rec19 (X7.setCell ⟨wr.heap.size, 12, none⟩ (.int .i64 a12)) wr.heap.size 0 (hcs (upd (upd (upd (upd h9 9 a9) 10 a10) 11 a11) 12 a12))) := by
        have q := S7.out.set 12 (.int .i64 a12) (by rw [hcs_len]; omega)
        rw [hcs_set12] at q
        exact q
      have L8 : Hid (Lies (X7.setCell ⟨wr.heap.size, 12, none⟩ (.int .i64 a12)) b off 256 f) := L7.out.but (But.set _ _ _) (by omega)
      have E8 : Hid (Below V.heap.size V (X7.setCell ⟨wr.heap.size, 12, none⟩ (.int .i64 a12))) := E7.out.setCell (by exact hcV.out) _
      obtain ⟨cc, ff⟩ := S7.out.at 12 _ rfl
      generalize (upd (upd (upd h9 9 a9) 10 a10) 11 a11) 12 = y at cc
      clear S7 L7 E7
      go_wp2_with fail
      generalize (X7.setCell ⟨wr.heap.size, 12, none⟩ (.int .i64 a12)) = X8 at S8 L8 E8 ⊢
      clear cc ff v0 v1 wv
      refine (mat8 b off 256 C 92 f _ L8.out (by omega) (by omega)).mono ?_
      rintro e w' ⟨rfl, hw'⟩
      rw [hw']
      clear hw' w'
      generalize hv : ps (fun i => f (92 + i)) 8 = a13
      have H13 : Hid (a13 = g 13) := by
        have := hdrF_13 f
        rw [HG.out] at this
        exact hv.symm.trans this.symm
      clear hv
      have S9 : Hid (Rec19 (X8.setCell ⟨wr.heap.size, 13, none⟩ (.int .u64 a13)) wr.heap.size 0 (hcs (upd (upd (upd (upd (upd h9 9 a9) 10 a10) 11 a11) 12 a12) 13 a13))) := by
        have q := S8.out.set 13 (.int .u64 a13) (by rw [hcs_len]; omega)
        rw [hcs_set13] at q
        exact q
      have L9 : Hid (Lies (X8.setCell ⟨wr.heap.size, 13, none⟩ (.int .u64 a13)) b off 256 f) := L8.out.but (But.set _ _ _) (by omega)
      have E9 : Hid (Below V.heap.size V (X8.setCell ⟨wr.heap.size, 13, none⟩ (.int .u64 a13))) := E8.out.setCell (by exact hcV.out) _
      obtain ⟨cc, ff⟩ := S8.out.at 13 _ rfl
      generalize (upd (upd (upd (upd h9 9 a9) 10 a10) 11 a11) 12 a12) 13 = y at cc
      clear S8 L8 E8
      go_wp2_with fail
      generalize (X8.setCell ⟨wr.heap.size, 13, none⟩ (.int .u64 a13)) = X9 at S9 L9 E9 ⊢
      clear cc ff
      refine (mat4' b off 256 C 100 f _ L9.out (by omega) (by omega) _ (by omega)).mono ?_
      rintro e w' ⟨rfl, hw'⟩
      rw [hw']
      clear hw' w'
      obtain ⟨v0, v1⟩ := ps_4 (fun i => f (100 + i)) (fun j hj => L9.out.2.1 _ (by omega))
      generalize hv : ps (fun i => f (100 + i)) 4 = a14 at v0 v1 ⊢
      have H14 : Hid (a14 = g 14) := by
        have := hdrF_num f 11 (by omega)
        rw [HG.out] at this
        exact hv.symm.trans this.symm
      clear hv
      have wv : IntKind.i64.wrap a14 = a14 := by rw [IntKind.wrap_i64]; omega
      have SA : Hid (Rec19 (X9.setCell ⟨wr.heap.size, 14, none⟩ (.int .i64 a14)) wr.heap.size 0 (hcs (upd (upd (upd (upd (upd (upd h9 9 a9) 10 a10) 11 a11) 12 a12) 13 a13) 14 a14))) := by
        have q := S9.out.set 14 (.int .i64 a14) (by rw [hcs_len]; omega)
        rw [hcs_set14] at q
        exact q
      have LA : Hid (Lies (X9.setCell ⟨wr.heap.size, 14, none⟩ (.int .i64 a14)) b off 256 f) := L9.out.but (But.set _ _ _) (by omega)
      have EA : Hid (Below V.heap.size V (X9.setCell ⟨wr.heap.size, 14, none⟩ (.int .i64 a14))) := E9.out.setCell (by exact hcV.out) _
      obtain ⟨cc, ff⟩ := S9.out.at 14 _ rfl
      generalize (upd (upd (upd (upd (upd h9 9 a9) 10 a10) 11 a11) 12 a12) 13 a13) 14 = y at cc
      clear S9 L9 E9
      go_wp2_with fail
      generalize (X9.setCell ⟨wr.heap.size, 14, none⟩ (.int .i64 a14)) = XA at SA LA EA ⊢
      clear cc ff v0 v1 wv
      refine (mat4' b off 256 C 104 f _ LA.out (by omega) (by omega) _ (by omega)).mono ?_
      rintro e w' ⟨rfl, hw'⟩
      rw [hw']
      clear hw' w'
      obtain ⟨v0, v1⟩ := ps_4 (fun i => f (104 + i)) (fun j hj => LA.out.2.1 _ (by omega))
      generalize hv : ps (fun i => f (104 + i)) 4 = a15 at v0 v1 ⊢
      have H15 : Hid (a15 = g 15) := by
        have := hdrF_num f 12 (by omega)
        rw [HG.out] at this
        exact hv.symm.trans this.symm
      clear hv
      have wv : IntKind.i64.wrap a15 = a15 := by rw [IntKind.wrap_i64]; omega
      have SB : Hid (Rec19 (XA.setCell ⟨wr.heap.size, 15, none⟩ (.int .i64 a15)) wr.heap.size 0 (hcs (upd (upd (upd (upd (upd (upd (upd h9 9 a9) 10 a10) 11 a11) 12 a12) 13 a13) 14 a14) 15 a15))) := by
        have q := SA.out.set 15 (.int .i64 a15) (by rw [hcs_len]; omega)
        rw [hcs_set15] at q
        exact q
      have LB : Hid (Lies (XA.setCell ⟨wr.heap.size, 15, none⟩ (.int .i64 a15)) b off 256 f) := LA.out.but (But.set _ _ _) (by omega)
      have EB : Hid (Below V.heap.size V (XA.setCell ⟨wr.heap.size, 15, none⟩ (.int .i64 a15))) := EA.out.setCell (by exact hcV.out) _
      obtain ⟨cc, ff⟩ := SA.out.at 15 _ rfl
      generalize (upd (upd (upd (upd (upd (upd h9 9 a9) 10 a10) 11 a11) 12 a12) 13 a13) 14 a14) 15 = y at cc
      clear SA LA EA
      have SB : Hid (Rec19 (XA.setCell ⟨wr.heap.size, 15, none⟩ (.int .i64 a15)) wr.heap.size 0 (hcs g)) := by
        have := SB.out
        rw [fin_eq g h9 a9 a10 a11 a12 a13 a14 a15 H9.out H10.out.1 H10.out.2 H11.out H12.out H13.out H14.out H15.out] at this
        exact this
      obtain ⟨Y, hY⟩ : ∃ Y, (XA.setCell ⟨wr.heap.size, 15, none⟩ (.int .i64 a15)) = Y := ⟨_, rfl⟩
      rw [hY] at SB LB EB
      go_wp2_with (refine wpList_alloc_row rfl 75 rfl .u8 16 Y.heap.size (by first | rfl | rw [hY]) zero8_16 ?_; intro W6 R6 B6 z6)
      try rw [hY] at B6
      clear H9 H10 H11 H12 H13 H14 H15 cc ff v0 v1 wv hY
      have ST : Hid (n2Rel Y (fun j => f (16 + j)) (.int .i64 0) W6) := ⟨0, by omega, rfl, R6.congr (fun j _ => (if_neg (by omega)).symm), B6⟩
      clear R6 B6 z6
      generalize wr.heap.size = c at SB nb hcV ⊢
      go_loopw [10] (fun i wr => n2Rel Y (fun j => f (16 + j)) i wr) (fun i _ => 16 - (intOf i).toNat)
      case atStart => exact ST.out
      case round =>
        obtain ⟨k, hk, rfl, hR, hB⟩ := hrel
        clear ST
        by_cases hlt : k < 16
        · have gk := hR.1 k hlt
          have fk := hR.2.1 k
          have e0 : (k : Int) < 16 := by omega
          have lk := (LB.out.below hB).1 (16 + k) (by omega)
          have SS : Hid (∀ v, v = f (16 + k) → n2Rel Y (fun j => f (16 + j)) (.int .i64 ((k : Int) + 1)) (wr.setCell ⟨Y.heap.size, k, none⟩ (.int .u8 v))) := fun v hv => n2_step Y wr (fun j => f (16 + j)) k v hlt hv hR hB
          clear hR hB
          generalize f (16 + k) = v at lk SS
          go_wp2_with fail
          exact ⟨SS.out v rfl, by simp [intOf]; omega⟩
        · obtain rfl : k = 16 := by omega
          rw [show ((16 : Nat) : Int) = 16 from rfl]
          have S0 : nhS w c Y.heap.size g (fun j => f (16 + j)) a' wr.drew := by
            have e := EB.out.trans (hB.drew.mono EB.out.size)
            exact ⟨SB.out.below hB.drew, hR.drew.congr (fun j hj => if_pos hj), AV.out.below e, RV.out.below e, BV.out.trans (e.mono BV.out.size)⟩
          have h5 := S0.held cap
          have sb : ∀ j, j < 240 → 0 ≤ f (16 + j) ∧ f (16 + j) < 256 := fun j hj => LV.out.2.1 _ (by omega)
          have SBY : Hid (∀ j, j < 240 → 0 ≤ f (16 + j) ∧ f (16 + j) < 256) := sb
          have HW : Hid (Words g) := by rw [← HG.out]; exact words_hdr f (fun j hj => LV.out.2.1 j hj)
          have FB : Hid (∀ j, j < 256 → 0 ≤ f j ∧ f j < 256) := LV.out.2.1
          have HC : Hid (headCode f = if headNone f = false ∨ okH g = false then 4 else 0) := by
            show headCode f = _
            unfold headCode
            rw [if_neg (by rw [HS.out]; simp), HG.out]
          clear S0 hR hB SB LB EB LV AV RV BV LL sb hlt hk nb hcV
          obtain ⟨s, hs⟩ : ∃ s, (fun j => f (16 + j)) = s := ⟨_, rfl⟩
          have HSS : Hid ((fun j => f (16 + j)) = s) := hs
          rw [hs] at h5
          clear hs
          go_wp2_with fail
          by_cases ok : okH g = true
          · have CK : chk g = 0 := by unfold chk; rw [ok]; rfl
            have OK : Hid (okH g = true) := ok
            have ss : ∀ j, j < 240 → 0 ≤ s j ∧ s j < 256 := by rw [← HSS.out]; exact SBY.out
            have RB : Hid (∀ j, 0 ≤ restF g s j ∧ restF g s j < 256) := fun j => restF_byte g s (fun j hj => ss j (by omega)) j
            have SSB : Hid (∀ j, j < 240 → 0 ≤ s j ∧ s j < 256) := ss
            clear ss ok
            by_cases no : headNone f = true
            · have e1 : headCode f = 0 := by rw [HC.out, if_neg (by rw [no, OK.out]; simp)]
              have e2 : headVal f = g := by unfold headVal; rw [if_pos e1, HG.out]
              have EE : Hid (HE g 0 = HE (headVal f) (headCode f)) := (by show HE _ _ = HE _ _; rw [e1, e2])
              have htx : ((txtN 240 (restF g s)).toList == (txtN 240 s).toList) = true := by
                rw [bytes_beq]
                refine decide_eq_true (txtN_congr 240 _ _ (fun j hj => ?_))
                rw [← HSS.out, ← HG.out]
                exact rest_same f FB.out no j hj
              clear no e1 e2
              refine wp_region_noPanic ?_
              refine wp_region_held_drew (S := fun W => W.rangeAt c 0 (hcs g) ∧ W.rangeAt Y.heap.size 0 (cl .u8 16 s) ∧ (convert 27 9 (.slice a' 240 cap)).run Tryd.prog W = .ok (.string (txtN 240 s)) W ∧ Hid (nhS w c Y.heap.size g s a' W)) (by kernel_rfl) ?_ (fun hHeld => ?_)
              · exact h5
              refine take_at (i := 0) (v := _) (some 92) rfl rfl (by kernel_rfl) (by kernel_rfl) (by kernel_rfl) (fun _ _ _ h => h) (yieldsIf_load_mid (by rfl) _ _ rfl _ _ rfl _ _ (fun _ h => h.1) Tryd.underlying26 rfl (by kernel_rfl)) (by assumption) ?_
              simp only [Act.put, List.setIfInBounds_toArray, List.set_cons_zero, List.set_cons_succ]
              refine call_at (i := 1) (some 93) 54 _ _ rfl rfl rfl (by rfl) (by kernel_rfl) #[.agg (hcs g).toArray] rfl Tryd.func54 (by kernel_rfl) (by kernel_rfl) ?_
              refine (ncheck_any g _).mono ?_; rintro e W8 ⟨rfl, hB8⟩; rw [CK]; have h6 := (h5.2.2.2.out.below hB8).held cap
              refine ⟨_, rfl, h6, fun hHeld => ?_⟩
              simp only [Act.put, List.setIfInBounds_toArray, List.set_cons_zero, List.set_cons_succ]
              refine take_at (i := 2) (v := ?_) (some 94) rfl rfl (by kernel_rfl) (by kernel_rfl) (by kernel_rfl) (fun _ _ _ h => h) (Or.inl ⟨by rfl, ?_⟩) (by assumption) ?_
              rotate_left
              · (intro w hSw; (try dsimp only at hSw); go_simp; try with_reducible rfl)
              simp only [Act.put, List.setIfInBounds_toArray, List.set_cons_zero, List.set_cons_succ]
              refine take_at (i := 3) (v := ?_) (some 95) rfl rfl (by kernel_rfl) (by kernel_rfl) (by kernel_rfl) (fun _ _ _ h => h) (Or.inl ⟨by rfl, ?_⟩) (by assumption) ?_
              rotate_left
              · (intro w hSw; (try dsimp only at hSw); go_simp; try with_reducible rfl)
              simp only [Act.put, List.setIfInBounds_toArray, List.set_cons_zero, List.set_cons_succ]
              refine take_at (i := 4) (v := _) (some 96) rfl rfl (by kernel_rfl) (by kernel_rfl) (by kernel_rfl) (fun _ _ _ h => h) (yieldsIf_load_mid (by rfl) _ _ rfl _ _ rfl _ _ (fun _ h => h.1) Tryd.underlying26 rfl (by kernel_rfl)) (by assumption) ?_
              simp only [Act.put, List.setIfInBounds_toArray, List.set_cons_zero, List.set_cons_succ]
              refine take_at (i := 5) (v := _) (some 97) rfl rfl (by kernel_rfl) (by kernel_rfl) (by kernel_rfl) (fun _ _ _ h => h) (yieldsIf_load_mid (by rfl) _ _ rfl _ _ rfl _ _ (fun _ h => h.2.1) Tryd.underlying75 rfl (by kernel_rfl)) (by assumption) ?_
              simp only [Act.put, List.setIfInBounds_toArray, List.set_cons_zero, List.set_cons_succ]
              refine take_at (i := 8) (v := ?_) (some 100) rfl rfl (by kernel_rfl) (by kernel_rfl) (by kernel_rfl) (fun _ _ _ h => h) (Or.inl ⟨by rfl, ?_⟩) (by assumption) ?_
              rotate_left
              · (intro w hSw; (try dsimp only at hSw); go_simp; try with_reducible rfl)
              simp only [Act.put, List.setIfInBounds_toArray, List.set_cons_zero, List.set_cons_succ]
              refine take_at (i := 9) (v := ?_) (some 101) rfl rfl (by kernel_rfl) (by kernel_rfl) (by kernel_rfl) (fun _ _ _ h => h) (Or.inl ⟨by rfl, ?_⟩) (by assumption) ?_
              rotate_left
              · (intro w hSw; (try dsimp only at hSw); go_simp; try with_reducible rfl)
              simp only [Act.put, List.setIfInBounds_toArray, List.set_cons_zero, List.set_cons_succ]
              refine call_at (i := 6) (some 98) 56 _ _ rfl rfl rfl (by rfl) (by kernel_rfl) #[.agg (hcs g).toArray, .agg (cl .u8 16 s).toArray] rfl Tryd.func56 (by kernel_rfl) (by kernel_rfl) ?_
              refine (nbehind_any g s _ OK.out HW.out (fun j hj => SSB.out j (by omega))).mono ?_; rintro e W9 ⟨g9, cap9, rfl, hO9, hg9, hB9⟩; have h7 := (h6.2.2.2.out.below hB9).held cap; have q1 := conv_arg W9 _ 240 cap9 (restF g s) (hO9.arg (by omega) (fun j _ => RB.out j)).1
              refine ⟨_, rfl, h7, fun hHeld => ?_⟩
              simp only [Act.put, List.setIfInBounds_toArray, List.set_cons_zero, List.set_cons_succ]
              refine step_at (i := 7) (some 99) rfl rfl (by rfl) (by kernel_rfl) (.string (txtN 240 (restF g s))) W9 (conv_run (.tmp 98) _ _ rfl _ _ rfl q1) h7 (fun hHeld => ?_)
              simp only [Act.put, List.setIfInBounds_toArray, List.set_cons_zero, List.set_cons_succ]
              refine take_at (i := 10) (v := ?_) (some 102) rfl rfl (by kernel_rfl) (by kernel_rfl) (by kernel_rfl) (fun _ _ _ h => h) (Or.inl ⟨by rfl, ?_⟩) (by assumption) ?_
              rotate_left
              · (intro w hSw; (try dsimp only at hSw); go_simp; try with_reducible rfl)
              simp only [Act.put, List.setIfInBounds_toArray, List.set_cons_zero, List.set_cons_succ]
              refine take_at (i := 11) (v := ?_) (some 103) rfl rfl (by kernel_rfl) (by kernel_rfl) (by kernel_rfl) (fun _ _ _ h => h) (Or.inl ⟨by rfl, ?_⟩) (by assumption) ?_
              rotate_left
              · (intro w hSw; (try dsimp only at hSw); go_simp; try with_reducible rfl)
              simp only [Act.put, List.setIfInBounds_toArray, List.set_cons_zero, List.set_cons_succ]
              refine wpAnyH_done (by kernel_rfl) ?_ _
              refine NoPanic.normal ?_
              go_wp2_with (first
                | (refine wpList_load_rec rfl 26 (.tmp 8) rfl c 0 (hcs g) rfl _ Tryd.underlying26 rfl (by kernel_rfl) h7.2.2.2.out.1 ?_)
                | (refine wpList_store_rec rfl 26 (.tmp 2) (.tmp 105) rfl w.heap.size 0 _ (hcs g) rfl rfl h7.2.2.2.out.2.2.2.1 rfl (by kernel_rfl) (hcs_one _) ?_; intro WA hRA hBA))
              have hl := hRA.run_load 26 _ Tryd.underlying26 rfl (by kernel_rfl)
              refine bodyPost_ret (v := HE g 0) (by simp [results, Tryd.results38, asAddr, hl]) rfl ⟨congrArg Ending.returned EE.out, ?_⟩
              exact h7.2.2.2.out.2.2.2.2.trans (hBA.below (Nat.le_refl _) h7.2.2.2.out.2.2.2.2.size)
            · have e1 : headCode f = 4 := by rw [HC.out, if_pos (.inl (by simpa using no))]
              have e2 : headVal f = fun _ => 0 := by unfold headVal; rw [if_neg (by rw [e1]; decide)]
              have EE : Hid (HE (fun _ => 0) 4 = HE (headVal f) (headCode f)) := (by show HE _ _ = HE _ _; rw [e1, e2])
              have htx : ((txtN 240 (restF g s)).toList == (txtN 240 s).toList) = false := by
                rw [bytes_beq]
                refine decide_eq_false (fun q => ?_)
                have := (txtN_inj (fun j _ => RB.out j) SSB.out q).2
                rw [← HSS.out, ← HG.out] at this
                exact rest_other f (by simpa using no) this
              clear no e1 e2
              refine wp_region_noPanic ?_
              refine wp_region_held_drew (S := fun W => W.rangeAt c 0 (hcs g) ∧ W.rangeAt Y.heap.size 0 (cl .u8 16 s) ∧ (convert 27 9 (.slice a' 240 cap)).run Tryd.prog W = .ok (.string (txtN 240 s)) W ∧ Hid (nhS w c Y.heap.size g s a' W)) (by kernel_rfl) ?_ (fun hHeld => ?_)
              · exact h5
              refine take_at (i := 0) (v := _) (some 92) rfl rfl (by kernel_rfl) (by kernel_rfl) (by kernel_rfl) (fun _ _ _ h => h) (yieldsIf_load_mid (by rfl) _ _ rfl _ _ rfl _ _ (fun _ h => h.1) Tryd.underlying26 rfl (by kernel_rfl)) (by assumption) ?_
              simp only [Act.put, List.setIfInBounds_toArray, List.set_cons_zero, List.set_cons_succ]
              refine call_at (i := 1) (some 93) 54 _ _ rfl rfl rfl (by rfl) (by kernel_rfl) #[.agg (hcs g).toArray] rfl Tryd.func54 (by kernel_rfl) (by kernel_rfl) ?_
              refine (ncheck_any g _).mono ?_; rintro e W8 ⟨rfl, hB8⟩; rw [CK]; have h6 := (h5.2.2.2.out.below hB8).held cap
              refine ⟨_, rfl, h6, fun hHeld => ?_⟩
              simp only [Act.put, List.setIfInBounds_toArray, List.set_cons_zero, List.set_cons_succ]
              refine take_at (i := 2) (v := ?_) (some 94) rfl rfl (by kernel_rfl) (by kernel_rfl) (by kernel_rfl) (fun _ _ _ h => h) (Or.inl ⟨by rfl, ?_⟩) (by assumption) ?_
              rotate_left
              · (intro w hSw; (try dsimp only at hSw); go_simp; try with_reducible rfl)
              simp only [Act.put, List.setIfInBounds_toArray, List.set_cons_zero, List.set_cons_succ]
              refine take_at (i := 3) (v := ?_) (some 95) rfl rfl (by kernel_rfl) (by kernel_rfl) (by kernel_rfl) (fun _ _ _ h => h) (Or.inl ⟨by rfl, ?_⟩) (by assumption) ?_
              rotate_left
              · (intro w hSw; (try dsimp only at hSw); go_simp; try with_reducible rfl)
              simp only [Act.put, List.setIfInBounds_toArray, List.set_cons_zero, List.set_cons_succ]
              refine take_at (i := 4) (v := _) (some 96) rfl rfl (by kernel_rfl) (by kernel_rfl) (by kernel_rfl) (fun _ _ _ h => h) (yieldsIf_load_mid (by rfl) _ _ rfl _ _ rfl _ _ (fun _ h => h.1) Tryd.underlying26 rfl (by kernel_rfl)) (by assumption) ?_
              simp only [Act.put, List.setIfInBounds_toArray, List.set_cons_zero, List.set_cons_succ]
              refine take_at (i := 5) (v := _) (some 97) rfl rfl (by kernel_rfl) (by kernel_rfl) (by kernel_rfl) (fun _ _ _ h => h) (yieldsIf_load_mid (by rfl) _ _ rfl _ _ rfl _ _ (fun _ h => h.2.1) Tryd.underlying75 rfl (by kernel_rfl)) (by assumption) ?_
              simp only [Act.put, List.setIfInBounds_toArray, List.set_cons_zero, List.set_cons_succ]
              refine take_at (i := 8) (v := ?_) (some 100) rfl rfl (by kernel_rfl) (by kernel_rfl) (by kernel_rfl) (fun _ _ _ h => h) (Or.inl ⟨by rfl, ?_⟩) (by assumption) ?_
              rotate_left
              · (intro w hSw; (try dsimp only at hSw); go_simp; try with_reducible rfl)
              simp only [Act.put, List.setIfInBounds_toArray, List.set_cons_zero, List.set_cons_succ]
              refine take_at (i := 9) (v := ?_) (some 101) rfl rfl (by kernel_rfl) (by kernel_rfl) (by kernel_rfl) (fun _ _ _ h => h) (Or.inl ⟨by rfl, ?_⟩) (by assumption) ?_
              rotate_left
              · (intro w hSw; (try dsimp only at hSw); go_simp; try with_reducible rfl)
              simp only [Act.put, List.setIfInBounds_toArray, List.set_cons_zero, List.set_cons_succ]
              refine call_at (i := 6) (some 98) 56 _ _ rfl rfl rfl (by rfl) (by kernel_rfl) #[.agg (hcs g).toArray, .agg (cl .u8 16 s).toArray] rfl Tryd.func56 (by kernel_rfl) (by kernel_rfl) ?_
              refine (nbehind_any g s _ OK.out HW.out (fun j hj => SSB.out j (by omega))).mono ?_; rintro e W9 ⟨g9, cap9, rfl, hO9, hg9, hB9⟩; have h7 := (h6.2.2.2.out.below hB9).held cap; have q1 := conv_arg W9 _ 240 cap9 (restF g s) (hO9.arg (by omega) (fun j _ => RB.out j)).1
              refine ⟨_, rfl, h7, fun hHeld => ?_⟩
              simp only [Act.put, List.setIfInBounds_toArray, List.set_cons_zero, List.set_cons_succ]
              refine step_at (i := 7) (some 99) rfl rfl (by rfl) (by kernel_rfl) (.string (txtN 240 (restF g s))) W9 (conv_run (.tmp 98) _ _ rfl _ _ rfl q1) h7 (fun hHeld => ?_)
              simp only [Act.put, List.setIfInBounds_toArray, List.set_cons_zero, List.set_cons_succ]
              refine take_at (i := 10) (v := ?_) (some 102) rfl rfl (by kernel_rfl) (by kernel_rfl) (by kernel_rfl) (fun _ _ _ h => h) (Or.inl ⟨by rfl, ?_⟩) (by assumption) ?_
              rotate_left
              · (intro w hSw; (try dsimp only at hSw); go_simp; try with_reducible rfl)
              simp only [Act.put, List.setIfInBounds_toArray, List.set_cons_zero, List.set_cons_succ]
              refine take_at (i := 11) (v := ?_) (some 103) rfl rfl (by kernel_rfl) (by kernel_rfl) (by kernel_rfl) (fun _ _ _ h => h) (Or.inl ⟨by rfl, ?_⟩) (by assumption) ?_
              rotate_left
              · (intro w hSw; (try dsimp only at hSw); go_simp; try with_reducible rfl)
              simp only [Act.put, List.setIfInBounds_toArray, List.set_cons_zero, List.set_cons_succ]
              refine wpAnyH_done (by kernel_rfl) ?_ _
              refine NoPanic.normal ?_
              go_wp2_with (first
                | (refine wpList_build_to rfl 26 _ rfl (hcs fun _ => 0).toArray (by kernel_rfl) ?_)
                | (refine wpList_store_rec rfl 26 (.tmp 2) (.tmp 104) rfl w.heap.size 0 _ (hcs fun _ => 0) rfl rfl h7.2.2.2.out.2.2.2.1 rfl (by kernel_rfl) (hcs_one _) ?_; intro WA hRA hBA))
              have hl := hRA.run_load 26 _ Tryd.underlying26 rfl (by kernel_rfl)
              refine bodyPost_ret (v := HE (fun _ => 0) 4) (by simp [results, Tryd.results38, asAddr, hl]) rfl ⟨congrArg Ending.returned EE.out, ?_⟩
              exact (h7.2.2.2.out.2.2.2.2).trans (hBA.below (Nat.le_refl _) (h7.2.2.2.out.2.2.2.2).size)
          · have e1 : headCode f = 4 := by rw [HC.out, if_pos (.inr (by simpa using ok))]
            have e2 : headVal f = fun _ => 0 := by unfold headVal; rw [if_neg (by rw [e1]; decide)]
            have EE : Hid (HE (fun _ => 0) 4 = HE (headVal f) (headCode f)) := (by show HE _ _ = HE _ _; rw [e1, e2])
            have CK : chk g = 2 := by unfold chk; rw [show okH g = false by simpa using ok]; rfl
            clear ok e1 e2
            refine wp_region_noPanic ?_
            refine wp_region_held_drew (S := fun W => W.rangeAt c 0 (hcs g) ∧ W.rangeAt Y.heap.size 0 (cl .u8 16 s) ∧ (convert 27 9 (.slice a' 240 cap)).run Tryd.prog W = .ok (.string (txtN 240 s)) W ∧ Hid (nhS w c Y.heap.size g s a' W)) (by kernel_rfl) ?_ (fun hHeld => ?_)
            · exact h5
            refine take_at (i := 0) (v := _) (some 92) rfl rfl (by kernel_rfl) (by kernel_rfl) (by kernel_rfl) (fun _ _ _ h => h) (yieldsIf_load_mid (by rfl) _ _ rfl _ _ rfl _ _ (fun _ h => h.1) Tryd.underlying26 rfl (by kernel_rfl)) (by assumption) ?_
            simp only [Act.put, List.setIfInBounds_toArray, List.set_cons_zero, List.set_cons_succ]
            refine call_at (i := 1) (some 93) 54 _ _ rfl rfl rfl (by rfl) (by kernel_rfl) #[.agg (hcs g).toArray] rfl Tryd.func54 (by kernel_rfl) (by kernel_rfl) ?_
            refine (ncheck_any g _).mono ?_; rintro e W8 ⟨rfl, hB8⟩; rw [CK]; have h6 := (h5.2.2.2.out.below hB8).held cap
            refine ⟨_, rfl, h6, fun hHeld => ?_⟩
            simp only [Act.put, List.setIfInBounds_toArray, List.set_cons_zero, List.set_cons_succ]
            refine take_at (i := 2) (v := ?_) (some 94) rfl rfl (by kernel_rfl) (by kernel_rfl) (by kernel_rfl) (fun _ _ _ h => h) (Or.inl ⟨by rfl, ?_⟩) (by assumption) ?_
            rotate_left
            · (intro w hSw; (try dsimp only at hSw); go_simp; try with_reducible rfl)
            simp only [Act.put, List.setIfInBounds_toArray, List.set_cons_zero, List.set_cons_succ]
            refine take_at (i := 3) (v := ?_) (some 95) rfl rfl (by kernel_rfl) (by kernel_rfl) (by kernel_rfl) (fun _ _ _ h => h) (Or.inl ⟨by rfl, ?_⟩) (by assumption) ?_
            rotate_left
            · (intro w hSw; (try dsimp only at hSw); go_simp; try with_reducible rfl)
            simp only [Act.put, List.setIfInBounds_toArray, List.set_cons_zero, List.set_cons_succ]
            refine take_at (i := 4) (v := undef) (some 96) rfl rfl (by kernel_rfl) (by kernel_rfl) (by kernel_rfl) (fun _ _ _ h => h) (Or.inr ⟨by rfl, rfl⟩) (by assumption) ?_
            simp only [Act.put, List.setIfInBounds_toArray, List.set_cons_zero, List.set_cons_succ]
            refine take_at (i := 5) (v := undef) (some 97) rfl rfl (by kernel_rfl) (by kernel_rfl) (by kernel_rfl) (fun _ _ _ h => h) (Or.inr ⟨by rfl, rfl⟩) (by assumption) ?_
            simp only [Act.put, List.setIfInBounds_toArray, List.set_cons_zero, List.set_cons_succ]
            refine take_at (i := 6) (v := undef) (some 98) rfl rfl (by kernel_rfl) (by kernel_rfl) (by kernel_rfl) (fun _ _ _ h => h) (Or.inr ⟨by rfl, rfl⟩) (by assumption) ?_
            simp only [Act.put, List.setIfInBounds_toArray, List.set_cons_zero, List.set_cons_succ]
            refine take_at (i := 7) (v := undef) (some 99) rfl rfl (by kernel_rfl) (by kernel_rfl) (by kernel_rfl) (fun _ _ _ h => h) (Or.inr ⟨by rfl, rfl⟩) (by assumption) ?_
            simp only [Act.put, List.setIfInBounds_toArray, List.set_cons_zero, List.set_cons_succ]
            refine take_at (i := 8) (v := undef) (some 100) rfl rfl (by kernel_rfl) (by kernel_rfl) (by kernel_rfl) (fun _ _ _ h => h) (Or.inr ⟨by rfl, rfl⟩) (by assumption) ?_
            simp only [Act.put, List.setIfInBounds_toArray, List.set_cons_zero, List.set_cons_succ]
            refine take_at (i := 9) (v := undef) (some 101) rfl rfl (by kernel_rfl) (by kernel_rfl) (by kernel_rfl) (fun _ _ _ h => h) (Or.inr ⟨by rfl, rfl⟩) (by assumption) ?_
            simp only [Act.put, List.setIfInBounds_toArray, List.set_cons_zero, List.set_cons_succ]
            refine take_at (i := 10) (v := undef) (some 102) rfl rfl (by kernel_rfl) (by kernel_rfl) (by kernel_rfl) (fun _ _ _ h => h) (Or.inr ⟨by rfl, rfl⟩) (by assumption) ?_
            simp only [Act.put, List.setIfInBounds_toArray, List.set_cons_zero, List.set_cons_succ]
            refine take_at (i := 11) (v := ?_) (some 103) rfl rfl (by kernel_rfl) (by kernel_rfl) (by kernel_rfl) (fun _ _ _ h => h) (Or.inl ⟨by rfl, ?_⟩) (by assumption) ?_
            rotate_left
            · (intro w hSw; (try dsimp only at hSw); go_simp; try with_reducible rfl)
            simp only [Act.put, List.setIfInBounds_toArray, List.set_cons_zero, List.set_cons_succ]
            refine wpAnyH_done (by kernel_rfl) ?_ _
            refine NoPanic.normal ?_
            go_wp2_with (first
              | (refine wpList_build_to rfl 26 _ rfl (hcs fun _ => 0).toArray (by kernel_rfl) ?_)
              | (refine wpList_store_rec rfl 26 (.tmp 2) (.tmp 104) rfl w.heap.size 0 _ (hcs fun _ => 0) rfl rfl h6.2.2.2.out.2.2.2.1 rfl (by kernel_rfl) (hcs_one _) ?_; intro W9 hR9 hB9))
            have hl := hR9.run_load 26 _ Tryd.underlying26 rfl (by kernel_rfl)
            refine bodyPost_ret (v := HE (fun _ => 0) 4) (by simp [results, Tryd.results38, asAddr, hl]) rfl ⟨congrArg Ending.returned EE.out, ?_⟩
            exact (h6.2.2.2.out.2.2.2.2).trans (hB9.below (Nat.le_refl _) (h6.2.2.2.out.2.2.2.2).size)
theorem nhead_any (b off C : Nat) (f : Nat → Int) (w : World) (hL : Lies w b off 256 f) (hC : 256 ≤ C) :
    Calls Tryd.prog 38 #[.slice (some ⟨b, off, none⟩) 256 C] w fun e w' => e = .returned (HE (headVal f) (headCode f)) ∧ Below w.heap.size w w' := by
  by_cases hs : headSeal f = true
  · exact nhead_full b off C f w hL hC hs
  · have e : headCode f = 12 := by unfold headCode; rw [if_pos (by simpa using hs)]
    rw [show headVal f = fun _ => 0 from by unfold headVal; rw [e, if_neg (by decide)], e]
    exact nhead_seal b off C f w hL hC (by simpa using hs)
end Go.Proofs.YtfpgkckcifjkcaaDoor
