/-
  Walks, not a claim by itself: HeaderBack. By the verifier.
-/
import Derived.Test.YtkmgjpeoognpjaaDoorMKn4
namespace Go.Proofs.YtkmgjpeoognpjaaDoor
open Go.RowKit
theorem msgF_byte (h : Nat → Int) (n : Nat) (f : Nat → Int) (hf : ∀ j, j < n → 0 ≤ f j ∧ f j < 256) (j : Nat) (hj : j < 256 + n) : 0 ≤ msgF h n f j ∧ msgF h n f j < 256 := by
  unfold msgF
  split
  · exact headF_byte _ _ (fun j _ => sealF_byte _ _ j) j
  · exact hf _ (by omega)
theorem IRow.arg {w : World} {b n : Nat} {f : Nat → Int} (h : IRow w b .u8 n f) (hb : ∀ j, j < n → 0 ≤ f j ∧ f j < 256) : Arg w (some ⟨b, 0, none⟩) n f := Arg.of (h.lies hb)
theorem Arg.keep {w v : World} {a : Option Addr} {n c : Nat} {f : Nat → Int} (h : Arg w a n f) (hb : But c w v) (hn : ∀ r, a = some r → r.block ≠ c) : Arg v a n f := by
  rcases h with h | ⟨h0, b, off, rfl, hl⟩
  · exact .inl h
  · exact .inr ⟨h0, b, off, rfl, hl.but hb (hn _ rfl)⟩
/-- What is sealed is opened as it was. -/
theorem open_msg (g : Nat) (h : Nat → Int) (n : Nat) (f : Nat → Int) (w : World) (hT : Tab w) (hn : n ≤ 1024) (hf : ∀ j, j < n → 0 ≤ f j ∧ f j < 256) (hR : IRow w g .u8 (256 + n) (msgF h n f)) (hk : okH h = true) (hw : Words h) (h2 : h 2 = n) :
    Calls Tryd.prog 17 #[.slice (some ⟨g, 0, none⟩) (256 + n) (256 + n)] w fun e w' => ∃ q, e = .returned (ME h (some ⟨q, 0, none⟩) n 0) ∧ w.heap.size ≤ q ∧ Arg w' (some ⟨q, 0, none⟩) n f ∧ Below w.heap.size w w' := by
  obtain ⟨c1, c2, _⟩ := open_sealed h f n hk hw h2
  refine (mopen_ok (some ⟨g, 0, none⟩) (256 + n) (256 + n) (msgF h n f) w hT (hR.arg (msgF_byte h n f hf)) (Nat.le_refl _) (by omega) c1).mono ?_
  rintro e w' ⟨q, rfl, hq, hR', hB⟩
  rw [Nat.add_sub_cancel_left] at hR' ⊢
  refine ⟨q, ?_, hq, (hR'.congr (fun j _ => by unfold msgF; rw [if_neg (by omega), Nat.add_sub_cancel_left])).arg hf, hB⟩
  show Ending.returned (.tuple #[.agg (msg (hdrF (msgF h n f)) (some ⟨q, 0, none⟩) n n).toArray, .int .i64 0]) = _
  rw [msg_congr _ h _ _ _ c2]
theorem head_msg (g C : Nat) (h : Nat → Int) (n : Nat) (f : Nat → Int) (w : World) (hT : Tab w) (hf : ∀ j, j < n → 0 ≤ f j ∧ f j < 256) (hR : IRow w g .u8 (256 + n) (msgF h n f)) (hC : 256 ≤ C) (hk : okH h = true) (hw : Words h) (h2 : h 2 = n) :
    Calls Tryd.prog 19 #[.slice (some ⟨g, 0, none⟩) 256 C] w fun e w' => e = .returned (HE h 0) ∧ Below w.heap.size w w' := by
  obtain ⟨_, c2, c3⟩ := open_sealed h f n hk hw h2
  refine (head_any g 0 C (msgF h n f) w hT ⟨fun j hj => by rw [Nat.zero_add]; exact hR.1 j (by omega), fun j hj => msgF_byte h n f hf j (by omega), hR.2.2⟩ hC).mono ?_
  rintro e w' ⟨rfl, hB⟩
  refine ⟨?_, hB⟩
  have hv : headVal (msgF h n f) = hdrF (msgF h n f) := by unfold headVal; rw [if_pos c3]
  show Ending.returned (.tuple #[.agg (hcs (headVal (msgF h n f))).toArray, .int .i64 (headCode (msgF h n f))]) = _
  rw [hv, hcs_congr _ h c2, c3]
theorem upd_self (h : Nat → Int) (o : Nat) (v : Int) (e : h o = v) : upd h o v = h := by
  funext j
  unfold upd
  by_cases q : j = o
  · rw [if_pos q, q, e]
  · rw [if_neg q]
/-- What is opened is sealed as it was. -/
theorem seal_msg (q n : Nat) (f : Nat → Int) (w : World) (hT : Tab w) (hf : ∀ j, j < n → 0 ≤ f j ∧ f j < 256) (hc : openCode n f = 0) (hA : Arg w (some ⟨q, 0, none⟩) (n - 256) (fun j => f (256 + j))) :
    Calls Tryd.prog 9 #[.agg (msg (hdrF f) (some ⟨q, 0, none⟩) (n - 256) (n - 256)).toArray] w fun e w' => ∃ g, e = .returned (.tuple #[.slice (some ⟨g, 0, none⟩) n n, .int .i64 0]) ∧ Arg w' (some ⟨g, 0, none⟩) n f ∧ Below w.heap.size w w' := by
  obtain ⟨hn, _, hs, _⟩ := openCode_zero hc
  obtain ⟨k1, k2, k3, k4⟩ := seal_opened n f hf hc
  have e := upd_self (hdrF f) 2 _ hs
  refine (mseal_ok (hdrF f) (some ⟨q, 0, none⟩) (n - 256) (n - 256) (fun j => f (256 + j)) w k3 hT hA (Nat.le_refl _) k2 (by rw [e]; exact k1)).mono ?_
  rintro e' w' ⟨g, rfl, hg, hR, hB⟩
  rw [show 256 + (n - 256) = n by omega] at hR ⊢
  rw [e] at hR
  exact ⟨g, rfl, (hR.congr k4).arg hf, hB⟩
set_option maxRecDepth 100000 in
set_option maxHeartbeats 2000000 in
theorem neq_hdr (h : Nat → Int) (w : World) : (binOp .neq 26 (.agg (hcs h).toArray) (.agg (hcs h).toArray)).run Tryd.prog w = .ok (.bool false) w := by
  simp [go_sem, hcs]
theorem wpList_neq_w {ops : Array Oper} {rest : List Oper} {op : Oper} {a : Act} {w : World} {Q : Exit → Act → World → Prop} (hw : Region.wanted op (yielded ops a.tmps) = true) (t t' : TypeId) (x y : Operand) (ho : op.op = .binOp .neq t x y t')
    (X : Array Value) (hx : a.eval x = .agg X) (hy : a.eval y = .agg X) (he : ∀ w, (binOp .neq t (.agg X) (.agg X)).run Tryd.prog w = .ok (.bool false) w) (hg : Tryd.prog.eqGuardType Tryd.prog.depth t = false)
    (hK : wpList Tryd.prog ops Q rest (a.put op.dst (.bool false)) w) : wpList Tryd.prog ops Q (op :: rest) a w := by
  refine wpList_step fun K hK' => ?_
  rw [if_pos hw]
  unfold Oper.wp execOp
  simp only [ho, hx, hy, Sem.run_bind, run_eqGuard_agg _ _ _ _ _ _ _ hg, Result.andThen_ok, he]
  exact hK' _ _ hK
set_option maxRecDepth 100000 in
set_option maxHeartbeats 400000 in
theorem back_long (h : Nat → Int) (a b : Option Addr) (n C m C' : Nat) (w : World) (hT : Tab w) (hl : 3000 < n ∨ 3000 < m) :
    Calls Tryd.prog 6 #[.agg (msg h a n C).toArray, .slice b m C'] w fun e w' => e = .returned (.bool true) ∧ Below w.heap.size w w' := by
  have hT0 := hT.2
  have TT : Hid (Tab w) := hT
  clear hT
  by_cases h1 : 3000 < n
  · have e1 : (3000 : Int) < n := by omega
    clear hl
    go_enter Tryd.func6, Tryd.ntmps6
    go_wp2_with (first
      | (refine wpList_box_rec rfl 29 (.tmp 0) rfl (msg h a n C) rfl w.heap.size rfl ?_; intro W0 R0 B0 z0)
      | (go_at_call 5; refine (known_any _ (TT.out.below B0 hT0)).mono ?_; rintro e W1 ⟨rfl, hB1⟩; obtain ⟨c16, _⟩ := (R0.below hB1).at 16 _ (msg_body h a n C)))
    go_ret
    exact ⟨rfl, B0.trans (hB1.mono B0.size)⟩
  · have e1 : ¬ (3000 : Int) < n := by omega
    have e2 : (3000 : Int) < m := by omega
    clear hl
    go_enter Tryd.func6, Tryd.ntmps6
    go_wp2_with (first
      | (refine wpList_box_rec rfl 29 (.tmp 0) rfl (msg h a n C) rfl w.heap.size rfl ?_; intro W0 R0 B0 z0)
      | (go_at_call 5; refine (known_any _ (TT.out.below B0 hT0)).mono ?_; rintro e W1 ⟨rfl, hB1⟩; obtain ⟨c16, _⟩ := (R0.below hB1).at 16 _ (msg_body h a n C)))
    go_ret
    exact ⟨rfl, B0.trans (hB1.mono B0.size)⟩
/-- What lies there all along: the message that came in (its Size may be written), the table. -/
def bkS (w : World) (h : Nat → Int) (a : Option Addr) (n C : Nat) (W : World) : Prop := Rec19 W w.heap.size 0 (msg h a n C) ∧ Tab W ∧ Below w.heap.size w W
theorem bkS.below {w : World} {h : Nat → Int} {a : Option Addr} {n C : Nat} {W W' : World} (s : bkS w h a n C W) (hb : Below W.heap.size W W') : bkS w h a n C W' := ⟨s.1.below hb, s.2.1.below hb s.2.1.2, s.2.2.trans (hb.mono s.2.2.size)⟩
set_option maxRecDepth 100000 in
set_option maxHeartbeats 400000 in
theorem back_long_no (h : Nat → Int) (a b : Option Addr) (n C m C' : Nat) (f2 : Nat → Int) (w : World) (hT : Tab w) (hB : Arg w b m f2) (hC' : m ≤ C') (hn : n ≤ 3000) (hm : m ≤ 3000) (hl : 1024 < n) (hc : openCode m f2 ≠ 0) :
    Calls Tryd.prog 6 #[.agg (msg h a n C).toArray, .slice b m C'] w fun e w' => e = .returned (.bool true) ∧ Below w.heap.size w w' := by
  have hT0 := hT.2
  have TT : Hid (Tab w) := hT
  have HB : Hid (Arg w b m f2) := hB
  have OC : Hid (openCode m f2 ≠ 0) := hc
  obtain ⟨c, hce⟩ : ∃ c, openCode m f2 = c := ⟨_, rfl⟩
  have OV : Hid (openCode m f2 = c) := hce
  have c0 : (c != 0) = true := by rw [← hce]; simpa using hc
  clear hc hce
  clear hT hB
  have e1 : ¬ (3000 : Int) < n := by omega
  have e2 : ¬ (3000 : Int) < m := by omega
  go_enter Tryd.func6, Tryd.ntmps6
  go_wp2_with (first
    | (refine wpList_box_rec rfl 29 (.tmp 0) rfl (msg h a n C) rfl w.heap.size rfl ?_; intro W0 R0 B0 z0
       have S0 : Hid (bkS w h a n C W0) := ⟨R0, TT.out.below B0 hT0, B0⟩
       clear R0 B0 z0)
    | (go_at_call 5; refine (known_any _ S0.out.2.1).mono ?_; rintro e W1 ⟨rfl, hB1⟩
       have S1 : Hid (bkS w h a n C W1) := S0.out.below hB1
       obtain ⟨c16, _⟩ := S1.out.1.at 16 _ (msg_body h a n C)
       clear hB1 S0)
    | (refine wpList_load_rec rfl 29 (.tmp 2) rfl w.heap.size 0 (msg h a n C) rfl _ Tryd.underlying29 rfl (by kernel_rfl) S1.out.1 ?_)
    | (have _q := S1; clear _q; go_at_call 9; refine (mseal_long h a n C _ hl).mono ?_; rintro e W2 ⟨rfl, hB2⟩
       have SB : Hid (bkS w h a n C W2) := S1.out.below hB2
       clear hB2 S1 c16)
    | (have _q := SB; clear _q; go_at_call 17; refine (mopen_no b m C' f2 _ SB.out.2.1 (HB.out.below SB.out.2.2) hC' (by omega) OC.out).mono ?_; rintro e Y1 ⟨rfl, hY1⟩; rw [OV.out]
       have Y1S : Hid (Below w.heap.size w Y1) := SB.out.2.2.trans (hY1.mono SB.out.2.2.size)
       clear hY1 SB)
    | (refine wpList_alloc_rec rfl 29 rfl (msg (fun _ => 0) none 0 0) Y1.heap.size rfl zeroMsg ?_; intro Y2 R2 B2 z2)
    | (refine wpList_store_rec rfl 29 (.tmp 12) (.tmp 78) rfl Y1.heap.size 0 _ (msg (fun _ => 0) none 0 0) rfl rfl R2 rfl (by kernel_rfl) (msg_one _ _ _ _) ?_; intro Y3 R3 B3
       have E3 : Hid (Below w.heap.size w Y3) := Y1S.out.trans ((B2.trans (B3.below (Nat.le_refl _) (by omega))).mono Y1S.out.size)
       clear R2 B2 z2 R3 B3))
  go_ret
  exact ⟨rfl, E3.out⟩
set_option maxRecDepth 100000 in
set_option maxHeartbeats 400000 in
theorem back_long_ok (h : Nat → Int) (a b : Option Addr) (n C m C' : Nat) (f2 : Nat → Int) (w : World) (hT : Tab w) (hB : Arg w b m f2) (hC' : m ≤ C') (hn : n ≤ 3000) (hm : m ≤ 3000) (hl : 1024 < n) (hc : openCode m f2 = 0) :
    Calls Tryd.prog 6 #[.agg (msg h a n C).toArray, .slice b m C'] w fun e w' => e = .returned (.bool true) ∧ Below w.heap.size w w' := by
  have hT0 := hT.2
  have TT : Hid (Tab w) := hT
  have HB : Hid (Arg w b m f2) := hB
  have OC : Hid (openCode m f2 = 0) := hc
  have MG : Hid (256 ≤ m) := (openCode_zero hc).1
  clear hc
  clear hT hB
  have e1 : ¬ (3000 : Int) < n := by omega
  have e2 : ¬ (3000 : Int) < m := by omega
  go_enter Tryd.func6, Tryd.ntmps6
  go_wp2_with (first
    | (refine wpList_box_rec rfl 29 (.tmp 0) rfl (msg h a n C) rfl w.heap.size rfl ?_; intro W0 R0 B0 z0
       have S0 : Hid (bkS w h a n C W0) := ⟨R0, TT.out.below B0 hT0, B0⟩
       clear R0 B0 z0)
    | (go_at_call 5; refine (known_any _ S0.out.2.1).mono ?_; rintro e W1 ⟨rfl, hB1⟩
       have S1 : Hid (bkS w h a n C W1) := S0.out.below hB1
       obtain ⟨c16, _⟩ := S1.out.1.at 16 _ (msg_body h a n C)
       clear hB1 S0)
    | (refine wpList_load_rec rfl 29 (.tmp 2) rfl w.heap.size 0 (msg h a n C) rfl _ Tryd.underlying29 rfl (by kernel_rfl) S1.out.1 ?_)
    | (have _q := S1; clear _q; go_at_call 9; refine (mseal_long h a n C _ hl).mono ?_; rintro e W2 ⟨rfl, hB2⟩
       have SB : Hid (bkS w h a n C W2) := S1.out.below hB2
       clear hB2 S1 c16)
    | (have _q := SB; clear _q; go_at_call 17; refine (mopen_ok b m C' f2 _ SB.out.2.1 (HB.out.below SB.out.2.2) hC' (by omega) OC.out).mono ?_; rintro e Y1 ⟨p, rfl, hp, hP1, hY1⟩
       have T1 := SB.out.2.1.below hY1 SB.out.2.1.2
       have E1 := SB.out.2.2.trans (hY1.mono SB.out.2.2.size)
       have A1 := hP1.arg (fun j hj => HB.out.bytes _ (by have := MG.out; omega))
       clear hY1 SB hP1 hp)
    | (refine wpList_alloc_rec rfl 29 rfl (msg (fun _ => 0) none 0 0) Y1.heap.size rfl zeroMsg ?_; intro Y2 R2 B2 z2)
    | (refine wpList_store_rec rfl 29 (.tmp 12) (.tmp 78) rfl Y1.heap.size 0 _ (msg (hdrF f2) (some ⟨p, 0, none⟩) (m - 256) (m - 256)) rfl rfl R2 rfl (by kernel_rfl) (msg_one _ _ _ _) ?_; intro Y3 R3 B3
       have F3 : Below Y1.heap.size Y1 Y3 := B2.trans (B3.below (Nat.le_refl _) (by omega))
       have E3 : Hid (Below w.heap.size w Y3) := E1.trans (F3.mono E1.size)
       have A3 : Hid (Arg Y3 (some ⟨p, 0, none⟩) (m - 256) (fun j => f2 (256 + j))) := A1.below F3
       have T3 : Hid (Tab Y3) := T1.below F3 T1.2
       have M3 : Hid (Rec19 Y3 Y1.heap.size 0 (msg (hdrF f2) (some ⟨p, 0, none⟩) (m - 256) (m - 256))) := R3
       clear F3 R2 B2 z2 R3 B3 T1 E1 A1)
    | (refine wpList_load_rec rfl 29 (.tmp 12) rfl Y1.heap.size 0 (msg (hdrF f2) (some ⟨p, 0, none⟩) (m - 256) (m - 256)) rfl _ Tryd.underlying29 rfl (by kernel_rfl) M3.out ?_)
    | (go_at_call 9; refine (seal_msg p m f2 _ T3.out HB.out.bytes OC.out A3.out).mono ?_; rintro e Y4 ⟨g4, rfl, hA4, hY4⟩
       have E4 : Hid (Below w.heap.size w Y4) := E3.out.trans (hY4.mono E3.out.size)
       have A4 : Hid (Arg Y4 (some ⟨g4, 0, none⟩) m f2) := hA4
       clear hA4 hY4)
    | (go_at_call 11; refine (same_any (some ⟨g4, 0, none⟩) b m m _ _ f2 f2 _ A4.out (HB.out.below E4.out)).mono ?_; rintro e Y5 ⟨rfl, hY5⟩; rw [hY5, decide_eq_true rfl]; clear hY5 Y5))
  go_ret
  exact ⟨rfl, E4.out⟩
set_option maxRecDepth 100000 in
set_option maxHeartbeats 400000 in
theorem back_arg_no (h : Nat → Int) (a b : Option Addr) (n C m C' : Nat) (f2 : Nat → Int) (w : World) (hT : Tab w) (hB : Arg w b m f2) (hC' : m ≤ C') (hn : n ≤ 3000) (hm : m ≤ 3000) (hl : ¬ 1024 < n) (ho : okH (upd h 2 (n : Nat)) = false) (hc : openCode m f2 ≠ 0) :
    Calls Tryd.prog 6 #[.agg (msg h a n C).toArray, .slice b m C'] w fun e w' => e = .returned (.bool true) ∧ Below w.heap.size w w' := by
  have hT0 := hT.2
  have TT : Hid (Tab w) := hT
  have HB : Hid (Arg w b m f2) := hB
  have OK : Hid (okH (upd h 2 (n : Nat)) = false) := ho
  clear ho
  have OC : Hid (openCode m f2 ≠ 0) := hc
  obtain ⟨c, hce⟩ : ∃ c, openCode m f2 = c := ⟨_, rfl⟩
  have OV : Hid (openCode m f2 = c) := hce
  have c0 : (c != 0) = true := by rw [← hce]; simpa using hc
  clear hc hce
  clear hT hB
  have e1 : ¬ (3000 : Int) < n := by omega
  have e2 : ¬ (3000 : Int) < m := by omega
  go_enter Tryd.func6, Tryd.ntmps6
  go_wp2_with (first
    | (refine wpList_box_rec rfl 29 (.tmp 0) rfl (msg h a n C) rfl w.heap.size rfl ?_; intro W0 R0 B0 z0
       have S0 : Hid (bkS w h a n C W0) := ⟨R0, TT.out.below B0 hT0, B0⟩
       clear R0 B0 z0)
    | (go_at_call 5; refine (known_any _ S0.out.2.1).mono ?_; rintro e W1 ⟨rfl, hB1⟩
       have S1 : Hid (bkS w h a n C W1) := S0.out.below hB1
       obtain ⟨c16, _⟩ := S1.out.1.at 16 _ (msg_body h a n C)
       clear hB1 S0)
    | (refine wpList_load_rec rfl 29 (.tmp 2) rfl w.heap.size 0 (msg h a n C) rfl _ Tryd.underlying29 rfl (by kernel_rfl) S1.out.1 ?_)
    | (have _q := S1; clear _q; go_at_call 9; refine (mseal_arg h a n C _ (by omega) S1.out.2.1 OK.out).mono ?_; rintro e W2 ⟨rfl, hB2⟩
       have SB : Hid (bkS w h a n C W2) := S1.out.below hB2
       clear hB2 S1 c16)
    | (have _q := SB; clear _q; go_at_call 17; refine (mopen_no b m C' f2 _ SB.out.2.1 (HB.out.below SB.out.2.2) hC' (by omega) OC.out).mono ?_; rintro e Y1 ⟨rfl, hY1⟩; rw [OV.out]
       have Y1S : Hid (Below w.heap.size w Y1) := SB.out.2.2.trans (hY1.mono SB.out.2.2.size)
       clear hY1 SB)
    | (refine wpList_alloc_rec rfl 29 rfl (msg (fun _ => 0) none 0 0) Y1.heap.size rfl zeroMsg ?_; intro Y2 R2 B2 z2)
    | (refine wpList_store_rec rfl 29 (.tmp 12) (.tmp 78) rfl Y1.heap.size 0 _ (msg (fun _ => 0) none 0 0) rfl rfl R2 rfl (by kernel_rfl) (msg_one _ _ _ _) ?_; intro Y3 R3 B3
       have E3 : Hid (Below w.heap.size w Y3) := Y1S.out.trans ((B2.trans (B3.below (Nat.le_refl _) (by omega))).mono Y1S.out.size)
       clear R2 B2 z2 R3 B3))
  go_ret
  exact ⟨rfl, E3.out⟩
set_option maxRecDepth 100000 in
set_option maxHeartbeats 400000 in
theorem back_arg_ok (h : Nat → Int) (a b : Option Addr) (n C m C' : Nat) (f2 : Nat → Int) (w : World) (hT : Tab w) (hB : Arg w b m f2) (hC' : m ≤ C') (hn : n ≤ 3000) (hm : m ≤ 3000) (hl : ¬ 1024 < n) (ho : okH (upd h 2 (n : Nat)) = false) (hc : openCode m f2 = 0) :
    Calls Tryd.prog 6 #[.agg (msg h a n C).toArray, .slice b m C'] w fun e w' => e = .returned (.bool true) ∧ Below w.heap.size w w' := by
  have hT0 := hT.2
  have TT : Hid (Tab w) := hT
  have HB : Hid (Arg w b m f2) := hB
  have OK : Hid (okH (upd h 2 (n : Nat)) = false) := ho
  clear ho
  have OC : Hid (openCode m f2 = 0) := hc
  have MG : Hid (256 ≤ m) := (openCode_zero hc).1
  clear hc
  clear hT hB
  have e1 : ¬ (3000 : Int) < n := by omega
  have e2 : ¬ (3000 : Int) < m := by omega
  go_enter Tryd.func6, Tryd.ntmps6
  go_wp2_with (first
    | (refine wpList_box_rec rfl 29 (.tmp 0) rfl (msg h a n C) rfl w.heap.size rfl ?_; intro W0 R0 B0 z0
       have S0 : Hid (bkS w h a n C W0) := ⟨R0, TT.out.below B0 hT0, B0⟩
       clear R0 B0 z0)
    | (go_at_call 5; refine (known_any _ S0.out.2.1).mono ?_; rintro e W1 ⟨rfl, hB1⟩
       have S1 : Hid (bkS w h a n C W1) := S0.out.below hB1
       obtain ⟨c16, _⟩ := S1.out.1.at 16 _ (msg_body h a n C)
       clear hB1 S0)
    | (refine wpList_load_rec rfl 29 (.tmp 2) rfl w.heap.size 0 (msg h a n C) rfl _ Tryd.underlying29 rfl (by kernel_rfl) S1.out.1 ?_)
    | (have _q := S1; clear _q; go_at_call 9; refine (mseal_arg h a n C _ (by omega) S1.out.2.1 OK.out).mono ?_; rintro e W2 ⟨rfl, hB2⟩
       have SB : Hid (bkS w h a n C W2) := S1.out.below hB2
       clear hB2 S1 c16)
    | (have _q := SB; clear _q; go_at_call 17; refine (mopen_ok b m C' f2 _ SB.out.2.1 (HB.out.below SB.out.2.2) hC' (by omega) OC.out).mono ?_; rintro e Y1 ⟨p, rfl, hp, hP1, hY1⟩
       have T1 := SB.out.2.1.below hY1 SB.out.2.1.2
       have E1 := SB.out.2.2.trans (hY1.mono SB.out.2.2.size)
       have A1 := hP1.arg (fun j hj => HB.out.bytes _ (by have := MG.out; omega))
       clear hY1 SB hP1 hp)
    | (refine wpList_alloc_rec rfl 29 rfl (msg (fun _ => 0) none 0 0) Y1.heap.size rfl zeroMsg ?_; intro Y2 R2 B2 z2)
    | (refine wpList_store_rec rfl 29 (.tmp 12) (.tmp 78) rfl Y1.heap.size 0 _ (msg (hdrF f2) (some ⟨p, 0, none⟩) (m - 256) (m - 256)) rfl rfl R2 rfl (by kernel_rfl) (msg_one _ _ _ _) ?_; intro Y3 R3 B3
       have F3 : Below Y1.heap.size Y1 Y3 := B2.trans (B3.below (Nat.le_refl _) (by omega))
       have E3 : Hid (Below w.heap.size w Y3) := E1.trans (F3.mono E1.size)
       have A3 : Hid (Arg Y3 (some ⟨p, 0, none⟩) (m - 256) (fun j => f2 (256 + j))) := A1.below F3
       have T3 : Hid (Tab Y3) := T1.below F3 T1.2
       have M3 : Hid (Rec19 Y3 Y1.heap.size 0 (msg (hdrF f2) (some ⟨p, 0, none⟩) (m - 256) (m - 256))) := R3
       clear F3 R2 B2 z2 R3 B3 T1 E1 A1)
    | (refine wpList_load_rec rfl 29 (.tmp 12) rfl Y1.heap.size 0 (msg (hdrF f2) (some ⟨p, 0, none⟩) (m - 256) (m - 256)) rfl _ Tryd.underlying29 rfl (by kernel_rfl) M3.out ?_)
    | (go_at_call 9; refine (seal_msg p m f2 _ T3.out HB.out.bytes OC.out A3.out).mono ?_; rintro e Y4 ⟨g4, rfl, hA4, hY4⟩
       have E4 : Hid (Below w.heap.size w Y4) := E3.out.trans (hY4.mono E3.out.size)
       have A4 : Hid (Arg Y4 (some ⟨g4, 0, none⟩) m f2) := hA4
       clear hA4 hY4)
    | (go_at_call 11; refine (same_any (some ⟨g4, 0, none⟩) b m m _ _ f2 f2 _ A4.out (HB.out.below E4.out)).mono ?_; rintro e Y5 ⟨rfl, hY5⟩; rw [hY5, decide_eq_true rfl]; clear hY5 Y5))
  go_ret
  exact ⟨rfl, E4.out⟩
set_option maxRecDepth 100000 in
set_option maxHeartbeats 400000 in
theorem back_ok_no (h : Nat → Int) (a b : Option Addr) (n C m C' : Nat) (f f2 : Nat → Int) (w : World) (hT : Tab w) (hA : Arg w a n f) (hB : Arg w b m f2) (hC : n ≤ C) (hC' : m ≤ C') (hn : n ≤ 3000) (hm : m ≤ 3000) (hl : ¬ 1024 < n) (ho : okH (upd h 2 (n : Nat)) = true) (hW : Words h) (hc : openCode m f2 ≠ 0) :
    Calls Tryd.prog 6 #[.agg (msg h a n C).toArray, .slice b m C'] w fun e w' => e = .returned (.bool true) ∧ Below w.heap.size w w' := by
  have hT0 := hT.2
  have TT : Hid (Tab w) := hT
  have HA : Hid (Arg w a n f) := hA
  have HB : Hid (Arg w b m f2) := hB
  have OK : Hid (okH (upd h 2 (n : Nat)) = true) := ho
  have HW : Hid (Words h) := hW
  obtain ⟨hh, hhe⟩ : ∃ x, upd h 2 ((n : Nat) : Int) = x := ⟨_, rfl⟩
  have HH : Hid (upd h 2 ((n : Nat) : Int) = hh) := hhe
  have OK2 : Hid (okH hh = true) := (by rw [← hhe]; exact ho : okH hh = true)
  have HW2 : Hid (Words hh) := (by rw [← hhe]; exact hW.size _ : Words hh)
  have H2 : Hid (hh 2 = (n : Int)) := (by rw [← hhe]; rfl : hh 2 = (n : Int))
  clear ho hhe hW
  have e3 : wrap64 (256 + (n : Int)) = 256 + (n : Int) := by unfold wrap64; omega
  have e4 : IntKind.i64.wrap (256 + (n : Int)) = 256 + (n : Int) := by rw [IntKind.wrap_i64]; omega
  have e5 : (256 : Int) ≤ ((256 + n : Nat) : Int) := by omega
  have e6 : ¬ 256 + (n : Int) < 256 := by omega
  have OC : Hid (openCode m f2 ≠ 0) := hc
  obtain ⟨c, hce⟩ : ∃ c, openCode m f2 = c := ⟨_, rfl⟩
  have OV : Hid (openCode m f2 = c) := hce
  have c0 : (c != 0) = true := by rw [← hce]; simpa using hc
  clear hc hce
  clear hT hA hB
  have e1 : ¬ (3000 : Int) < n := by omega
  have e2 : ¬ (3000 : Int) < m := by omega
  go_enter Tryd.func6, Tryd.ntmps6
  go_wp2_with (first
    | (refine wpList_box_rec rfl 29 (.tmp 0) rfl (msg h a n C) rfl w.heap.size rfl ?_; intro W0 R0 B0 z0
       have S0 : Hid (bkS w h a n C W0) := ⟨R0, TT.out.below B0 hT0, B0⟩
       clear R0 B0 z0)
    | (go_at_call 5; refine (known_any _ S0.out.2.1).mono ?_; rintro e W1 ⟨rfl, hB1⟩
       have S1 : Hid (bkS w h a n C W1) := S0.out.below hB1
       obtain ⟨c16, _⟩ := S1.out.1.at 16 _ (msg_body h a n C)
       clear hB1 S0)
    | (refine wpList_load_rec rfl 29 (.tmp 2) rfl w.heap.size 0 (msg h a n C) rfl _ Tryd.underlying29 rfl (by kernel_rfl) S1.out.1 ?_)
    | (have _q := S1; clear _q; go_at_call 9; refine (mseal_ok h a n C f _ (by omega) S1.out.2.1 (HA.out.below S1.out.2.2) hC HW.out OK.out).mono ?_; rintro e W2 ⟨g, rfl, hg, hR2, hB2⟩
       rw [HH.out] at hR2
       have S2 : Hid (bkS w h a n C W2) := S1.out.below hB2
       have X2 : Hid (IRow W2 g .u8 (256 + n) (msgF hh n f)) := hR2
       have N2 : Hid (w.heap.size < g) := (by have := S1.out.1.2.2; omega : w.heap.size < g)
       clear hB2 S1 c16 hR2 hg)
    | (have _q := S2; clear _q; go_at_call 17; refine (open_msg g hh n f _ S2.out.2.1 (by omega) HA.out.bytes X2.out OK2.out HW2.out H2.out).mono ?_; rintro e W3 ⟨q, rfl, hq3, hA3, hB3⟩
       have QN : Hid (w.heap.size < q) := (by have := S2.out.1.2.2; omega : w.heap.size < q)
       have S3 : Hid (bkS w h a n C W3) := S2.out.below hB3
       have X3 : Hid (IRow W3 g .u8 (256 + n) (msgF hh n f)) := X2.out.below hB3
       have Q3 : Hid (Arg W3 (some ⟨q, 0, none⟩) n f) := hA3
       clear hB3 hA3 hq3 S2 X2)
    | (refine wpList_alloc_rec rfl 29 rfl (msg (fun _ => 0) none 0 0) W3.heap.size rfl zeroMsg ?_; intro W4 R4 B4 z4)
    | (refine wpList_store_rec rfl 29 (.tmp 8) (.tmp 37) rfl W3.heap.size 0 _ (msg hh (some ⟨q, 0, none⟩) n n) rfl rfl R4 rfl (by kernel_rfl) (msg_one _ _ _ _) ?_; intro W5 R5 B5
       have F5 : Below W3.heap.size W3 W5 := B4.trans (B5.below (Nat.le_refl _) (by omega))
       have S5 := S3.out.below F5
       have X5 := X3.out.below F5
       have Q5 := Q3.out.below F5
       obtain ⟨c16, _⟩ := S5.1.at 16 _ (msg_body h a n C)
       obtain ⟨c2, f2'⟩ := S5.1.at 2 (.int .i64 (h 2)) rfl
       have N5 : w.heap.size < W3.heap.size := S3.out.1.2.2
       have BS : Below w.heap.size W5 (W5.setCell ⟨w.heap.size, 2, none⟩ (.int .i64 n)) := (Below.refl w.heap.size W5).setCell (p := ⟨w.heap.size, 2, none⟩) (Nat.le_refl _) _
       have RS : Rec19 (W5.setCell ⟨w.heap.size, 2, none⟩ (.int .i64 n)) w.heap.size 0 (msg hh a n C) := (by rw [← HH.out, ← msg_size]; exact S5.1.set 2 (.int .i64 n) (by rw [msg_len]; omega) : Rec19 (W5.setCell ⟨w.heap.size, 2, none⟩ (.int .i64 n)) w.heap.size 0 (msg hh a n C))
       have S6 : Hid (bkS w hh a n C (W5.setCell ⟨w.heap.size, 2, none⟩ (.int .i64 n))) := ⟨RS, S5.2.1.below BS hT0, S5.2.2.trans BS⟩
       have X6 : Hid (IRow (W5.setCell ⟨w.heap.size, 2, none⟩ (.int .i64 n)) g .u8 (256 + n) (msgF hh n f)) := X5.but (But.set _ _ _) (by have := N2.out; omega)
       have M6 : Hid (Rec19 (W5.setCell ⟨w.heap.size, 2, none⟩ (.int .i64 n)) W3.heap.size 0 (msg hh (some ⟨q, 0, none⟩) n n)) := R5.but (But.set _ _ _) (by omega)
       have Q6 : Hid (Arg (W5.setCell ⟨w.heap.size, 2, none⟩ (.int .i64 n)) (some ⟨q, 0, none⟩) n f) := Q5.keep (But.set _ _ _) (fun r hr => by injection hr with hr; subst hr; have := QN.out; show q ≠ w.heap.size; omega)
       clear F5 S5 X5 Q5 BS RS R4 B4 z4 R5 B5 S3 X3 Q3)
    | (refine wpList_load_w (by rfl) 29 (.tmp 8) rfl W3.heap.size 0 (msg hh (some ⟨q, 0, none⟩) n n) rfl _ Tryd.underlying29 rfl (by kernel_rfl) M6.out ?_)
    | (refine wpList_load_w (by rfl) 29 (.tmp 2) rfl w.heap.size 0 (msg hh a n C) rfl _ Tryd.underlying29 rfl (by kernel_rfl) S6.out.1 ?_)
    | (go_at_call 21; refine (sameMsg_any hh (some ⟨q, 0, none⟩) a n n n C f f _ Q6.out (HA.out.below S6.out.2.2) rfl (fun _ _ => rfl)).mono ?_; rintro e W7 ⟨rfl, hB7⟩
       have S7 : Hid (bkS w hh a n C W7) := S6.out.below hB7
       have X7 : Hid (IRow W7 g .u8 (256 + n) (msgF hh n f)) := X6.out.below hB7
       obtain ⟨d16, _⟩ := S7.out.1.at 16 _ (msg_body hh a n C)
       clear hB7 S6 X6 M6 Q6 c16 c2 f2')
    | (go_at_call 19; refine (head_msg g (256 + n) hh n f _ S7.out.2.1 HA.out.bytes X7.out (by omega) OK2.out HW2.out H2.out).mono ?_; rintro e W8 ⟨rfl, hB8⟩
       have S8' : Hid (bkS w hh a n C W8) := S7.out.below hB8
       clear hB8 S7 X7 d16)
    | (refine wpList_alloc_rec rfl 26 rfl (hcs fun _ => 0) W8.heap.size rfl zeroHdr ?_; intro W9 R9 B9 z9)
    | (refine wpList_store_rec rfl 26 (.tmp 10) (.tmp 65) rfl W8.heap.size 0 _ (hcs hh) rfl rfl R9 rfl (by kernel_rfl) (hcs_one _) ?_; intro V R10 B10
       have SB : Hid (bkS w hh a n C V) := S8'.out.below (B9.trans (B10.below (Nat.le_refl _) (by omega)))
       have HV : Hid (Rec19 V W8.heap.size 0 (hcs hh)) := R10
       clear R9 B9 z9 R10 B10 S8')
    | (refine wpList_load_w (by rfl) 26 (.tmp 10) rfl W8.heap.size 0 (hcs hh) rfl _ Tryd.underlying26 rfl (by kernel_rfl) HV.out ?_)
    | (refine wpList_load_w (by rfl) 26 (.tmp 71) rfl w.heap.size 0 (hcs hh) rfl _ Tryd.underlying26 rfl (by kernel_rfl) SB.out.1.head ?_)
    | (refine wpList_neq_w (by rfl) 26 26 (.tmp 70) (.tmp 72) rfl (hcs hh).toArray rfl rfl (neq_hdr hh) guard_hdr ?_)
    | (have _q := SB; clear _q; go_at_call 17; refine (mopen_no b m C' f2 _ SB.out.2.1 (HB.out.below SB.out.2.2) hC' (by omega) OC.out).mono ?_; rintro e Y1 ⟨rfl, hY1⟩; rw [OV.out]
       have Y1S : Hid (Below w.heap.size w Y1) := SB.out.2.2.trans (hY1.mono SB.out.2.2.size)
       clear hY1 SB)
    | (refine wpList_alloc_rec rfl 29 rfl (msg (fun _ => 0) none 0 0) Y1.heap.size rfl zeroMsg ?_; intro Y2 R2 B2 z2)
    | (refine wpList_store_rec rfl 29 (.tmp 12) (.tmp 78) rfl Y1.heap.size 0 _ (msg (fun _ => 0) none 0 0) rfl rfl R2 rfl (by kernel_rfl) (msg_one _ _ _ _) ?_; intro Y3 R3 B3
       have E3 : Hid (Below w.heap.size w Y3) := Y1S.out.trans ((B2.trans (B3.below (Nat.le_refl _) (by omega))).mono Y1S.out.size)
       clear R2 B2 z2 R3 B3))
  go_ret
  exact ⟨rfl, E3.out⟩
set_option maxRecDepth 100000 in
set_option maxHeartbeats 400000 in
theorem back_ok_ok (h : Nat → Int) (a b : Option Addr) (n C m C' : Nat) (f f2 : Nat → Int) (w : World) (hT : Tab w) (hA : Arg w a n f) (hB : Arg w b m f2) (hC : n ≤ C) (hC' : m ≤ C') (hn : n ≤ 3000) (hm : m ≤ 3000) (hl : ¬ 1024 < n) (ho : okH (upd h 2 (n : Nat)) = true) (hW : Words h) (hc : openCode m f2 = 0) :
    Calls Tryd.prog 6 #[.agg (msg h a n C).toArray, .slice b m C'] w fun e w' => e = .returned (.bool true) ∧ Below w.heap.size w w' := by
  have hT0 := hT.2
  have TT : Hid (Tab w) := hT
  have HA : Hid (Arg w a n f) := hA
  have HB : Hid (Arg w b m f2) := hB
  have OK : Hid (okH (upd h 2 (n : Nat)) = true) := ho
  have HW : Hid (Words h) := hW
  obtain ⟨hh, hhe⟩ : ∃ x, upd h 2 ((n : Nat) : Int) = x := ⟨_, rfl⟩
  have HH : Hid (upd h 2 ((n : Nat) : Int) = hh) := hhe
  have OK2 : Hid (okH hh = true) := (by rw [← hhe]; exact ho : okH hh = true)
  have HW2 : Hid (Words hh) := (by rw [← hhe]; exact hW.size _ : Words hh)
  have H2 : Hid (hh 2 = (n : Int)) := (by rw [← hhe]; rfl : hh 2 = (n : Int))
  clear ho hhe hW
  have e3 : wrap64 (256 + (n : Int)) = 256 + (n : Int) := by unfold wrap64; omega
  have e4 : IntKind.i64.wrap (256 + (n : Int)) = 256 + (n : Int) := by rw [IntKind.wrap_i64]; omega
  have e5 : (256 : Int) ≤ ((256 + n : Nat) : Int) := by omega
  have e6 : ¬ 256 + (n : Int) < 256 := by omega
  have OC : Hid (openCode m f2 = 0) := hc
  have MG : Hid (256 ≤ m) := (openCode_zero hc).1
  clear hc
  clear hT hA hB
  have e1 : ¬ (3000 : Int) < n := by omega
  have e2 : ¬ (3000 : Int) < m := by omega
  go_enter Tryd.func6, Tryd.ntmps6
  go_wp2_with (first
    | (refine wpList_box_rec rfl 29 (.tmp 0) rfl (msg h a n C) rfl w.heap.size rfl ?_; intro W0 R0 B0 z0
       have S0 : Hid (bkS w h a n C W0) := ⟨R0, TT.out.below B0 hT0, B0⟩
       clear R0 B0 z0)
    | (go_at_call 5; refine (known_any _ S0.out.2.1).mono ?_; rintro e W1 ⟨rfl, hB1⟩
       have S1 : Hid (bkS w h a n C W1) := S0.out.below hB1
       obtain ⟨c16, _⟩ := S1.out.1.at 16 _ (msg_body h a n C)
       clear hB1 S0)
    | (refine wpList_load_rec rfl 29 (.tmp 2) rfl w.heap.size 0 (msg h a n C) rfl _ Tryd.underlying29 rfl (by kernel_rfl) S1.out.1 ?_)
    | (have _q := S1; clear _q; go_at_call 9; refine (mseal_ok h a n C f _ (by omega) S1.out.2.1 (HA.out.below S1.out.2.2) hC HW.out OK.out).mono ?_; rintro e W2 ⟨g, rfl, hg, hR2, hB2⟩
       rw [HH.out] at hR2
       have S2 : Hid (bkS w h a n C W2) := S1.out.below hB2
       have X2 : Hid (IRow W2 g .u8 (256 + n) (msgF hh n f)) := hR2
       have N2 : Hid (w.heap.size < g) := (by have := S1.out.1.2.2; omega : w.heap.size < g)
       clear hB2 S1 c16 hR2 hg)
    | (have _q := S2; clear _q; go_at_call 17; refine (open_msg g hh n f _ S2.out.2.1 (by omega) HA.out.bytes X2.out OK2.out HW2.out H2.out).mono ?_; rintro e W3 ⟨q, rfl, hq3, hA3, hB3⟩
       have QN : Hid (w.heap.size < q) := (by have := S2.out.1.2.2; omega : w.heap.size < q)
       have S3 : Hid (bkS w h a n C W3) := S2.out.below hB3
       have X3 : Hid (IRow W3 g .u8 (256 + n) (msgF hh n f)) := X2.out.below hB3
       have Q3 : Hid (Arg W3 (some ⟨q, 0, none⟩) n f) := hA3
       clear hB3 hA3 hq3 S2 X2)
    | (refine wpList_alloc_rec rfl 29 rfl (msg (fun _ => 0) none 0 0) W3.heap.size rfl zeroMsg ?_; intro W4 R4 B4 z4)
    | (refine wpList_store_rec rfl 29 (.tmp 8) (.tmp 37) rfl W3.heap.size 0 _ (msg hh (some ⟨q, 0, none⟩) n n) rfl rfl R4 rfl (by kernel_rfl) (msg_one _ _ _ _) ?_; intro W5 R5 B5
       have F5 : Below W3.heap.size W3 W5 := B4.trans (B5.below (Nat.le_refl _) (by omega))
       have S5 := S3.out.below F5
       have X5 := X3.out.below F5
       have Q5 := Q3.out.below F5
       obtain ⟨c16, _⟩ := S5.1.at 16 _ (msg_body h a n C)
       obtain ⟨c2, f2'⟩ := S5.1.at 2 (.int .i64 (h 2)) rfl
       have N5 : w.heap.size < W3.heap.size := S3.out.1.2.2
       have BS : Below w.heap.size W5 (W5.setCell ⟨w.heap.size, 2, none⟩ (.int .i64 n)) := (Below.refl w.heap.size W5).setCell (p := ⟨w.heap.size, 2, none⟩) (Nat.le_refl _) _
       have RS : Rec19 (W5.setCell ⟨w.heap.size, 2, none⟩ (.int .i64 n)) w.heap.size 0 (msg hh a n C) := (by rw [← HH.out, ← msg_size]; exact S5.1.set 2 (.int .i64 n) (by rw [msg_len]; omega) : Rec19 (W5.setCell ⟨w.heap.size, 2, none⟩ (.int .i64 n)) w.heap.size 0 (msg hh a n C))
       have S6 : Hid (bkS w hh a n C (W5.setCell ⟨w.heap.size, 2, none⟩ (.int .i64 n))) := ⟨RS, S5.2.1.below BS hT0, S5.2.2.trans BS⟩
       have X6 : Hid (IRow (W5.setCell ⟨w.heap.size, 2, none⟩ (.int .i64 n)) g .u8 (256 + n) (msgF hh n f)) := X5.but (But.set _ _ _) (by have := N2.out; omega)
       have M6 : Hid (Rec19 (W5.setCell ⟨w.heap.size, 2, none⟩ (.int .i64 n)) W3.heap.size 0 (msg hh (some ⟨q, 0, none⟩) n n)) := R5.but (But.set _ _ _) (by omega)
       have Q6 : Hid (Arg (W5.setCell ⟨w.heap.size, 2, none⟩ (.int .i64 n)) (some ⟨q, 0, none⟩) n f) := Q5.keep (But.set _ _ _) (fun r hr => by injection hr with hr; subst hr; have := QN.out; show q ≠ w.heap.size; omega)
       clear F5 S5 X5 Q5 BS RS R4 B4 z4 R5 B5 S3 X3 Q3)
    | (refine wpList_load_w (by rfl) 29 (.tmp 8) rfl W3.heap.size 0 (msg hh (some ⟨q, 0, none⟩) n n) rfl _ Tryd.underlying29 rfl (by kernel_rfl) M6.out ?_)
    | (refine wpList_load_w (by rfl) 29 (.tmp 2) rfl w.heap.size 0 (msg hh a n C) rfl _ Tryd.underlying29 rfl (by kernel_rfl) S6.out.1 ?_)
    | (go_at_call 21; refine (sameMsg_any hh (some ⟨q, 0, none⟩) a n n n C f f _ Q6.out (HA.out.below S6.out.2.2) rfl (fun _ _ => rfl)).mono ?_; rintro e W7 ⟨rfl, hB7⟩
       have S7 : Hid (bkS w hh a n C W7) := S6.out.below hB7
       have X7 : Hid (IRow W7 g .u8 (256 + n) (msgF hh n f)) := X6.out.below hB7
       obtain ⟨d16, _⟩ := S7.out.1.at 16 _ (msg_body hh a n C)
       clear hB7 S6 X6 M6 Q6 c16 c2 f2')
    | (go_at_call 19; refine (head_msg g (256 + n) hh n f _ S7.out.2.1 HA.out.bytes X7.out (by omega) OK2.out HW2.out H2.out).mono ?_; rintro e W8 ⟨rfl, hB8⟩
       have S8' : Hid (bkS w hh a n C W8) := S7.out.below hB8
       clear hB8 S7 X7 d16)
    | (refine wpList_alloc_rec rfl 26 rfl (hcs fun _ => 0) W8.heap.size rfl zeroHdr ?_; intro W9 R9 B9 z9)
    | (refine wpList_store_rec rfl 26 (.tmp 10) (.tmp 65) rfl W8.heap.size 0 _ (hcs hh) rfl rfl R9 rfl (by kernel_rfl) (hcs_one _) ?_; intro V R10 B10
       have SB : Hid (bkS w hh a n C V) := S8'.out.below (B9.trans (B10.below (Nat.le_refl _) (by omega)))
       have HV : Hid (Rec19 V W8.heap.size 0 (hcs hh)) := R10
       clear R9 B9 z9 R10 B10 S8')
    | (refine wpList_load_w (by rfl) 26 (.tmp 10) rfl W8.heap.size 0 (hcs hh) rfl _ Tryd.underlying26 rfl (by kernel_rfl) HV.out ?_)
    | (refine wpList_load_w (by rfl) 26 (.tmp 71) rfl w.heap.size 0 (hcs hh) rfl _ Tryd.underlying26 rfl (by kernel_rfl) SB.out.1.head ?_)
    | (refine wpList_neq_w (by rfl) 26 26 (.tmp 70) (.tmp 72) rfl (hcs hh).toArray rfl rfl (neq_hdr hh) guard_hdr ?_)
    | (have _q := SB; clear _q; go_at_call 17; refine (mopen_ok b m C' f2 _ SB.out.2.1 (HB.out.below SB.out.2.2) hC' (by omega) OC.out).mono ?_; rintro e Y1 ⟨p, rfl, hp, hP1, hY1⟩
       have T1 := SB.out.2.1.below hY1 SB.out.2.1.2
       have E1 := SB.out.2.2.trans (hY1.mono SB.out.2.2.size)
       have A1 := hP1.arg (fun j hj => HB.out.bytes _ (by have := MG.out; omega))
       clear hY1 SB hP1 hp)
    | (refine wpList_alloc_rec rfl 29 rfl (msg (fun _ => 0) none 0 0) Y1.heap.size rfl zeroMsg ?_; intro Y2 R2 B2 z2)
    | (refine wpList_store_rec rfl 29 (.tmp 12) (.tmp 78) rfl Y1.heap.size 0 _ (msg (hdrF f2) (some ⟨p, 0, none⟩) (m - 256) (m - 256)) rfl rfl R2 rfl (by kernel_rfl) (msg_one _ _ _ _) ?_; intro Y3 R3 B3
       have F3 : Below Y1.heap.size Y1 Y3 := B2.trans (B3.below (Nat.le_refl _) (by omega))
       have E3 : Hid (Below w.heap.size w Y3) := E1.trans (F3.mono E1.size)
       have A3 : Hid (Arg Y3 (some ⟨p, 0, none⟩) (m - 256) (fun j => f2 (256 + j))) := A1.below F3
       have T3 : Hid (Tab Y3) := T1.below F3 T1.2
       have M3 : Hid (Rec19 Y3 Y1.heap.size 0 (msg (hdrF f2) (some ⟨p, 0, none⟩) (m - 256) (m - 256))) := R3
       clear F3 R2 B2 z2 R3 B3 T1 E1 A1)
    | (refine wpList_load_rec rfl 29 (.tmp 12) rfl Y1.heap.size 0 (msg (hdrF f2) (some ⟨p, 0, none⟩) (m - 256) (m - 256)) rfl _ Tryd.underlying29 rfl (by kernel_rfl) M3.out ?_)
    | (go_at_call 9; refine (seal_msg p m f2 _ T3.out HB.out.bytes OC.out A3.out).mono ?_; rintro e Y4 ⟨g4, rfl, hA4, hY4⟩
       have E4 : Hid (Below w.heap.size w Y4) := E3.out.trans (hY4.mono E3.out.size)
       have A4 : Hid (Arg Y4 (some ⟨g4, 0, none⟩) m f2) := hA4
       clear hA4 hY4)
    | (go_at_call 11; refine (same_any (some ⟨g4, 0, none⟩) b m m _ _ f2 f2 _ A4.out (HB.out.below E4.out)).mono ?_; rintro e Y5 ⟨rfl, hY5⟩; rw [hY5, decide_eq_true rfl]; clear hY5 Y5))
  go_ret
  exact ⟨rfl, E4.out⟩
end Go.Proofs.YtkmgjpeoognpjaaDoor
