/-
  Walks, not a claim by itself: table's Pack. By the verifier.
-/
import Derived.Test.YtblphlcnbnklmaaGreatDoorXMa
import Derived.Test.YtblphlcnbnklmaaGreatDoorBApp
import Derived.Test.YtblphlcnbnklmaaGreatDoorHold
import Derived.Test.YtblphlcnbnklmaaGreatDoorCut
import Derived.Test.YtblphlcnbnklmaaGreatDoorDReg
import Derived.Test.YtblphlcnbnklmaaGreatDoorReg2
namespace Go.Proofs.YtblphlcnbnklmaaGreatDoor
open Go.RowKit
attribute [-go_sem] Builtin.append_
/-- A literal of one byte, as an argument. -/
theorem lit_arg (W : World) (c : Int) (hc : 0 ≤ c ∧ c < 256) : Arg (W.alloc (.cells #[.int .u8 c] 5)) (some ⟨W.heap.size, 0, none⟩) 1 (fun _ => c) := by
  refine .inr ⟨by decide, W.heap.size, 0, rfl, fun j hj => ?_, fun _ _ => hc, by simp⟩
  obtain rfl : j = 0 := by omega
  rw [World.cell?_alloc_at (w := W) _ _ W.heap.size 0 rfl]
  rfl
/-- A text that lies ahead of what is made. -/
def AB (base : Nat) (W : World) (a : Option Addr) (m : Nat) (f : Nat → Int) : Prop := Arg W a m f ∧ (0 < m → ∀ q, a = some q → q.block < base)
theorem AB.below {base : Nat} {W W' : World} {a : Option Addr} {m : Nat} {f : Nat → Int} (h : AB base W a m f) (hB : Below base W W') : AB base W' a m f := by
  refine ⟨?_, h.2⟩
  rcases h.1 with q | ⟨h0, b, off, rfl, hl⟩
  · exact .inl q
  · have hb : b < base := h.2 h0 _ rfl
    exact .inr ⟨h0, b, off, rfl, fun j hj => (hB.cell (p := ⟨b, off + j, none⟩) hb).trans (hl.1 j hj), hl.2.1, Nat.lt_of_lt_of_le hl.2.2 hB.size⟩
/-- Bytes with how many a text has, and it, behind them. -/
def ltF (F : Nat → Int) (n m : Nat) (f : Nat → Int) : Nat → Int := cat (cat F n (fun _ => (m : Int) % 256)) (n + 1) f
/-- What layText answers. -/
def LtP (W : World) (base N : Nat) (F : Nat → Int) (e : Ending) (w' : World) : Prop := ∃ a n C, e = .returned (.slice a n C) ∧ Own w' base (.slice a n C) N F ∧ Below base W w'
theorem own_sl {w : World} {base n : Nat} {v : Value} {F : Nat → Int} (h : Own w base v n F) : ∃ a m C, v = .slice a m C := by
  rcases h.2 with ⟨rfl, _⟩ | ⟨g, cap, cur, rfl, _⟩
  · exact ⟨_, _, _, rfl⟩
  · exact ⟨_, _, _, rfl⟩
theorem own_low {w : World} {base base' n : Nat} {v : Value} {F : Nat → Int} (h : Own w base v n F) (hb : base' ≤ base) : Own w base' v n F := by
  refine ⟨h.1, ?_⟩
  rcases h.2 with h0 | ⟨g, cap, cur, rfl, hg, rest⟩
  · exact .inl h0
  · exact .inr ⟨g, cap, cur, rfl, Nat.le_trans hb hg, rest⟩
set_option maxRecDepth 100000 in
set_option maxHeartbeats 1000000 in
theorem laytext_ok (W : World) (base n m C vn vC : Nat) (va a : Option Addr) (F f : Nat → Int) (ho : Own W base (.slice va vn vC) n F) (hA : AB base W a m f) (hn : n + 1 + m ≤ 1000000) (hbase : base ≤ W.heap.size) : Calls Tryz.prog 163 #[.slice va vn vC, .slice a m C] W (LtP W base (n + 1 + m) (ltF F n m f)) := by
  have A1 : Below W.heap.size W (W.alloc (.cells #[.int .u8 ((m : Int) % 256)] 5)) := (Below.refl _ _).alloc (Nat.le_refl _) _
  have b1 := A1.mono hbase
  obtain ⟨v1, W2, hr1, o1, b2⟩ := app_arg 23 _ base n 1 1 (.slice va vn vC) _ F _ (ho.below A1) (lit_arg W ((m : Int) % 256) (by omega)) (by omega) (Nat.le_trans hbase A1.size)
  have b12 := b1.trans b2
  obtain ⟨v2, W3, hr2, o2, b3⟩ := app_arg 23 W2 base (n + 1) m C v1 a _ f o1 (hA.below b12).1 (by omega) (Nat.le_trans hbase b12.size)
  obtain ⟨xa, xn, xC, rfl⟩ := own_sl o2
  have FIN : Hid (LtP W base (n + 1 + m) (ltF F n m f) (.returned (.slice xa xn xC)) W3) := hidIt ⟨xa, xn, xC, rfl, o2, b12.trans b3⟩
  clear ho hA hn hbase A1 b1 o1 b2 b12 o2 b3
  go_enter Tryz.func163, Tryz.ntmps163
  go_wp2_with fail
  exact bodyPost_ret (v := .slice xa xn xC) (by simp [results, Tryz.results163, go_sem]) rfl FIN.out
/-- A pair's bytes. -/
def pbN (k v : Nat) (g : Bool) : Nat := 0 + 1 + k + 1 + if g then 0 else v
def pbF (kn : Nat) (fk : Nat → Int) (vn : Nat) (fv : Nat → Int) (g : Bool) : Nat → Int := if g then cat (ltF (fun _ => 0) 0 kn fk) (0 + 1 + kn) (fun _ => 255) else ltF (ltF (fun _ => 0) 0 kn fk) (0 + 1 + kn) vn fv
set_option maxRecDepth 100000 in
set_option maxHeartbeats 1000000 in
theorem pairbytes_ok (W : World) (ka va : Option Addr) (kn vn kC vC : Nat) (fk fv : Nat → Int) (g : Bool) (hk : AB W.heap.size W ka kn fk) (hv : AB W.heap.size W va vn fv) (hn : kn ≤ 1000 ∧ vn ≤ 1000) : Calls Tryz.prog 99 #[.agg #[.slice ka kn kC, .slice va vn vC, .bool g]] W (LtP W W.heap.size (pbN kn vn g) (pbF kn fk vn fv g)) := by
  have HK := hidIt hk
  have HV := hidIt hv
  have HN := hidIt hn
  have na : Hid True := trivial
  clear hk hv hn
  cases g with
  | true =>
    go_enter Tryz.func99, Tryz.ntmps99
    go_wp2_with (first
      | (refine wpList_box_rec rfl 78 (.tmp 0) rfl [.slice ka kn kC, .slice va vn vC, .bool true] rfl W.heap.size rfl ?_; intro W1 R1 B1 z1; have E1 := hidIt B1; have P1 := hidIt R1; have c0 := (R1.cel 0 _ rfl).1; clear R1 B1 z1)
      | (go_at_call 163; have _q := na; clear na _q; (refine (laytext_ok W1 W1.heap.size 0 kn kC 0 0 none ka (fun _ => 0) fk (Own.nil _ _ _) ⟨(HK.out.below E1.out).1, fun h0 q hq => Nat.lt_of_lt_of_le (HK.out.2 h0 q hq) E1.out.size⟩ (by have := HN.out.1; omega) (Nat.le_refl _)).mono ?_; rintro e W2 ⟨xa, xn, xC, rfl, o2, b2⟩; have O2 := hidIt o2; have E2 := hidIt (E1.out.trans (b2.mono E1.out.size)); have B2 := hidIt b2; have P2 := hidIt (P1.out.below b2); have c2 := (P2.out.cel 2 _ rfl).1; have c1 := (P2.out.cel 1 _ rfl).1; clear o2 b2 c0; refine Held.out ?_)))
    have A3 : Below W2.heap.size W2 (W2.alloc (.cells #[.int .u8 255] 5)) := (Below.refl _ _).alloc (Nat.le_refl _) _
    obtain ⟨v3, W3, hr3, o3, b3⟩ := app_arg 23 _ W1.heap.size (0 + 1 + kn) 1 1 (.slice xa xn xC) _ _ _ (O2.out.below A3) (lit_arg W2 255 (by decide)) (by have := HN.out.1; omega) (Nat.le_trans B2.out.size A3.size)
    obtain ⟨za, zn, zC, rfl⟩ := own_sl o3
    have FIN : Hid (LtP W W.heap.size (pbN kn vn true) (pbF kn fk vn fv true) (.returned (.slice za zn zC)) W3) := hidIt ⟨za, zn, zC, rfl, own_low o3 E1.out.size, E2.out.trans ((A3.mono E2.out.size).trans (b3.mono E1.out.size))⟩
    clear A3 o3 b3 c1
    refine Held.mk ?_
    go_wp2_with fail
    exact bodyPost_ret (v := .slice za zn zC) (by simp [results, Tryz.results99, go_sem]) rfl FIN.out
  | false =>
    go_enter Tryz.func99, Tryz.ntmps99
    go_wp2_with (first
      | (refine wpList_box_rec rfl 78 (.tmp 0) rfl [.slice ka kn kC, .slice va vn vC, .bool false] rfl W.heap.size rfl ?_; intro W1 R1 B1 z1; have E1 := hidIt B1; have P1 := hidIt R1; have c0 := (R1.cel 0 _ rfl).1; clear R1 B1 z1)
      | (go_at_call 163; have _q := na; clear na _q; refine (laytext_ok W1 W1.heap.size 0 kn kC 0 0 none ka (fun _ => 0) fk (Own.nil _ _ _) ⟨(HK.out.below E1.out).1, fun h0 q hq => Nat.lt_of_lt_of_le (HK.out.2 h0 q hq) E1.out.size⟩ (by have := HN.out.1; omega) (Nat.le_refl _)).mono ?_; rintro e W2 ⟨xa, xn, xC, rfl, o2, b2⟩; have O2 := hidIt o2; have E2 := hidIt (E1.out.trans (b2.mono E1.out.size)); have B2 := hidIt b2; have P2 := hidIt (P1.out.below b2); have c2 := (P2.out.cel 2 _ rfl).1; have c1 := (P2.out.cel 1 _ rfl).1; clear o2 b2 c0)
      | (go_at_call 163; refine (laytext_ok W2 W1.heap.size (0 + 1 + kn) vn vC xn xC xa va _ fv O2.out ⟨(HV.out.below E2.out).1, fun h0 q hq => Nat.lt_of_lt_of_le (HV.out.2 h0 q hq) E1.out.size⟩ (by have := HN.out; omega) B2.out.size).mono ?_; rintro e W3 ⟨za, zn, zC, rfl, o3, b3⟩; have FIN : Hid (LtP W W.heap.size (pbN kn vn false) (pbF kn fk vn fv false) (.returned (.slice za zn zC)) W3) := hidIt ⟨za, zn, zC, rfl, own_low o3 E1.out.size, E2.out.trans (b3.mono E1.out.size)⟩; clear o3 b3))
    exact bodyPost_ret (v := .slice za zn zC) (by simp [results, Tryz.results99, go_sem]) rfl FIN.out
end Go.Proofs.YtblphlcnbnklmaaGreatDoor
namespace Go.Proofs.YtblphlcnbnklmaaGreatDoor
open Go.RowKit
attribute [-go_sem] Builtin.append_
theorem xapp_run {a : Act} {w : World} {o : Oper} (d x : Operand) (dT sT : TypeId) (hop : o.op = Op.call { callee := Callee.builtin Builtin.append, args := #[d, x], argTypes := #[dT, sT] })
    (v u : Value) (hd : a.eval d = v) (hx : a.eval x = u) {v' : Value} {w' : World} (hr : (Builtin.append_ #[dT, sT] o.type #[v, u]).run Tryz.prog w = .ok v' w') : (execOp a.eval o).run Tryz.prog w = .ok (.value v') w' := by
  simp [execOp, hop, resolve, invoke, builtin, hd, hx, hr, Result.andThen]
theorem run_slice_two (b o n C l h : Nat) (h1 : l ≤ h) (h2 : h ≤ C) (w : World) : (Instr.slice 23 (.slice (some ⟨b, o, none⟩) n C) (some (.int .i64 (l : Int))) (some (.int .i64 (h : Int))) none).run Tryz.prog w = .ok (.slice (some (cutP b o l 1 C)) (h - l) (C - l)) w := by
  obtain ⟨i0, hi, hz0, hz1, hz2⟩ := info_parts info_u8
  simp [Instr.slice, Instr.sliceBounds, run_underlying Tryz.underlying23, Instr.sliceBound, asIntOf, sizeOf, typeInfo, hi, hz1, h1, h2]
  unfold cutP
  by_cases e : C = l
  · rw [if_pos e, if_pos e]
  · rw [if_neg e, if_neg e, Addr.add_mid, Nat.mul_one]
/-- What takeText answers of whole ones. -/
def TtP (W : World) (b o n C : Nat) (f : Nat → Int) (e : Ending) (w' : World) : Prop := ∃ L : Nat, (L : Int) = f 0 ∧ Below W.heap.size W w' ∧ (if n < 1 + L then e = .returned (.tuple #[.slice none 0 0, .slice none 0 0, .bool false]) else ∃ s', e = .returned (.tuple #[s', .slice (some (cutP b o (1 + L) 1 C)) (n - (1 + L)) (C - (1 + L)), .bool true]) ∧ Fr w' W.heap.size s' (txtN L (fun j => f (1 + j))))
set_option maxRecDepth 100000 in
set_option maxHeartbeats 1000000 in
theorem taketext_ok (W : World) (b o n C : Nat) (f : Nat → Int) (h0 : 0 < n) (hl : Lies W b o n f) (hC : n ≤ C) (hn : n ≤ 100000) : Calls Tryz.prog 101 #[.slice (some ⟨b, o, none⟩) n C] W (TtP W b o n C f) := by
  obtain ⟨L, hL⟩ : ∃ L : Nat, (L : Int) = f 0 := ⟨(f 0).toNat, by have := (hl.2.1 0 h0).1; omega⟩
  have L255 : L < 256 := by have := (hl.2.1 0 h0).2; omega
  have c0 := hl.1 0 h0
  rw [Nat.add_zero, ← hL] at c0
  have HL := hidIt hL
  have i0 : (0 : Int) < (n : Int) := by omega
  have i1 : wrap64 (L : Int) = (L : Int) := by unfold wrap64; omega
  have i1' : IntKind.i64.wrap (L : Int) = (L : Int) := by rw [IntKind.wrap_i64]; omega
  have i2 : wrap64 (1 + (L : Int)) = 1 + (L : Int) := by unfold wrap64; omega
  have i3 : IntKind.i64.wrap (1 + (L : Int)) = 1 + (L : Int) := by rw [IntKind.wrap_i64]; omega
  by_cases hlt : n < 1 + L
  · have i4 : ((n : Int) < 1 + (L : Int)) = True := eq_true (by omega)
    have i9 : (1 + (L : Int) ≤ (n : Int)) = False := eq_false (by omega)
    have FIN : Hid (TtP W b o n C f (.returned (.tuple #[.slice none 0 0, .slice none 0 0, .bool false])) W) := hidIt ⟨L, hL, Below.refl _ _, by rw [if_pos hlt]⟩
    clear hl hL hlt h0 hC hn L255
    go_enter Tryz.func101, Tryz.ntmps101
    go_wp2_with fail
    exact bodyPost_ret (v := .tuple #[.slice none 0 0, .slice none 0 0, .bool false]) (by simp [results, Tryz.results101, go_sem]) rfl FIN.out
  · have i4 : ((n : Int) < 1 + (L : Int)) = False := eq_false (by omega)
    have i9 : (1 + (L : Int) ≤ (n : Int)) = True := eq_true (by omega)
    have s1 : ∀ w, (Instr.slice 23 (.slice (some ⟨b, o, none⟩) n C) (some (.int .i64 1)) (some (.int .i64 (1 + (L : Int)))) none).run Tryz.prog w = .ok (.slice (some (cutP b o 1 1 C)) L (C - 1)) w := fun w => by
      have := run_slice_two b o n C 1 (1 + L) (by omega) (by omega) w
      rwa [show 1 + L - 1 = L by omega, show ((1 + L : Nat) : Int) = 1 + (L : Int) by omega] at this
    have s2 : ∀ w, (Instr.slice 23 (.slice (some ⟨b, o, none⟩) n C) (some (.int .i64 (1 + (L : Int)))) none none).run Tryz.prog w = .ok (.slice (some (cutP b o (1 + L) 1 C)) (n - (1 + L)) (C - (1 + L))) w := fun w => by
      have := run_slice_low 23 5 1 Tryz.underlying23 (by obtain ⟨i0, hi, _, hz1, _⟩ := info_parts info_u8; simp [hi, hz1]) b o n C (1 + L) (by omega) w
      rwa [show ((1 + L : Nat) : Int) = 1 + (L : Int) by omega] at this
    have AA1 : ∀ U, Below W.heap.size W U → Txt U [] (.slice (some (cutP b o 1 1 C)) L (C - 1)) (txtN L (fun j => f (1 + j))) := fun U hU => by
      refine Txt.of ?_
      unfold cutP
      by_cases e : C = 1
      · rw [if_pos e]
        exact .inl ⟨by omega, .inr ⟨_, rfl⟩⟩
      · rw [if_neg e, Nat.mul_one]
        exact Arg.part (hl.below hU) 1 L (by omega)
    have TX := hidIt (AA1 W.drew (Below.refl _ _).drew)
    obtain ⟨s', W2, hr2, hF, hB⟩ := fresh_run TX.out (by rw [txtN_size]; omega) 23
    obtain ⟨ta, tn, tC, rfl⟩ := hF.sl
    have FIN : Hid (TtP W b o n C f (.returned (.tuple #[.slice ta tn tC, .slice (some (cutP b o (1 + L) 1 C)) (n - (1 + L)) (C - (1 + L)), .bool true])) W2) := hidIt ⟨L, hL, (Below.refl W.heap.size W).drew.trans hB, by rw [if_neg hlt]; exact ⟨_, rfl, hF⟩⟩
    clear hl hL hlt h0 hC hn L255 AA1 hF hB TX
    go_enter Tryz.func101, Tryz.ntmps101
    go_wp2_with fail
    refine wp_region_noPanic ?_
    refine wp_region_held_drew (S := fun _ => True) (by kernel_rfl) ?_ (fun hHeld => ?_)
    · trivial
    refine take_at (i := 0) (v := ?_) (some 15) rfl rfl (by kernel_rfl) (by kernel_rfl) (by kernel_rfl) (fun _ _ _ h => h) (Or.inl ⟨by rfl, ?_⟩) (by assumption) ?_
    rotate_left
    · (intro w hSw; (try dsimp only at hSw); go_simp; try with_reducible rfl)
    simp only [Act.put, List.setIfInBounds_toArray, List.set_cons_zero, List.set_cons_succ]
    refine take_at (i := 1) (v := ?_) (some 16) rfl rfl (by kernel_rfl) (by kernel_rfl) (by kernel_rfl) (fun _ _ _ h => h) (Or.inl ⟨by rfl, ?_⟩) (by assumption) ?_
    rotate_left
    · (intro w hSw; (try dsimp only at hSw); go_simp; try with_reducible rfl)
    simp only [Act.put, List.setIfInBounds_toArray, List.set_cons_zero, List.set_cons_succ]
    refine take_at (i := 2) (v := ?_) (some 17) rfl rfl (by kernel_rfl) (by kernel_rfl) (by kernel_rfl) (fun _ _ _ h => h) (Or.inl ⟨by rfl, ?_⟩) (by assumption) ?_
    rotate_left
    · (intro w hSw; (try dsimp only at hSw); go_simp; try with_reducible rfl)
    simp only [Act.put, List.setIfInBounds_toArray, List.set_cons_zero, List.set_cons_succ]
    refine take_at (i := 4) (v := ?_) (some 19) rfl rfl (by kernel_rfl) (by kernel_rfl) (by kernel_rfl) (fun _ _ _ h => h) (Or.inl ⟨by rfl, ?_⟩) (by assumption) ?_
    rotate_left
    · (intro w hSw; (try dsimp only at hSw); go_simp; try with_reducible rfl)
    simp only [Act.put, List.setIfInBounds_toArray, List.set_cons_zero, List.set_cons_succ]
    refine take_at (i := 5) (v := ?_) (some 20) rfl rfl (by kernel_rfl) (by kernel_rfl) (by kernel_rfl) (fun _ _ _ h => h) (Or.inl ⟨by rfl, ?_⟩) (by assumption) ?_
    rotate_left
    · (intro w hSw; (try dsimp only at hSw); go_simp; try with_reducible rfl)
    simp only [Act.put, List.setIfInBounds_toArray, List.set_cons_zero, List.set_cons_succ]
    refine take_at (i := 6) (v := ?_) (some 21) rfl rfl (by kernel_rfl) (by kernel_rfl) (by kernel_rfl) (fun _ _ _ h => h) (Or.inl ⟨by rfl, ?_⟩) (by assumption) ?_
    rotate_left
    · (intro w hSw; (try dsimp only at hSw); go_simp; try with_reducible rfl)
    simp only [Act.put, List.setIfInBounds_toArray, List.set_cons_zero, List.set_cons_succ]
    refine step_at (i := 3) (some 18) rfl rfl (by rfl) (by kernel_rfl) (.slice ta tn tC) W2 (xapp_run (.const (.slice none 0 0)) (.tmp 17) 23 23 rfl _ _ rfl rfl hr2) trivial (fun hHeld => ?_)
    simp only [Act.put, List.setIfInBounds_toArray, List.set_cons_zero, List.set_cons_succ]
    refine take_at (i := 7) (v := ?_) (some 2) rfl rfl (by kernel_rfl) (by kernel_rfl) (by kernel_rfl) (fun _ _ _ h => h) (Or.inl ⟨by rfl, ?_⟩) (by assumption) ?_
    rotate_left
    · (intro w hSw; (try dsimp only at hSw); go_simp; try with_reducible rfl)
    simp only [Act.put, List.setIfInBounds_toArray, List.set_cons_zero, List.set_cons_succ]
    refine take_at (i := 8) (v := ?_) (some 3) rfl rfl (by kernel_rfl) (by kernel_rfl) (by kernel_rfl) (fun _ _ _ h => h) (Or.inl ⟨by rfl, ?_⟩) (by assumption) ?_
    rotate_left
    · (intro w hSw; (try dsimp only at hSw); go_simp; try with_reducible rfl)
    simp only [Act.put, List.setIfInBounds_toArray, List.set_cons_zero, List.set_cons_succ]
    refine take_at (i := 9) (v := ?_) (some 4) rfl rfl (by kernel_rfl) (by kernel_rfl) (by kernel_rfl) (fun _ _ _ h => h) (Or.inl ⟨by rfl, ?_⟩) (by assumption) ?_
    rotate_left
    · (intro w hSw; (try dsimp only at hSw); go_simp; try with_reducible rfl)
    simp only [Act.put, List.setIfInBounds_toArray, List.set_cons_zero, List.set_cons_succ]
    refine wpAnyH_done (by kernel_rfl) ?_ _
    refine NoPanic.normal ?_
    clear hHeld
    go_wp2_with fail
    exact bodyPost_ret (v := .tuple #[.slice ta tn tC, .slice (some (cutP b o (1 + L) 1 C)) (n - (1 + L)) (C - (1 + L)), .bool true]) (by simp [results, Tryz.results101, go_sem]) rfl FIN.out
end Go.Proofs.YtblphlcnbnklmaaGreatDoor
namespace Go.Proofs.YtblphlcnbnklmaaGreatDoor
open Go.RowKit
attribute [-go_sem] Builtin.append_
theorem cut_in (b o l C : Nat) (h : l < C) : cutP b o l 1 C = ⟨b, o + l, none⟩ := by unfold cutP; rw [if_neg (by omega), Nat.mul_one]
theorem lies_on {W : World} {b o n l : Nat} {f : Nat → Int} (h : Lies W b o n f) (hl : l ≤ n) : Lies W b (o + l) (n - l) (fun j => f (l + j)) := h.part l (n - l) (by omega)
theorem TtP.no {W w' : World} {b o n C : Nat} {f : Nat → Int} {e : Ending} {L : Nat} (h : TtP W b o n C f e w') (hL : (L : Int) = f 0) (hn : n < 1 + L) : e = .returned (.tuple #[.slice none 0 0, .slice none 0 0, .bool false]) ∧ Below W.heap.size W w' := by
  obtain ⟨L', h1, h2, h3⟩ := h
  obtain rfl : L' = L := by omega
  rw [if_pos hn] at h3
  exact ⟨h3, h2⟩
theorem TtP.yes {W w' : World} {b o n C : Nat} {f : Nat → Int} {e : Ending} {L : Nat} (h : TtP W b o n C f e w') (hL : (L : Int) = f 0) (hn : ¬ n < 1 + L) : ∃ a m D, e = .returned (.tuple #[.slice a m D, .slice (some (cutP b o (1 + L) 1 C)) (n - (1 + L)) (C - (1 + L)), .bool true]) ∧ Fr w' W.heap.size (.slice a m D) (txtN L (fun j => f (1 + j))) ∧ Below W.heap.size W w' := by
  obtain ⟨L', h1, h2, h3⟩ := h
  obtain rfl : L' = L := by omega
  rw [if_neg hn] at h3
  obtain ⟨s', he, hF⟩ := h3
  obtain ⟨a, m, D, rfl⟩ := hF.sl
  exact ⟨a, m, D, he, hF, h2⟩
/-- What takeFirst answers. -/
def TfP (W : World) (b o n C L : Nat) (f : Nat → Int) (e : Ending) (w' : World) : Prop := Below W.heap.size W w' ∧ if n < 1 + L then e = .returned (.tuple #[.agg #[.slice none 0 0, .slice none 0 0, .bool false], .slice none 0 0, .bool false]) else ∃ a m D, e = .returned (.tuple #[.agg #[.slice a m D, .slice none 0 0, .bool false], .slice (some (cutP b o (1 + L) 1 C)) (n - (1 + L)) (C - (1 + L)), .bool true]) ∧ Fr w' W.heap.size (.slice a m D) (txtN L (fun j => f (1 + j)))
theorem fr_low {W W' : World} {base H : Nat} {s : Value} {t : ByteArray} (h : Fr W base s t) (hB : But H W W') (hb : base = H + 1) : Fr W' H s t := (h.off (Off.but (bs := [H]) hB (by simp)) (fun b hb' => by simp at hb'; omega)).low (by omega)
set_option maxRecDepth 100000 in
set_option maxHeartbeats 1000000 in
theorem takefirst_ok (W : World) (b o n C L : Nat) (f : Nat → Int) (h0 : 0 < n) (hl : Lies W b o n f) (hC : n ≤ C) (hn : n ≤ 100000) (hL : (L : Int) = f 0) : Calls Tryz.prog 140 #[.slice (some ⟨b, o, none⟩) n C] W (TfP W b o n C L f) := by
  have HL := hidIt hL
  have HI := hidIt (And.intro h0 (And.intro hC hn))
  have HB := hidIt hl
  clear hL h0 hC hn hl
  by_cases hlt : n < 1 + L
  · have HT := hidIt hlt
    clear hlt
    go_enter Tryz.func140, Tryz.ntmps140
    go_wp2_with (first
      | (refine wpList_alloc_rec rfl 78 rfl _ W.heap.size rfl pair_zero ?_; intro W1 R1 B1 z1; have E1 := hidIt (And.intro B1 z1); have P1 := hidIt R1; clear R1 B1 z1)
      | (go_at_call 101; refine (taketext_ok W1 b o n C f HI.out.1 (HB.out.below E1.out.1) HI.out.2.1 HI.out.2.2).mono ?_; intro e W2 hT; obtain ⟨rfl, b2⟩ := hT.no HL.out HT.out; have E2 := hidIt (E1.out.1.trans (b2.mono E1.out.1.size)); have P2 := hidIt (P1.out.below b2); clear hT b2)
      | (refine wpList_store_rec rfl 78 (.tmp 2) (.tmp 15) rfl W.heap.size 0 _ [.slice none 0 0, .slice none 0 0, .bool false] rfl rfl P2.out rfl pair_size (by intro u hu; simp only [List.mem_cons, List.not_mem_nil, or_false] at hu; rcases hu with rfl | rfl | rfl <;> rfl) ?_; intro W3 R3 B3; have E3 := hidIt (E2.out.trans (B3.below (Nat.le_refl _) E2.out.size)); have P3 := hidIt R3; clear R3 B3))
    have hl := P3.out.run_load 78 _ Tryz.underlying78 rfl pair_size
    exact bodyPost_ret (v := .tuple #[.agg #[.slice none 0 0, .slice none 0 0, .bool false], .slice none 0 0, .bool false]) (by simp [results, Tryz.results140, asAddr, hl]) rfl ⟨E3.out, by rw [if_pos HT.out]⟩
  · have HT := hidIt hlt
    clear hlt
    go_enter Tryz.func140, Tryz.ntmps140
    go_wp2_with (first
      | (refine wpList_alloc_rec rfl 78 rfl _ W.heap.size rfl pair_zero ?_; intro W1 R1 B1 z1; have E1 := hidIt (And.intro B1 z1); have P1 := hidIt R1; clear R1 B1 z1)
      | (go_at_call 101; refine (taketext_ok W1 b o n C f HI.out.1 (HB.out.below E1.out.1) HI.out.2.1 HI.out.2.2).mono ?_; intro e W2 hT; obtain ⟨ka, km, kD, rfl, hF, b2⟩ := hT.yes HL.out HT.out; have F2 := hidIt hF; have E2 := hidIt (E1.out.1.trans (b2.mono E1.out.1.size)); have P2 := hidIt (P1.out.below b2); clear hT b2 hF)
      | (refine wpList_store_rec rfl 78 (.tmp 2) (.tmp 15) rfl W.heap.size 0 _ [.slice ka km kD, .slice none 0 0, .bool false] rfl rfl P2.out rfl pair_size (by intro u hu; simp only [List.mem_cons, List.not_mem_nil, or_false] at hu; rcases hu with rfl | rfl | rfl <;> rfl) ?_; intro W3 R3 B3; have E3 := hidIt (E2.out.trans (B3.below (Nat.le_refl _) E2.out.size)); have F3 := hidIt (fr_low F2.out B3 E1.out.2); have P3 := hidIt R3; clear R3 B3))
    have hl := P3.out.run_load 78 _ Tryz.underlying78 rfl pair_size
    exact bodyPost_ret (v := .tuple #[.agg #[.slice ka km kD, .slice none 0 0, .bool false], .slice (some (cutP b o (1 + L) 1 C)) (n - (1 + L)) (C - (1 + L)), .bool true]) (by simp [results, Tryz.results140, asAddr, hl]) rfl ⟨E3.out, by rw [if_neg HT.out]; exact ⟨ka, km, kD, rfl, F3.out⟩⟩
set_option maxRecDepth 100000 in
set_option maxHeartbeats 1000000 in
/-- takePair: the key is not whole. -/
theorem takepair_no1 (W : World) (b o n C L : Nat) (f : Nat → Int) (h0 : 0 < n) (hl : Lies W b o n f) (hC : n ≤ C) (hn : n ≤ 100000) (hL : (L : Int) = f 0) (ht : n < 1 + L) : Calls Tryz.prog 54 #[.slice (some ⟨b, o, none⟩) n C] W fun e w' => e = .returned (.tuple #[.agg #[.slice none 0 0, .slice none 0 0, .bool false], .slice none 0 0, .bool false]) ∧ Below W.heap.size W w' := by
  have HL := hidIt hL
  have HI := hidIt (And.intro h0 (And.intro hC hn))
  have HB := hidIt hl
  have HT := hidIt ht
  clear hL h0 hC hn hl ht
  go_enter Tryz.func54, Tryz.ntmps54
  go_wp2_with (first
    | (refine wpList_alloc_rec rfl 78 rfl _ W.heap.size rfl pair_zero ?_; intro W1 R1 B1 z1; have E1 := hidIt (And.intro B1 z1); have P1 := hidIt R1; clear R1 B1 z1)
    | (go_at_call 101; refine (taketext_ok W1 b o n C f HI.out.1 (HB.out.below E1.out.1) HI.out.2.1 HI.out.2.2).mono ?_; intro e W2 hT; obtain ⟨rfl, b2⟩ := hT.no HL.out HT.out; have E2 := hidIt (E1.out.1.trans (b2.mono E1.out.1.size)); have P2 := hidIt (P1.out.below b2); clear hT b2)
    | (refine wpList_store_rec rfl 78 (.tmp 2) (.tmp 22) rfl W.heap.size 0 _ [.slice none 0 0, .slice none 0 0, .bool false] rfl rfl P2.out rfl pair_size (by intro u hu; simp only [List.mem_cons, List.not_mem_nil, or_false] at hu; rcases hu with rfl | rfl | rfl <;> rfl) ?_; intro W9 R9 B9; have E9 := hidIt (E2.out.trans (B9.below (Nat.le_refl _) E2.out.size)); have P9 := hidIt R9; clear R9 B9))
  have hl := P9.out.run_load 78 _ Tryz.underlying78 rfl pair_size
  exact bodyPost_ret (v := .tuple #[.agg #[.slice none 0 0, .slice none 0 0, .bool false], .slice none 0 0, .bool false]) (by simp [results, Tryz.results54, asAddr, hl]) rfl ⟨rfl, E9.out⟩
set_option maxRecDepth 100000 in
set_option maxHeartbeats 1000000 in
/-- takePair: there is nothing behind the key. -/
theorem takepair_no2 (W : World) (b o n C L : Nat) (f : Nat → Int) (h0 : 0 < n) (hl : Lies W b o n f) (hC : n ≤ C) (hn : n ≤ 100000) (hL : (L : Int) = f 0) (ht : n = 1 + L) : Calls Tryz.prog 54 #[.slice (some ⟨b, o, none⟩) n C] W fun e w' => e = .returned (.tuple #[.agg #[.slice none 0 0, .slice none 0 0, .bool false], .slice none 0 0, .bool false]) ∧ Below W.heap.size W w' := by
  have HL := hidIt hL
  have HI := hidIt (And.intro h0 (And.intro hC hn))
  have HB := hidIt hl
  have na : Hid True := trivial
  have HT := hidIt (show ¬ n < 1 + L by omega)
  have HZ := hidIt (show n - (1 + L) = 0 by omega)
  clear hL h0 hC hn hl ht
  go_enter Tryz.func54, Tryz.ntmps54
  go_wp2_with (first
    | (refine wpList_alloc_rec rfl 78 rfl _ W.heap.size rfl pair_zero ?_; intro W1 R1 B1 z1; have E1 := hidIt (And.intro B1 z1); have P1 := hidIt R1; clear R1 B1 z1)
    | (go_at_call 101; have _q := na; clear na _q; refine (taketext_ok W1 b o n C f HI.out.1 (HB.out.below E1.out.1) HI.out.2.1 HI.out.2.2).mono ?_; intro e W2 hT; obtain ⟨ka, km, kD, rfl, hF, b2⟩ := hT.yes HL.out HT.out; have F2 := hidIt hF; have E2 := hidIt (E1.out.1.trans (b2.mono E1.out.1.size)); have P2 := hidIt (P1.out.below b2); have z2 := hidIt b2; rw [HZ.out]; clear hT b2 hF)
    | (refine wpList_store_rec rfl 78 (.tmp 2) (.tmp 22) rfl W.heap.size 0 _ [.slice none 0 0, .slice none 0 0, .bool false] rfl rfl P2.out rfl pair_size (by intro u hu; simp only [List.mem_cons, List.not_mem_nil, or_false] at hu; rcases hu with rfl | rfl | rfl <;> rfl) ?_; intro W9 R9 B9; have E9 := hidIt (E2.out.trans (B9.below (Nat.le_refl _) E2.out.size)); have P9 := hidIt R9; clear R9 B9))
  have hl := P9.out.run_load 78 _ Tryz.underlying78 rfl pair_size
  exact bodyPost_ret (v := .tuple #[.agg #[.slice none 0 0, .slice none 0 0, .bool false], .slice none 0 0, .bool false]) (by simp [results, Tryz.results54, asAddr, hl]) rfl ⟨rfl, E9.out⟩
set_option maxRecDepth 100000 in
set_option maxHeartbeats 1000000 in
/-- takePair: one that is Gone. -/
theorem takepair_gone (W : World) (b o n C L M : Nat) (f : Nat → Int) (hl : Lies W b o n f) (hC : n ≤ C) (hn : n ≤ 100000) (hL : (L : Int) = f 0) (hr : 1 + L < n) (hM : (M : Int) = f (1 + L)) (hg : M = 255) : Calls Tryz.prog 54 #[.slice (some ⟨b, o, none⟩) n C] W fun e w' => ∃ a m D, e = .returned (.tuple #[.agg #[.slice a m D, .slice none 0 0, .bool true], .slice (some (cutP b (o + (1 + L)) 1 1 (C - (1 + L)))) (n - (1 + L) - 1) (C - (1 + L) - 1), .bool true]) ∧ Fr w' W.heap.size (.slice a m D) (txtN L (fun j => f (1 + j))) ∧ Below W.heap.size W w' := by
  subst hg
  have HL := hidIt hL
  have HI := hidIt (And.intro (show 0 < n by omega) (And.intro hC hn))
  have HB := hidIt hl
  have HT := hidIt (show ¬ n < 1 + L by omega)
  have HR := hidIt hr
  have HM := hidIt hM
  have HC := hidIt (cut_in b o (1 + L) C (by omega))
  have na : Hid True := trivial
  have i0 : (0 : Int) < ((n - (1 + L) : Nat) : Int) := by omega
  have i1 : (((n - (1 + L) : Nat) : Int) == 0) = false := by rw [beq_eq_false_iff_ne]; omega
  have i2 : (n - (1 + L) = 0) = False := eq_false (by omega)
  have s2 : ∀ w, (Instr.slice 23 (.slice (some ⟨b, o + (1 + L), none⟩) (n - (1 + L)) (C - (1 + L))) (some (.int .i64 1)) none none).run Tryz.prog w = .ok (.slice (some (cutP b (o + (1 + L)) 1 1 (C - (1 + L)))) (n - (1 + L) - 1) (C - (1 + L) - 1)) w := fun w => run_slice_low 23 5 1 Tryz.underlying23 (by obtain ⟨i0, hi, _, hz1, _⟩ := info_parts info_u8; simp [hi, hz1]) b (o + (1 + L)) (n - (1 + L)) (C - (1 + L)) 1 (by omega) w
  clear hL hC hn hl hr hM
  go_enter Tryz.func54, Tryz.ntmps54
  go_wp2_with (first
    | (refine wpList_alloc_rec rfl 78 rfl _ W.heap.size rfl pair_zero ?_; intro W1 R1 B1 z1; have E1 := hidIt (And.intro B1 z1); have P1 := hidIt R1; clear R1 B1 z1)
    | (go_at_call 101; have _q := na; clear na _q; refine (taketext_ok W1 b o n C f HI.out.1 (HB.out.below E1.out.1) HI.out.2.1 HI.out.2.2).mono ?_; intro e W2 hT; obtain ⟨ka, km, kD, rfl, hF, b2⟩ := hT.yes HL.out HT.out; rw [HC.out]; have F2 := hidIt hF; have E2 := hidIt (E1.out.1.trans (b2.mono E1.out.1.size)); have P2 := hidIt (P1.out.below b2); have z2 := hidIt b2; have c0 := ((HB.out.below E2.out).1 (1 + L) HR.out); rw [← HM.out] at c0; clear hT b2 hF))
  obtain ⟨W9, hr9, R9, B9⟩ := (show Rec19 W2.drew W.heap.size 0 _ from P2.out).run_store 78 [.slice ka km kD, .slice none 0 0, .bool true] rfl pair_size (by intro u hu; simp only [List.mem_cons, List.not_mem_nil, or_false] at hu; rcases hu with rfl | rfl | rfl <;> rfl)
  have E9 := hidIt (E2.out.drew.trans (B9.below (Nat.le_refl _) E2.out.size))
  have F9 := hidIt (fr_low (show Fr W2.drew W1.heap.size _ _ from F2.out) B9 E1.out.2)
  have P9 := hidIt R9
  clear R9 B9
  refine wp_region_noPanic ?_
  refine wp_region_held_drew (S := fun _ => True) (by kernel_rfl) ?_ (fun hHeld => ?_)
  · trivial
  refine take_at (i := 0) (v := ?_) (some 27) rfl rfl (by kernel_rfl) (by kernel_rfl) (by kernel_rfl) (fun _ _ _ h => h) (Or.inl ⟨by rfl, ?_⟩) (by assumption) ?_
  rotate_left
  · (intro w hSw; (try dsimp only at hSw); go_simp; try with_reducible rfl)
  simp only [Act.put, List.setIfInBounds_toArray, List.set_cons_zero, List.set_cons_succ]
  refine take_at (i := 2) (v := ?_) (some 29) rfl rfl (by kernel_rfl) (by kernel_rfl) (by kernel_rfl) (fun _ _ _ h => h) (Or.inl ⟨by rfl, ?_⟩) (by assumption) ?_
  rotate_left
  · (intro w hSw; (try dsimp only at hSw); go_simp; try with_reducible rfl)
  simp only [Act.put, List.setIfInBounds_toArray, List.set_cons_zero, List.set_cons_succ]
  refine take_at (i := 3) (v := ?_) (some 30) rfl rfl (by kernel_rfl) (by kernel_rfl) (by kernel_rfl) (fun _ _ _ h => h) (Or.inl ⟨by rfl, ?_⟩) (by assumption) ?_
  rotate_left
  · (intro w hSw; (try dsimp only at hSw); go_simp; try with_reducible rfl)
  simp only [Act.put, List.setIfInBounds_toArray, List.set_cons_zero, List.set_cons_succ]
  refine take_at (i := 1) (v := .agg #[.slice ka km kD, .slice none 0 0, .bool true]) (some 28) rfl rfl (by kernel_rfl) (by kernel_rfl) (by kernel_rfl) (fun _ _ _ h => h) (Or.inl ⟨by rfl, fun w hSw => bld_run 78 _ rfl _ (by kernel_rfl)⟩) (by assumption) ?_
  simp only [Act.put, List.setIfInBounds_toArray, List.set_cons_zero, List.set_cons_succ]
  refine mute_at (i := 4) none rfl rfl (by rfl) (by kernel_rfl) W9 (put_mute 78 (.tmp 2) (.tmp 28) rfl _ _ rfl rfl hr9) trivial (fun hHeld => ?_)
  simp only [Act.put]
  refine take_at (i := 5) (v := ?_) (some 3) rfl rfl (by kernel_rfl) (by kernel_rfl) (by kernel_rfl) (fun _ _ _ h => h) (Or.inl ⟨by rfl, ?_⟩) (by assumption) ?_
  rotate_left
  · (intro w hSw; (try dsimp only at hSw); go_simp; try with_reducible rfl)
  simp only [Act.put, List.setIfInBounds_toArray, List.set_cons_zero, List.set_cons_succ]
  refine take_at (i := 6) (v := ?_) (some 4) rfl rfl (by kernel_rfl) (by kernel_rfl) (by kernel_rfl) (fun _ _ _ h => h) (Or.inl ⟨by rfl, ?_⟩) (by assumption) ?_
  rotate_left
  · (intro w hSw; (try dsimp only at hSw); go_simp; try with_reducible rfl)
  simp only [Act.put, List.setIfInBounds_toArray, List.set_cons_zero, List.set_cons_succ]
  refine wpAnyH_done (by kernel_rfl) ?_ _
  refine NoPanic.normal ?_
  clear hHeld hr9
  go_wp2_with fail
  have hl := P9.out.run_load 78 _ Tryz.underlying78 rfl pair_size
  exact bodyPost_ret (v := .tuple #[.agg #[.slice ka km kD, .slice none 0 0, .bool true], .slice (some (cutP b (o + (1 + L)) 1 1 (C - (1 + L)))) (n - (1 + L) - 1) (C - (1 + L) - 1), .bool true]) (by simp [results, Tryz.results54, asAddr, hl]) rfl ⟨ka, km, kD, rfl, F9.out, E9.out⟩
end Go.Proofs.YtblphlcnbnklmaaGreatDoor
namespace Go.Proofs.YtblphlcnbnklmaaGreatDoor
open Go.RowKit
attribute [-go_sem] Builtin.append_
set_option maxRecDepth 100000 in
set_option maxHeartbeats 1000000 in
/-- takePair: the value is not whole. -/
theorem takepair_no3 (W : World) (b o n C L M : Nat) (f : Nat → Int) (hl : Lies W b o n f) (hC : n ≤ C) (hn : n ≤ 100000) (hL : (L : Int) = f 0) (hr : 1 + L < n) (hM : (M : Int) = f (1 + L)) (hg : M ≠ 255) (ht : n - (1 + L) < 1 + M) : Calls Tryz.prog 54 #[.slice (some ⟨b, o, none⟩) n C] W fun e w' => ∃ a m D, e = .returned (.tuple #[.agg #[.slice a m D, .slice none 0 0, .bool false], .slice none 0 0, .bool false]) ∧ Fr w' W.heap.size (.slice a m D) (txtN L (fun j => f (1 + j))) ∧ Below W.heap.size W w' := by
  have HL := hidIt hL
  have HI := hidIt (And.intro (show 0 < n by omega) (And.intro hC hn))
  have HB := hidIt hl
  have HT := hidIt (show ¬ n < 1 + L by omega)
  have HR := hidIt hr
  have HM := hidIt hM
  have HC := hidIt (cut_in b o (1 + L) C (by omega))
  have na : Hid True := trivial
  have i0 : (0 : Int) < ((n - (1 + L) : Nat) : Int) := by omega
  have i1 : (((n - (1 + L) : Nat) : Int) == 0) = false := by rw [beq_eq_false_iff_ne]; omega
  have i2 : (n - (1 + L) = 0) = False := eq_false (by omega)
  have i3 : ((M : Int) == 255) = false := by rw [beq_eq_false_iff_ne]; omega
  have i4 : (M = 255) = False := eq_false hg
  have HM2 : Hid ((M : Int) = (fun j => f (1 + L + j)) 0) := hidIt hM
  have H2 := hidIt ht
  clear hL hC hn hl hr hM hg ht
  go_enter Tryz.func54, Tryz.ntmps54
  go_wp2_with (first
    | (refine wpList_alloc_rec rfl 78 rfl _ W.heap.size rfl pair_zero ?_; intro W1 R1 B1 z1; have E1 := hidIt (And.intro B1 z1); have P1 := hidIt R1; clear R1 B1 z1)
    | (go_at_call 101; have _q := na; clear na _q; refine (taketext_ok W1 b o n C f HI.out.1 (HB.out.below E1.out.1) HI.out.2.1 HI.out.2.2).mono ?_; intro e W2 hT; obtain ⟨ka, km, kD, rfl, hF, b2⟩ := hT.yes HL.out HT.out; rw [HC.out]; have F2 := hidIt hF; have E2 := hidIt (E1.out.1.trans (b2.mono E1.out.1.size)); have P2 := hidIt (P1.out.below b2); have s12 := hidIt b2.size; have c0 := ((HB.out.below E2.out).1 (1 + L) HR.out); rw [← HM.out] at c0; clear hT b2 hF)
    | (go_at_call 101; refine (taketext_ok W2 b (o + (1 + L)) (n - (1 + L)) (C - (1 + L)) (fun j => f (1 + L + j)) (by have := HR.out; omega) (lies_on (HB.out.below E2.out) (by have := HR.out; omega)) (by have := HI.out.2.1; omega) (by have := HI.out.2.2; omega)).mono ?_; intro e W3 hT; obtain ⟨rfl, b3⟩ := hT.no HM2.out H2.out; have F3 := hidIt (F2.out.below b3); have E3 := hidIt (E2.out.trans (b3.mono E2.out.size)); have P3 := hidIt (P2.out.below b3);  clear hT b3 c0)
    | (refine wpList_store_rec rfl 78 (.tmp 2) (.tmp 39) rfl W.heap.size 0 _ [.slice ka km kD, .slice none 0 0, .bool false] rfl rfl P3.out rfl pair_size (by intro u hu; simp only [List.mem_cons, List.not_mem_nil, or_false] at hu; rcases hu with rfl | rfl | rfl <;> rfl) ?_; intro W9 R9 B9; have E9 := hidIt (E3.out.trans (B9.below (Nat.le_refl _) E3.out.size)); have P9 := hidIt R9; have F9 := hidIt (fr_low F3.out B9 E1.out.2); clear R9 B9))
  have hl := P9.out.run_load 78 _ Tryz.underlying78 rfl pair_size
  exact bodyPost_ret (v := .tuple #[.agg #[.slice ka km kD, .slice none 0 0, .bool false], .slice none 0 0, .bool false]) (by simp [results, Tryz.results54, asAddr, hl]) rfl ⟨ka, km, kD, rfl, F9.out, E9.out⟩
set_option maxRecDepth 100000 in
set_option maxHeartbeats 1000000 in
/-- takePair: a pair with a value. -/
theorem takepair_ok (W : World) (b o n C L M : Nat) (f : Nat → Int) (hl : Lies W b o n f) (hC : n ≤ C) (hn : n ≤ 100000) (hL : (L : Int) = f 0) (hr : 1 + L < n) (hM : (M : Int) = f (1 + L)) (hg : M ≠ 255) (ht : ¬ n - (1 + L) < 1 + M) : Calls Tryz.prog 54 #[.slice (some ⟨b, o, none⟩) n C] W fun e w' => ∃ a m D a' m' D', e = .returned (.tuple #[.agg #[.slice a m D, .slice a' m' D', .bool false], (.slice (some (cutP b (o + (1 + L)) (1 + M) 1 (C - (1 + L)))) (n - (1 + L) - (1 + M)) (C - (1 + L) - (1 + M))), .bool true]) ∧ Fr w' W.heap.size (.slice a m D) (txtN L (fun j => f (1 + j))) ∧ Fr w' W.heap.size (.slice a' m' D') (txtN M (fun j => f (1 + L + (1 + j)))) ∧ Below W.heap.size W w' := by
  have HL := hidIt hL
  have HI := hidIt (And.intro (show 0 < n by omega) (And.intro hC hn))
  have HB := hidIt hl
  have HT := hidIt (show ¬ n < 1 + L by omega)
  have HR := hidIt hr
  have HM := hidIt hM
  have HC := hidIt (cut_in b o (1 + L) C (by omega))
  have na : Hid True := trivial
  have i0 : (0 : Int) < ((n - (1 + L) : Nat) : Int) := by omega
  have i1 : (((n - (1 + L) : Nat) : Int) == 0) = false := by rw [beq_eq_false_iff_ne]; omega
  have i2 : (n - (1 + L) = 0) = False := eq_false (by omega)
  have i3 : ((M : Int) == 255) = false := by rw [beq_eq_false_iff_ne]; omega
  have i4 : (M = 255) = False := eq_false hg
  have HM2 : Hid ((M : Int) = (fun j => f (1 + L + j)) 0) := hidIt hM
  have H2 := hidIt ht
  clear hL hC hn hl hr hM hg ht
  go_enter Tryz.func54, Tryz.ntmps54
  go_wp2_with (first
    | (refine wpList_alloc_rec rfl 78 rfl _ W.heap.size rfl pair_zero ?_; intro W1 R1 B1 z1; have E1 := hidIt (And.intro B1 z1); have P1 := hidIt R1; clear R1 B1 z1)
    | (go_at_call 101; have _q := na; clear na _q; refine (taketext_ok W1 b o n C f HI.out.1 (HB.out.below E1.out.1) HI.out.2.1 HI.out.2.2).mono ?_; intro e W2 hT; obtain ⟨ka, km, kD, rfl, hF, b2⟩ := hT.yes HL.out HT.out; rw [HC.out]; have F2 := hidIt hF; have E2 := hidIt (E1.out.1.trans (b2.mono E1.out.1.size)); have P2 := hidIt (P1.out.below b2); have s12 := hidIt b2.size; have c0 := ((HB.out.below E2.out).1 (1 + L) HR.out); rw [← HM.out] at c0; clear hT b2 hF)
    | (go_at_call 101; refine (taketext_ok W2 b (o + (1 + L)) (n - (1 + L)) (C - (1 + L)) (fun j => f (1 + L + j)) (by have := HR.out; omega) (lies_on (HB.out.below E2.out) (by have := HR.out; omega)) (by have := HI.out.2.1; omega) (by have := HI.out.2.2; omega)).mono ?_; intro e W3 hT; obtain ⟨va, vm, vD, rfl, hG, b3⟩ := hT.yes HM2.out H2.out; have F3 := hidIt (F2.out.below b3); have E3 := hidIt (E2.out.trans (b3.mono E2.out.size)); have P3 := hidIt (P2.out.below b3); have G3 := hidIt (hG.low s12.out); clear hG; clear hT b3 c0)
    | (refine wpList_store_rec rfl 78 (.tmp 2) (.tmp 39) rfl W.heap.size 0 _ [.slice ka km kD, .slice va vm vD, .bool false] rfl rfl P3.out rfl pair_size (by intro u hu; simp only [List.mem_cons, List.not_mem_nil, or_false] at hu; rcases hu with rfl | rfl | rfl <;> rfl) ?_; intro W9 R9 B9; have E9 := hidIt (E3.out.trans (B9.below (Nat.le_refl _) E3.out.size)); have P9 := hidIt R9; have F9 := hidIt (fr_low F3.out B9 E1.out.2); have G9 := hidIt (fr_low G3.out B9 E1.out.2); clear R9 B9))
  have hl := P9.out.run_load 78 _ Tryz.underlying78 rfl pair_size
  exact bodyPost_ret (v := .tuple #[.agg #[.slice ka km kD, .slice va vm vD, .bool false], (.slice (some (cutP b (o + (1 + L)) (1 + M) 1 (C - (1 + L)))) (n - (1 + L) - (1 + M)) (C - (1 + L) - (1 + M))), .bool true]) (by simp [results, Tryz.results54, asAddr, hl]) rfl ⟨ka, km, kD, va, vm, vD, rfl, F9.out, G9.out, E9.out⟩
end Go.Proofs.YtblphlcnbnklmaaGreatDoor
namespace Go.Proofs.YtblphlcnbnklmaaGreatDoor
open Go.RowKit
/-- The pair at the front of n bytes, and how many bytes it has. -/
def tpR (f : Nat → Int) (n : Nat) : Option (Pr × Nat) :=
  if n ≤ 1 + (f 0).toNat then none
  else if f (1 + (f 0).toNat) = 255 then some (⟨txtN (f 0).toNat (fun j => f (1 + j)), .empty, true⟩, 2 + (f 0).toNat)
  else if n - (1 + (f 0).toNat) < 1 + (f (1 + (f 0).toNat)).toNat then none
  else some (⟨txtN (f 0).toNat (fun j => f (1 + j)), txtN (f (1 + (f 0).toNat)).toNat (fun j => f (1 + (f 0).toNat + (1 + j))), false⟩, 2 + (f 0).toNat + (f (1 + (f 0).toNat)).toNat)
/-- The first key at the front of n bytes, as a pair, and how many bytes it has. -/
def tfR (f : Nat → Int) (n : Nat) : Option (Pr × Nat) := if n < 1 + (f 0).toNat then none else some (⟨txtN (f 0).toNat (fun j => f (1 + j)), .empty, false⟩, 1 + (f 0).toNat)
theorem tpR_le {f : Nat → Int} {n c : Nat} {p : Pr} (h : tpR f n = some (p, c)) : 0 < c ∧ c ≤ n := by
  unfold tpR at h
  split at h
  · cases h
  · rename_i h1
    split at h
    · injection h with h
      injection h with _ h
      omega
    · split at h
      · cases h
      · rename_i h2
        injection h with h
        injection h with _ h
        omega
theorem tfR_le {f : Nat → Int} {n c : Nat} {p : Pr} (h : tfR f n = some (p, c)) : 0 < c ∧ c ≤ n := by
  unfold tfR at h
  split at h
  · cases h
  · injection h with h
    injection h with _ h
    omega
/-- All that n bytes are, one behind the other, if each is whole and may be. -/
def paR (t : (Nat → Int) → Nat → Option (Pr × Nat)) : Nat → (Nat → Int) → Nat → Option (List Pr)
  | 0, _, n => if n = 0 then some [] else none
  | k + 1, f, n => if n = 0 then some [] else match t f n with
    | none => none
    | some (p, c) => if may p then (paR t k (fun j => f (c + j)) (n - c)).map (p :: ·) else none
theorem paR_nil (t : (Nat → Int) → Nat → Option (Pr × Nat)) (k : Nat) (f : Nat → Int) : paR t k f 0 = some [] := by cases k <;> rfl
/-- As many rounds as there are bytes suffice. -/
theorem paR_more (t : (Nat → Int) → Nat → Option (Pr × Nat)) (ht : ∀ f n p c, t f n = some (p, c) → 0 < c ∧ c ≤ n) : ∀ (k : Nat) (f : Nat → Int) (n : Nat), n ≤ k → paR t (k + 1) f n = paR t k f n
  | 0, f, n, h => by
    obtain rfl : n = 0 := by omega
    rfl
  | k + 1, f, n, h => by
    by_cases h0 : n = 0
    · subst h0; rw [paR_nil, paR_nil]
    · unfold paR
      rw [if_neg h0, if_neg h0]
      cases e : t f n with
      | none => rfl
      | some x =>
        obtain ⟨p, c⟩ := x
        have q := ht f n p c e
        show (if may p then (paR t (k + 1) (fun j => f (c + j)) (n - c)).map (p :: ·) else none) = if may p then (paR t k (fun j => f (c + j)) (n - c)).map (p :: ·) else none
        rw [paR_more t ht k _ _ (by omega)]
end Go.Proofs.YtblphlcnbnklmaaGreatDoor
namespace Go.Proofs.YtblphlcnbnklmaaGreatDoor
open Go.RowKit
/-- What takes one from the front of bytes answers, t telling what stands there. -/
def TkP (t : (Nat → Int) → Nat → Option (Pr × Nat)) (W : World) (b o n C : Nat) (f : Nat → Int) (e : Ending) (w' : World) : Prop := Below W.heap.size W w' ∧ match t f n with
  | none => ∃ a m D, e = .returned (.tuple #[.agg #[.slice a m D, .slice none 0 0, .bool false], .slice none 0 0, .bool false])
  | some (p, c) => ∃ a m D a' m' D' ad, e = .returned (.tuple #[.agg #[.slice a m D, .slice a' m' D', .bool p.g], .slice (some ad) (n - c) (C - c), .bool true]) ∧ Fr w' W.heap.size (.slice a m D) p.k ∧ Fr w' W.heap.size (.slice a' m' D') p.v ∧ (c < n → ad = ⟨b, o + c, none⟩)
theorem fr_nil (W : World) (base : Nat) : Fr W base (.slice none 0 0) .empty := .inl ⟨rfl, rfl⟩
theorem cut_at (b o l C n : Nat) (hC : n ≤ C) : l < n → cutP b o l 1 C = ⟨b, o + l, none⟩ := fun h => cut_in b o l C (by omega)
theorem takefirst_u (W : World) (b o n C : Nat) (f : Nat → Int) (h0 : 0 < n) (hl : Lies W b o n f) (hC : n ≤ C) (hn : n ≤ 100000) : Calls Tryz.prog 140 #[.slice (some ⟨b, o, none⟩) n C] W (TkP tfR W b o n C f) := by
  have hp := (hl.2.1 0 h0).1
  obtain ⟨L, hL⟩ : ∃ L : Nat, (f 0).toNat = L := ⟨_, rfl⟩
  have hL' : (L : Int) = f 0 := by omega
  refine (takefirst_ok W b o n C L f h0 hl hC hn hL').mono ?_
  rintro e w' ⟨hB, hE⟩
  refine ⟨hB, ?_⟩
  unfold tfR
  rw [hL]
  by_cases h : n < 1 + L
  · rw [if_pos h] at hE ⊢
    exact ⟨none, 0, 0, hE⟩
  · rw [if_neg h] at hE ⊢
    obtain ⟨a, m, D, he, hF⟩ := hE
    exact ⟨a, m, D, none, 0, 0, _, he, hF, fr_nil _ _, cut_at b o (1 + L) C n hC⟩
theorem takepair_u (W : World) (b o n C : Nat) (f : Nat → Int) (h0 : 0 < n) (hl : Lies W b o n f) (hC : n ≤ C) (hn : n ≤ 100000) : Calls Tryz.prog 54 #[.slice (some ⟨b, o, none⟩) n C] W (TkP tpR W b o n C f) := by
  have hp := (hl.2.1 0 h0).1
  obtain ⟨L, hL⟩ : ∃ L : Nat, (f 0).toNat = L := ⟨_, rfl⟩
  have hL' : (L : Int) = f 0 := by omega
  by_cases h1 : n ≤ 1 + L
  · have key : Calls Tryz.prog 54 #[.slice (some ⟨b, o, none⟩) n C] W fun e w' => e = .returned (.tuple #[.agg #[.slice none 0 0, .slice none 0 0, .bool false], .slice none 0 0, .bool false]) ∧ Below W.heap.size W w' := by
      by_cases h2 : n < 1 + L
      · exact takepair_no1 W b o n C L f h0 hl hC hn hL' h2
      · exact takepair_no2 W b o n C L f h0 hl hC hn hL' (by omega)
    refine key.mono ?_
    rintro e w' ⟨he, hB⟩
    refine ⟨hB, ?_⟩
    unfold tpR
    rw [hL, if_pos h1]
    exact ⟨none, 0, 0, he⟩
  · have hq := (hl.2.1 (1 + L) (by omega)).1
    obtain ⟨M, hM⟩ : ∃ M : Nat, (f (1 + L)).toNat = M := ⟨_, rfl⟩
    have hM' : (M : Int) = f (1 + L) := by omega
    by_cases hg : M = 255
    · refine (takepair_gone W b o n C L M f hl hC hn hL' (by omega) hM' hg).mono ?_
      rintro e w' ⟨a, m, D, he, hF, hB⟩
      refine ⟨hB, ?_⟩
      unfold tpR
      rw [hL, if_neg h1, if_pos (by omega)]
      refine ⟨a, m, D, none, 0, 0, cutP b (o + (1 + L)) 1 1 (C - (1 + L)), ?_, hF, fr_nil _ _, fun hc => ?_⟩
      · rw [he, show n - (2 + L) = n - (1 + L) - 1 by omega, show C - (2 + L) = C - (1 + L) - 1 by omega]
      · rw [cut_in _ _ _ _ (by omega), show o + (1 + L) + 1 = o + (2 + L) by omega]
    · by_cases h3 : n - (1 + L) < 1 + M
      · refine (takepair_no3 W b o n C L M f hl hC hn hL' (by omega) hM' hg h3).mono ?_
        rintro e w' ⟨a, m, D, he, _, hB⟩
        refine ⟨hB, ?_⟩
        unfold tpR
        rw [hL, if_neg h1, if_neg (by omega), hM, if_pos h3]
        exact ⟨a, m, D, he⟩
      · refine (takepair_ok W b o n C L M f hl hC hn hL' (by omega) hM' hg h3).mono ?_
        rintro e w' ⟨a, m, D, a', m', D', he, hF, hG, hB⟩
        refine ⟨hB, ?_⟩
        unfold tpR
        rw [hL, if_neg h1, if_neg (by omega), hM, if_neg h3]
        refine ⟨a, m, D, a', m', D', cutP b (o + (1 + L)) (1 + M) 1 (C - (1 + L)), ?_, hF, hG, fun hc => ?_⟩
        · rw [he, show n - (2 + L + M) = n - (1 + L) - (1 + M) by omega, show C - (2 + L + M) = C - (1 + L) - (1 + M) by omega]
        · rw [cut_in _ _ _ _ (by omega), show o + (1 + L) + (1 + M) = o + (2 + L + M) by omega]
end Go.Proofs.YtblphlcnbnklmaaGreatDoor
namespace Go.Proofs.YtblphlcnbnklmaaGreatDoor
open Go.RowKit
attribute [-go_sem] Builtin.append_
theorem fr_offT {W W' : World} {base : Nat} {s : Value} {t : ByteArray} {N : List Nat} (h : Fr W base s t) (k : Txt W N s t) (hO : Off N W W') : Fr W' base s t := by
  rcases h with h | ⟨g, F, hs, hb, h0, h1, h2, hR, ht, hF⟩
  · exact .inl h
  · have hg : g ∉ N := by
      obtain ⟨a, C, f, hs', _, _, hn⟩ := k
      rw [hs] at hs'
      injection hs' with ha
      exact hn h0 _ ha.symm
    have e := hsz_eq (hO.block g hR.2.2 hg)
    exact .inr ⟨g, F, by rw [e]; exact hs, hb, h0, by rw [e]; exact h1, by rw [e]; exact h2, by rw [e]; exact hR.off hO hg, ht, by rw [e]; exact hF⟩
theorem far_of {W w' : World} {os : List PV} (h : ∀ x ∈ os, Fr w' W.heap.size x.k x.p.k ∧ Fr w' W.heap.size x.v x.p.v) : ∀ x ∈ os, ∀ N : List Nat, (∀ b, b ∈ N → b < W.heap.size) → PVOk w' N x := fun x hx _ hN => ⟨(h x hx).1.txt hN, (h x hx).2.txt hN⟩
/-- What holds at the head of takeAll's loop. -/
structure TaI (t : (Nat → Int) → Nat → Option (Pr × Nat)) (W : World) (b o n C : Nat) (f : Nat → Int) (i : Nat) (body : Value) (wr : World) (lv : Value) (os : List PV) : Prop where
  le : i ≤ n
  bd : ∃ ad, body = .slice (some ad) (n - i) (C - i) ∧ (i < n → ad = ⟨b, o + i, none⟩)
  own : OwnP wr 0 lv os
  new : ∀ g, lv.ownBlock = some g → W.heap.size ≤ g
  frs : ∀ x ∈ os, PVOk wr lv.ownBlock.toList x
  far : ∀ x ∈ os, Fr wr W.heap.size x.k x.p.k ∧ Fr wr W.heap.size x.v x.p.v
  few : os.length ≤ i
  par : ∀ k, n ≤ k → paR t k f n = (paR t k (fun j => f (i + j)) (n - i)).map (os.map PV.p ++ ·)
  below : Below W.heap.size W wr
theorem paR_step {t : (Nat → Int) → Nat → Option (Pr × Nat)} (ht : ∀ f n p c, t f n = some (p, c) → 0 < c ∧ c ≤ n) {k n c : Nat} {f : Nat → Int} {p : Pr} (hn : 0 < n) (hk : n ≤ k) (h : t f n = some (p, c)) (hm : may p) : paR t k f n = (paR t k (fun j => f (c + j)) (n - c)).map (p :: ·) := by
  cases k with
  | zero => omega
  | succ k =>
    have q := ht f n p c h
    have e : paR t (k + 1) f n = (paR t k (fun j => f (c + j)) (n - c)).map (p :: ·) := by
      show (if n = 0 then some [] else match t f n with
        | none => none
        | some (p, c) => if may p then (paR t k (fun j => f (c + j)) (n - c)).map (p :: ·) else none) = _
      rw [if_neg (by omega), h]
      exact if_pos hm
    rw [e, paR_more t ht k _ _ (by omega)]
theorem paR_bad {t : (Nat → Int) → Nat → Option (Pr × Nat)} {k n : Nat} {f : Nat → Int} (hn : 0 < n) (h : t f n = none ∨ ∃ p c, t f n = some (p, c) ∧ ¬ may p) : paR t k f n = none := by
  cases k with
  | zero => exact if_neg (by omega)
  | succ k =>
    show (if n = 0 then some [] else match t f n with
        | none => none
        | some (p, c) => if may p then (paR t k (fun j => f (c + j)) (n - c)).map (p :: ·) else none) = _
    rw [if_neg (by omega)]
    rcases h with h | ⟨p, c, h, hm⟩
    · rw [h]
    · rw [h]; exact if_neg hm
def lenSl : Value → Nat
  | .slice _ m _ => m
  | _ => 0
/-- What takeAll answers. -/
def TaP (t : (Nat → Int) → Nat → Option (Pr × Nat)) (W : World) (n : Nat) (f : Nat → Int) (e : Ending) (w' : World) : Prop := Below W.heap.size W w' ∧ match paR t n f n with
  | none => e = .returned (.tuple #[.slice none 0 0, .bool false])
  | some l => ∃ lv os, ∃ sb : Bool, e = .returned (.tuple #[lv, .bool sb]) ∧ OwnP w' 0 lv os ∧ (∀ g, lv.ownBlock = some g → W.heap.size ≤ g) ∧ (∀ x ∈ os, PVOk w' lv.ownBlock.toList x) ∧ os.map PV.p = l ∧ (sb = true ↔ Chn l) ∧ ∀ x ∈ os, Fr w' W.heap.size x.k x.p.k ∧ Fr w' W.heap.size x.v x.p.v
theorem TaI.none {t : (Nat → Int) → Nat → Option (Pr × Nat)} {W wr W' : World} {b o n C i : Nat} {f : Nat → Int} {body lv : Value} {os : List PV} (h : TaI t W b o n C f i body wr lv os) (hi : i < n) (hb : t (fun j => f (i + j)) (n - i) = Option.none ∨ ∃ p c, t (fun j => f (i + j)) (n - i) = some (p, c) ∧ ¬ may p) (hB : Below W.heap.size W W') : TaP t W n f (.returned (.tuple #[.slice Option.none 0 0, .bool false])) W' := by
  refine ⟨hB, ?_⟩
  rw [h.par n (Nat.le_refl _), paR_bad (by omega) hb]
  rfl
theorem TaI.next {t : (Nat → Int) → Nat → Option (Pr × Nat)} (ht : ∀ f n p c, t f n = some (p, c) → 0 < c ∧ c ≤ n) {W wr W5 W6 : World} {b o n C i c : Nat} {f : Nat → Int} {body lv v6 : Value} {os : List PV} {x : PV} {ad : Addr} (h : TaI t W b o n C f i body wr lv os) (hi : i < n) (hc : t (fun j => f (i + j)) (n - i) = some (x.p, c)) (hm : may x.p) (hB : Below wr.heap.size wr W5) (hx : PVOk W5 lv.ownBlock.toList x) (hx2 : Fr W5 W.heap.size x.k x.p.k ∧ Fr W5 W.heap.size x.v x.p.v) (hI : Insd W5 lv (os ++ [x]) v6 W6) (ha : c < n - i → ad = ⟨b, o + i + c, Option.none⟩) : TaI t W b o n C f (i + c) (.slice (some ad) (n - i - c) (C - i - c)) W6 v6 (os ++ [x]) := by
  have q := ht _ _ _ _ hc
  have s5 := Nat.le_trans h.below.size hB.size
  have n6 : ∀ b, b ∈ v6.ownBlock.toList → b ∈ lv.ownBlock.toList ∨ W5.heap.size ≤ b := fun b hb => by
    cases e : v6.ownBlock with
    | none => rw [e] at hb; cases hb
    | some g => rw [e] at hb; simp at hb; subst hb; rcases hI.blk _ e with q | q; exact .inl (by rw [q]; simp); exact .inr q
  refine ⟨by omega, ⟨ad, by rw [Nat.sub_sub, Nat.sub_sub], fun hh => by rw [ha (by omega), Nat.add_assoc]⟩, hI.own, fun g hg => ?_, fun z hz => ?_, fun z hz => ?_, by have := h.few; simp; omega, fun k hk => ?_, (h.below.trans (hB.mono h.below.size)).trans (hI.off.below (fun b hb => ?_) s5)⟩
  · rcases hI.blk g hg with z | z
    · exact h.new g z
    · exact Nat.le_trans s5 z
  · have a : PVOk W5 lv.ownBlock.toList z := by
      rcases List.mem_append.1 hz with hz | hz
      · exact (h.frs z hz).below hB
      · rcases List.mem_singleton.1 hz with rfl
        exact hx
    exact (a.mono n6).both a hI.off
  · have a : PVOk W5 lv.ownBlock.toList z := by
      rcases List.mem_append.1 hz with hz | hz
      · exact (h.frs z hz).below hB
      · rcases List.mem_singleton.1 hz with rfl
        exact hx
    have a2 : Fr W5 W.heap.size z.k z.p.k ∧ Fr W5 W.heap.size z.v z.p.v := by
      rcases List.mem_append.1 hz with hz | hz
      · exact ⟨(h.far z hz).1.below hB, (h.far z hz).2.below hB⟩
      · rcases List.mem_singleton.1 hz with rfl
        exact hx2
    exact ⟨fr_offT a2.1 a.1 hI.off, fr_offT a2.2 a.2 hI.off⟩
  · rw [h.par k hk, paR_step ht (by omega) (by omega) hc hm, Option.map_map, show n - (i + c) = n - i - c by omega]
    have e : (fun j => f (i + (c + j))) = fun j => f (i + c + j) := by funext j; rw [Nat.add_assoc]
    rw [e]
    congr 1
    funext l
    simp
  · cases e : lv.ownBlock with
    | none => rw [e] at hb; cases hb
    | some g => rw [e] at hb; simp at hb; subst hb; exact h.new _ e
end Go.Proofs.YtblphlcnbnklmaaGreatDoor
namespace Go.Proofs.YtblphlcnbnklmaaGreatDoor
open Go.RowKit
attribute [-go_sem] Builtin.append_
theorem own_lt {w : World} {lv : Value} {os : List PV} (h : OwnP w 0 lv os) : ∀ b, b ∈ lv.ownBlock.toList → b < w.heap.size := fun b hb => by
  cases e : lv.ownBlock with
  | none => rw [e] at hb; cases hb
  | some g => rw [e] at hb; simp at hb; subst hb; exact (World.ownsRow.lt h _ e).2
theorem two_frs {W2 W3 W4 : World} {base : Nat} {s s' : Value} {k v : ByteArray} (h : Fr W2 base s k) (h' : Fr W2 base s' v) (hB : Below W2.heap.size W2 W3) (hb : But W2.heap.size W3 W4) : Fr W4 base s k ∧ Fr W4 base s' v :=
  have q : Below W2.heap.size W2 W4 := hB.trans (hb.below (Nat.le_refl _) hB.size)
  ⟨h.below q, h'.below q⟩
set_option maxRecDepth 100000 in
set_option maxHeartbeats 4000000 in
theorem takeall_pair (W : World) (b o n C : Nat) (f : Nat → Int) (hl : Lies W b o n f) (hC : n ≤ C) (hn : n ≤ 100000) : Calls Tryz.prog 53 #[.slice (some ⟨b, o, none⟩) n C, .func (.func 54) #[] #[]] W (TaP tpR W n f) := by
  have HL := hidIt hl
  have HC := hidIt (And.intro hC hn)
  have st : Hid (TaI tpR W b o n C f 0 (.slice (some ⟨b, o, none⟩) n C) W (.slice none 0 0) []) := hidIt ⟨Nat.zero_le _, ⟨_, rfl, fun _ => rfl⟩, OwnP.nil _ _, fun g hg => (by cases hg), fun x hx => (by cases hx), fun x hx => (by cases hx), Nat.zero_le _, fun k _ => by simp, Below.refl _ _⟩
  clear hl hC hn
  go_enter Tryz.func53, Tryz.ntmps53
  go_wp2_with fail
  go_loopw [0, 6] (fun body lv wr => ∃ (i : Nat) (os : List PV), Hid (TaI tpR W b o n C f i body wr lv os)) (fun body _ _ => lenSl body)
  case atStart => exact ⟨0, _, st⟩
  case round =>
    clear st
    obtain ⟨i, os, hI⟩ := hrel
    obtain ⟨ad, hbd, had⟩ := hI.out.bd
    subst hbd
    by_cases hlt : i < n
    · have LT := hidIt hlt
      have had' := had hlt
      subst had'
      have i0 : (0 : Int) < ((n - i : Nat) : Int) := by omega
      have i1 : (0 < n - i) = True := eq_true (by omega)
      clear had hlt
      cases ht : tpR (fun j => f (i + j)) (n - i) with
      | none =>
        have HT := hidIt ht
        clear ht
        go_wp2_with (first
          | (go_at_call 54; refine (takepair_u wr b (o + i) (n - i) (C - i) (fun j => f (i + j)) (by have := LT.out; omega) (lies_on (HL.out.below hI.out.below) hI.out.le) (by have := HC.out.1; omega) (by have := HC.out.2; omega)).mono ?_; rintro e W2 ⟨b2, hM⟩; rw [HT.out] at hM; obtain ⟨ka, km, kD, rfl⟩ := hM; have B2 := hidIt b2; clear b2)
          | (refine wpList_alloc_rec rfl 78 rfl _ W2.heap.size rfl pair_zero ?_; intro W3 R3 B3 z3; have E3 := hidIt B3; have P3 := hidIt R3; clear R3 B3 z3)
          | (refine wpList_store_rec rfl 78 (.tmp 7) (.tmp 17) rfl W2.heap.size 0 _ [.slice ka km kD, .slice none 0 0, .bool false] rfl rfl P3.out rfl pair_size (by intro u hu; simp only [List.mem_cons, List.not_mem_nil, or_false] at hu; rcases hu with rfl | rfl | rfl <;> rfl) ?_; intro W4 R4 B4; have z24 := E3.out.trans (B4.below (Nat.le_refl _) E3.out.size); have Z4 := hidIt (B2.out.trans (z24.mono B2.out.size)); have E4 := hidIt (hI.out.below.trans (Z4.out.mono hI.out.below.size)); clear R4 B4 z24))
        exact bodyPost_ret (v := .tuple #[.slice none 0 0, .bool false]) (by simp [results, Tryz.results53, go_sem]) rfl (hI.out.none LT.out (.inl HT.out) E4.out)
      | some pc =>
        obtain ⟨p, c⟩ := pc
        have HT := hidIt ht
        clear ht
        by_cases hm : may p
        · have HM := hidIt hm
          have HE := hidIt (mayE_yes hm)
          clear hm
          go_wp2_with (first
            | (go_at_call 54; refine (takepair_u wr b (o + i) (n - i) (C - i) (fun j => f (i + j)) (by have := LT.out; omega) (lies_on (HL.out.below hI.out.below) hI.out.le) (by have := HC.out.1; omega) (by have := HC.out.2; omega)).mono ?_; rintro e W2 ⟨b2, hM⟩; rw [HT.out] at hM; obtain ⟨ka, km, kD, va, vm, vD, ax, rfl, hK, hV, hA⟩ := hM; have B2 := hidIt b2; have FK := hidIt (And.intro hK (And.intro hV hA)); clear hK hV hA; clear b2)
            | (refine wpList_alloc_rec rfl 78 rfl _ W2.heap.size rfl pair_zero ?_; intro W3 R3 B3 z3; have E3 := hidIt B3; have P3 := hidIt R3; clear R3 B3 z3)
            | (refine wpList_store_rec rfl 78 (.tmp 7) (.tmp 17) rfl W2.heap.size 0 _ [.slice ka km kD, .slice va vm vD, .bool p.g] rfl rfl P3.out rfl pair_size (by intro u hu; simp only [List.mem_cons, List.not_mem_nil, or_false] at hu; rcases hu with rfl | rfl | rfl <;> rfl) ?_; intro W4 R4 B4; have z24 := E3.out.trans (B4.below (Nat.le_refl _) E3.out.size); have Z4 := hidIt (B2.out.trans (z24.mono B2.out.size)); have E4 := hidIt (hI.out.below.trans (Z4.out.mono hI.out.below.size)); have F4 := hidIt (two_frs FK.out.1 FK.out.2.1 E3.out B4); have P4 := hidIt R4; have c0 := (R4.cel 0 _ rfl).1; have c1 := (R4.cel 1 _ rfl).1; have c2 := (R4.cel 2 _ rfl).1; clear R4 B4 z24)
            | (go_at_call 48; refine (mcheck_any (x := (PV.mk (.slice ka km kD) (.slice va vm vD) p)) (N := []) ⟨F4.out.1.txt (fun _ h => by cases h), F4.out.2.txt (fun _ h => by cases h)⟩).mono ?_; rintro e W5 ⟨rfl, hb⟩; rw [HE.out]; clear c0 c1 c2; have Z5 := hidIt (Z4.out.trans (hb.mono Z4.out.size)); have F5 := hidIt (And.intro (F4.out.1.below hb) (F4.out.2.below hb)); have P5 := hidIt (P4.out.below hb); have c0 := (P5.out.cel 0 _ rfl).1; have c1 := (P5.out.cel 1 _ rfl).1; have c2 := (P5.out.cel 2 _ rfl).1; clear hb; refine Held.out ?_))
          have PO : PVOk W5 u6.ownBlock.toList (PV.mk (.slice ka km kD) (.slice va vm vD) p) := ⟨F5.out.1.txt (own_lt hI.out.own), F5.out.2.txt (own_lt hI.out.own)⟩
          have A6 : Below W5.heap.size W5 (W5.alloc (.cells (PV.mk (.slice ka km kD) (.slice va vm vD) p).cs.toArray 78)) := (Below.refl _ _).alloc (Nat.le_refl _) _
          have L6 : Lone (W5.alloc (.cells (PV.mk (.slice ka km kD) (.slice va vm vD) p).cs.toArray 78)) W5.heap.size (PV.mk (.slice ka km kD) (.slice va vm vD) p) := ⟨heap_alloc_new W5 _, PO.one⟩
          have z6 := Z5.out.trans (A6.mono Z5.out.size)
          obtain ⟨v7, W7, hr7, I7⟩ := app_pairs 22 _ u6 os [(PV.mk (.slice ka km kD) (.slice va vm vD) p)] ⟨W5.heap.size, 0, none⟩ 1 (hI.out.own.below z6) (fun j u hj => by rw [pcs_single] at hj; rw [Addr.add_mid, Nat.zero_add]; exact L6.cell j u hj) (by rw [pcs_single]; exact L6.2) (by simp) (by have := hI.out.few; have := LT.out; have := HC.out.2; simp; omega)
          simp only [List.length_singleton, PV.cs] at hr7
          have NX := hidIt (TaI.next (x := (PV.mk (.slice ka km kD) (.slice va vm vD) p)) (ad := ax) (fun _ _ _ _ h => tpR_le h) hI.out LT.out HT.out HM.out z6 (PO.below A6) ⟨(F5.out.1.low hI.out.below.size).below A6, (F5.out.2.low hI.out.below.size).below A6⟩ I7 FK.out.2.2)
          have CP := hidIt (tpR_le HT.out)
          clear PO A6 L6 z6 I7
          refine Held.mk ?_
          go_wp2_with fail
          exact ⟨⟨i + c, _, NX⟩, by show n - i - c < n - i; have := CP.out; omega⟩
        · have HE := hidIt (mayE_not hm)
          have HM := hidIt hm
          clear hm
          go_wp2_with (first
            | (go_at_call 54; refine (takepair_u wr b (o + i) (n - i) (C - i) (fun j => f (i + j)) (by have := LT.out; omega) (lies_on (HL.out.below hI.out.below) hI.out.le) (by have := HC.out.1; omega) (by have := HC.out.2; omega)).mono ?_; rintro e W2 ⟨b2, hM⟩; rw [HT.out] at hM; obtain ⟨ka, km, kD, va, vm, vD, ax, rfl, hK, hV, hA⟩ := hM; have B2 := hidIt b2; have FK := hidIt (And.intro hK hV); clear hK hV hA; clear b2)
            | (refine wpList_alloc_rec rfl 78 rfl _ W2.heap.size rfl pair_zero ?_; intro W3 R3 B3 z3; have E3 := hidIt B3; have P3 := hidIt R3; clear R3 B3 z3)
            | (refine wpList_store_rec rfl 78 (.tmp 7) (.tmp 17) rfl W2.heap.size 0 _ [.slice ka km kD, .slice va vm vD, .bool p.g] rfl rfl P3.out rfl pair_size (by intro u hu; simp only [List.mem_cons, List.not_mem_nil, or_false] at hu; rcases hu with rfl | rfl | rfl <;> rfl) ?_; intro W4 R4 B4; have z24 := E3.out.trans (B4.below (Nat.le_refl _) E3.out.size); have Z4 := hidIt (B2.out.trans (z24.mono B2.out.size)); have E4 := hidIt (hI.out.below.trans (Z4.out.mono hI.out.below.size)); have F4 := hidIt (two_frs FK.out.1 FK.out.2 E3.out B4); have c0 := (R4.cel 0 _ rfl).1; have c1 := (R4.cel 1 _ rfl).1; have c2 := (R4.cel 2 _ rfl).1; clear R4 B4 z24)
            | (go_at_call 48; refine (mcheck_any (x := (PV.mk (.slice ka km kD) (.slice va vm vD) p)) (N := []) ⟨F4.out.1.txt (fun _ h => by cases h), F4.out.2.txt (fun _ h => by cases h)⟩).mono ?_; rintro e W5 ⟨rfl, hb⟩; rw [HE.out]; clear c0 c1 c2; have E5 := hidIt (E4.out.trans (hb.mono E4.out.size)); clear hb))
          exact bodyPost_ret (v := .tuple #[.slice none 0 0, .bool false]) (by simp [results, Tryz.results53, go_sem]) rfl (hI.out.none LT.out (.inr ⟨p, c, HT.out, HM.out⟩) E5.out)
    · have hz : n - i = 0 := by omega
      rw [hz]
      obtain ⟨la, lc, hlv, _⟩ := hI.out.own.slice
      subst hlv
      have PA : Hid (paR tpR n f n = some (os.map PV.p)) := hidIt (by rw [hI.out.par n (Nat.le_refl _), hz, paR_nil]; simp)
      have LS := hidIt (OwnP.lst hI.out.own (fun x hx => (hI.out.frs x hx).mono (fun b hb => by cases hb)))
      have FW := hidIt (show os.length ≤ 100000 by have := hI.out.few; have := hI.out.le; have := HC.out.2; omega)
      clear had hlt hz
      go_wp2_with (go_at_call 41; refine (tsorted_any os.length lc rfl LS.out FW.out).mono ?_; rintro e W2 ⟨sb, rfl, hs, hb⟩; have F2 : Hid (TaP tpR W n f (.returned (.tuple #[.slice la os.length lc, .bool sb])) W2) := hidIt ⟨hI.out.below.trans (hb.mono hI.out.below.size), by rw [PA.out]; exact ⟨_, os, sb, rfl, hI.out.own.below hb, hI.out.new, fun x hx => (hI.out.frs x hx).below hb, rfl, hs, fun x hx => ⟨(hI.out.far x hx).1.below hb, (hI.out.far x hx).2.below hb⟩⟩⟩; clear hs hb)
      exact bodyPost_ret (v := .tuple #[.slice la os.length lc, .bool sb]) (by simp [results, Tryz.results53, go_sem]) rfl F2.out
set_option maxRecDepth 100000 in
set_option maxHeartbeats 4000000 in
theorem takeall_first (W : World) (b o n C : Nat) (f : Nat → Int) (hl : Lies W b o n f) (hC : n ≤ C) (hn : n ≤ 100000) : Calls Tryz.prog 53 #[.slice (some ⟨b, o, none⟩) n C, .func (.func 140) #[] #[]] W (TaP tfR W n f) := by
  have HL := hidIt hl
  have HC := hidIt (And.intro hC hn)
  have st : Hid (TaI tfR W b o n C f 0 (.slice (some ⟨b, o, none⟩) n C) W (.slice none 0 0) []) := hidIt ⟨Nat.zero_le _, ⟨_, rfl, fun _ => rfl⟩, OwnP.nil _ _, fun g hg => (by cases hg), fun x hx => (by cases hx), fun x hx => (by cases hx), Nat.zero_le _, fun k _ => by simp, Below.refl _ _⟩
  clear hl hC hn
  go_enter Tryz.func53, Tryz.ntmps53
  go_wp2_with fail
  go_loopw [0, 6] (fun body lv wr => ∃ (i : Nat) (os : List PV), Hid (TaI tfR W b o n C f i body wr lv os)) (fun body _ _ => lenSl body)
  case atStart => exact ⟨0, _, st⟩
  case round =>
    clear st
    obtain ⟨i, os, hI⟩ := hrel
    obtain ⟨ad, hbd, had⟩ := hI.out.bd
    subst hbd
    by_cases hlt : i < n
    · have LT := hidIt hlt
      have had' := had hlt
      subst had'
      have i0 : (0 : Int) < ((n - i : Nat) : Int) := by omega
      have i1 : (0 < n - i) = True := eq_true (by omega)
      clear had hlt
      cases ht : tfR (fun j => f (i + j)) (n - i) with
      | none =>
        have HT := hidIt ht
        clear ht
        go_wp2_with (first
          | (go_at_call 140; refine (takefirst_u wr b (o + i) (n - i) (C - i) (fun j => f (i + j)) (by have := LT.out; omega) (lies_on (HL.out.below hI.out.below) hI.out.le) (by have := HC.out.1; omega) (by have := HC.out.2; omega)).mono ?_; rintro e W2 ⟨b2, hM⟩; rw [HT.out] at hM; obtain ⟨ka, km, kD, rfl⟩ := hM; have B2 := hidIt b2; clear b2)
          | (refine wpList_alloc_rec rfl 78 rfl _ W2.heap.size rfl pair_zero ?_; intro W3 R3 B3 z3; have E3 := hidIt B3; have P3 := hidIt R3; clear R3 B3 z3)
          | (refine wpList_store_rec rfl 78 (.tmp 7) (.tmp 17) rfl W2.heap.size 0 _ [.slice ka km kD, .slice none 0 0, .bool false] rfl rfl P3.out rfl pair_size (by intro u hu; simp only [List.mem_cons, List.not_mem_nil, or_false] at hu; rcases hu with rfl | rfl | rfl <;> rfl) ?_; intro W4 R4 B4; have z24 := E3.out.trans (B4.below (Nat.le_refl _) E3.out.size); have Z4 := hidIt (B2.out.trans (z24.mono B2.out.size)); have E4 := hidIt (hI.out.below.trans (Z4.out.mono hI.out.below.size)); clear R4 B4 z24))
        exact bodyPost_ret (v := .tuple #[.slice none 0 0, .bool false]) (by simp [results, Tryz.results53, go_sem]) rfl (hI.out.none LT.out (.inl HT.out) E4.out)
      | some pc =>
        obtain ⟨p, c⟩ := pc
        have HT := hidIt ht
        clear ht
        by_cases hm : may p
        · have HM := hidIt hm
          have HE := hidIt (mayE_yes hm)
          clear hm
          go_wp2_with (first
            | (go_at_call 140; refine (takefirst_u wr b (o + i) (n - i) (C - i) (fun j => f (i + j)) (by have := LT.out; omega) (lies_on (HL.out.below hI.out.below) hI.out.le) (by have := HC.out.1; omega) (by have := HC.out.2; omega)).mono ?_; rintro e W2 ⟨b2, hM⟩; rw [HT.out] at hM; obtain ⟨ka, km, kD, va, vm, vD, ax, rfl, hK, hV, hA⟩ := hM; have B2 := hidIt b2; have FK := hidIt (And.intro hK (And.intro hV hA)); clear hK hV hA; clear b2)
            | (refine wpList_alloc_rec rfl 78 rfl _ W2.heap.size rfl pair_zero ?_; intro W3 R3 B3 z3; have E3 := hidIt B3; have P3 := hidIt R3; clear R3 B3 z3)
            | (refine wpList_store_rec rfl 78 (.tmp 7) (.tmp 17) rfl W2.heap.size 0 _ [.slice ka km kD, .slice va vm vD, .bool p.g] rfl rfl P3.out rfl pair_size (by intro u hu; simp only [List.mem_cons, List.not_mem_nil, or_false] at hu; rcases hu with rfl | rfl | rfl <;> rfl) ?_; intro W4 R4 B4; have z24 := E3.out.trans (B4.below (Nat.le_refl _) E3.out.size); have Z4 := hidIt (B2.out.trans (z24.mono B2.out.size)); have E4 := hidIt (hI.out.below.trans (Z4.out.mono hI.out.below.size)); have F4 := hidIt (two_frs FK.out.1 FK.out.2.1 E3.out B4); have P4 := hidIt R4; have c0 := (R4.cel 0 _ rfl).1; have c1 := (R4.cel 1 _ rfl).1; have c2 := (R4.cel 2 _ rfl).1; clear R4 B4 z24)
            | (go_at_call 48; refine (mcheck_any (x := (PV.mk (.slice ka km kD) (.slice va vm vD) p)) (N := []) ⟨F4.out.1.txt (fun _ h => by cases h), F4.out.2.txt (fun _ h => by cases h)⟩).mono ?_; rintro e W5 ⟨rfl, hb⟩; rw [HE.out]; clear c0 c1 c2; have Z5 := hidIt (Z4.out.trans (hb.mono Z4.out.size)); have F5 := hidIt (And.intro (F4.out.1.below hb) (F4.out.2.below hb)); have P5 := hidIt (P4.out.below hb); have c0 := (P5.out.cel 0 _ rfl).1; have c1 := (P5.out.cel 1 _ rfl).1; have c2 := (P5.out.cel 2 _ rfl).1; clear hb; refine Held.out ?_))
          have PO : PVOk W5 u6.ownBlock.toList (PV.mk (.slice ka km kD) (.slice va vm vD) p) := ⟨F5.out.1.txt (own_lt hI.out.own), F5.out.2.txt (own_lt hI.out.own)⟩
          have A6 : Below W5.heap.size W5 (W5.alloc (.cells (PV.mk (.slice ka km kD) (.slice va vm vD) p).cs.toArray 78)) := (Below.refl _ _).alloc (Nat.le_refl _) _
          have L6 : Lone (W5.alloc (.cells (PV.mk (.slice ka km kD) (.slice va vm vD) p).cs.toArray 78)) W5.heap.size (PV.mk (.slice ka km kD) (.slice va vm vD) p) := ⟨heap_alloc_new W5 _, PO.one⟩
          have z6 := Z5.out.trans (A6.mono Z5.out.size)
          obtain ⟨v7, W7, hr7, I7⟩ := app_pairs 22 _ u6 os [(PV.mk (.slice ka km kD) (.slice va vm vD) p)] ⟨W5.heap.size, 0, none⟩ 1 (hI.out.own.below z6) (fun j u hj => by rw [pcs_single] at hj; rw [Addr.add_mid, Nat.zero_add]; exact L6.cell j u hj) (by rw [pcs_single]; exact L6.2) (by simp) (by have := hI.out.few; have := LT.out; have := HC.out.2; simp; omega)
          simp only [List.length_singleton, PV.cs] at hr7
          have NX := hidIt (TaI.next (x := (PV.mk (.slice ka km kD) (.slice va vm vD) p)) (ad := ax) (fun _ _ _ _ h => tfR_le h) hI.out LT.out HT.out HM.out z6 (PO.below A6) ⟨(F5.out.1.low hI.out.below.size).below A6, (F5.out.2.low hI.out.below.size).below A6⟩ I7 FK.out.2.2)
          have CP := hidIt (tfR_le HT.out)
          clear PO A6 L6 z6 I7
          refine Held.mk ?_
          go_wp2_with fail
          exact ⟨⟨i + c, _, NX⟩, by show n - i - c < n - i; have := CP.out; omega⟩
        · have HE := hidIt (mayE_not hm)
          have HM := hidIt hm
          clear hm
          go_wp2_with (first
            | (go_at_call 140; refine (takefirst_u wr b (o + i) (n - i) (C - i) (fun j => f (i + j)) (by have := LT.out; omega) (lies_on (HL.out.below hI.out.below) hI.out.le) (by have := HC.out.1; omega) (by have := HC.out.2; omega)).mono ?_; rintro e W2 ⟨b2, hM⟩; rw [HT.out] at hM; obtain ⟨ka, km, kD, va, vm, vD, ax, rfl, hK, hV, hA⟩ := hM; have B2 := hidIt b2; have FK := hidIt (And.intro hK hV); clear hK hV hA; clear b2)
            | (refine wpList_alloc_rec rfl 78 rfl _ W2.heap.size rfl pair_zero ?_; intro W3 R3 B3 z3; have E3 := hidIt B3; have P3 := hidIt R3; clear R3 B3 z3)
            | (refine wpList_store_rec rfl 78 (.tmp 7) (.tmp 17) rfl W2.heap.size 0 _ [.slice ka km kD, .slice va vm vD, .bool p.g] rfl rfl P3.out rfl pair_size (by intro u hu; simp only [List.mem_cons, List.not_mem_nil, or_false] at hu; rcases hu with rfl | rfl | rfl <;> rfl) ?_; intro W4 R4 B4; have z24 := E3.out.trans (B4.below (Nat.le_refl _) E3.out.size); have Z4 := hidIt (B2.out.trans (z24.mono B2.out.size)); have E4 := hidIt (hI.out.below.trans (Z4.out.mono hI.out.below.size)); have F4 := hidIt (two_frs FK.out.1 FK.out.2 E3.out B4); have c0 := (R4.cel 0 _ rfl).1; have c1 := (R4.cel 1 _ rfl).1; have c2 := (R4.cel 2 _ rfl).1; clear R4 B4 z24)
            | (go_at_call 48; refine (mcheck_any (x := (PV.mk (.slice ka km kD) (.slice va vm vD) p)) (N := []) ⟨F4.out.1.txt (fun _ h => by cases h), F4.out.2.txt (fun _ h => by cases h)⟩).mono ?_; rintro e W5 ⟨rfl, hb⟩; rw [HE.out]; clear c0 c1 c2; have E5 := hidIt (E4.out.trans (hb.mono E4.out.size)); clear hb))
          exact bodyPost_ret (v := .tuple #[.slice none 0 0, .bool false]) (by simp [results, Tryz.results53, go_sem]) rfl (hI.out.none LT.out (.inr ⟨p, c, HT.out, HM.out⟩) E5.out)
    · have hz : n - i = 0 := by omega
      rw [hz]
      obtain ⟨la, lc, hlv, _⟩ := hI.out.own.slice
      subst hlv
      have PA : Hid (paR tfR n f n = some (os.map PV.p)) := hidIt (by rw [hI.out.par n (Nat.le_refl _), hz, paR_nil]; simp)
      have LS := hidIt (OwnP.lst hI.out.own (fun x hx => (hI.out.frs x hx).mono (fun b hb => by cases hb)))
      have FW := hidIt (show os.length ≤ 100000 by have := hI.out.few; have := hI.out.le; have := HC.out.2; omega)
      clear had hlt hz
      go_wp2_with (go_at_call 41; refine (tsorted_any os.length lc rfl LS.out FW.out).mono ?_; rintro e W2 ⟨sb, rfl, hs, hb⟩; have F2 : Hid (TaP tfR W n f (.returned (.tuple #[.slice la os.length lc, .bool sb])) W2) := hidIt ⟨hI.out.below.trans (hb.mono hI.out.below.size), by rw [PA.out]; exact ⟨_, os, sb, rfl, hI.out.own.below hb, hI.out.new, fun x hx => (hI.out.frs x hx).below hb, rfl, hs, fun x hx => ⟨(hI.out.far x hx).1.below hb, (hI.out.far x hx).2.below hb⟩⟩⟩; clear hs hb)
      exact bodyPost_ret (v := .tuple #[.slice la os.length lc, .bool sb]) (by simp [results, Tryz.results53, go_sem]) rfl F2.out
end Go.Proofs.YtblphlcnbnklmaaGreatDoor
namespace Go.Proofs.YtblphlcnbnklmaaGreatDoor
open Go.RowKit
attribute [-go_sem] Builtin.append_
/-- Are bytes a data block's body, of just these pairs? -/
def Bod (f : Nat → Int) (n : Nat) (l : List Pr) : Prop := n ≤ 860 ∧ paR tpR n f n = some l ∧ Chn l ∧ l ≠ []
/-- What Unpack answers. -/
def UnP (W : World) (n : Nat) (f : Nat → Int) (e : Ending) (w' : World) : Prop := Below W.heap.size W w' ∧ ((∃ lv os, e = .returned (.tuple #[lv, .int .i64 0]) ∧ OwnP w' 0 lv os ∧ (∀ g, lv.ownBlock = some g → W.heap.size ≤ g) ∧ (∀ x ∈ os, PVOk w' lv.ownBlock.toList x) ∧ Bod f n (os.map PV.p) ∧ ∀ x ∈ os, Fr w' W.heap.size x.k x.p.k ∧ Fr w' W.heap.size x.v x.p.v) ∨ (e = .returned (.tuple #[.slice none 0 0, .int .i64 13]) ∧ ∀ l, ¬ Bod f n l))
set_option maxRecDepth 100000 in
set_option maxHeartbeats 1000000 in
theorem unpack_ok (W : World) (b o n C : Nat) (f : Nat → Int) (hl : Lies W b o n f) (hC : n ≤ C) (hn : n ≤ 100000) : Calls Tryz.prog 14 #[.slice (some ⟨b, o, none⟩) n C] W (UnP W n f) := by
  by_cases h1 : 860 < (n : Int)
  · have c1 : (860 < (n : Int)) = True := eq_true h1
    have FIN : Hid (UnP W n f (.returned (.tuple #[.slice none 0 0, .int .i64 13])) W) := hidIt ⟨Below.refl _ _, .inr ⟨rfl, fun l hB => by have := hB.1; omega⟩⟩
    clear h1 hl hC hn
    go_enter Tryz.func14, Tryz.ntmps14
    go_wp2_with fail
    exact bodyPost_ret (v := .tuple #[.slice none 0 0, .int .i64 13]) (by simp [results, Tryz.results14, go_sem]) rfl FIN.out
  · have c1 : (860 < (n : Int)) = False := eq_false h1
    have TA := hidIt (takeall_pair W b o n C f hl hC hn)
    have N8 := hidIt (show n ≤ 860 by omega)
    clear h1 hl hC hn
    cases hp : paR tpR n f n with
    | none =>
      have HP := hidIt hp
      clear hp
      go_enter Tryz.func14, Tryz.ntmps14
      go_wp2_with (go_at_call 53; refine TA.out.mono ?_; rintro e W2 ⟨hb, hM⟩; rw [HP.out] at hM; subst hM; have B2 := hidIt hb; clear hb)
      exact bodyPost_ret (v := .tuple #[.slice none 0 0, .int .i64 13]) (by simp [results, Tryz.results14, go_sem]) rfl ⟨B2.out, .inr ⟨rfl, fun l hB => by have := hB.2.1; rw [HP.out] at this; cases this⟩⟩
    | some l =>
      have HP := hidIt hp
      clear hp
      go_enter Tryz.func14, Tryz.ntmps14
      go_wp2_with (go_at_call 53; refine TA.out.mono ?_; rintro e W2 ⟨hb, hM⟩; rw [HP.out] at hM; obtain ⟨lv, os, sb, rfl, g1, g2, g3, g4, g5, g6⟩ := hM; obtain ⟨la, lc, hlv, _⟩ := g1.slice; subst hlv; have B2 := hidIt hb; have GG := hidIt (And.intro g1 (And.intro g2 (And.intro g3 (And.intro g4 g5)))); have G6 := hidIt g6; clear hb g1 g2 g3 g4 g5 g6; refine Held.out ?_)
      refine Held.mk ?_
      cases sb with
      | false =>
        go_wp2_with fail
        exact bodyPost_ret (v := .tuple #[.slice none 0 0, .int .i64 13]) (by simp [results, Tryz.results14, go_sem]) rfl ⟨B2.out, .inr ⟨rfl, fun l' hB => by have q := hB.2.1; rw [HP.out] at q; injection q with q; subst q; have := GG.out.2.2.2.2.2 hB.2.2.1; cases this⟩⟩
      | true =>
        by_cases h0 : os = []
        · have c2 : ((os.length : Int) == 0) = true := by rw [h0]; rfl
          have c3 : (os.length = 0) = True := eq_true (by rw [h0]; rfl)
          have H0 := hidIt h0
          clear h0
          go_wp2_with fail
          exact bodyPost_ret (v := .tuple #[.slice none 0 0, .int .i64 13]) (by simp [results, Tryz.results14, go_sem]) rfl ⟨B2.out, .inr ⟨rfl, fun l' hB => by have q := hB.2.1; rw [HP.out] at q; injection q with q; subst q; exact hB.2.2.2 (by rw [← GG.out.2.2.2.1, H0.out]; rfl)⟩⟩
        · have hlen : os.length ≠ 0 := fun q => h0 (List.eq_nil_of_length_eq_zero q)
          have c2 : ((os.length : Int) == 0) = false := by rw [beq_eq_false_iff_ne]; omega
          have c3 : (os.length = 0) = False := eq_false hlen
          have c4 : (os = []) = False := eq_false h0
          have H0 := hidIt h0
          clear h0 hlen
          go_wp2_with fail
          exact bodyPost_ret (v := .tuple #[.slice la os.length lc, .int .i64 0]) (by simp [results, Tryz.results14, go_sem]) rfl ⟨B2.out, .inl ⟨_, os, rfl, GG.out.1, GG.out.2.1, GG.out.2.2.1, ⟨N8.out, by rw [GG.out.2.2.2.1]; exact HP.out, by rw [GG.out.2.2.2.1]; exact GG.out.2.2.2.2.1 (by trivial), fun q => H0.out (List.map_eq_nil_iff.1 q)⟩, G6.out⟩⟩
end Go.Proofs.YtblphlcnbnklmaaGreatDoor
namespace Go.Proofs.YtblphlcnbnklmaaGreatDoor
open Go.RowKit
/-- A text's bytes as numbers. -/
def tx (t : ByteArray) : List Int := t.data.toList.map fun c => (c.toNat : Int)
theorem tx_len (t : ByteArray) : (tx t).length = t.size := by unfold tx; rw [List.length_map, Array.length_toList]; rfl
theorem tx_bytes (t : ByteArray) : ∀ x ∈ tx t, 0 ≤ x ∧ x < 256 := fun x hx => by
  obtain ⟨c, _, rfl⟩ := List.mem_map.1 hx
  exact ⟨by omega, by have := c.toNat_lt; omega⟩
/-- Numbers as a function. -/
def nF (L : List Int) (j : Nat) : Int := L.getD j 0
theorem nF_left (L R : List Int) (j : Nat) (h : j < L.length) : nF (L ++ R) j = nF L j := by
  unfold nF
  rw [List.getD_eq_getElem?_getD, List.getD_eq_getElem?_getD, List.getElem?_append_left h]
theorem nF_right (L R : List Int) (j : Nat) : nF (L ++ R) (L.length + j) = nF R j := by
  unfold nF
  rw [List.getD_eq_getElem?_getD, List.getD_eq_getElem?_getD, List.getElem?_append_right (by omega), Nat.add_sub_cancel_left]
theorem nF_succ (x : Int) (L : List Int) (j : Nat) : nF (x :: L) (1 + j) = nF L j := by
  rw [Nat.add_comm]; rfl
theorem nF_zero (x : Int) (L : List Int) : nF (x :: L) 0 = x := rfl
theorem nF_byte (L : List Int) (h : ∀ x ∈ L, 0 ≤ x ∧ x < 256) (j : Nat) (hj : j < L.length) : 0 ≤ nF L j ∧ nF L j < 256 := by
  unfold nF
  rw [List.getD_eq_getElem?_getD, List.getElem?_eq_getElem hj]
  exact h _ (List.getElem_mem hj)
theorem cat_nF (L R : List Int) (F G : Nat → Int) (hF : ∀ j, j < L.length → F j = nF L j) (hG : ∀ j, j < R.length → G j = nF R j) : ∀ j, j < L.length + R.length → cat F L.length G j = nF (L ++ R) j := fun j hj => by
  unfold cat
  by_cases h : j < L.length
  · rw [if_pos h, hF j h, nF_left L R j h]
  · rw [if_neg h, hG _ (by omega), ← nF_right L R, show L.length + (j - L.length) = j by omega]
theorem tx_fun (t : ByteArray) (f : Nat → Int) (h : ∀ j, j < t.size → 0 ≤ f j ∧ f j < 256) (ht : txtN t.size f = t) : ∀ j, j < t.size → f j = nF (tx t) j := fun j hj => by
  have e := txtN_at t.size f j hj
  rw [ht] at e
  unfold nF tx
  rw [List.getD_eq_getElem?_getD, List.getElem?_map, e]
  have := h j hj
  show f j = ((UInt8.ofNat (f j).toNat).toNat : Int)
  rw [UInt8.toNat_ofNat_of_lt' (by simp [UInt8.size]; omega)]
  omega
theorem txtN_tx (t : ByteArray) : txtN t.size (nF (tx t)) = t := by
  apply ByteArray.ext
  apply Array.toList_inj.1
  apply List.ext_getElem?
  intro j
  by_cases hj : j < t.size
  · rw [txtN_at _ _ j hj]
    have hj' : j < t.data.toList.length := by rw [Array.length_toList]; exact hj
    unfold nF tx
    rw [List.getD_eq_getElem?_getD, List.getElem?_map, List.getElem?_eq_getElem hj']
    simp
  · rw [List.getElem?_eq_none (by have : (txtN t.size (nF (tx t))).data.toList.length = t.size := (by rw [Array.length_toList]; exact txtN_size _ _); omega), List.getElem?_eq_none (by rw [Array.length_toList]; exact Nat.not_lt.1 hj)]
/-- A pair's bytes. -/
def pbL (p : Pr) : List Int := (p.k.size : Int) :: (tx p.k ++ if p.g then [255] else (p.v.size : Int) :: tx p.v)
/-- A first key's bytes. -/
def pfL (k : ByteArray) : List Int := (k.size : Int) :: tx k
theorem pbL_len (p : Pr) : (pbL p).length = pbN p.k.size p.v.size p.g := by
  unfold pbL pbN
  cases p.g <;> simp [tx_len] <;> omega
theorem pfL_len (k : ByteArray) : (pfL k).length = 1 + k.size := by unfold pfL; simp [tx_len]; omega
theorem pb_small {p : Pr} (h : may p) : 2 < (pbL p).length ∧ (pbL p).length ≤ 162 := by
  obtain ⟨h1, h2, h3⟩ := h
  rw [pbL_len]
  unfold pbN
  cases e : p.g <;> rw [e] at h3 <;> simp at h3 ⊢ <;> omega
theorem pb_bytes {p : Pr} (h : may p) : ∀ x ∈ pbL p, 0 ≤ x ∧ x < 256 := by
  obtain ⟨h1, h2, h3⟩ := h
  intro x hx
  unfold pbL at hx
  rcases List.mem_cons.1 hx with rfl | hx
  · omega
  · rcases List.mem_append.1 hx with hx | hx
    · exact tx_bytes _ x hx
    · cases e : p.g <;> rw [e] at h3 hx <;> simp at h3 hx
      · rcases hx with rfl | hx
        · omega
        · exact tx_bytes _ x hx
      · omega
theorem lt_nF (t : ByteArray) (F f : Nat → Int) (L : List Int) (hF : ∀ j, j < L.length → F j = nF L j) (hf : ∀ j, j < t.size → f j = nF (tx t) j) (h : t.size < 256) : ∀ j, j < L.length + 1 + t.size → ltF F L.length t.size f j = nF (L ++ (t.size : Int) :: tx t) j := fun j hj => by
  have e : (L ++ [(t.size : Int)]).length = L.length + 1 := by simp
  have a := cat_nF L [(t.size : Int)] F (fun _ => (t.size : Int) % 256) hF (fun j hj => by
    obtain rfl : j = 0 := by simpa using hj
    show (t.size : Int) % 256 = (t.size : Int)
    omega)
  have b := cat_nF (L ++ [(t.size : Int)]) (tx t) (cat F L.length (fun _ => (t.size : Int) % 256)) f (fun j hj => a j (by rw [e] at hj; simpa using hj)) (fun j hj => hf j (by rwa [tx_len] at hj)) j (by rw [e, tx_len]; exact hj)
  rw [e] at b
  unfold ltF
  rw [b, List.append_assoc]
  rfl
theorem pb_eq (p : Pr) : pbL p = pfL p.k ++ if p.g then [255] else pfL p.v := rfl
/-- A pair's bytes, as pairBytes lays them. -/
theorem pb_nF (p : Pr) (hm : may p) (fk fv : Nat → Int) (hk : ∀ j, j < p.k.size → fk j = nF (tx p.k) j) (hv : ∀ j, j < p.v.size → fv j = nF (tx p.v) j) : ∀ j, j < pbN p.k.size p.v.size p.g → pbF p.k.size fk p.v.size fv p.g j = nF (pbL p) j := fun j hj => by
  obtain ⟨h1, h2, h3⟩ := hm
  have el : (pfL p.k).length = 0 + 1 + p.k.size := by rw [pfL_len]
  have a : ∀ j, j < (pfL p.k).length → ltF (fun _ => 0) 0 p.k.size fk j = nF (pfL p.k) j := fun j hj => lt_nF p.k (fun _ => 0) fk [] (fun j hj => by simp at hj) hk (by omega) j (by rw [el] at hj; exact hj)
  rw [pb_eq]
  unfold pbF
  unfold pbN at hj
  cases e : p.g with
  | true =>
    rw [e] at hj
    have := cat_nF (pfL p.k) [255] _ (fun _ => 255) a (fun j hj => by
      obtain rfl : j = 0 := by simpa using hj
      rfl) j (by rw [el]; simpa using hj)
    rw [el] at this
    simpa using this
  | false =>
    rw [e] at hj h3
    have := lt_nF p.v (ltF (fun _ => 0) 0 p.k.size fk) fv (pfL p.k) a hv (by simp at h3; omega) j (by rw [el]; simpa using hj)
    rw [el] at this
    simpa [pfL] using this
/-- What stands at the front of a pair's bytes. -/
theorem tp_pb (p : Pr) (hm : may p) (R : List Int) : tpR (nF (pbL p ++ R)) (pbL p ++ R).length = some (p, (pbL p).length) := by
  obtain ⟨h1, h2, h3⟩ := hm
  have e0 : pbL p ++ R = pfL p.k ++ ((if p.g then [255] else pfL p.v) ++ R) := by rw [pb_eq, List.append_assoc]
  have f0 : (nF (pbL p ++ R) 0).toNat = p.k.size := by show ((p.k.size : Int)).toNat = _; omega
  have fk : txtN p.k.size (fun j => nF (pbL p ++ R) (1 + j)) = p.k := by
    refine (txtN_congr _ _ (nF (tx p.k)) fun j hj => ?_).trans (txtN_tx _)
    show nF ((p.k.size : Int) :: ((tx p.k ++ _) ++ R)) (1 + j) = _
    rw [nF_succ, List.append_assoc, nF_left _ _ _ (by rw [tx_len]; exact hj)]
  have fr : ∀ j, nF (pbL p ++ R) (1 + p.k.size + j) = nF ((if p.g then [255] else pfL p.v) ++ R) j := fun j => by
    rw [e0, ← pfL_len, nF_right]
  have len : (pbL p ++ R).length = pbN p.k.size p.v.size p.g + R.length := by rw [List.length_append, pbL_len]
  have f1 := fr 0
  rw [Nat.add_zero] at f1
  have pl := pbL_len p
  unfold pbN at len pl
  obtain ⟨k, v, g⟩ := p
  simp only at *
  unfold tpR
  rw [f0, fk, f1]
  cases g with
  | true =>
    simp only [if_true] at *
    have hv : v = .empty := by
      have hz : v.size = 0 := by omega
      apply ByteArray.ext
      apply Array.toList_inj.1
      rw [empty_size v hz]
      rfl
    rw [if_neg (by omega), if_pos (show nF ([255] ++ R) 0 = 255 from rfl), hv]
    congr 2
    rw [← hv]; omega
  | false =>
    simp only [Bool.false_eq_true, if_false] at *
    have f2 : nF (pfL v ++ R) 0 = (v.size : Int) := rfl
    have fv : txtN v.size (fun j => nF (pbL ⟨k, v, false⟩ ++ R) (1 + k.size + (1 + j))) = v := by
      refine (txtN_congr _ _ (nF (tx v)) fun j hj => ?_).trans (txtN_tx _)
      rw [fr]
      show nF ((v.size : Int) :: (tx v ++ R)) (1 + j) = _
      rw [nF_succ, nF_left _ _ _ (by rw [tx_len]; exact hj)]
    have f3 : ((v.size : Int)).toNat = v.size := by omega
    rw [f2, f3, fv, if_neg (by omega), if_neg (by omega), if_neg (by omega)]
    congr 2
    omega
/-- What stands at the front of a first key's bytes. -/
theorem tf_pf (k : ByteArray) (R : List Int) : tfR (nF (pfL k ++ R)) (pfL k ++ R).length = some (⟨k, .empty, false⟩, (pfL k).length) := by
  have f0 : (nF (pfL k ++ R) 0).toNat = k.size := by show ((k.size : Int)).toNat = _; omega
  have fk : txtN k.size (fun j => nF (pfL k ++ R) (1 + j)) = k := by
    refine (txtN_congr _ _ (nF (tx k)) fun j hj => ?_).trans (txtN_tx _)
    show nF ((k.size : Int) :: (tx k ++ R)) (1 + j) = _
    rw [nF_succ, nF_left _ _ _ (by rw [tx_len]; exact hj)]
  unfold tfR
  rw [f0, fk, if_neg (by rw [List.length_append, pfL_len]; omega), pfL_len]
/-- The bytes of pairs, one behind the other. -/
def bodL (l : List Pr) : List Int := l.flatMap pbL
/-- The bytes of first keys. -/
def idxL (l : List ByteArray) : List Int := l.flatMap pfL
theorem bodL_app (l r : List Pr) : bodL (l ++ r) = bodL l ++ bodL r := by simp [bodL]
theorem bodL_one (p : Pr) : bodL [p] = pbL p := by simp [bodL]
theorem idxL_app (l r : List ByteArray) : idxL (l ++ r) = idxL l ++ idxL r := by simp [idxL]
theorem idxL_one (k : ByteArray) : idxL [k] = pfL k := by simp [idxL]
theorem bod_bytes {l : List Pr} (h : ∀ p ∈ l, may p) : ∀ x ∈ bodL l, 0 ≤ x ∧ x < 256 := fun x hx => by
  obtain ⟨p, hp, hx⟩ := List.mem_flatMap.1 hx
  exact pb_bytes (h p hp) x hx
theorem pf_bytes {k : ByteArray} (h : k.size < 256) : ∀ x ∈ pfL k, 0 ≤ x ∧ x < 256 := fun x hx => by
  rcases List.mem_cons.1 hx with rfl | hx
  · omega
  · exact tx_bytes _ x hx
theorem idx_bytes {l : List ByteArray} (h : ∀ k ∈ l, k.size < 256) : ∀ x ∈ idxL l, 0 ≤ x ∧ x < 256 := fun x hx => by
  obtain ⟨p, hp, hx⟩ := List.mem_flatMap.1 hx
  exact pf_bytes (h p hp) x hx
theorem nF_tail (L R : List Int) : (fun j => nF (L ++ R) (L.length + j)) = nF R := by funext j; exact nF_right L R j
/-- The bytes of pairs that may be are these pairs. -/
theorem par_bod : ∀ (l : List Pr), (∀ p ∈ l, may p) → ∀ k, (bodL l).length ≤ k → paR tpR k (nF (bodL l)) (bodL l).length = some l
  | [], _, k, _ => paR_nil _ _ _
  | p :: r, h, k, hk => by
    have hm := h p (List.mem_cons_self ..)
    have e : bodL (p :: r) = pbL p ++ bodL r := rfl
    have pl := pb_small hm
    rw [e] at hk ⊢
    rw [paR_step (t := tpR) (f := nF (pbL p ++ bodL r)) (fun _ _ _ _ h => tpR_le h) (by rw [List.length_append]; omega) hk (tp_pb p hm _) hm, nF_tail, List.length_append, Nat.add_sub_cancel_left, par_bod r (fun q hq => h q (List.mem_cons_of_mem _ hq)) k (by rw [List.length_append] at hk; omega)]
    rfl
/-- A first key as a pair. -/
def kP (k : ByteArray) : Pr := ⟨k, .empty, false⟩
theorem kP_may {k : ByteArray} (h : 0 < k.size ∧ k.size ≤ 32) : may (kP k) := by
  refine ⟨?_, ?_, ?_⟩
  · exact h.1
  · exact h.2
  · show (ByteArray.empty).size ≤ _
    simp
theorem par_idx : ∀ (l : List ByteArray), (∀ k ∈ l, 0 < k.size ∧ k.size ≤ 32) → ∀ n, (idxL l).length ≤ n → paR tfR n (nF (idxL l)) (idxL l).length = some (l.map kP)
  | [], _, k, _ => paR_nil _ _ _
  | p :: r, h, k, hk => by
    have hm := h p (List.mem_cons_self ..)
    have e : idxL (p :: r) = pfL p ++ idxL r := rfl
    have pl := pfL_len p
    rw [e] at hk ⊢
    rw [paR_step (t := tfR) (f := nF (pfL p ++ idxL r)) (fun _ _ _ _ h => tfR_le h) (by rw [List.length_append]; omega) hk (tf_pf p _) (kP_may hm), nF_tail, List.length_append, Nat.add_sub_cancel_left, par_idx r (fun q hq => h q (List.mem_cons_of_mem _ hq)) k (by rw [List.length_append] at hk; omega)]
    rfl
/-- The bodies that pairs are packed into, c being the last one. -/
def packG : List Pr → List Pr → List (List Pr)
  | c, [] => [c]
  | c, p :: r => if 860 < (bodL c).length + (pbL p).length then c :: packG [p] r else packG (c ++ [p]) r
theorem pack_flat : ∀ (l c : List Pr), (packG c l).flatten = c ++ l
  | [], c => by simp [packG]
  | p :: r, c => by
    unfold packG
    split
    · rw [List.flatten_cons, pack_flat r]; rfl
    · rw [pack_flat r, List.append_assoc]; rfl
theorem pack_ne : ∀ (l c : List Pr), packG c l ≠ []
  | [], c => by simp [packG]
  | p :: r, c => by
    unfold packG
    split
    · simp
    · exact pack_ne r _
/-- Each body has as many bytes as it may have, and at least one pair. -/
theorem pack_ok : ∀ (l c : List Pr), (∀ p ∈ l, may p) → (bodL c).length ≤ 860 → c ≠ [] ∨ (bodL c = [] ∧ l ≠ []) → ∀ b ∈ packG c l, (bodL b).length ≤ 860 ∧ b ≠ []
  | [], c, _, h2, h3, b, hb => by
    simp [packG] at hb
    subst hb
    exact ⟨h2, by rcases h3 with h | h; exact h; exact absurd rfl h.2⟩
  | p :: r, c, h1, h2, h3, b, hb => by
    have pl := pb_small (h1 p (List.mem_cons_self ..))
    unfold packG at hb
    split at hb
    · rename_i hx
      rcases List.mem_cons.1 hb with rfl | hb
      · refine ⟨h2, ?_⟩
        rcases h3 with h | h
        · exact h
        · rw [h.1] at hx; simp at hx; omega
      · exact pack_ok r [p] (fun q hq => h1 q (List.mem_cons_of_mem _ hq)) (by rw [bodL_one]; omega) (.inl (by simp)) b hb
    · rename_i hx
      exact pack_ok r (c ++ [p]) (fun q hq => h1 q (List.mem_cons_of_mem _ hq)) (by rw [bodL_app, bodL_one, List.length_append]; omega) (.inl (by simp)) b hb
end Go.Proofs.YtblphlcnbnklmaaGreatDoor
namespace Go.Proofs.YtblphlcnbnklmaaGreatDoor
open Go.RowKit
theorem info_bytes : (Tryz.prog.info? 23).map (fun i => (i.zero, i.size, i.bytes)) = some (some (.slice none 0 0), 1, 24) := by kernel_rfl
theorem under_bytess : Tryz.prog.underlying 27 = some (.slice 23) := by kernel_rfl
/-- What becomes of a slice of values of one cell: it is where it was, or lies in a new block. -/
structure InsV (e : TypeId) (W : World) (base : Nat) (v : Value) (ps' : List Value) (v' : Value) (W' : World) : Prop where
  own : W'.ownsRow base e 1 v' ps'.length ps'
  off : Off v.ownBlock.toList W W'
  blk : ∀ g, v'.ownBlock = some g → v.ownBlock = some g ∨ W.heap.size ≤ g
theorem InsV.below {e : TypeId} {W W' : World} {base : Nat} {v v' : Value} {ps' : List Value} (h : InsV e W base v ps' v' W') (hv : ∀ g, v.ownBlock = some g → base ≤ g) (hb : base ≤ W.heap.size) : Below base W W' :=
  h.off.below (fun b q => by
    cases e : v.ownBlock with
    | none => rw [e] at q; cases q
    | some g => rw [e] at q; simp at q; subst q; exact hv _ e) hb
theorem app_vs (ty : TypeId) (W : World) (base : Nat) (v : Value) (ps qs : List Value) (ad : Addr) (C m : Nat) (ho : W.ownsRow base 23 1 v ps.length ps) (hA : ∀ j u, qs[j]? = some u → W.cell? (ad.add j) = some u) (h1 : ∀ u ∈ qs, u.oneCell' = true) (hqm : qs.length = m) (hq : 0 < m) (hbase : base ≤ W.heap.size) (hm : ps.length + m ≤ 1000000) :
    ∃ v' W', (Builtin.append_ #[27, 27] ty #[v, .slice (some ad) m C]).run Tryz.prog W = .ok v' W' ∧ InsV 23 W base v (ps ++ qs) v' W' := by
  subst hqm
  obtain ⟨i0, hi, hz0, hz1, hz2⟩ := info_parts info_bytes
  have hl : qs.length = qs.length * i0.size := by rw [hz1, Nat.mul_one]
  have fin : ∀ C1, ps.length + qs.length ≤ C1 → C1 ≤ maxLen → InsV 23 W base v (ps ++ qs) (.slice (some ⟨W.heap.size, 0, none⟩) (ps.length + qs.length) C1) (W.drew.alloc (.cells (ps.toArray ++ qs.toArray ++ Builtin.zeroCells (.slice none 0 0 : Value).cells (C1 - (ps.length + qs.length))) 23)) := by
    intro C1 h2 h3
    refine ⟨⟨by simp, .inr ⟨W.heap.size, C1, _, by simp, hbase, heap_alloc_new W.drew _, by simpa using h2, h3, ?_, ?_⟩⟩, Off.of ((Below.refl W.heap.size W).drew.alloc (Nat.le_refl _) _), fun g hg => .inr ?_⟩
    · simp only [Array.size_append, List.size_toArray, size_zeroCells]
      show ps.length + qs.length + (C1 - (ps.length + qs.length)) * 1 = _
      omega
    · simp only [Array.toList_append]
      rw [Nat.mul_one]
      exact List.take_left
    · injection hg with hg
      exact Nat.le_of_eq hg
  rcases ho.2 with ⟨rfl, h0⟩ | ⟨g, cap, cur, rfl, hbg, hg, hnc, hcm, hcs, htake⟩
  · obtain rfl : ps = [] := List.eq_nil_of_length_eq_zero h0
    have hr := run_append_nil (P := Tryz.prog) W 27 ty 23 i0 (.slice none 0 0) under_bytess hi hz0 ad qs.length C qs hl hA hq (by simp at hm; omega) (by rw [hz2]; simp at hm; omega)
    have f := fin (grownCap W qs.length 0 23) (by simp; exact grownCap_ge W qs.length 0 _) (grownCap_le_maxLen W qs.length 0 _ (by unfold maxLen; simp at hm; omega))
    simp only [List.length_nil, Nat.zero_add] at f
    refine ⟨_, _, hr, ?_⟩
    simpa using f
  · by_cases hroom : ps.length + qs.length ≤ cap
    · have hr := run_append_room (P := Tryz.prog) W 27 ty 23 i0 under_bytess hi g ps.length cap cur hg ad qs.length C qs hl hA h1 hroom (by rw [hcs, hz1]; omega)
      refine ⟨_, _, hr, ⟨⟨by simp, .inr ⟨g, cap, _, by simp, hbg, setRow_heap W g cur _ _ _ hg, by simpa using hroom, hcm, ?_, ?_⟩⟩, Off.but (setRow_but W g _) (by simp [Value.ownBlock]), fun g hg => .inl hg⟩⟩
      · simp only [List.size_toArray, List.length_append, List.length_take, List.length_drop, Array.length_toList, hz1]
        omega
      · simp only [hz1, Nat.mul_one] at htake ⊢
        rw [htake]
        exact List.take_left
    · have holds : ∀ j u, ps[j]? = some u → W.cell? ((⟨g, 0, none⟩ : Addr).add j) = some u := World.ownsRow.cells (g := g) ho rfl
      have hfit : Builtin.nextslicecap (ps.length + qs.length) cap * i0.bytes ≤ 281474976710656 := growslice_fits (by omega) (by rw [hz2]; omega)
      have hr := run_append_grow (P := Tryz.prog) W 27 ty 23 i0 (.slice none 0 0) under_bytess hi hz0 ⟨g, 0, none⟩ ps.length cap ps (by rw [hz1, Nat.mul_one]) holds ad qs.length C qs hl hA (by omega) (by omega) hfit
      exact ⟨_, _, hr, fin _ (grownCap_ge W _ cap _) (grownCap_le_maxLen W _ cap _ (by unfold maxLen; omega))⟩
/-- A number of one byte. -/
def IsU8 (u : Value) : Prop := ∃ x : Int, u = .int .u8 x
/-- The block that a slice of bytes lies in has numbers alone. -/
def RowU (W : World) (v : Value) : Prop := ∀ g, v.ownBlock = some g → ∃ n C cur, v = .slice (some ⟨g, 0, none⟩) n C ∧ n ≤ C ∧ C ≤ maxLen ∧ W.heap[g]? = some (.cells cur 5 (0, 0)) ∧ cur.size = C ∧ ∀ u ∈ cur.toList, IsU8 u
theorem RowU.off {W W' : World} {v : Value} {N : List Nat} (h : RowU W v) (hO : Off N W W') (hn : ∀ g, v.ownBlock = some g → g ∉ N) : RowU W' v := fun g hg => by
  obtain ⟨n, C, cur, h1, h2, h3, h4, h5⟩ := h g hg
  exact ⟨n, C, cur, h1, h2, h3, (hO.block g (Array.getElem?_eq_some_iff.1 h4).1 (hn g hg)).trans h4, h5⟩
theorem zero_u8 (n : Nat) : ∀ u ∈ (Builtin.zeroCells (.int .u8 0 : Value).cells n).toList, IsU8 u := fun u hu => by
  unfold Builtin.zeroCells at hu
  rw [Array.toList_map] at hu
  obtain ⟨i, _, rfl⟩ := List.mem_map.1 hu
  refine ⟨0, ?_⟩
  show (#[(.int .u8 0 : Value)])[i % 1]! = _
  rw [Nat.mod_one]
  rfl
theorem cl_u8 (n : Nat) (F : Nat → Int) : ∀ u ∈ cl .u8 n F, IsU8 u := fun u hu => by
  obtain ⟨j, _, rfl⟩ := List.mem_map.1 hu
  exact ⟨_, rfl⟩
theorem app_u8 (ty : TypeId) (W : World) (base : Nat) (v : Value) (ps qs : List Value) (ad : Addr) (C m : Nat) (ho : W.ownsRow base 5 1 v ps.length ps) (hA : ∀ j u, qs[j]? = some u → W.cell? (ad.add j) = some u) (h1 : ∀ u ∈ qs, u.oneCell' = true) (hqm : qs.length = m) (hq : 0 < m) (hbase : base ≤ W.heap.size) (hm : ps.length + m ≤ 1000000) (hp8 : ∀ u ∈ ps, IsU8 u) (hq8 : ∀ u ∈ qs, IsU8 u) :
    ∃ v' W', (Builtin.append_ #[23, 23] ty #[v, .slice (some ad) m C]).run Tryz.prog W = .ok v' W' ∧ InsV 5 W base v (ps ++ qs) v' W' ∧ (RowU W v → RowU W' v') := by
  subst hqm
  obtain ⟨i0, hi, hz0, hz1, hz2⟩ := info_parts info_u8
  have hl : qs.length = qs.length * i0.size := by rw [hz1, Nat.mul_one]
  have fin : ∀ C1, ps.length + qs.length ≤ C1 → C1 ≤ maxLen → InsV 5 W base v (ps ++ qs) (.slice (some ⟨W.heap.size, 0, none⟩) (ps.length + qs.length) C1) (W.drew.alloc (.cells (ps.toArray ++ qs.toArray ++ Builtin.zeroCells (.int .u8 0 : Value).cells (C1 - (ps.length + qs.length))) 5)) := by
    intro C1 h2 h3
    refine ⟨⟨by simp, .inr ⟨W.heap.size, C1, _, by simp, hbase, heap_alloc_new W.drew _, by simpa using h2, h3, ?_, ?_⟩⟩, Off.of ((Below.refl W.heap.size W).drew.alloc (Nat.le_refl _) _), fun g hg => .inr ?_⟩
    · simp only [Array.size_append, List.size_toArray, size_zeroCells]
      show ps.length + qs.length + (C1 - (ps.length + qs.length)) * 1 = _
      omega
    · simp only [Array.toList_append]
      rw [Nat.mul_one]
      exact List.take_left
    · injection hg with hg
      exact Nat.le_of_eq hg
  have finR : ∀ C1, ps.length + qs.length ≤ C1 → C1 ≤ maxLen → RowU (W.drew.alloc (.cells (ps.toArray ++ qs.toArray ++ Builtin.zeroCells (.int .u8 0 : Value).cells (C1 - (ps.length + qs.length))) 5)) (.slice (some ⟨W.heap.size, 0, none⟩) (ps.length + qs.length) C1) := by
    intro C1 h2 h3 g hg
    injection hg with hg
    subst hg
    refine ⟨_, C1, _, rfl, h2, h3, heap_alloc_new W.drew _, ?_, fun u hu => ?_⟩
    · simp only [Array.size_append, List.size_toArray, size_zeroCells]
      show ps.length + qs.length + (C1 - (ps.length + qs.length)) * 1 = _
      omega
    · simp only [Array.toList_append] at hu
      rcases List.mem_append.1 hu with hu | hu
      · rcases List.mem_append.1 hu with hu | hu
        · exact hp8 u hu
        · exact hq8 u hu
      · exact zero_u8 _ u hu
  rcases ho.2 with ⟨rfl, h0⟩ | ⟨g, cap, cur, rfl, hbg, hg, hnc, hcm, hcs, htake⟩
  · obtain rfl : ps = [] := List.eq_nil_of_length_eq_zero h0
    have hr := run_append_nil (P := Tryz.prog) W 23 ty 5 i0 (.int .u8 0) Tryz.underlying23 hi hz0 ad qs.length C qs hl hA hq (by simp at hm; omega) (by rw [hz2]; simp at hm; omega)
    have f := fin (grownCap W qs.length 0 5) (by simp; exact grownCap_ge W qs.length 0 _) (grownCap_le_maxLen W qs.length 0 _ (by unfold maxLen; simp at hm; omega))
    have fr := finR (grownCap W qs.length 0 5) (by simp; exact grownCap_ge W qs.length 0 _) (grownCap_le_maxLen W qs.length 0 _ (by unfold maxLen; simp at hm; omega))
    simp only [List.length_nil, Nat.zero_add] at f fr
    refine ⟨_, _, hr, ?_, fun _ => ?_⟩
    · simpa using f
    · simpa using fr
  · by_cases hroom : ps.length + qs.length ≤ cap
    · have hr := run_append_room (P := Tryz.prog) W 23 ty 5 i0 Tryz.underlying23 hi g ps.length cap cur hg ad qs.length C qs hl hA h1 hroom (by rw [hcs, hz1]; omega)
      refine ⟨_, _, hr, ⟨⟨by simp, .inr ⟨g, cap, _, by simp, hbg, setRow_heap W g cur _ _ _ hg, by simpa using hroom, hcm, ?_, ?_⟩⟩, Off.but (setRow_but W g _) (by simp [Value.ownBlock]), fun g hg => .inl hg⟩, fun hR g' hg' => ?_⟩
      · simp only [List.size_toArray, List.length_append, List.length_take, List.length_drop, Array.length_toList, hz1]
        omega
      · simp only [hz1, Nat.mul_one] at htake ⊢
        rw [htake]
        exact List.take_left
      · injection hg' with hg'
        subst hg'
        obtain ⟨n0, C0, cur0, e0, _, _, hcur, hsz, hall⟩ := hR g rfl
        injection e0 with _ _ e0
        subst e0
        rw [hg] at hcur
        injection hcur with hcur
        injection hcur with hcur
        subst hcur
        refine ⟨_, cap, _, rfl, hroom, hcm, setRow_heap W g cur _ _ _ hg, ?_, fun u hu => ?_⟩
        · simp only [List.size_toArray, List.length_append, List.length_take, List.length_drop, Array.length_toList, hz1]
          omega
        · rcases List.mem_append.1 hu with hu | hu
          · rcases List.mem_append.1 hu with hu | hu
            · exact hall u (List.mem_of_mem_take hu)
            · exact hq8 u hu
          · exact hall u (List.mem_of_mem_drop hu)
    · have holds : ∀ j u, ps[j]? = some u → W.cell? ((⟨g, 0, none⟩ : Addr).add j) = some u := World.ownsRow.cells (g := g) ho rfl
      have hfit : Builtin.nextslicecap (ps.length + qs.length) cap * i0.bytes ≤ 281474976710656 := growslice_fits (by omega) (by rw [hz2]; omega)
      have hr := run_append_grow (P := Tryz.prog) W 23 ty 5 i0 (.int .u8 0) Tryz.underlying23 hi hz0 ⟨g, 0, none⟩ ps.length cap ps (by rw [hz1, Nat.mul_one]) holds ad qs.length C qs hl hA (by omega) (by omega) hfit
      exact ⟨_, _, hr, fin _ (grownCap_ge W _ cap _) (grownCap_le_maxLen W _ cap _ (by unfold maxLen; omega)), fun _ => finR _ (grownCap_ge W _ cap _) (grownCap_le_maxLen W _ cap _ (by unfold maxLen; omega))⟩
/-- append of bytes onto bytes: only their own block is changed. -/
theorem app_nF (ty : TypeId) (W : World) (base C b off : Nat) (v : Value) (L R : List Int) (ho : Own W base v L.length (nF L)) (hA : Lies W b off R.length (nF R)) (h0 : 0 < R.length) (hbase : base ≤ W.heap.size) (hm : L.length + R.length ≤ 1000000) :
    ∃ v' W', (Builtin.append_ #[23, 23] ty #[v, .slice (some ⟨b, off, none⟩) R.length C]).run Tryz.prog W = .ok v' W' ∧ Own W' base v' (L ++ R).length (nF (L ++ R)) ∧ Off v.ownBlock.toList W W' ∧ (∀ g, v'.ownBlock = some g → v.ownBlock = some g ∨ W.heap.size ≤ g) ∧ (RowU W v → RowU W' v') := by
  have el : (cl .u8 L.length (nF L)).length = L.length := cl_len _ _ _
  obtain ⟨v', W', hr, hI, hRw⟩ := app_u8 ty W base v (cl .u8 L.length (nF L)) (cl .u8 R.length (nF R)) ⟨b, off, none⟩ C R.length (by rw [el]; exact ho) (fun j u hj => by obtain ⟨h, rfl⟩ := cl_at' hj; rw [Addr.add_mid]; exact hA.1 j h) (cl_one _ _ _) (cl_len _ _ _) h0 hbase (by rw [el]; exact hm) (cl_u8 _ _) (cl_u8 _ _)
  refine ⟨v', W', hr, ?_, hI.off, hI.blk, hRw⟩
  have := hI.own
  rw [List.length_append, el, cl_len, cl_cat, cl_congr .u8 (L.length + R.length) _ (nF (L ++ R)) (cat_nF L R _ _ (fun _ _ => rfl) (fun _ _ => rfl))] at this
  rw [List.length_append]
  exact this
end Go.Proofs.YtblphlcnbnklmaaGreatDoor
namespace Go.Proofs.YtblphlcnbnklmaaGreatDoor
open Go.RowKit
/-- A body as Go has it, and its bytes. -/
structure BV where
  v : Value
  L : List Int
/-- It lies in a block of its own, none of N. -/
def BVOk (W : World) (base : Nat) (N : List Nat) (x : BV) : Prop := ∃ b C, x.v = .slice (some ⟨b, 0, none⟩) x.L.length C ∧ x.L.length ≤ C ∧ Lies W b 0 x.L.length (nF x.L) ∧ base ≤ b ∧ b ∉ N
theorem BVOk.off {W W' : World} {base : Nat} {N M : List Nat} {x : BV} (h : BVOk W base N x) (hO : Off N W W') (hM : ∀ b, b ∈ M → b ∈ N ∨ W.heap.size ≤ b) : BVOk W' base M x := by
  obtain ⟨b, C, h1, h2, h3, h4, h5⟩ := h
  refine ⟨b, C, h1, h2, ⟨fun j hj => (hO.cell (p := ⟨b, 0 + j, none⟩) h3.2.2 h5).trans (h3.1 j hj), h3.2.1, Nat.lt_of_lt_of_le h3.2.2 hO.size⟩, h4, fun q => ?_⟩
  rcases hM b q with z | z
  · exact h5 z
  · have := h3.2.2; omega
theorem BVOk.one {W : World} {base : Nat} {N : List Nat} {x : BV} (h : BVOk W base N x) : x.v.oneCell' = true := by
  obtain ⟨b, C, h1, _⟩ := h
  rw [h1]
  rfl
/-- What the closure holds: the bodies that are full, and the last one. -/
structure PkS (W : World) (base fb lb : Nat) (fv lv : Value) (ds : List BV) (cur : List Int) : Prop where
  c1 : Rec19 W fb 0 [fv]
  c2 : Rec19 W lb 0 [lv]
  own : W.ownsRow base 23 1 fv (ds.map BV.v).length (ds.map BV.v)
  lst : Own W base lv cur.length (nF cur)
  bd : ∀ x ∈ ds, BVOk W base (fb :: lb :: (fv.ownBlock.toList ++ lv.ownBlock.toList)) x
  fne : ∀ g, fv.ownBlock = some g → g ≠ fb ∧ g ≠ lb ∧ lv.ownBlock ≠ some g
  lne : ∀ g, lv.ownBlock = some g → g ≠ fb ∧ g ≠ lb
  ne : fb ≠ lb
  lo : base ≤ fb ∧ base ≤ lb
  byt : ∀ x ∈ cur, 0 ≤ x ∧ x < 256
  few : ds.length ≤ 1000 ∧ cur.length ≤ 1000
  row : RowU W lv
  rows : ∀ x ∈ ds, RowU W x.v
  dif : ds.Pairwise (fun x y => x.v.ownBlock ≠ y.v.ownBlock)
theorem BVOk.own {W : World} {base : Nat} {N : List Nat} {x : BV} (h : BVOk W base N x) : ∀ g, x.v.ownBlock = some g → g ∉ N := fun g hg => by
  obtain ⟨b, C, h1, _, _, _, h5⟩ := h
  rw [h1] at hg
  injection hg with hg
  subst hg
  exact h5
theorem own_blk {W : World} {base n : Nat} {v : Value} {F : Nat → Int} (h : Own W base v n F) {g : Nat} (hg : v.ownBlock = some g) : base ≤ g ∧ g < W.heap.size := World.ownsRow.lt h g hg
theorem Own.offU {w u : World} {base n : Nat} {v : Value} {F : Nat → Int} {N : List Nat} (h : Own w base v n F) (hO : Off N w u) (hn : ∀ g, v.ownBlock = some g → g ∉ N) : Own u base v n F := by
  refine ⟨h.1, ?_⟩
  rcases h.2 with h0 | ⟨g, cap, cur, rfl, hb, hg, rest⟩
  · exact .inl h0
  · exact .inr ⟨g, cap, cur, rfl, hb, (hO.block g (Array.getElem?_eq_some_iff.1 hg).1 (hn g rfl)).trans hg, rest⟩
theorem row_off {w u : World} {base n sz : Nat} {e : TypeId} {v : Value} {ps : List Value} {N : List Nat} (h : w.ownsRow base e sz v n ps) (hO : Off N w u) (hn : ∀ g, v.ownBlock = some g → g ∉ N) : u.ownsRow base e sz v n ps := by
  refine ⟨h.1, ?_⟩
  rcases h.2 with h0 | ⟨g, cap, cur, rfl, hb, hg, rest⟩
  · exact .inl h0
  · exact .inr ⟨g, cap, cur, rfl, hb, (hO.block g (Array.getElem?_eq_some_iff.1 hg).1 (hn g rfl)).trans hg, rest⟩
/-- The blocks that may be changed. -/
def PkN (fb lb : Nat) (fv lv : Value) : List Nat := fb :: lb :: (fv.ownBlock.toList ++ lv.ownBlock.toList)
theorem mem_own {v : Value} {b : Nat} (h : b ∈ v.ownBlock.toList) : v.ownBlock = some b := by
  cases e : v.ownBlock with
  | none => rw [e] at h; cases h
  | some g => rw [e] at h; simp at h; subst h; rfl
theorem own_mem {v : Value} {b : Nat} (h : v.ownBlock = some b) : b ∈ v.ownBlock.toList := by rw [h]; simp
theorem PkS.lt {W : World} {base fb lb : Nat} {fv lv : Value} {ds : List BV} {cur : List Int} (h : PkS W base fb lb fv lv ds cur) : ∀ b, b ∈ PkN fb lb fv lv → base ≤ b ∧ b < W.heap.size := fun b hb => by
  rcases List.mem_cons.1 hb with rfl | hb
  · exact ⟨h.lo.1, h.c1.2.2⟩
  · rcases List.mem_cons.1 hb with rfl | hb
    · exact ⟨h.lo.2, h.c2.2.2⟩
    · rcases List.mem_append.1 hb with hb | hb
      · exact World.ownsRow.lt h.own b (mem_own hb)
      · exact own_blk h.lst (mem_own hb)
theorem PkS.off {W W' : World} {base fb lb : Nat} {fv lv : Value} {ds : List BV} {cur : List Int} {N : List Nat} (h : PkS W base fb lb fv lv ds cur) (hO : Off N W W') (hN : ∀ b, b ∈ N → b ∉ PkN fb lb fv lv) (hb : ∀ x ∈ ds, BVOk W base N x) : PkS W' base fb lb fv lv ds cur := by
  refine ⟨h.c1.off hO (fun q => hN _ q (by simp [PkN])), h.c2.off hO (fun q => hN _ q (by simp [PkN])), row_off h.own hO (fun g hg q => hN _ q (by simp [PkN, hg])), h.lst.offU hO (fun g hg q => hN _ q (by simp [PkN, hg])), fun x hx => ?_, h.fne, h.lne, h.ne, h.lo, h.byt, h.few, h.row.off hO (fun g hg q => hN _ q (by simp [PkN, hg])), fun x hx => (h.rows x hx).off hO (hb x hx).own, h.dif⟩
  obtain ⟨b, C, h1, h2, h3, h4, h5⟩ := h.bd x hx
  obtain ⟨b', C', h1', _, _, _, h5'⟩ := hb x hx
  rw [h1] at h1'
  injection h1' with q
  injection q with q
  injection q with q
  subst q
  exact ⟨b, C, h1, h2, ⟨fun j hj => (hO.cell (p := ⟨b, 0 + j, none⟩) h3.2.2 h5').trans (h3.1 j hj), h3.2.1, Nat.lt_of_lt_of_le h3.2.2 hO.size⟩, h4, h5⟩
theorem PkS.below {W W' : World} {base fb lb : Nat} {fv lv : Value} {ds : List BV} {cur : List Int} (h : PkS W base fb lb fv lv ds cur) (hB : Below W.heap.size W W') : PkS W' base fb lb fv lv ds cur :=
  h.off (Off.of (bs := []) hB) (fun _ q => by cases q) (fun x hx => by
    obtain ⟨b, C, h1, h2, h3, h4, _⟩ := h.bd x hx
    exact ⟨b, C, h1, h2, h3, h4, fun q => by cases q⟩)
/-- Bytes are put behind the last body. -/
theorem PkS.app {W : World} {base fb lb : Nat} {fv lv : Value} {ds : List BV} {cur R : List Int} (h : PkS W base fb lb fv lv ds cur) (ty : TypeId) (b C : Nat) (hA : Lies W b 0 R.length (nF R)) (h0 : 0 < R.length) (hm : cur.length + R.length ≤ 1000) (hR : ∀ x ∈ R, 0 ≤ x ∧ x < 256) :
    ∃ v' W1, (Builtin.append_ #[23, 23] ty #[lv, .slice (some ⟨b, 0, none⟩) R.length C]).run Tryz.prog W = .ok v' W1 ∧ PkS (W1.setCell ⟨lb, 0, none⟩ v') base fb lb fv v' ds (cur ++ R) ∧ Off (PkN fb lb fv lv) W (W1.setCell ⟨lb, 0, none⟩ v') ∧ Rec19 W1 lb 0 [lv] := by
  obtain ⟨v', W1, hr, hO, hoff, hblk, hrow⟩ := app_nF ty W base C b 0 lv cur R h.lst hA h0 (by have := h.lo.1; have := h.c1.2.2; omega) (by omega)
  have S : Off [lb] W1 (W1.setCell ⟨lb, 0, none⟩ v') := Off.set W1 0 v' (by simp)
  have O1 : Off (PkN fb lb fv lv) W W1 := hoff.mono (fun q hq => by simp [PkN, mem_own hq])
  have n1 : fb ∉ lv.ownBlock.toList := fun q => (h.lne _ (mem_own q)).1 rfl
  have n2 : lb ∉ lv.ownBlock.toList := fun q => (h.lne _ (mem_own q)).2 rfl
  have vn : ∀ g, v'.ownBlock = some g → g ≠ fb ∧ g ≠ lb ∧ fv.ownBlock ≠ some g := fun g hg => by
    rcases hblk g hg with q | q
    · exact ⟨(h.lne g q).1, (h.lne g q).2, fun z => (h.fne g z).2.2 q⟩
    · exact ⟨by have := h.c1.2.2; omega, by have := h.c2.2.2; omega, fun z => by have := (World.ownsRow.lt h.own g z).2; omega⟩
  refine ⟨v', W1, hr, ⟨(h.c1.off hoff n1).off S (by simp; exact h.ne), (h.c2.off hoff n2).put 0 v', row_off (row_off h.own hoff (fun g hg q => (h.fne g hg).2.2 (mem_own q))) S (fun g hg q => (h.fne g hg).2.1 (by simpa using q)), hO.offU S (fun g hg q => (vn g hg).2.1 (by simpa using q)), fun x hx => ?_, fun g hg => ⟨(h.fne g hg).1, (h.fne g hg).2.1, fun z => (vn g z).2.2 hg⟩, fun g hg => ⟨(vn g hg).1, (vn g hg).2.1⟩, h.ne, h.lo, fun x hx => ?_, ⟨h.few.1, by rw [List.length_append]; exact hm⟩, (hrow h.row).off S (fun g hg q => (vn g hg).2.1 (by simpa using q)), fun x hx => ((h.rows x hx).off hoff (fun g hg q => (h.bd x hx).own g hg (by simp [mem_own q]))).off S (fun g hg q => (h.bd x hx).own g hg (by simp at q; subst q; simp)), h.dif⟩, O1.trans (S.mono (fun q hq => by simp at hq; subst hq; simp [PkN])), h.c2.off hoff n2⟩
  · refine (h.bd x hx).off (O1.trans (S.mono (fun q hq => by simp at hq; subst hq; simp [PkN]))) (fun b hb => ?_)
    simp only [List.mem_cons, List.mem_append] at hb ⊢
    rcases hb with hb | hb | hb | hb
    · exact .inl (.inl hb)
    · exact .inl (.inr (.inl hb))
    · exact .inl (.inr (.inr (.inl hb)))
    · rcases hblk b (mem_own hb) with q | q
      · exact .inl (.inr (.inr (.inr (own_mem q))))
      · exact .inr q
  · rcases List.mem_append.1 hx with hx | hx
    · exact h.byt x hx
    · exact hR x hx
/-- The last body is full. -/
theorem PkS.full {W : World} {base fb lb : Nat} {fv lv : Value} {ds : List BV} {cur : List Int} (h : PkS W base fb lb fv lv ds cur) (ty : TypeId) (hc : cur ≠ []) (hd : ds.length < 1000) :
    ∃ v' W1, (Builtin.append_ #[27, 27] ty #[fv, .slice (some ⟨W.heap.size, 0, none⟩) 1 1]).run Tryz.prog (W.alloc (.cells #[lv] 23)) = .ok v' W1 ∧ PkS ((W1.setCell ⟨fb, 0, none⟩ v').setCell ⟨lb, 0, none⟩ (.slice none 0 0)) base fb lb v' (.slice none 0 0) (ds ++ [⟨lv, cur⟩]) [] ∧ Off (PkN fb lb fv lv) W ((W1.setCell ⟨fb, 0, none⟩ v').setCell ⟨lb, 0, none⟩ (.slice none 0 0)) ∧ Rec19 W1 fb 0 [fv] ∧ Rec19 (W1.setCell ⟨fb, 0, none⟩ v') lb 0 [lv] := by
  have n0 : 0 < cur.length := List.length_pos_iff.2 hc
  obtain ⟨lg, lc, hlv, hlb, hlc, hll⟩ := h.lst.form n0 (nF_byte cur h.byt)
  have hlo : lv.ownBlock = some lg := by rw [hlv]; rfl
  have A : Below W.heap.size W (W.alloc (.cells #[lv] 23)) := (Below.refl _ _).alloc (Nat.le_refl _) _
  have hA := h.below A
  have hcell : (W.alloc (.cells #[lv] 23)).cell? ⟨W.heap.size, 0, none⟩ = some lv := by rw [World.cell?_alloc_at (w := W) _ _ W.heap.size 0 rfl]; rfl
  obtain ⟨v', W1, hr, hI⟩ := app_vs ty (W.alloc (.cells #[lv] 23)) base fv (ds.map BV.v) [lv] ⟨W.heap.size, 0, none⟩ 1 1 hA.own (fun j u hj => by
    cases j with
    | zero => injection hj with hj; subst hj; rw [Addr.add_mid]; exact hcell
    | succ j => cases hj) (fun u hu => by rw [List.mem_singleton.1 hu, hlv]; rfl) rfl (by decide) (by have := hA.lo.1; have := hA.c1.2.2; omega) (by simp; omega)
  have hoff := hI.off
  have hblk : ∀ g, v'.ownBlock = some g → fv.ownBlock = some g ∨ W.heap.size ≤ g := fun g hg => by
    rcases hI.blk g hg with q | q
    · exact .inl q
    · exact .inr (Nat.le_trans A.size q)
  have S1 : Off [fb] W1 (W1.setCell ⟨fb, 0, none⟩ v') := Off.set W1 0 v' (by simp)
  have S2 : Off [lb] (W1.setCell ⟨fb, 0, none⟩ v') ((W1.setCell ⟨fb, 0, none⟩ v').setCell ⟨lb, 0, none⟩ (.slice none 0 0)) := Off.set _ 0 _ (by simp)
  have n1 : fb ∉ fv.ownBlock.toList := fun q => (h.fne _ (mem_own q)).1 rfl
  have n2 : lb ∉ fv.ownBlock.toList := fun q => (h.fne _ (mem_own q)).2.1 rfl
  have vn : ∀ g, v'.ownBlock = some g → g ≠ fb ∧ g ≠ lb ∧ lv.ownBlock ≠ some g := fun g hg => by
    rcases hblk g hg with q | q
    · exact ⟨(h.fne g q).1, (h.fne g q).2.1, (h.fne g q).2.2⟩
    · exact ⟨by have := h.c1.2.2; omega, by have := h.c2.2.2; omega, fun z => by have := (own_blk h.lst z).2; omega⟩
  have O1 : Off (PkN fb lb fv lv) W W1 := (Off.of A).trans (hoff.mono (fun q hq => by simp [PkN, mem_own hq]))
  have O3 : Off (PkN fb lb fv lv) W ((W1.setCell ⟨fb, 0, none⟩ v').setCell ⟨lb, 0, none⟩ (.slice none 0 0)) := (O1.trans (S1.mono (fun q hq => by simp at hq; subst hq; simp [PkN]))).trans (S2.mono (fun q hq => by simp at hq; subst hq; simp [PkN]))
  refine ⟨v', W1, hr, ⟨((hA.c1.off hoff n1).put 0 v').off S2 (by simp; exact h.ne), ((hA.c2.off hoff n2).off S1 (by simp; exact fun q => h.ne q.symm)).put 0 _, ?_, Own.nil _ _ _, fun x hx => ?_, fun g hg => ⟨(vn g hg).1, (vn g hg).2.1, fun z => (by cases z)⟩, fun g hg => (by cases hg), h.ne, h.lo, fun x hx => (by cases hx), by simp; omega, fun g hg => (by cases hg), fun x hx => ?_, List.pairwise_append.2 ⟨h.dif, List.pairwise_singleton _ _, fun x hx y hy => ?_⟩⟩, O3, hA.c1.off hoff n1, (hA.c2.off hoff n2).off S1 (by simp; exact fun q => h.ne q.symm)⟩
  · rw [List.map_append]
    exact row_off (row_off hI.own S1 (fun g hg q => (vn g hg).1 (by simpa using q))) S2 (fun g hg q => (vn g hg).2.1 (by simpa using q))
  · rcases List.mem_append.1 hx with hx | hx
    · refine (h.bd x hx).off O3 (fun b hb => ?_)
      simp only [List.mem_cons, List.mem_append] at hb ⊢
      rcases hb with hb | hb | hb | hb
      · exact .inl (.inl hb)
      · exact .inl (.inr (.inl hb))
      · rcases hblk b (mem_own hb) with q | q
        · exact .inl (.inr (.inr (.inl (own_mem q))))
        · exact .inr q
      · cases hb
    · rw [List.mem_singleton.1 hx]
      have m1 : lg ∉ fv.ownBlock.toList := fun q => (h.fne _ (mem_own q)).2.2 hlo
      have l1 : Lies W1 lg 0 cur.length (nF cur) := ⟨fun j hj => (hoff.cell (p := ⟨lg, 0 + j, none⟩) (Nat.lt_of_lt_of_le hll.2.2 A.size) m1).trans ((hll.below A).1 j hj), hll.2.1, Nat.lt_of_lt_of_le hll.2.2 (Nat.le_trans A.size hoff.size)⟩
      have l2 := (l1.but (But.set W1 0 v' : But fb W1 (W1.setCell ⟨fb, 0, none⟩ v')) (h.lne lg hlo).1).but (But.set (W1.setCell ⟨fb, 0, none⟩ v') 0 (.slice none 0 0) : But lb _ _) (h.lne lg hlo).2
      refine ⟨lg, lc, hlv, hlc, l2, hlb, fun q => ?_⟩
      simp only [List.mem_cons, List.mem_append] at q
      rcases q with q | q | q | q
      · exact (h.lne lg hlo).1 q
      · exact (h.lne lg hlo).2 q
      · exact (vn lg (mem_own q)).2.2 hlo
      · cases q
  · rcases List.mem_append.1 hx with hx | hx
    · exact (h.rows x hx).off O3 (h.bd x hx).own
    · rw [List.mem_singleton.1 hx]
      exact (((h.row.off (Off.of (bs := []) A) (fun _ _ q => by cases q)).off hoff (fun g hg q => (h.fne g (mem_own q)).2.2 hg)).off S1 (fun g hg q => (h.lne g hg).1 (by simpa using q))).off S2 (fun g hg q => (h.lne g hg).2 (by simpa using q))
  · rw [List.mem_singleton.1 hy]
    intro q
    exact (h.bd x hx).own lg (by rw [q]; exact hlo) (by simp [own_mem hlo])
end Go.Proofs.YtblphlcnbnklmaaGreatDoor
namespace Go.Proofs.YtblphlcnbnklmaaGreatDoor
open Go.RowKit
attribute [-go_sem] Builtin.append_
theorem own_slN {w : World} {base n : Nat} {v : Value} {F : Nat → Int} (h : Own w base v n F) : ∃ a C, v = .slice a n C := by
  rcases h.2 with ⟨rfl, h0⟩ | ⟨g, cap, cur, rfl, _⟩
  · exact ⟨none, 0, by rw [h0]⟩
  · exact ⟨_, _, rfl⟩
theorem row_slN {w : World} {base n : Nat} {e : TypeId} {v : Value} {ps : List Value} (h : w.ownsRow base e 1 v n ps) : ∃ a C, v = .slice a n C := by
  rcases h.2 with ⟨rfl, h0⟩ | ⟨g, cap, cur, rfl, _⟩
  · exact ⟨none, 0, by rw [h0]⟩
  · exact ⟨_, _, rfl⟩
theorem row_sl {w : World} {base n : Nat} {e : TypeId} {v : Value} {ps : List Value} (h : w.ownsRow base e 1 v n ps) : ∃ a m C, v = .slice a m C := by
  obtain ⟨a, C, h⟩ := row_slN h
  exact ⟨a, n, C, h⟩
/-- What the closure does. -/
def AdP (W : World) (base fb lb : Nat) (ds : List BV) (cur R : List Int) (e : Ending) (w' : World) : Prop := e = .returned (.tuple #[]) ∧ Below base W w' ∧ ∃ fv' lv' ds', PkS w' base fb lb fv' lv' ds' (if 860 < cur.length + R.length then R else cur ++ R) ∧ ds'.map BV.L = (if 860 < cur.length + R.length then ds.map BV.L ++ [cur] else ds.map BV.L) ∧ ds'.length ≤ ds.length + 1
theorem below_pk {W W' : World} {base fb lb : Nat} {fv lv : Value} {ds : List BV} {cur : List Int} (h : PkS W base fb lb fv lv ds cur) (hO : Off (PkN fb lb fv lv) W W') : Below base W W' := hO.below (fun b hb => (h.lt b hb).1) (Nat.le_trans h.lo.1 (Nat.le_of_lt h.c1.2.2))
set_option maxRecDepth 100000 in
set_option maxHeartbeats 1000000 in
theorem addf_ok (W : World) (base fb lb b C : Nat) (fv lv : Value) (ds : List BV) (cur R : List Int) (h : PkS W base fb lb fv lv ds cur) (hA : Lies W b 0 R.length (nF R)) (hb : b ∉ PkN fb lb fv lv) (h0 : 0 < R.length) (h1 : R.length ≤ 162) (h2 : cur.length ≤ 860) (h3 : ds.length ≤ 900) (hR : ∀ x ∈ R, 0 ≤ x ∧ x < 256) :
    Calls Tryz.prog 98 #[.slice (some ⟨b, 0, none⟩) R.length C, .pointer (some ⟨lb, 0, none⟩), .pointer (some ⟨fb, 0, none⟩)] W (AdP W base fb lb ds cur R) := by
  obtain ⟨la, lc, hlv⟩ := own_slN h.lst
  subst hlv
  have cl1 := (h.c2.cel 0 _ rfl).1
  have cl2 := (h.c2.cel 0 _ rfl).2
  have cf1 := (h.c1.cel 0 _ rfl).1
  have cf2 := (h.c1.cel 0 _ rfl).2
  have i1 : wrap64 ((cur.length : Int) + (R.length : Int)) = (cur.length : Int) + (R.length : Int) := by unfold wrap64; omega
  have i2 : IntKind.i64.wrap ((cur.length : Int) + (R.length : Int)) = (cur.length : Int) + (R.length : Int) := by rw [IntKind.wrap_i64]; omega
  by_cases hc : 860 < cur.length + R.length
  · have e1 : (860 < (cur.length : Int) + (R.length : Int)) = True := eq_true (by omega)
    obtain ⟨v', W1, hr1, S1, O1, K1, K2⟩ := h.full 27 (by intro q; rw [q] at hc; simp at hc; omega) (by omega)
    have lies1 : Lies ((W1.setCell ⟨fb, 0, none⟩ v').setCell ⟨lb, 0, none⟩ (.slice none 0 0)) b 0 R.length (nF R) := ⟨fun j hj => (O1.cell (p := ⟨b, 0 + j, none⟩) hA.2.2 hb).trans (hA.1 j hj), hA.2.1, Nat.lt_of_lt_of_le hA.2.2 O1.size⟩
    have d11 := (K1.cel 0 _ rfl).1
    have d12 := (K1.cel 0 _ rfl).2
    have d13 := (K2.cel 0 _ rfl).1
    have d14 := (K2.cel 0 _ rfl).2
    obtain ⟨v2, W2, hr2, S2, O2, K3⟩ := S1.app 23 b C lies1 h0 (by simp; omega) hR
    have d41 := (K3.cel 0 _ rfl).1
    have d42 := (K3.cel 0 _ rfl).2
    have d3 := (S1.c2.cel 0 _ rfl).1
    have FIN : Hid (AdP W base fb lb ds cur R (.returned (.tuple #[])) (W2.setCell ⟨lb, 0, none⟩ v2)) := hidIt ⟨rfl, (below_pk h O1).trans (below_pk S1 O2), v', v2, _, by rw [if_pos hc]; exact S2, by rw [if_pos hc, List.map_append]; rfl, by simp⟩
    obtain ⟨xa, xn, xc, rfl⟩ := row_sl S1.own
    obtain ⟨ya, yn, yc, rfl⟩ := own_sl S2.lst
    clear h hA hb h0 h1 h2 h3 hR hc S1 O1 K1 K2 K3 lies1 S2 O2
    go_enter Tryz.func98, Tryz.ntmps98
    go_wp2_with fail
    exact bodyPost_end (by simp [results, Tryz.results98, go_sem]) rfl FIN.out
  · have e1 : (860 < (cur.length : Int) + (R.length : Int)) = False := eq_false (by omega)
    obtain ⟨v2, W2, hr2, S2, O2, K3⟩ := h.app 23 b C hA h0 (by omega) hR
    have d41 := (K3.cel 0 _ rfl).1
    have d42 := (K3.cel 0 _ rfl).2
    have FIN : Hid (AdP W base fb lb ds cur R (.returned (.tuple #[])) (W2.setCell ⟨lb, 0, none⟩ v2)) := hidIt ⟨rfl, below_pk h O2, fv, v2, _, by rw [if_neg hc]; exact S2, by rw [if_neg hc], by omega⟩
    obtain ⟨ya, yn, yc, rfl⟩ := own_sl S2.lst
    clear h hA hb h0 h1 h2 h3 hR hc S2 O2 K3
    go_enter Tryz.func98, Tryz.ntmps98
    go_wp2_with fail
    exact bodyPost_end (by simp [results, Tryz.results98, go_sem]) rfl FIN.out
/-- A pair's bytes. -/
def PbP (W : World) (p : Pr) (e : Ending) (w' : World) : Prop := ∃ b C, e = .returned (.slice (some ⟨b, 0, none⟩) (pbL p).length C) ∧ Lies w' b 0 (pbL p).length (nF (pbL p)) ∧ W.heap.size ≤ b ∧ Below W.heap.size W w'
theorem ab_of {W : World} {a : Option Addr} {n : Nat} {f : Nat → Int} (h : Arg W a n f) : AB W.heap.size W a n f := ⟨h, fun h0 q hq => by
  rcases h with ⟨h1, _⟩ | ⟨_, b, off, rfl, hl⟩
  · omega
  · injection hq with hq
    subst hq
    exact hl.2.2⟩
theorem pairb_any {W : World} {N : List Nat} {x : PV} (h : PVOk W N x) (hm : may x.p) : Calls Tryz.prog 99 #[.agg x.cs.toArray] W (PbP W x.p) := by
  obtain ⟨k, v, p⟩ := x
  obtain ⟨⟨ka, kC, fk, hk, hka, hkt, _⟩, va, vC, fv, hv, hva, hvt, _⟩ := h
  simp only at hk hv hka hva hkt hvt hm
  subst hk hv
  have pn := pb_nF p hm fk fv (tx_fun p.k fk hka.bytes hkt) (tx_fun p.v fv hva.bytes hvt)
  have ps := pb_small hm
  refine (pairbytes_ok W ka va p.k.size p.v.size kC vC fk fv p.g (ab_of hka) (ab_of hva) ⟨by have := hm.2.1; omega, by have := hm.2.2; split at this <;> omega⟩).mono ?_
  rintro e w' ⟨a, n, C, rfl, hO, hB⟩
  rw [← pbL_len] at hO pn
  obtain ⟨g, cap, hv, hg, _, hL⟩ := (hO.congr pn).form (by omega) (nF_byte _ (pb_bytes hm))
  injection hv with h1 h2 h3
  subst h1 h2 h3
  exact ⟨g, C, rfl, hL, hg, hB⟩
/-- What holds at the head of pack's loop. -/
def PkI (W : World) (ls : List Pr) (k : Nat) (wr : World) : Prop := Below W.heap.size W wr ∧ ∃ (fv lv : Value) (ds : List BV) (dl : List (List Pr)) (cp : List Pr), PkS wr W.heap.size W.heap.size (W.heap.size + 1) fv lv ds (bodL cp) ∧ ds.map BV.L = dl.map bodL ∧ (bodL cp).length ≤ 860 ∧ dl ++ packG cp (ls.drop k) = packG [] ls ∧ (k = 0 ∨ cp ≠ []) ∧ ds.length ≤ k
/-- What pack answers. -/
def PkP (W : World) (ls : List Pr) (e : Ending) (w' : World) : Prop := Below W.heap.size W w' ∧ ∃ (a : Option Addr) (C : Nat) (bs : List BV), e = .returned (.slice a bs.length C) ∧ w'.ownsRow W.heap.size 23 1 (.slice a bs.length C) bs.length (bs.map BV.v) ∧ bs.map BV.L = (packG [] ls).map bodL ∧ (∀ x ∈ bs, BVOk w' W.heap.size (Value.ownBlock (.slice a bs.length C)).toList x) ∧ (∀ x ∈ bs, RowU w' x.v) ∧ bs.Pairwise (fun x y => x.v.ownBlock ≠ y.v.ownBlock)
theorem pk_start (W : World) (ls : List Pr) : PkI W ls 0 ((W.alloc (.cells #[.slice none 0 0] 27)).alloc (.cells #[.slice none 0 0] 23)) := by
  have A1 : Below W.heap.size W (W.alloc (.cells #[.slice none 0 0] 27)) := (Below.refl _ _).alloc (Nat.le_refl _) _
  have A2 : Below (W.alloc (.cells #[.slice none 0 0] 27)).heap.size (W.alloc (.cells #[.slice none 0 0] 27)) ((W.alloc (.cells #[.slice none 0 0] 27)).alloc (.cells #[.slice none 0 0] 23)) := (Below.refl _ _).alloc (Nat.le_refl _) _
  have z1 : (W.alloc (.cells #[.slice none 0 0] 27)).heap.size = W.heap.size + 1 := by simp
  have r1 := (Rec19.new W 27 [.slice none 0 0]).below A2
  have r2 := Rec19.new (W.alloc (.cells #[.slice none 0 0] 27)) 23 [.slice none 0 0]
  rw [z1] at r2
  refine ⟨A1.trans (A2.mono A1.size), .slice none 0 0, .slice none 0 0, [], [], [], ⟨r1, r2, World.ownsRow_nil _ _ _ _, Own.nil _ _ _, fun x hx => (by cases hx), fun g hg => (by cases hg), fun g hg => (by cases hg), by omega, ⟨Nat.le_refl _, by omega⟩, fun x hx => (by cases hx), by simp [bodL], fun g hg => (by cases hg), fun x hx => (by cases hx), List.Pairwise.nil⟩, rfl, by simp [bodL], by simp, .inl rfl, by simp⟩
theorem PkI.next {W w5 w' : World} {ls : List Pr} {k : Nat} {p : Pr} {ds : List BV} {dl : List (List Pr)} {cp : List Pr} {e : Ending} (hp : ls[k]? = some p) (hm : may p) (hB : Below W.heap.size W w5) (h2 : ds.map BV.L = dl.map bodL) (h4 : dl ++ packG cp (ls.drop k) = packG [] ls) (h6 : ds.length ≤ k) (hA : AdP w5 W.heap.size W.heap.size (W.heap.size + 1) ds (bodL cp) (pbL p) e w') : PkI W ls (k + 1) w' := by
  obtain ⟨_, hB', fv', lv', ds', hS, hd, hl⟩ := hA
  have hk : k < ls.length := (List.getElem?_eq_some_iff.1 hp).1
  have hdr : ls.drop k = p :: ls.drop (k + 1) := by
    rw [List.drop_eq_getElem_cons hk]
    congr 1
    rw [List.getElem?_eq_getElem hk] at hp
    injection hp
  have ps := pb_small hm
  rw [hdr] at h4
  refine ⟨hB.trans hB', ?_⟩
  by_cases hc : 860 < (bodL cp).length + (pbL p).length
  · rw [if_pos hc] at hS hd
    refine ⟨fv', lv', ds', dl ++ [cp], [p], by rw [bodL_one]; exact hS, ?_, by rw [bodL_one]; omega, ?_, .inr (by simp), by omega⟩
    · rw [hd, h2]; simp
    · rw [← h4]
      show _ = dl ++ (if 860 < (bodL cp).length + (pbL p).length then cp :: packG [p] (ls.drop (k + 1)) else packG (cp ++ [p]) (ls.drop (k + 1)))
      rw [if_pos hc, List.append_assoc]
      rfl
  · rw [if_neg hc] at hS hd
    refine ⟨fv', lv', ds', dl, cp ++ [p], by rw [bodL_app, bodL_one]; exact hS, by rw [hd, h2], by rw [bodL_app, bodL_one, List.length_append]; omega, ?_, .inr (by simp), by omega⟩
    rw [← h4]
    show _ = dl ++ (if 860 < (bodL cp).length + (pbL p).length then cp :: packG [p] (ls.drop (k + 1)) else packG (cp ++ [p]) (ls.drop (k + 1)))
    rw [if_neg hc]
theorem pk_end {W wr : World} {ls : List Pr} {n : Nat} (h : PkI W ls n wr) (hn : ls.length = n) (h1 : 1 ≤ n) (h2 : n ≤ 900) (hm : ∀ p ∈ ls, may p) : ∃ fv la m lc xa xn xC W1, wr.cell? ⟨W.heap.size, 0, none⟩ = some fv ∧ wr.cell? ⟨W.heap.size + 1, 0, none⟩ = some (.slice la m lc) ∧ (Builtin.append_ #[27, 27] 27 #[fv, .slice (some ⟨wr.heap.size, 0, none⟩) 1 1]).run Tryz.prog (wr.alloc (.cells #[.slice la m lc] 23)) = .ok (.slice xa xn xC) W1 ∧ PkP W ls (.returned (.slice xa xn xC)) W1 := by
  obtain ⟨hB, fv, lv, ds, dl, cp, hS, hd, hc, hp, hk, hl⟩ := h
  rw [← hn, List.drop_length] at hp
  have hcp : cp ≠ [] := by rcases hk with q | q; (· omega); (· exact q)
  have hbn : bodL cp ≠ [] := by
    obtain ⟨p, r, rfl⟩ := List.exists_cons_of_ne_nil hcp
    intro q
    have : (pbL p).length ≤ (bodL (p :: r)).length := by rw [show bodL (p :: r) = pbL p ++ bodL r from rfl, List.length_append]; omega
    have pm : p ∈ ls := by
      have := pack_flat ls []
      rw [← hp] at this
      simp [packG] at this
      rw [← this]
      simp
    have := pb_small (hm p pm)
    have hz : (bodL (p :: r)).length = 0 := by rw [q]; rfl
    omega
  have n0 : 0 < (bodL cp).length := List.length_pos_iff.2 hbn
  obtain ⟨lg, lc, hlv, hlb, hlc, hll⟩ := hS.lst.form n0 (nF_byte _ hS.byt)
  subst hlv
  have A : Below wr.heap.size wr (wr.alloc (.cells #[.slice (some ⟨lg, 0, none⟩) (bodL cp).length lc] 23)) := (Below.refl _ _).alloc (Nat.le_refl _) _
  have hA := hS.below A
  have hcell : (wr.alloc (.cells #[.slice (some ⟨lg, 0, none⟩) (bodL cp).length lc] 23)).cell? ⟨wr.heap.size, 0, none⟩ = some (.slice (some ⟨lg, 0, none⟩) (bodL cp).length lc) := by rw [World.cell?_alloc_at (w := wr) _ _ wr.heap.size 0 rfl]; rfl
  obtain ⟨v', W1, hr, hI⟩ := app_vs 27 (wr.alloc (.cells #[.slice (some ⟨lg, 0, none⟩) (bodL cp).length lc] 23)) W.heap.size fv (ds.map BV.v) [Value.slice (some ⟨lg, 0, none⟩) (bodL cp).length lc] ⟨wr.heap.size, 0, none⟩ 1 1 hA.own (fun j u hj => by
    cases j with
    | zero => injection hj with hj; subst hj; rw [Addr.add_mid]; exact hcell
    | succ j => cases hj) (fun u hu => by rw [List.mem_singleton.1 hu]; rfl) rfl (by decide) (Nat.le_trans hB.size A.size) (by simp; omega)
  obtain ⟨xa, xc, rfl⟩ := row_slN hI.own
  have hoff := hI.off
  have O1 : Off (PkN W.heap.size (W.heap.size + 1) fv (.slice (some ⟨lg, 0, none⟩) (bodL cp).length lc)) (wr.alloc (.cells #[.slice (some ⟨lg, 0, none⟩) (bodL cp).length lc] 23)) W1 := hoff.mono (fun q hq => by simp [PkN, mem_own hq])
  have hlen : (ds.map BV.v ++ [Value.slice (some ⟨lg, 0, none⟩) (bodL cp).length lc]).length = (ds ++ [(⟨.slice (some ⟨lg, 0, none⟩) (bodL cp).length lc, bodL cp⟩ : BV)]).length := by simp
  have hmap : ds.map BV.v ++ [Value.slice (some ⟨lg, 0, none⟩) (bodL cp).length lc] = (ds ++ [(⟨.slice (some ⟨lg, 0, none⟩) (bodL cp).length lc, bodL cp⟩ : BV)]).map BV.v := by simp
  have own := hI.own
  have hblk := hI.blk
  rw [hmap, List.length_map] at own
  rw [hlen] at hr hblk
  have hlen2 : (ds ++ [(⟨.slice (some ⟨lg, 0, none⟩) (bodL cp).length lc, bodL cp⟩ : BV)]).length = (ds.map BV.v ++ [Value.slice (some ⟨lg, 0, none⟩) (bodL cp).length lc]).length := hlen.symm
  refine ⟨fv, some ⟨lg, 0, none⟩, (bodL cp).length, lc, xa, _, xc, W1, (hS.c1.cel 0 _ rfl).1, (hS.c2.cel 0 _ rfl).1, hr, ?_, xa, xc, ds ++ [⟨.slice (some ⟨lg, 0, none⟩) (bodL cp).length lc, bodL cp⟩], rfl, ?_, ?_, fun x hx => ?_, fun x hx => ?_, List.pairwise_append.2 ⟨hA.dif, List.pairwise_singleton _ _, fun x hx y hy => ?_⟩⟩
  · exact (hB.trans (A.mono hB.size)).trans (hI.below (fun g hg => (World.ownsRow.lt hA.own g hg).1) (Nat.le_trans hB.size A.size))
  · rw [hlen2] at own ⊢
    exact own
  · rw [List.map_append, hd, ← hp]
    simp [packG]
  · rcases List.mem_append.1 hx with hx | hx
    · refine (hA.bd x hx).off O1 (fun b hb => ?_)
      rcases hblk b (mem_own hb) with q | q
      · exact .inl (by simp [q])
      · exact .inr q
    · rw [List.mem_singleton.1 hx]
      have m1 : lg ∉ fv.ownBlock.toList := fun q => (hS.fne _ (mem_own q)).2.2 rfl
      refine ⟨lg, lc, rfl, hlc, ⟨fun j hj => (hoff.cell (p := ⟨lg, 0 + j, none⟩) (Nat.lt_of_lt_of_le hll.2.2 A.size) m1).trans ((hll.below A).1 j hj), hll.2.1, Nat.lt_of_lt_of_le hll.2.2 (Nat.le_trans A.size hoff.size)⟩, hlb, fun q => ?_⟩
      rcases hblk lg (mem_own q) with z | z
      · exact m1 (own_mem z)
      · have := (hll.below A).2.2; omega
  · rcases List.mem_append.1 hx with hx | hx
    · exact (hA.rows x hx).off O1 (hA.bd x hx).own
    · rw [List.mem_singleton.1 hx]
      exact hA.row.off hoff (fun g hg q => (hS.fne g (mem_own q)).2.2 hg)
  · rw [List.mem_singleton.1 hy]
    intro q
    exact (hA.bd x hx).own lg q (by simp [Value.ownBlock])
set_option maxRecDepth 100000 in
set_option maxHeartbeats 1000000 in
theorem xpack_ok (W : World) (a : Option Addr) (ps : List PV) (n C : Nat) (hn : ps.length = n) (hL : Lst W a ps) (hm : ∀ x ∈ ps, may x.p) (h1 : 1 ≤ n) (h2 : n ≤ 64) : Calls Tryz.prog 49 #[.slice a n C] W (PkP W (ps.map PV.p)) := by
  have HL := hidIt hL
  have HN := hidIt (And.intro hn (And.intro h1 h2))
  have HM := hidIt hm
  have ST := hidIt (pk_start W (ps.map PV.p))
  clear hL hn hm h1 h2
  go_enter Tryz.func49, Tryz.ntmps49
  go_wp2_with fail
  go_loopw [11] (fun i wr => ∃ k : Nat, k ≤ n ∧ i = .int .i64 (k : Int) ∧ Hid (PkI W (ps.map PV.p) k wr)) (fun i _ => n - (RowKit.intOf i).toNat)
  case atStart => exact ⟨0, Nat.zero_le _, rfl, ST⟩
  case round =>
    clear ST
    obtain ⟨k, hk, rfl, hI⟩ := hrel
    by_cases hlt : k < n
    · obtain ⟨x, hx⟩ : ∃ x, ps[k]? = some x := ⟨_, List.getElem?_eq_getElem (by have := HN.out.1; omega)⟩
      have mx := HM.out x (List.mem_of_getElem? hx)
      have px : (ps.map PV.p)[k]? = some x.p := by rw [List.getElem?_map, hx]; rfl
      obtain ⟨hB, fv, lv, ds, dl, cp, hS, hd, hc, hp, hkc, hl⟩ := hI.out
      obtain ⟨b1, o1, ha, hr1, _⟩ := (HL.out.below hB).at k x hx
      subst ha
      have OK := hidIt ((HL.out.1 x (List.mem_of_getElem? hx)).below hB)
      have MX := hidIt (And.intro mx px)
      have SS := hidIt (And.intro hS (And.intro hB (And.intro hd (And.intro hc (And.intro hp hl)))))
      have LT := hidIt hlt
      obtain ⟨i0, i1, i2, i3⟩ := k_ar k n hlt (by have := HN.out; omega)
      clear hx mx px hB hS hd hc hp hkc hl hlt hI
      go_wp2_with (first
        | (refine wpList_load_mid rfl 78 (.tmp 13) rfl b1 (o1 + k * 3) rfl x.cs _ hr1 Tryz.underlying78 rfl pair_size ?_)
        | (refine wpList_alloc_rec rfl 78 rfl _ wr.heap.size rfl pair_zero ?_; intro W3 R3 B3 z3; have E3 := hidIt B3; have P3 := hidIt R3; clear R3 B3 z3)
        | (refine wpList_store_rec rfl 78 (.tmp 7) (.tmp 14) rfl wr.heap.size 0 _ x.cs rfl rfl P3.out rfl pair_size OK.out.one ?_; intro W4 R4 B4; have E4 := hidIt (E3.out.trans (B4.below (Nat.le_refl _) E3.out.size)); have P4 := hidIt R4; clear R4 B4)
        | (refine wpList_load_rec rfl 78 (.tmp 7) rfl wr.heap.size 0 x.cs rfl _ Tryz.underlying78 rfl pair_size P4.out ?_)
        | (go_at_call 99; refine (pairb_any (OK.out.below E4.out) MX.out.1).mono ?_; rintro e W5 ⟨pb, pC, rfl, hl5, hg5, hb5⟩; have F5 := hidIt (And.intro hl5 (And.intro hg5 (E4.out.trans (hb5.mono E4.out.size)))); clear hl5 hg5 hb5)
        | (go_at_call 98; refine (addf_ok W5 W.heap.size W.heap.size (W.heap.size + 1) pb pC fv lv ds (bodL cp) (pbL x.p) (SS.out.1.below F5.out.2.2) F5.out.1 (fun q => by have := (SS.out.1.lt pb q).2; have := F5.out.2.1; have := E4.out.size; omega) (by have := pb_small MX.out.1; omega) (pb_small MX.out.1).2 SS.out.2.2.2.1 (by have := SS.out.2.2.2.2.2; have := LT.out; have := HN.out; omega) (pb_bytes MX.out.1)).mono ?_; rintro e w' hA; have NX := hidIt (PkI.next MX.out.2 MX.out.1 (SS.out.2.1.trans (F5.out.2.2.mono SS.out.2.1.size)) SS.out.2.2.1 SS.out.2.2.2.2.1 SS.out.2.2.2.2.2 hA); obtain ⟨rfl, _⟩ := hA; refine Held.out ?_))
      refine Held.mk ?_
      go_wp2_with fail
      exact ⟨⟨k + 1, LT.out, rfl, NX⟩, meas_k n k _ rfl LT.out⟩
    · obtain rfl : k = n := by omega
      obtain ⟨fv, la, m, lc, xa, xn, xC, W1, c1, c2, hr, hF⟩ := pk_end hI.out (by rw [List.length_map]; exact HN.out.1) HN.out.2.1 (by have := HN.out.2.2; omega) (fun p hp => by obtain ⟨x, hx, rfl⟩ := List.mem_map.1 hp; exact HM.out x hx)
      have FIN := hidIt hF
      have i0 : ((k : Int) < (k : Int)) = False := eq_false (by omega)
      clear hF hlt hk hI
      go_wp2_with fail
      exact bodyPost_ret (v := .slice xa xn xC) (by simp [results, Tryz.results49, go_sem]) rfl FIN.out
end Go.Proofs.YtblphlcnbnklmaaGreatDoor
namespace Go.Proofs.YtblphlcnbnklmaaGreatDoor
open Go.RowKit
attribute [-go_sem] Builtin.append_
/-- Pairs that a table may have. -/
def Good (l : List Pr) : Prop := 1 ≤ l.length ∧ l.length ≤ 64 ∧ Chn l ∧ ∀ p ∈ l, may p
/-- The bodies of pairs in memory. -/
def Bods (W : World) (base : Nat) (l : List Pr) (a : Option Addr) (m C : Nat) (bs : List BV) : Prop := m = bs.length ∧ W.ownsRow base 23 1 (.slice a m C) m (bs.map BV.v) ∧ bs.map BV.L = (packG [] l).map bodL ∧ ∀ x ∈ bs, BVOk W base (Value.ownBlock (.slice a m C)).toList x
theorem bods_low {w : World} {b1 b2 : Nat} {l : List Pr} {a : Option Addr} {m C : Nat} {bs : List BV} (hm : m = bs.length) (hb : b1 ≤ b2) (q1 : w.ownsRow b2 23 1 (.slice a m C) m (bs.map BV.v)) (q2 : bs.map BV.L = (packG [] l).map bodL) (q3 : ∀ x ∈ bs, BVOk w b2 (Value.ownBlock (.slice a m C)).toList x) : Bods w b1 l a m C bs := by
  obtain ⟨z1, z2⟩ := q1
  refine ⟨hm, ⟨z1, ?_⟩, q2, fun x hx => ?_⟩
  · rcases z2 with z | ⟨g, cap, cur, z3, z4, z5⟩
    · exact .inl z
    · exact .inr ⟨g, cap, cur, z3, Nat.le_trans hb z4, z5⟩
  · obtain ⟨b, c, y1, y2, y3, y4, y5⟩ := q3 x hx
    exact ⟨b, c, y1, y2, y3, Nat.le_trans hb y4, y5⟩
/-- What Pack answers. -/
def PcP (W : World) (l : List Pr) (e : Ending) (w' : World) : Prop := Below W.heap.size W w' ∧ ((Good l ∧ ∃ (a : Option Addr) (m C : Nat) (bs : List BV), e = .returned (.tuple #[.slice a m C, .int .i64 0]) ∧ Bods w' W.heap.size l a m C bs ∧ (∀ x ∈ bs, RowU w' x.v) ∧ bs.Pairwise (fun x y => x.v.ownBlock ≠ y.v.ownBlock)) ∨ (¬ Good l ∧ e = .returned (.tuple #[.slice none 0 0, .int .i64 2])))
set_option maxRecDepth 100000 in
set_option maxHeartbeats 1000000 in
theorem xPack_any (W : World) (a : Option Addr) (ps : List PV) (n C : Nat) (hn : ps.length = n) (hL : Lst W a ps) (hf : n ≤ 100000) : Calls Tryz.prog 12 #[.slice a n C] W (PcP W (ps.map PV.p)) := by
  have HL := hidIt hL
  have HN := hidIt (And.intro hn hf)
  have BAD : Hid (∀ w', Below W.heap.size W w' → ¬ Good (ps.map PV.p) → PcP W (ps.map PV.p) (.returned (.tuple #[.slice none 0 0, .int .i64 2])) w') := hidIt fun w' hB hG => ⟨hB, .inr ⟨hG, rfl⟩⟩
  have LN := hidIt (show (ps.map PV.p).length = n by rw [List.length_map]; exact hn)
  clear hL hf
  by_cases h1 : (n : Int) < 1
  · have c1 : ((n : Int) < 1) = True := eq_true h1
    have FIN := hidIt (BAD.out W (Below.refl _ _) (fun h => by have := h.1; rw [LN.out] at this; omega))
    clear h1 hn
    go_enter Tryz.func12, Tryz.ntmps12
    go_wp2_with fail
    exact bodyPost_ret (v := .tuple #[.slice none 0 0, .int .i64 2]) (by simp [results, Tryz.results12, go_sem]) rfl FIN.out
  · have c1 : ((n : Int) < 1) = False := eq_false h1
    by_cases h2 : 64 < (n : Int)
    · have c2 : (64 < (n : Int)) = True := eq_true h2
      have FIN := hidIt (BAD.out W (Below.refl _ _) (fun h => by have := h.2.1; rw [LN.out] at this; omega))
      clear h1 h2 hn
      go_enter Tryz.func12, Tryz.ntmps12
      go_wp2_with fail
      exact bodyPost_ret (v := .tuple #[.slice none 0 0, .int .i64 2]) (by simp [results, Tryz.results12, go_sem]) rfl FIN.out
    · have c2 : (64 < (n : Int)) = False := eq_false h2
      have H12 := hidIt (show 1 ≤ n ∧ n ≤ 64 by omega)
      clear h1 h2 hn
      go_enter Tryz.func12, Tryz.ntmps12
      go_wp2_with (go_at_call 41; refine (tsorted_any n C HN.out.1 HL.out HN.out.2).mono ?_; rintro e W2 ⟨sb, rfl, hs, hb⟩; have E2 := hidIt hb; have SB := hidIt hs; clear hs hb; refine Held.out ?_)
      refine Held.mk ?_
      cases sb with
      | false =>
        have FIN := hidIt (BAD.out W2 E2.out (fun h => by have := SB.out.2 h.2.2.1; cases this))
        go_wp2_with fail
        exact bodyPost_ret (v := .tuple #[.slice none 0 0, .int .i64 2]) (by simp [results, Tryz.results12, go_sem]) rfl FIN.out
      | true =>
        have ST : Hid (Below W.heap.size W W2 ∧ ∀ j x, j < 0 → ps[j]? = some x → may x.p) := hidIt ⟨E2.out, fun j x hj => by omega⟩
        go_wp2_with fail
        go_loopw [22] (fun i wr => ∃ k : Nat, k ≤ n ∧ i = .int .i64 (k : Int) ∧ Hid (Below W.heap.size W wr ∧ ∀ j x, j < k → ps[j]? = some x → may x.p)) (fun i _ => n - (RowKit.intOf i).toNat)
        case atStart => exact ⟨0, Nat.zero_le _, rfl, ST⟩
        case round =>
          clear ST
          obtain ⟨k, hk, rfl, hI⟩ := hrel
          by_cases hlt : k < n
          · obtain ⟨x, hx⟩ : ∃ x, ps[k]? = some x := ⟨_, List.getElem?_eq_getElem (by have := HN.out.1; omega)⟩
            obtain ⟨b1, o1, ha, hr1, _⟩ := (HL.out.below hI.out.1).at k x hx
            subst ha
            have OK := hidIt ((HL.out.1 x (List.mem_of_getElem? hx)).below hI.out.1)
            have HX := hidIt hx
            have LT := hidIt hlt
            obtain ⟨i0, i1, i2, i3⟩ := k_ar k n hlt HN.out.2
            clear hx hlt hk
            by_cases hm : may x.p
            · have HM := hidIt hm
              have HE := hidIt (mayE_yes hm)
              clear hm
              go_wp2_with (first
                | (refine wpList_load_mid rfl 78 (.tmp 24) rfl b1 (o1 + k * 3) rfl x.cs _ hr1 Tryz.underlying78 rfl pair_size ?_)
                | (refine wpList_alloc_rec rfl 78 rfl _ wr.heap.size rfl pair_zero ?_; intro W3 R3 B3 z3; have E3 := hidIt B3; have P3 := hidIt R3; clear R3 B3 z3)
                | (refine wpList_store_rec rfl 78 (.tmp 5) (.tmp 25) rfl wr.heap.size 0 _ x.cs rfl rfl P3.out rfl pair_size OK.out.one ?_; intro W4 R4 B4; have E4 := hidIt (E3.out.trans (B4.below (Nat.le_refl _) E3.out.size)); have P4 := hidIt R4; clear R4 B4)
                | (refine wpList_load_rec rfl 78 (.tmp 5) rfl wr.heap.size 0 x.cs rfl _ Tryz.underlying78 rfl pair_size P4.out ?_)
                | (go_at_call 48; refine (mcheck_any (OK.out.below E4.out)).mono ?_; rintro e W5 ⟨rfl, hb⟩; rw [HE.out]; have NX : Hid (Below W.heap.size W W5 ∧ ∀ j y, j < k + 1 → ps[j]? = some y → may y.p) := hidIt ⟨hI.out.1.trans ((E4.out.trans (hb.mono E4.out.size)).mono hI.out.1.size), fun j y hj hy => by
                    by_cases e : j = k
                    · subst e; rw [HX.out] at hy; injection hy with hy; rw [← hy]; exact HM.out
                    · exact hI.out.2 j y (by omega) hy⟩
                   clear hb))
              exact ⟨⟨k + 1, LT.out, rfl, NX⟩, meas_k n k _ rfl LT.out⟩
            · have HE := hidIt (mayE_not hm)
              have FB := hidIt (fun w' hB => BAD.out w' hB (fun h => hm (h.2.2.2 _ (List.mem_map.2 ⟨x, List.mem_of_getElem? HX.out, rfl⟩))))
              clear hm
              go_wp2_with (first
                | (refine wpList_load_mid rfl 78 (.tmp 24) rfl b1 (o1 + k * 3) rfl x.cs _ hr1 Tryz.underlying78 rfl pair_size ?_)
                | (refine wpList_alloc_rec rfl 78 rfl _ wr.heap.size rfl pair_zero ?_; intro W3 R3 B3 z3; have E3 := hidIt B3; have P3 := hidIt R3; clear R3 B3 z3)
                | (refine wpList_store_rec rfl 78 (.tmp 5) (.tmp 25) rfl wr.heap.size 0 _ x.cs rfl rfl P3.out rfl pair_size OK.out.one ?_; intro W4 R4 B4; have E4 := hidIt (E3.out.trans (B4.below (Nat.le_refl _) E3.out.size)); have P4 := hidIt R4; clear R4 B4)
                | (refine wpList_load_rec rfl 78 (.tmp 5) rfl wr.heap.size 0 x.cs rfl _ Tryz.underlying78 rfl pair_size P4.out ?_)
                | (go_at_call 48; refine (mcheck_any (OK.out.below E4.out)).mono ?_; rintro e W5 ⟨rfl, hb⟩; rw [HE.out]; have F5 := hidIt (FB.out W5 (hI.out.1.trans ((E4.out.trans (hb.mono E4.out.size)).mono hI.out.1.size))); clear hb))
              exact bodyPost_ret (v := .tuple #[.slice none 0 0, .int .i64 2]) (by simp [results, Tryz.results12, go_sem]) rfl F5.out
          · obtain rfl : k = n := by omega
            have AL : Hid (∀ x ∈ ps, may x.p) := hidIt fun x hx => by
              obtain ⟨j, hj, rfl⟩ := List.getElem_of_mem hx
              exact hI.out.2 j _ (by have := HN.out.1; omega) (List.getElem?_eq_getElem hj)
            have i0 : ((k : Int) < (k : Int)) = False := eq_false (by omega)
            clear hlt hk
            go_wp2_with (go_at_call 49; refine (xpack_ok wr a ps k C HN.out.1 (HL.out.below hI.out.1) AL.out H12.out.1 H12.out.2).mono ?_; rintro e W3 ⟨hb, xa, xc, bs, rfl, q1, q2, q3, q4⟩; have FIN : Hid (PcP W (ps.map PV.p) (.returned (.tuple #[.slice xa bs.length xc, .int .i64 0])) W3) := hidIt ⟨hI.out.1.trans (hb.mono hI.out.1.size), .inl ⟨⟨by rw [LN.out]; exact H12.out.1, by rw [LN.out]; exact H12.out.2, SB.out.1 (by trivial), fun p hp => by obtain ⟨x, hx, rfl⟩ := List.mem_map.1 hp; exact AL.out x hx⟩, xa, bs.length, xc, bs, rfl, bods_low rfl hI.out.1.size q1 q2 q3, q4⟩⟩; clear hb q1 q2 q3 q4)
            exact bodyPost_ret (v := .tuple #[.slice xa bs.length xc, .int .i64 0]) (by simp [results, Tryz.results12, go_sem]) rfl FIN.out
end Go.Proofs.YtblphlcnbnklmaaGreatDoor
