/-
  Walks, not a claim by itself: the reference's Lay. By the verifier.
-/
import Derived.Test.YtandkedipjmdbaaMtRf2
import Derived.Test.YtandkedipjmdbaaMtCpy
namespace Go.Proofs.Ytandkedipjmdbaa
open Go.RowKit
attribute [-go_sem] Builtin.append_
/-- append of a text onto a literal of nothing. -/
theorem emp_app {W : World} {N : List Nat} {s : Value} {t : ByteArray} (h : Txt W N s t) (hn : t.size ≤ 1000000) (ty : TypeId) (y : Nat) : ∃ a n C W', (Builtin.append_ #[33, 33] ty #[.slice (some ⟨y, 0, none⟩) 0 0, s]).run Try.prog W = .ok (.slice a n C) W' ∧ (∀ M : List Nat, (∀ b, b ∈ M → b < W.heap.size) → Txt W' M (.slice a n C) t) ∧ Below W.heap.size W W' := by
  obtain ⟨s', W', hr, hF, hB⟩ := fresh_run h hn ty
  obtain ⟨a, C, f, rfl, hA, ht, _⟩ := h
  obtain ⟨i0, hi, hz0, hz1, hz2⟩ := info_parts info_u8
  rcases hA with ⟨h0, hq⟩ | ⟨h0, b, off, rfl, hl⟩
  · refine ⟨some ⟨y, 0, none⟩, 0, 0, W, ?_, fun M hM => ⟨some ⟨y, 0, none⟩, 0, f, by rw [h0], .inl ⟨h0, .inr ⟨_, rfl⟩⟩, ht, fun h => by omega⟩, Below.refl _ _⟩
    rw [h0]
    rcases hq with rfl | ⟨p, rfl⟩
    · simp [Builtin.append_, run_underlying Try.underlying33, sizeOf, typeInfo, hi, Builtin.lenOf, Builtin.firstCells, storeCells]
    · simp [Builtin.append_, run_underlying Try.underlying33, sizeOf, typeInfo, hi, Builtin.lenOf, Builtin.firstCells, loadCells, loadCellsFrom, storeCells]
  · obtain ⟨sa, sn, sC, rfl⟩ := hF.sl
    refine ⟨sa, sn, sC, W', ?_, fun M hM => hF.txt hM, hB⟩
    rw [← hr]
    have hA : ∀ j u, (cl .u8 t.size f)[j]? = some u → W.cell? ((⟨b, off, none⟩ : Addr).add j) = some u := fun j u hj => by obtain ⟨h, rfl⟩ := cl_at' hj; rw [Addr.add_mid]; exact hl.1 j h
    have hrN := run_append_nil (P := Try.prog) W 33 ty 5 i0 (.int .u8 0) Try.underlying33 hi hz0 ⟨b, off, none⟩ t.size C (cl .u8 t.size f) (by rw [cl_len, hz1, Nat.mul_one]) hA h0 (by omega) (by rw [hz2]; omega)
    have hfit : Builtin.nextslicecap (0 + t.size) 0 * i0.bytes ≤ 281474976710656 := growslice_fits (by omega) (by rw [hz2]; omega)
    have hrG := run_append_grow (P := Try.prog) W 33 ty 5 i0 (.int .u8 0) Try.underlying33 hi hz0 ⟨y, 0, none⟩ 0 0 [] (by simp) (fun j u hj => by cases hj) ⟨b, off, none⟩ t.size C (cl .u8 t.size f) (by rw [cl_len, hz1, Nat.mul_one]) hA (by omega) (by omega) hfit
    rw [hrG, hrN]
    simp
theorem bs0u_run {a : Act} {w : World} {o : Oper} (ho : o.op = .buildSlice 33 0 #[]) : (execOp a.eval o).run Try.prog w = .ok (.value (.slice (some ⟨w.heap.size, 0, none⟩) 0 0)) (w.alloc (.cells #[] 5)) := by
  obtain ⟨i0, hi, _, _, _⟩ := info_parts info_u8
  unfold execOp
  simp only [ho]
  simp [Instr.buildSlice, run_underlying Try.underlying33, sizeOf, typeInfo, hi, newRow, Instr.fill, Result.andThen]
  congr 2
  exact Array.eq_empty_of_size_eq_zero (by simp)
/-- The first ones of a list. -/
theorem top_of {W : World} {a : Option Addr} {n cap : Nat} {rs : List PV} (h : OwnP W 0 (.slice a n cap) rs) (hok : ∀ x ∈ rs, PVOk W [] x) (i : Nat) (hi : i ≤ rs.length) : ∃ a1 c1, (∀ w, (Instr.slice 27 (.slice a n cap) none (some (.int .i64 (i : Int))) none).run Try.prog w = .ok (.slice a1 i c1) w) ∧ Lst W a1 (rs.take i) := by
  have ok' : ∀ x ∈ rs.take i, PVOk W [] x := fun x hx => hok x (List.mem_of_mem_take hx)
  rcases h.form with ⟨hv, rfl⟩ | ⟨g, cp, hv, _, hc, _, hg, hR⟩
  · injection hv with h1 h2 h3
    subst h1 h2 h3
    obtain rfl : i = 0 := by simpa using hi
    obtain ⟨i0, hi0, _, hz, _⟩ := info_parts info_pair
    exact ⟨none, 0, fun w => by simp [Instr.slice, Instr.sliceBounds, run_underlying under_pairs, Instr.sliceBound, asIntOf, sizeOf, typeInfo, hi0], ok', fun hne => absurd rfl hne⟩
  · injection hv with h1 h2 h3
    subst h1 h2 h3
    refine ⟨some ⟨g, 0, none⟩, cap, fun w => run_slice_high _ _ under_pairs 3 pair_size g 0 _ _ i (by omega) w, ok', fun _ => ⟨g, 0, rfl, ?_, hg⟩⟩
    intro j v hj
    refine hR.1 j v ?_
    rw [← pcs_take] at hj
    rw [List.getElem?_take] at hj
    split at hj
    · exact hj
    · cases hj
/-- The last ones of a list. -/
theorem low_of {W : World} {a : Option Addr} {n cap : Nat} {rs : List PV} (h : OwnP W 0 (.slice a n cap) rs) (hok : ∀ x ∈ rs, PVOk W [] x) (i : Nat) (hi : i ≤ rs.length) : ∃ a1 c1, (∀ w, (Instr.slice 27 (.slice a n cap) (some (.int .i64 (i : Int))) none none).run Try.prog w = .ok (.slice a1 (rs.drop i).length c1) w) ∧ Lst W a1 (rs.drop i) := by
  have ok' : ∀ x ∈ rs.drop i, PVOk W [] x := fun x hx => hok x (List.mem_of_mem_drop hx)
  rcases h.form with ⟨hv, rfl⟩ | ⟨g, cp, hv, _, hc, _, hg, hR⟩
  · injection hv with h1 h2 h3
    subst h1 h2 h3
    obtain rfl : i = 0 := by simpa using hi
    obtain ⟨i0, hi0, _, hz, _⟩ := info_parts info_pair
    exact ⟨none, 0, fun w => by simp [Instr.slice, Instr.sliceBounds, run_underlying under_pairs, Instr.sliceBound, asIntOf, sizeOf, typeInfo, hi0], ok', fun hne => absurd rfl hne⟩
  · injection hv with h1 h2 h3
    subst h1 h2 h3
    refine ⟨some (cutP g 0 i 3 cap), cap - i, fun w => by rw [List.length_drop]; exact run_slice_low _ _ 3 under_pairs pair_size g 0 _ _ i hi w, ok', fun hne => ?_⟩
    have hlt : i < rs.length := by
      refine Nat.lt_of_le_of_ne hi (fun e => hne ?_)
      rw [e]
      exact List.drop_length
    refine ⟨g, 0 + i * 3, by unfold cutP; rw [if_neg (by omega)], ?_, hg⟩
    intro j v hj
    have := hR.1 (i * 3 + j) v (by rw [← pcs_drop, List.getElem?_drop] at hj; exact hj)
    rw [Nat.zero_add] at this
    rw [Nat.zero_add]
    exact this
theorem slc_run {a : Act} {w : World} {o : Oper} (x : Operand) (lo hi : Option Operand) (ho : o.op = .slice 27 x lo hi none) (V : Value) (vl vh : Option Value) (hx : a.eval x = V) (hl : lo.map a.eval = vl) (hh : hi.map a.eval = vh) {v' : Value} (aa : Option Addr) (n c : Nat) (hV : V = .slice aa n c) (hr : (Instr.slice 27 V vl vh none).run Try.prog w = .ok v' w) : (execOp a.eval o).run Try.prog w = .ok (.value v') w := by
  subst hx hl hh
  have he : Try.prog.underlying 27 = some (.slice (Try.prog.elem 27)) := by kernel_rfl
  unfold execOp
  rw [hV] at hr
  simp only [ho, hV, Option.map_none, Sem.run_bind, run_sliceAt_slice _ _ _ _ _ _ he, hr, Result.andThen_ok]
  rfl
/-- What the reference's Lay does. -/
def RLay (W : World) (r : Nat) (lv : Value) (rs : List PV) (p : Pr) (e : Ending) (w' : World) : Prop := ∃ lv' rs', e = .returned (.int .i64 (layC (rs.map PV.p) p)) ∧ RT w' r lv' rs' ∧ rs'.map PV.p = layR (rs.map PV.p) p ∧ Off [r] W w' ∧ (∀ g, lv'.ownBlock = some g → lv.ownBlock = some g ∨ W.heap.size ≤ g) ∧ ∀ y ∈ rs', y ∈ rs ∨ ∀ M : List Nat, (∀ b, b ∈ M → b < W.heap.size) → PVOk w' M y
theorem rl_fin {W w5 w8 w9 w10 w11 w12 : World} {r : Nat} {lv out v10 v11 : Value} {rs : List PV} {i j : Nat} {y : PV} (hT : RT W r lv rs) (hm : may y.p) (n5 : ∀ g, out.ownBlock = some g → W.heap.size ≤ g) (l5 : ∀ g, out.ownBlock = some g → g < w5.heap.size) (B5 : Below W.heap.size W w5) (B8 : Below w5.heap.size w5 w8) (hy : ∀ M : List Nat, (∀ b, b ∈ M → b < w5.heap.size) → PVOk w8 M y) (B9 : Below w8.heap.size w8 w9)
    (I10 : Insd w9 out (rs.take i ++ [y]) v10 w10) (I11 : Insd w10 v10 (rs.take i ++ [y] ++ rs.drop j) v11 w11) (R12 : Rec19 w12 r 0 [v11]) (B12 : But r w11 w12) (hi : i = pos (rs.map PV.p) y.p.k) (hj : j = if has (rs.map PV.p) y.p.k then i + 1 else i) (hlen : has (rs.map PV.p) y.p.k = false → rs.length ≠ 64) : RLay W r lv rs y.p (.returned (.int .i64 0)) w12 := by
  have e0 : layC (rs.map PV.p) y.p = 0 ∧ layR (rs.map PV.p) y.p = layL (rs.map PV.p) y.p := by
    cases e : has (rs.map PV.p) y.p.k with
    | true => exact ⟨by unfold layC; rw [if_pos hm, if_pos e], by unfold layR; rw [if_pos hm, if_pos e]⟩
    | false =>
      have q := hlen e
      exact ⟨by unfold layC; rw [if_pos hm, if_neg (by rw [e]; simp), if_neg (by simpa using q)], by unfold layR; rw [if_pos hm, if_neg (by rw [e]; simp), if_neg (by simpa using q)]⟩
  have el : (rs.take i ++ [y] ++ rs.drop j).map PV.p = layL (rs.map PV.p) y.p := by
    rw [List.append_assoc, List.singleton_append, map_ins, hj, hi]
    unfold layL
    cases e : has (rs.map PV.p) y.p.k <;> simp
  have s5 := B5.size
  have s8 := Nat.le_trans s5 B8.size
  have s9 := Nat.le_trans s8 B9.size
  have s10 := Nat.le_trans s9 I10.off.size
  have B59 : Below w5.heap.size w5 w9 := B8.trans (B9.mono B8.size)
  have BW9 : Below W.heap.size W w9 := B5.trans (B59.mono s5)
  have n10 : ∀ b, b ∈ v10.ownBlock.toList → b ∈ out.ownBlock.toList ∨ w9.heap.size ≤ b := fun b hb => by
    cases e : v10.ownBlock with
    | none => rw [e] at hb; cases hb
    | some g => rw [e] at hb; simp at hb; subst hb; rcases I10.blk _ e with q | q; exact .inl (by rw [q]; simp); exact .inr q
  have n11 : ∀ b, b ∈ v11.ownBlock.toList → b ∈ v10.ownBlock.toList ∨ w10.heap.size ≤ b := fun b hb => by
    cases e : v11.ownBlock with
    | none => rw [e] at hb; cases hb
    | some g => rw [e] at hb; simp at hb; subst hb; rcases I11.blk _ e with q | q; exact .inl (by rw [q]; simp); exact .inr q
  have nout : ∀ b, b ∈ out.ownBlock.toList → W.heap.size ≤ b ∧ b < w5.heap.size := fun b hb => by
    cases e : out.ownBlock with
    | none => rw [e] at hb; cases hb
    | some g => rw [e] at hb; simp at hb; subst hb; exact ⟨n5 _ e, l5 _ e⟩
  have g10 : ∀ b, b ∈ v10.ownBlock.toList → W.heap.size ≤ b := fun b hb => by rcases n10 b hb with q | q; exact (nout b q).1; exact Nat.le_trans s9 q
  have g11 : ∀ b, b ∈ v11.ownBlock.toList → W.heap.size ≤ b := fun b hb => by rcases n11 b hb with q | q; exact g10 b q; exact Nat.le_trans s10 q
  have BW10 : Below W.heap.size W w10 := BW9.trans (I10.off.below (fun b hb => (nout b hb).1) s9)
  have BW11 : Below W.heap.size W w11 := BW10.trans (I11.off.below g10 s10)
  have hr := hT.rc.2.2
  have old : ∀ z ∈ rs, PVOk w12 (r :: v11.ownBlock.toList) z := fun z hz => by
    have a : PVOk W (r :: v11.ownBlock.toList) z := (hT.ok z hz).mono (fun b hb => by
      rcases List.mem_cons.1 hb with rfl | hb
      · exact .inl (by simp)
      · exact .inr (g11 b hb))
    have c : PVOk w11 (r :: v11.ownBlock.toList) z := a.below BW11
    exact c.off (Off.but B12 (by simp))
  have new : ∀ M : List Nat, (∀ b, b ∈ M → b < W.heap.size) → PVOk w12 (M ++ r :: v11.ownBlock.toList) y := fun M hM => by
    have a : PVOk w9 (M ++ r :: out.ownBlock.toList) y := (hy (M ++ r :: out.ownBlock.toList) (fun b hb => by
      rcases List.mem_append.1 hb with q | q
      · exact Nat.lt_of_lt_of_le (hM b q) s5
      · rcases List.mem_cons.1 q with rfl | q
        · exact Nat.lt_of_lt_of_le hr s5
        · exact (nout b q).2)).below B9
    have c : PVOk w10 (M ++ r :: v10.ownBlock.toList) y := (a.mono (fun b hb => by
      rcases List.mem_append.1 hb with q | q
      · exact .inl (by simp [q])
      · rcases List.mem_cons.1 q with rfl | q
        · exact .inl (by simp)
        · rcases n10 b q with q | q
          · exact .inl (by simp [q])
          · exact .inr q)).both (a.mono (M := out.ownBlock.toList) (fun b hb => .inl (by simp [hb]))) I10.off
    have d : PVOk w11 (M ++ r :: v11.ownBlock.toList) y := (c.mono (fun b hb => by
      rcases List.mem_append.1 hb with q | q
      · exact .inl (by simp [q])
      · rcases List.mem_cons.1 q with rfl | q
        · exact .inl (by simp)
        · rcases n11 b q with q | q
          · exact .inl (by simp [q])
          · exact .inr q)).both (c.mono (M := v10.ownBlock.toList) (fun b hb => .inl (by simp [hb]))) I11.off
    exact d.off (Off.but B12 (by simp))
  have ap : ∀ g, v11.ownBlock = some g → g ≠ r := fun g hg q => by have := g11 g (by simp [hg]); omega
  refine ⟨v11, rs.take i ++ [y] ++ rs.drop j, by rw [e0.1], ⟨I11.own.off (Off.but (bs := [r]) B12 (by simp)) (fun g hg q => ap g hg (by simpa using q)), R12, ap, fun z hz => ?_, by rw [el]; exact srt_layL _ _ hT.srt, ?_⟩, by rw [el, e0.2], (Off.of BW11).trans (Off.but B12 (by simp)), fun g hg => .inr (g11 g (by simp [hg])), fun z hz => ?_⟩
  · rcases List.mem_append.1 hz with hz | hz
    · rcases List.mem_append.1 hz with hz | hz
      · exact old z (List.mem_of_mem_take hz)
      · rcases List.mem_singleton.1 hz with rfl
        simpa using new [] (fun b hb => by cases hb)
    · exact old z (List.mem_of_mem_drop hz)
  · have q := congrArg List.length el
    rw [List.length_map, layL_len, List.length_map] at q
    have := hT.few
    rw [q]
    cases e : has (rs.map PV.p) y.p.k with
    | true => simpa using this
    | false => have := hlen e; simp; omega
  · rcases List.mem_append.1 hz with hz | hz
    · rcases List.mem_append.1 hz with hz | hz
      · exact .inl (List.mem_of_mem_take hz)
      · rcases List.mem_singleton.1 hz with rfl
        exact .inr (fun M hM => (new M hM).mono (fun b hb => .inl (by simp [hb])))
    · exact .inl (List.mem_of_mem_drop hz)
theorem v10_low {w9 w10 : World} {out v10 : Value} {ps : List PV} {H : Nat} (h : Insd w9 out ps v10 w10) (hN : ∀ b, b ∈ out.ownBlock.toList → H ≤ b) (h9 : H ≤ w9.heap.size) : ∀ b, b ∈ v10.ownBlock.toList → H ≤ b := fun b hb => by
  cases e : v10.ownBlock with
  | none => rw [e] at hb; cases hb
  | some g =>
    rw [e] at hb
    simp at hb
    subst hb
    rcases h.blk _ e with q | q
    · exact hN _ (by rw [q]; simp)
    · exact Nat.le_trans h9 q
set_option maxRecDepth 100000 in
set_option maxHeartbeats 8000000 in
theorem rlay_false {W : World} {N : List Nat} {r : Nat} {lv : Value} {rs : List PV} {x : PV} (hT : RT W r lv rs) (hx : PVOk W N x) (hm : may x.p) (hh : has (rs.map PV.p) x.p.k = false) (hn : has (rs.map PV.p) x.p.k = false → rs.length ≠ 64) : Calls Try.prog 48 #[.pointer (some ⟨r, 0, none⟩), .agg x.cs.toArray] W (RLay W r lv rs x.p) := by
  have HX := hidIt hx
  have HM := hidIt (mayE_yes hm)
  have HMM := hidIt hm
  have HH := hidIt hh
  have HNN := hidIt hn
  have HF := hidIt hT.few
  obtain ⟨i, hi⟩ : ∃ i, i = pos (rs.map PV.p) x.p.k := ⟨_, rfl⟩
  have HI := hidIt hi
  have hil : i ≤ rs.length := by rw [hi]; simpa using pos_le (rs.map PV.p) x.p.k
  have hjl : i ≤ rs.length := by exact hil
  have HJ : Hid (i = if has (rs.map PV.p) x.p.k then i + 1 else i) := hidIt (by rw [hh]; rfl)
  obtain ⟨a, cap, hv, hL⟩ := hT.lst
  subst hv
  have hok : ∀ x ∈ rs, PVOk W [] x := fun x hx => (hT.ok x hx).mono (fun b hb => by cases hb)
  obtain ⟨a1, c1, sl1, ll1⟩ := top_of hT.own hok i hil
  obtain ⟨a2, c2, sl2, ll2⟩ := low_of hT.own hok i hjl
  obtain ⟨n, hnn⟩ : ∃ n, n = rs.length := ⟨_, rfl⟩
  have QQ : Hid (∀ U, Below W.heap.size W U → U.cell? ⟨r, 0, none⟩ = some (.slice a n cap)) := hidIt (fun U hU => by rw [hnn]; exact ((hT.rc.below hU).cel 0 _ rfl).1)
  have n64 : (64 ≤ (n : Int)) = False := eq_false (by have := hT.few; have := hn hh; omega)
  rw [← hnn] at hT sl1 sl2
  have HT := hidIt hT
  have SL1 := hidIt sl1
  have SL2 := hidIt sl2
  have LL1 := hidIt ll1
  have LL2 := hidIt ll2
  have IL := hidIt (And.intro hil hjl)
  have HNL := hidIt hnn
  have i2 : wrap64 ((i : Int) + 1) = (i : Int) + 1 := by unfold wrap64; have := hT.few; omega
  have i3 : IntKind.i64.wrap ((i : Int) + 1) = (i : Int) + 1 := by rw [IntKind.wrap_i64]; have := hT.few; omega
  clear hT hx hm hh hi hn hil hjl hL hok sl1 sl2 ll1 ll2 hnn
  go_enter Try.func48, Try.ntmps48
  go_wp2_with (first
    | (refine wpList_box_rec rfl 47 (.tmp 1) rfl x.cs rfl W.heap.size rfl ?_; intro W1 R1 B1 z1; have E1 := hidIt B1; have P1 := hidIt R1; have T1 := hidIt (HT.out.below B1); have X1 := hidIt (HX.out.below B1); have c0 := (R1.cel 0 x.k rfl).1; have d1 := (R1.cel 1 x.v rfl).1; have d2 := (R1.cel 2 (.bool x.p.g) rfl).1; clear R1 B1 z1)
    | (go_at_call 19; refine (rcheck_any X1.out).mono ?_; rintro e W2 ⟨rfl, hb⟩; rw [HM.out]; clear c0 d1 d2; have E2 := hidIt (E1.out.trans (hb.mono E1.out.size)); have P2 := hidIt (P1.out.below hb); have T2 := hidIt (T1.out.below hb); have X2 := hidIt (X1.out.below hb); have d0 := (P2.out.cel 0 x.k rfl).1; clear hb)
    | (go_at_call 50; refine (rat_any T2.out X2.out.1).mono ?_; rintro e W3 ⟨rfl, hb⟩; rw [HH.out, ← HI.out]; clear d0; have E3 := hidIt (E2.out.trans (hb.mono E2.out.size)); have P3 := hidIt (P2.out.below hb); have q3 := QQ.out W3 E3.out; clear hb; refine Held.out ?_))
  obtain ⟨W4, hW4⟩ : ∃ W4, W4 = W3.alloc (.cells #[] 47) := ⟨_, rfl⟩
  have A4 : Below W3.heap.size W3 W4 := by rw [hW4]; exact (Below.refl _ _).alloc (Nat.le_refl _) _
  have OW : OwnP W4 0 (.slice (some ⟨W3.heap.size, 0, none⟩) 0 0) [] := by rw [hW4]; exact own_empty W3
  have E4 : Below W.heap.size W W4 := E3.out.trans (A4.mono E3.out.size)
  have q4 := QQ.out W4 E4
  have s1 := SL1.out W4
  have ti : (rs.take i).length = i := by rw [List.length_take]; exact Nat.min_eq_left IL.out.1
  obtain ⟨v5, W5, hr5, I5⟩ := app_any 27 W4 _ [] (rs.take i) a1 c1 OW (LL1.out.below E4) (by have := HF.out; simp; omega)
  obtain ⟨a5, c5, hv5, _⟩ := I5.own.slice
  have o5 := I5.own
  have n5 := ins_low I5 A4.size
  rw [List.nil_append, ti] at hv5
  rw [List.nil_append] at o5
  rw [ti] at hr5
  subst hv5
  have N5 : Hid (∀ b, b ∈ (Value.slice a5 i c5).ownBlock.toList → W.heap.size ≤ b) := hidIt (fun b hb => Nat.le_trans E3.out.size (n5 b hb))
  have B5 := hidIt (E4.trans ((I5.off.below (B := W3.heap.size) (by simp [Value.ownBlock]) A4.size).mono E3.out.size))
  have O5 : Hid (OwnP W5 0 (.slice a5 i c5) (rs.take i) ∧ True) := hidIt ⟨o5, trivial⟩
  have b35 : Below W3.heap.size W3 W5 := A4.trans (I5.off.below (B := W3.heap.size) (by simp [Value.ownBlock]) A4.size)
  have P5 := hidIt (P3.out.below b35)
  have HB : Hid (W.heap.size < W5.heap.size) := hidIt (Nat.lt_of_lt_of_le P3.out.2.2 b35.size)
  have CE : Hid (∀ U, Below W5.heap.size W5 U → U.cell? ⟨W.heap.size, 0, none⟩ = some x.k ∧ U.cell? ⟨W.heap.size, 1, none⟩ = some x.v ∧ U.cell? ⟨W.heap.size, 2, none⟩ = some (.bool x.p.g)) := hidIt (fun U hU => ⟨((P5.out.below hU).cel 0 _ rfl).1, ((P5.out.below hU).cel 1 _ rfl).1, ((P5.out.below hU).cel 2 _ rfl).1⟩)
  have XX : Hid (∀ U, Below W.heap.size W U → PVOk U [] x) := hidIt (fun U hU => (HX.out.mono (fun b hb => by cases hb)).below hU)
  have HNO : Hid (W.heap.size ∉ (Value.slice a5 i c5).ownBlock.toList) := hidIt (fun q => by have := n5 _ q; have := P3.out.2.2; omega)
  clear A4 OW E4 I5 o5 n5 ti b35
  subst hW4
  refine Held.mk ?_
  go_wp2_with (refine wpList_run_w (by rfl) (.slice a1 i c1) _ (slc_run (.tmp 32) none (some (.tmp 33)) rfl (.slice a n cap) none (some (.int .i64 (i : Int))) rfl rfl rfl a n cap rfl s1) ?_)
  have b0 : Below W5.heap.size W5 W5.drew := (Below.refl _ _).drew
  refine wp_region_noPanic ?_
  refine wp_region_held_drew (S := fun w' => w'.cell? ⟨W.heap.size, 0, none⟩ = some x.k ∧ w'.cell? ⟨W.heap.size, 1, none⟩ = some x.v ∧ w'.cell? ⟨W.heap.size, 2, none⟩ = some (.bool x.p.g)) (by kernel_rfl) ?_ (fun hHeld => ?_)
  · exact CE.out _ b0
  refine take_at (i := 0) (v := ?_) (some 36) rfl rfl (by kernel_rfl) (by kernel_rfl) (by kernel_rfl) (fun _ _ _ h => h) (Or.inl ⟨by rfl, ?_⟩) (by assumption) ?_
  rotate_left
  · (intro w hSw; (try dsimp only at hSw); go_simp; try with_reducible rfl)
  simp only [Act.put, List.setIfInBounds_toArray, List.set_cons_zero, List.set_cons_succ]
  refine take_at (i := 2) (v := ?_) (some 38) rfl rfl (by kernel_rfl) (by kernel_rfl) (by kernel_rfl) (fun _ _ _ h => h) (Or.inl ⟨by rfl, ?_⟩) (by assumption) ?_
  rotate_left
  · (intro w hSw; (try dsimp only at hSw); go_simp; try with_reducible rfl)
  simp only [Act.put, List.setIfInBounds_toArray, List.set_cons_zero, List.set_cons_succ]
  refine take_at (i := 3) (v := ?_) (some 39) rfl rfl (by kernel_rfl) (by kernel_rfl) (by kernel_rfl) (fun _ _ _ h => h) (Or.inl ⟨by rfl, ?_⟩) (by assumption) ?_
  rotate_left
  · (intro w hSw; (try dsimp only at hSw); go_simp; try with_reducible rfl)
  simp only [Act.put, List.setIfInBounds_toArray, List.set_cons_zero, List.set_cons_succ]
  refine take_at (i := 6) (v := ?_) (some 42) rfl rfl (by kernel_rfl) (by kernel_rfl) (by kernel_rfl) (fun _ _ _ h => h) (Or.inl ⟨by rfl, ?_⟩) (by assumption) ?_
  rotate_left
  · (intro w hSw; (try dsimp only at hSw); go_simp; try with_reducible rfl)
  simp only [Act.put, List.setIfInBounds_toArray, List.set_cons_zero, List.set_cons_succ]
  refine take_at (i := 7) (v := ?_) (some 43) rfl rfl (by kernel_rfl) (by kernel_rfl) (by kernel_rfl) (fun _ _ _ h => h) (Or.inl ⟨by rfl, ?_⟩) (by assumption) ?_
  rotate_left
  · (intro w hSw; (try dsimp only at hSw); go_simp; try with_reducible rfl)
  simp only [Act.put, List.setIfInBounds_toArray, List.set_cons_zero, List.set_cons_succ]
  refine take_at (i := 9) (v := ?_) (some 45) rfl rfl (by kernel_rfl) (by kernel_rfl) (by kernel_rfl) (fun _ _ _ h => h) (Or.inl ⟨by rfl, ?_⟩) (by assumption) ?_
  rotate_left
  · (intro w hSw; (try dsimp only at hSw); go_simp; try with_reducible rfl)
  simp only [Act.put, List.setIfInBounds_toArray, List.set_cons_zero, List.set_cons_succ]
  refine take_at (i := 10) (v := ?_) (some 46) rfl rfl (by kernel_rfl) (by kernel_rfl) (by kernel_rfl) (fun _ _ _ h => h) (Or.inl ⟨by rfl, ?_⟩) (by assumption) ?_
  rotate_left
  · (intro w hSw; (try dsimp only at hSw); go_simp; try with_reducible rfl)
  simp only [Act.put, List.setIfInBounds_toArray, List.set_cons_zero, List.set_cons_succ]
  have bW5d := b0
  obtain ⟨Wz, hWz⟩ : ∃ Wz, Wz = W5.drew := ⟨_, rfl⟩
  rw [← hWz] at hHeld bW5d ⊢
  have bWz : Below W5.heap.size W5 Wz := bW5d
  clear bW5d b0 hWz
  obtain ⟨Wa, hWa⟩ : ∃ Wa, Wa = Wz.alloc (.cells #[] 5) := ⟨_, rfl⟩
  have bWa : Below W5.heap.size W5 Wa := by rw [hWa]; exact bWz.alloc bWz.size _
  refine pair_at (i := 1) (j := 5) (some 37) (some 41) rfl rfl rfl rfl (by kernel_rfl) (by rfl) (by rfl) (.slice (some ⟨Wz.heap.size, 0, none⟩) 0 0) (.slice (some ⟨Wz.heap.size, 0, none⟩) 0 0) Wa Wa (by rw [hWa]; exact bs0u_run rfl) (by rw [hWa]; exact bs0u_run rfl) ⟨CE.out _ bWa, CE.out _ bWa⟩ (fun hHeld => ?_) (fun hHeld => ?_)
  · skip
    simp only [Act.put, List.setIfInBounds_toArray, List.set_cons_zero, List.set_cons_succ]
    obtain ⟨ka, kn, kC, Wb, hrk, Tk, ck⟩ := emp_app (XX.out Wa (B5.out.trans (bWa.mono B5.out.size))).1 (may_small HMM.out).1 33 Wz.heap.size
    have bWb : Below W5.heap.size W5 Wb := bWa.trans (ck.mono bWa.size)
    obtain ⟨Wc, hWc⟩ : ∃ Wc, Wc = Wa.alloc (.cells #[] 5) := ⟨_, rfl⟩
    have bWc : Below W5.heap.size W5 Wc := by rw [hWc]; exact bWa.alloc bWa.size _
    refine pair_at (i := 4) (j := 5) (some 40) (some 41) rfl rfl rfl rfl (by kernel_rfl) (by rfl) (by rfl) (.slice ka kn kC) (.slice (some ⟨Wa.heap.size, 0, none⟩) 0 0) Wb Wc (app_run (.tmp 37) (.tmp 39) 33 33 rfl _ _ rfl rfl hrk) (by rw [hWc]; exact bs0u_run rfl) ⟨CE.out _ bWb, CE.out _ bWc⟩ (fun hHeld => ?_) (fun hHeld => ?_)
    · skip
      simp only [Act.put, List.setIfInBounds_toArray, List.set_cons_zero, List.set_cons_succ]
      obtain ⟨Wd, hWd⟩ : ∃ Wd, Wd = Wb.alloc (.cells #[] 5) := ⟨_, rfl⟩
      have bWd : Below W5.heap.size W5 Wd := by rw [hWd]; exact bWb.alloc bWb.size _
      refine step_at (i := 5) (some 41) rfl rfl (by rfl) (by kernel_rfl) (.slice (some ⟨Wb.heap.size, 0, none⟩) 0 0) Wd (by rw [hWd]; exact bs0u_run rfl) (CE.out _ bWd) (fun hHeld => ?_)
      simp only [Act.put, List.setIfInBounds_toArray, List.set_cons_zero, List.set_cons_succ]
      obtain ⟨va, vn, vC, We, hrv, Tv, cv⟩ := emp_app (XX.out Wd (B5.out.trans (bWd.mono B5.out.size))).2 (may_small HMM.out).2 33 Wb.heap.size
      have bWe : Below W5.heap.size W5 We := bWd.trans (cv.mono bWd.size)
      refine step_at (i := 8) (some 44) rfl rfl (by rfl) (by kernel_rfl) (.slice va vn vC) We (app_run (.tmp 41) (.tmp 43) 33 33 rfl _ _ rfl rfl hrv) (CE.out _ bWe) (fun hHeld => ?_)
      simp only [Act.put, List.setIfInBounds_toArray, List.set_cons_zero, List.set_cons_succ]
      have e1 : Below Wb.heap.size Wb We := by have : Below Wb.heap.size Wb Wd := (by rw [hWd]; exact (Below.refl _ _).alloc (Nat.le_refl _) _); exact this.trans (cv.mono this.size)
      have K8 : ∀ M : List Nat, (∀ b, b ∈ M → b < W5.heap.size) → Txt We M (.slice ka kn kC) x.p.k := fun M hM => ((Tk M (fun b hb => Nat.lt_of_lt_of_le (hM b hb) bWa.size)).below e1)
      have V8 := fun (M : List Nat) (hM : ∀ b, b ∈ M → b < W5.heap.size) => Tv M (fun b hb => Nat.lt_of_lt_of_le (hM b hb) bWd.size)
      have BB8 := bWe
      have YO : PVOk We [] (PV.mk (.slice ka kn kC) (.slice va vn vC) x.p) := ⟨K8 [] (fun b hb => by cases hb), V8 [] (fun b hb => by cases hb)⟩
      have Y8 : Hid (∀ M : List Nat, (∀ b, b ∈ M → b < W5.heap.size) → PVOk We M (PV.mk (.slice ka kn kC) (.slice va vn vC) x.p)) := hidIt (fun M hM => ⟨K8 M hM, V8 M hM⟩)
      have A9 : Below We.heap.size We (We.alloc (.cells (PV.mk (.slice ka kn kC) (.slice va vn vC) x.p).cs.toArray 47)) := (Below.refl _ _).alloc (Nat.le_refl _) _
      have L9 : Lone (We.alloc (.cells (PV.mk (.slice ka kn kC) (.slice va vn vC) x.p).cs.toArray 47)) We.heap.size (PV.mk (.slice ka kn kC) (.slice va vn vC) x.p) := ⟨heap_alloc_new We _, YO.one⟩
      obtain ⟨W9, hW9⟩ : ∃ W9, W9 = We.alloc (.cells (PV.mk (.slice ka kn kC) (.slice va vn vC) x.p).cs.toArray 47) := ⟨_, rfl⟩
      rw [← hW9] at A9 L9
      have B59 : Below W5.heap.size W5 W9 := BB8.trans (A9.mono BB8.size)
      obtain ⟨v10, W10, hr10, I10⟩ := app_pairs 27 W9 (.slice a5 i c5) (rs.take i) [PV.mk (.slice ka kn kC) (.slice va vn vC) x.p] ⟨We.heap.size, 0, none⟩ 1 (O5.out.1.below B59) (fun j u hj => by rw [pcs_single] at hj; rw [Addr.add_mid, Nat.zero_add]; exact L9.cell j u hj) (by rw [pcs_single]; exact L9.2) (by simp) (by have := HF.out; simp; omega)
      simp only [List.length_singleton] at hr10
      have CE9 := CE.out W9 B59
      have B10 : Below W.heap.size W W10 := (B5.out.trans (B59.mono B5.out.size)).trans (I10.off.below (fun b hb => N5.out b hb) (Nat.le_trans B5.out.size B59.size))
      have P10 := (P5.out.below B59).off I10.off HNO.out
      have CE10 : W10.cell? ⟨W.heap.size, 0, none⟩ = some x.k ∧ W10.cell? ⟨W.heap.size, 1, none⟩ = some x.v ∧ W10.cell? ⟨W.heap.size, 2, none⟩ = some (.bool x.p.g) := ⟨(P10.cel 0 _ rfl).1, (P10.cel 1 _ rfl).1, (P10.cel 2 _ rfl).1⟩
      have q10 := QQ.out W10 B10
      obtain ⟨v11, W11, hr11, I11⟩ := app_any 27 W10 v10 (rs.take i ++ [PV.mk (.slice ka kn kC) (.slice va vn vC) x.p]) (rs.drop i) a2 c2 I10.own (LL2.out.below B10) (by have := HF.out; simp; omega)
      have B11 : Below W.heap.size W W11 := B10.trans (I11.off.below (v10_low I10 N5.out (Nat.le_trans B5.out.size B59.size)) B10.size)
      have R11 := hidIt (HT.out.rc.below B11)
      have FIN : Hid (∀ w12, Rec19 w12 r 0 [v11] → But r W11 w12 → RLay W r (.slice a n cap) rs x.p (.returned (.int .i64 0)) w12) := hidIt (fun w12 R12 B12 => rl_fin (y := PV.mk (.slice ka kn kC) (.slice va vn vC) x.p) (i := i) (j := i) HT.out HMM.out (fun g hg => N5.out g (by simp [hg])) (fun g hg => (World.ownsRow.lt O5.out.1 g hg).2) B5.out BB8 Y8.out A9 I10 I11 R12 B12 HI.out HJ.out HNN.out)
      have C11 : Hid (v11.cells.toList = [v11] ∧ v11.oneCell' = true) := hidIt (by obtain ⟨a11, c11, hv11, _⟩ := I11.own.slice; rw [hv11]; exact ⟨rfl, rfl⟩)
      have s2 := SL2.out W10
      rw [List.length_drop] at hr11 s2
      clear I10 I11 L9 YO B59 A9 B10 B11 K8 V8 BB8 P10
      refine take_at (i := 11) (v := .agg (PV.mk (.slice ka kn kC) (.slice va vn vC) x.p).cs.toArray) (some 47) rfl rfl (by kernel_rfl) (by kernel_rfl) (by kernel_rfl) (fun _ _ _ h => h) (Or.inl ⟨by rfl, fun w hSw => bld_run 47 _ rfl _ (by kernel_rfl)⟩) (by assumption) ?_
      simp only [Act.put, List.setIfInBounds_toArray, List.set_cons_zero, List.set_cons_succ]
      refine step_at (i := 12) (some 48) rfl rfl (by rfl) (by kernel_rfl) (.slice (some ⟨We.heap.size, 0, none⟩) 1 1) W9 (by rw [hW9]; exact bsl_run 27 47 1 _ rfl 3 56 _ _ _ under_pairs info_pair (by decide) (by decide) rfl (by kernel_rfl)) CE9 (fun hHeld => ?_)
      simp only [Act.put, List.setIfInBounds_toArray, List.set_cons_zero, List.set_cons_succ]
      refine step_at (i := 13) (some 49) rfl rfl (by rfl) (by kernel_rfl) v10 W10 (app_run (.tmp 36) (.tmp 48) 27 27 rfl _ _ rfl rfl hr10) CE10 (fun hHeld => ?_)
      simp only [Act.put, List.setIfInBounds_toArray, List.set_cons_zero, List.set_cons_succ]
      clear hr10 CE9 hW9
      refine take_at (i := 14) (v := ?_) (some 7) rfl rfl (by kernel_rfl) (by kernel_rfl) (by kernel_rfl) (fun _ _ _ h => h) (Or.inl ⟨by rfl, ?_⟩) (by assumption) ?_
      rotate_left
      · (intro w hSw; (try dsimp only at hSw); go_simp; try with_reducible rfl)
      simp only [Act.put, List.setIfInBounds_toArray, List.set_cons_zero, List.set_cons_succ]
      refine wpAnyH_done (by kernel_rfl) ?_ _
      refine NoPanic.normal ?_
      clear hHeld CE10
      go_wp2_with (refine wpList_put_rec rfl 27 (.tmp 63) (.tmp 61) rfl r 0 [.slice a n cap] [v11] [v11] v11 rfl rfl C11.out.1 R11.out (by show 0 + 1 ≤ 1; omega) rfl (by kernel_rfl) (by intro u hu; rcases List.mem_singleton.1 hu with rfl; exact C11.out.2) ?_; intro W12 R12 B12 z12; have F12 := hidIt (FIN.out W12 R12 B12); clear R12 B12 z12)
      exact bodyPost_ret (v := .int .i64 0) (by simp [results, Try.results48, go_sem]) rfl (by rw [← HNL.out]; exact F12.out)
    · skip
      simp only [Act.put, List.setIfInBounds_toArray, List.set_cons_zero, List.set_cons_succ]
      clear hrk Tk ck bWb Wb
      obtain ⟨ka, kn, kC, Wd, hrk, Tk, ck⟩ := emp_app (XX.out Wc (B5.out.trans (bWc.mono B5.out.size))).1 (may_small HMM.out).1 33 Wz.heap.size
      have bWd : Below W5.heap.size W5 Wd := bWc.trans (ck.mono bWc.size)
      refine step_at (i := 4) (some 40) rfl rfl (by rfl) (by kernel_rfl) (.slice ka kn kC) Wd (app_run (.tmp 37) (.tmp 39) 33 33 rfl _ _ rfl rfl hrk) (CE.out _ bWd) (fun hHeld => ?_)
      simp only [Act.put, List.setIfInBounds_toArray, List.set_cons_zero, List.set_cons_succ]
      obtain ⟨va, vn, vC, We, hrv, Tv, cv⟩ := emp_app (XX.out Wd (B5.out.trans (bWd.mono B5.out.size))).2 (may_small HMM.out).2 33 Wa.heap.size
      have bWe : Below W5.heap.size W5 We := bWd.trans (cv.mono bWd.size)
      refine step_at (i := 8) (some 44) rfl rfl (by rfl) (by kernel_rfl) (.slice va vn vC) We (app_run (.tmp 41) (.tmp 43) 33 33 rfl _ _ rfl rfl hrv) (CE.out _ bWe) (fun hHeld => ?_)
      simp only [Act.put, List.setIfInBounds_toArray, List.set_cons_zero, List.set_cons_succ]
      have K8 : ∀ M : List Nat, (∀ b, b ∈ M → b < W5.heap.size) → Txt We M (.slice ka kn kC) x.p.k := fun M hM => ((Tk M (fun b hb => Nat.lt_of_lt_of_le (hM b hb) bWc.size)).below cv)
      have V8 := fun (M : List Nat) (hM : ∀ b, b ∈ M → b < W5.heap.size) => Tv M (fun b hb => Nat.lt_of_lt_of_le (hM b hb) bWd.size)
      have BB8 := bWe
      have YO : PVOk We [] (PV.mk (.slice ka kn kC) (.slice va vn vC) x.p) := ⟨K8 [] (fun b hb => by cases hb), V8 [] (fun b hb => by cases hb)⟩
      have Y8 : Hid (∀ M : List Nat, (∀ b, b ∈ M → b < W5.heap.size) → PVOk We M (PV.mk (.slice ka kn kC) (.slice va vn vC) x.p)) := hidIt (fun M hM => ⟨K8 M hM, V8 M hM⟩)
      have A9 : Below We.heap.size We (We.alloc (.cells (PV.mk (.slice ka kn kC) (.slice va vn vC) x.p).cs.toArray 47)) := (Below.refl _ _).alloc (Nat.le_refl _) _
      have L9 : Lone (We.alloc (.cells (PV.mk (.slice ka kn kC) (.slice va vn vC) x.p).cs.toArray 47)) We.heap.size (PV.mk (.slice ka kn kC) (.slice va vn vC) x.p) := ⟨heap_alloc_new We _, YO.one⟩
      obtain ⟨W9, hW9⟩ : ∃ W9, W9 = We.alloc (.cells (PV.mk (.slice ka kn kC) (.slice va vn vC) x.p).cs.toArray 47) := ⟨_, rfl⟩
      rw [← hW9] at A9 L9
      have B59 : Below W5.heap.size W5 W9 := BB8.trans (A9.mono BB8.size)
      obtain ⟨v10, W10, hr10, I10⟩ := app_pairs 27 W9 (.slice a5 i c5) (rs.take i) [PV.mk (.slice ka kn kC) (.slice va vn vC) x.p] ⟨We.heap.size, 0, none⟩ 1 (O5.out.1.below B59) (fun j u hj => by rw [pcs_single] at hj; rw [Addr.add_mid, Nat.zero_add]; exact L9.cell j u hj) (by rw [pcs_single]; exact L9.2) (by simp) (by have := HF.out; simp; omega)
      simp only [List.length_singleton] at hr10
      have CE9 := CE.out W9 B59
      have B10 : Below W.heap.size W W10 := (B5.out.trans (B59.mono B5.out.size)).trans (I10.off.below (fun b hb => N5.out b hb) (Nat.le_trans B5.out.size B59.size))
      have P10 := (P5.out.below B59).off I10.off HNO.out
      have CE10 : W10.cell? ⟨W.heap.size, 0, none⟩ = some x.k ∧ W10.cell? ⟨W.heap.size, 1, none⟩ = some x.v ∧ W10.cell? ⟨W.heap.size, 2, none⟩ = some (.bool x.p.g) := ⟨(P10.cel 0 _ rfl).1, (P10.cel 1 _ rfl).1, (P10.cel 2 _ rfl).1⟩
      have q10 := QQ.out W10 B10
      obtain ⟨v11, W11, hr11, I11⟩ := app_any 27 W10 v10 (rs.take i ++ [PV.mk (.slice ka kn kC) (.slice va vn vC) x.p]) (rs.drop i) a2 c2 I10.own (LL2.out.below B10) (by have := HF.out; simp; omega)
      have B11 : Below W.heap.size W W11 := B10.trans (I11.off.below (v10_low I10 N5.out (Nat.le_trans B5.out.size B59.size)) B10.size)
      have R11 := hidIt (HT.out.rc.below B11)
      have FIN : Hid (∀ w12, Rec19 w12 r 0 [v11] → But r W11 w12 → RLay W r (.slice a n cap) rs x.p (.returned (.int .i64 0)) w12) := hidIt (fun w12 R12 B12 => rl_fin (y := PV.mk (.slice ka kn kC) (.slice va vn vC) x.p) (i := i) (j := i) HT.out HMM.out (fun g hg => N5.out g (by simp [hg])) (fun g hg => (World.ownsRow.lt O5.out.1 g hg).2) B5.out BB8 Y8.out A9 I10 I11 R12 B12 HI.out HJ.out HNN.out)
      have C11 : Hid (v11.cells.toList = [v11] ∧ v11.oneCell' = true) := hidIt (by obtain ⟨a11, c11, hv11, _⟩ := I11.own.slice; rw [hv11]; exact ⟨rfl, rfl⟩)
      have s2 := SL2.out W10
      rw [List.length_drop] at hr11 s2
      clear I10 I11 L9 YO B59 A9 B10 B11 K8 V8 BB8 P10
      refine take_at (i := 11) (v := .agg (PV.mk (.slice ka kn kC) (.slice va vn vC) x.p).cs.toArray) (some 47) rfl rfl (by kernel_rfl) (by kernel_rfl) (by kernel_rfl) (fun _ _ _ h => h) (Or.inl ⟨by rfl, fun w hSw => bld_run 47 _ rfl _ (by kernel_rfl)⟩) (by assumption) ?_
      simp only [Act.put, List.setIfInBounds_toArray, List.set_cons_zero, List.set_cons_succ]
      refine step_at (i := 12) (some 48) rfl rfl (by rfl) (by kernel_rfl) (.slice (some ⟨We.heap.size, 0, none⟩) 1 1) W9 (by rw [hW9]; exact bsl_run 27 47 1 _ rfl 3 56 _ _ _ under_pairs info_pair (by decide) (by decide) rfl (by kernel_rfl)) CE9 (fun hHeld => ?_)
      simp only [Act.put, List.setIfInBounds_toArray, List.set_cons_zero, List.set_cons_succ]
      refine step_at (i := 13) (some 49) rfl rfl (by rfl) (by kernel_rfl) v10 W10 (app_run (.tmp 36) (.tmp 48) 27 27 rfl _ _ rfl rfl hr10) CE10 (fun hHeld => ?_)
      simp only [Act.put, List.setIfInBounds_toArray, List.set_cons_zero, List.set_cons_succ]
      clear hr10 CE9 hW9
      refine take_at (i := 14) (v := ?_) (some 7) rfl rfl (by kernel_rfl) (by kernel_rfl) (by kernel_rfl) (fun _ _ _ h => h) (Or.inl ⟨by rfl, ?_⟩) (by assumption) ?_
      rotate_left
      · (intro w hSw; (try dsimp only at hSw); go_simp; try with_reducible rfl)
      simp only [Act.put, List.setIfInBounds_toArray, List.set_cons_zero, List.set_cons_succ]
      refine wpAnyH_done (by kernel_rfl) ?_ _
      refine NoPanic.normal ?_
      clear hHeld CE10
      go_wp2_with (refine wpList_put_rec rfl 27 (.tmp 63) (.tmp 61) rfl r 0 [.slice a n cap] [v11] [v11] v11 rfl rfl C11.out.1 R11.out (by show 0 + 1 ≤ 1; omega) rfl (by kernel_rfl) (by intro u hu; rcases List.mem_singleton.1 hu with rfl; exact C11.out.2) ?_; intro W12 R12 B12 z12; have F12 := hidIt (FIN.out W12 R12 B12); clear R12 B12 z12)
      exact bodyPost_ret (v := .int .i64 0) (by simp [results, Try.results48, go_sem]) rfl (by rw [← HNL.out]; exact F12.out)
  · skip
    simp only [Act.put, List.setIfInBounds_toArray, List.set_cons_zero, List.set_cons_succ]
    obtain ⟨Wb, hWb⟩ : ∃ Wb, Wb = Wa.alloc (.cells #[] 5) := ⟨_, rfl⟩
    have bWb : Below W5.heap.size W5 Wb := by rw [hWb]; exact bWa.alloc bWa.size _
    refine step_at (i := 1) (some 37) rfl rfl (by rfl) (by kernel_rfl) (.slice (some ⟨Wa.heap.size, 0, none⟩) 0 0) Wb (by rw [hWb]; exact bs0u_run rfl) (CE.out _ bWb) (fun hHeld => ?_)
    simp only [Act.put, List.setIfInBounds_toArray, List.set_cons_zero, List.set_cons_succ]
    obtain ⟨ka, kn, kC, Wc, hrk, Tk, ck⟩ := emp_app (XX.out Wb (B5.out.trans (bWb.mono B5.out.size))).1 (may_small HMM.out).1 33 Wa.heap.size
    have bWc : Below W5.heap.size W5 Wc := bWb.trans (ck.mono bWb.size)
    refine step_at (i := 4) (some 40) rfl rfl (by rfl) (by kernel_rfl) (.slice ka kn kC) Wc (app_run (.tmp 37) (.tmp 39) 33 33 rfl _ _ rfl rfl hrk) (CE.out _ bWc) (fun hHeld => ?_)
    simp only [Act.put, List.setIfInBounds_toArray, List.set_cons_zero, List.set_cons_succ]
    obtain ⟨va, vn, vC, Wd, hrv, Tv, cv⟩ := emp_app (XX.out Wc (B5.out.trans (bWc.mono B5.out.size))).2 (may_small HMM.out).2 33 Wz.heap.size
    have bWd : Below W5.heap.size W5 Wd := bWc.trans (cv.mono bWc.size)
    refine step_at (i := 8) (some 44) rfl rfl (by rfl) (by kernel_rfl) (.slice va vn vC) Wd (app_run (.tmp 41) (.tmp 43) 33 33 rfl _ _ rfl rfl hrv) (CE.out _ bWd) (fun hHeld => ?_)
    simp only [Act.put, List.setIfInBounds_toArray, List.set_cons_zero, List.set_cons_succ]
    have K8 : ∀ M : List Nat, (∀ b, b ∈ M → b < W5.heap.size) → Txt Wd M (.slice ka kn kC) x.p.k := fun M hM => ((Tk M (fun b hb => Nat.lt_of_lt_of_le (hM b hb) bWb.size)).below cv)
    have V8 := fun (M : List Nat) (hM : ∀ b, b ∈ M → b < W5.heap.size) => Tv M (fun b hb => Nat.lt_of_lt_of_le (hM b hb) bWc.size)
    have BB8 := bWd
    have YO : PVOk Wd [] (PV.mk (.slice ka kn kC) (.slice va vn vC) x.p) := ⟨K8 [] (fun b hb => by cases hb), V8 [] (fun b hb => by cases hb)⟩
    have Y8 : Hid (∀ M : List Nat, (∀ b, b ∈ M → b < W5.heap.size) → PVOk Wd M (PV.mk (.slice ka kn kC) (.slice va vn vC) x.p)) := hidIt (fun M hM => ⟨K8 M hM, V8 M hM⟩)
    have A9 : Below Wd.heap.size Wd (Wd.alloc (.cells (PV.mk (.slice ka kn kC) (.slice va vn vC) x.p).cs.toArray 47)) := (Below.refl _ _).alloc (Nat.le_refl _) _
    have L9 : Lone (Wd.alloc (.cells (PV.mk (.slice ka kn kC) (.slice va vn vC) x.p).cs.toArray 47)) Wd.heap.size (PV.mk (.slice ka kn kC) (.slice va vn vC) x.p) := ⟨heap_alloc_new Wd _, YO.one⟩
    obtain ⟨W9, hW9⟩ : ∃ W9, W9 = Wd.alloc (.cells (PV.mk (.slice ka kn kC) (.slice va vn vC) x.p).cs.toArray 47) := ⟨_, rfl⟩
    rw [← hW9] at A9 L9
    have B59 : Below W5.heap.size W5 W9 := BB8.trans (A9.mono BB8.size)
    obtain ⟨v10, W10, hr10, I10⟩ := app_pairs 27 W9 (.slice a5 i c5) (rs.take i) [PV.mk (.slice ka kn kC) (.slice va vn vC) x.p] ⟨Wd.heap.size, 0, none⟩ 1 (O5.out.1.below B59) (fun j u hj => by rw [pcs_single] at hj; rw [Addr.add_mid, Nat.zero_add]; exact L9.cell j u hj) (by rw [pcs_single]; exact L9.2) (by simp) (by have := HF.out; simp; omega)
    simp only [List.length_singleton] at hr10
    have CE9 := CE.out W9 B59
    have B10 : Below W.heap.size W W10 := (B5.out.trans (B59.mono B5.out.size)).trans (I10.off.below (fun b hb => N5.out b hb) (Nat.le_trans B5.out.size B59.size))
    have P10 := (P5.out.below B59).off I10.off HNO.out
    have CE10 : W10.cell? ⟨W.heap.size, 0, none⟩ = some x.k ∧ W10.cell? ⟨W.heap.size, 1, none⟩ = some x.v ∧ W10.cell? ⟨W.heap.size, 2, none⟩ = some (.bool x.p.g) := ⟨(P10.cel 0 _ rfl).1, (P10.cel 1 _ rfl).1, (P10.cel 2 _ rfl).1⟩
    have q10 := QQ.out W10 B10
    obtain ⟨v11, W11, hr11, I11⟩ := app_any 27 W10 v10 (rs.take i ++ [PV.mk (.slice ka kn kC) (.slice va vn vC) x.p]) (rs.drop i) a2 c2 I10.own (LL2.out.below B10) (by have := HF.out; simp; omega)
    have B11 : Below W.heap.size W W11 := B10.trans (I11.off.below (v10_low I10 N5.out (Nat.le_trans B5.out.size B59.size)) B10.size)
    have R11 := hidIt (HT.out.rc.below B11)
    have FIN : Hid (∀ w12, Rec19 w12 r 0 [v11] → But r W11 w12 → RLay W r (.slice a n cap) rs x.p (.returned (.int .i64 0)) w12) := hidIt (fun w12 R12 B12 => rl_fin (y := PV.mk (.slice ka kn kC) (.slice va vn vC) x.p) (i := i) (j := i) HT.out HMM.out (fun g hg => N5.out g (by simp [hg])) (fun g hg => (World.ownsRow.lt O5.out.1 g hg).2) B5.out BB8 Y8.out A9 I10 I11 R12 B12 HI.out HJ.out HNN.out)
    have C11 : Hid (v11.cells.toList = [v11] ∧ v11.oneCell' = true) := hidIt (by obtain ⟨a11, c11, hv11, _⟩ := I11.own.slice; rw [hv11]; exact ⟨rfl, rfl⟩)
    have s2 := SL2.out W10
    rw [List.length_drop] at hr11 s2
    clear I10 I11 L9 YO B59 A9 B10 B11 K8 V8 BB8 P10
    refine take_at (i := 11) (v := .agg (PV.mk (.slice ka kn kC) (.slice va vn vC) x.p).cs.toArray) (some 47) rfl rfl (by kernel_rfl) (by kernel_rfl) (by kernel_rfl) (fun _ _ _ h => h) (Or.inl ⟨by rfl, fun w hSw => bld_run 47 _ rfl _ (by kernel_rfl)⟩) (by assumption) ?_
    simp only [Act.put, List.setIfInBounds_toArray, List.set_cons_zero, List.set_cons_succ]
    refine step_at (i := 12) (some 48) rfl rfl (by rfl) (by kernel_rfl) (.slice (some ⟨Wd.heap.size, 0, none⟩) 1 1) W9 (by rw [hW9]; exact bsl_run 27 47 1 _ rfl 3 56 _ _ _ under_pairs info_pair (by decide) (by decide) rfl (by kernel_rfl)) CE9 (fun hHeld => ?_)
    simp only [Act.put, List.setIfInBounds_toArray, List.set_cons_zero, List.set_cons_succ]
    refine step_at (i := 13) (some 49) rfl rfl (by rfl) (by kernel_rfl) v10 W10 (app_run (.tmp 36) (.tmp 48) 27 27 rfl _ _ rfl rfl hr10) CE10 (fun hHeld => ?_)
    simp only [Act.put, List.setIfInBounds_toArray, List.set_cons_zero, List.set_cons_succ]
    clear hr10 CE9 hW9
    refine take_at (i := 14) (v := ?_) (some 7) rfl rfl (by kernel_rfl) (by kernel_rfl) (by kernel_rfl) (fun _ _ _ h => h) (Or.inl ⟨by rfl, ?_⟩) (by assumption) ?_
    rotate_left
    · (intro w hSw; (try dsimp only at hSw); go_simp; try with_reducible rfl)
    simp only [Act.put, List.setIfInBounds_toArray, List.set_cons_zero, List.set_cons_succ]
    refine wpAnyH_done (by kernel_rfl) ?_ _
    refine NoPanic.normal ?_
    clear hHeld CE10
    go_wp2_with (refine wpList_put_rec rfl 27 (.tmp 63) (.tmp 61) rfl r 0 [.slice a n cap] [v11] [v11] v11 rfl rfl C11.out.1 R11.out (by show 0 + 1 ≤ 1; omega) rfl (by kernel_rfl) (by intro u hu; rcases List.mem_singleton.1 hu with rfl; exact C11.out.2) ?_; intro W12 R12 B12 z12; have F12 := hidIt (FIN.out W12 R12 B12); clear R12 B12 z12)
    exact bodyPost_ret (v := .int .i64 0) (by simp [results, Try.results48, go_sem]) rfl (by rw [← HNL.out]; exact F12.out)
set_option maxRecDepth 100000 in
set_option maxHeartbeats 8000000 in
theorem rlay_true {W : World} {N : List Nat} {r : Nat} {lv : Value} {rs : List PV} {x : PV} (hT : RT W r lv rs) (hx : PVOk W N x) (hm : may x.p) (hh : has (rs.map PV.p) x.p.k = true) (hn : has (rs.map PV.p) x.p.k = false → rs.length ≠ 64) : Calls Try.prog 48 #[.pointer (some ⟨r, 0, none⟩), .agg x.cs.toArray] W (RLay W r lv rs x.p) := by
  have HX := hidIt hx
  have HM := hidIt (mayE_yes hm)
  have HMM := hidIt hm
  have HH := hidIt hh
  have HNN := hidIt hn
  have HF := hidIt hT.few
  obtain ⟨i, hi⟩ : ∃ i, i = pos (rs.map PV.p) x.p.k := ⟨_, rfl⟩
  have HI := hidIt hi
  have hil : i ≤ rs.length := by rw [hi]; simpa using pos_le (rs.map PV.p) x.p.k
  have hjl : (i + 1) ≤ rs.length := by have := has_len _ _ hh; rw [← hi, List.length_map] at this; omega
  have HJ : Hid ((i + 1) = if has (rs.map PV.p) x.p.k then i + 1 else i) := hidIt (by rw [hh]; rfl)
  obtain ⟨a, cap, hv, hL⟩ := hT.lst
  subst hv
  have hok : ∀ x ∈ rs, PVOk W [] x := fun x hx => (hT.ok x hx).mono (fun b hb => by cases hb)
  obtain ⟨a1, c1, sl1, ll1⟩ := top_of hT.own hok i hil
  obtain ⟨a2, c2, sl2, ll2⟩ := low_of hT.own hok (i + 1) hjl
  obtain ⟨n, hnn⟩ : ∃ n, n = rs.length := ⟨_, rfl⟩
  have QQ : Hid (∀ U, Below W.heap.size W U → U.cell? ⟨r, 0, none⟩ = some (.slice a n cap)) := hidIt (fun U hU => by rw [hnn]; exact ((hT.rc.below hU).cel 0 _ rfl).1)
  rw [← hnn] at hT sl1 sl2
  have HT := hidIt hT
  have SL1 := hidIt sl1
  have SL2 := hidIt sl2
  have LL1 := hidIt ll1
  have LL2 := hidIt ll2
  have IL := hidIt (And.intro hil hjl)
  have HNL := hidIt hnn
  have i2 : wrap64 ((i : Int) + 1) = (i : Int) + 1 := by unfold wrap64; have := hT.few; omega
  have i3 : IntKind.i64.wrap ((i : Int) + 1) = (i : Int) + 1 := by rw [IntKind.wrap_i64]; have := hT.few; omega
  clear hT hx hm hh hi hn hil hjl hL hok sl1 sl2 ll1 ll2 hnn
  go_enter Try.func48, Try.ntmps48
  go_wp2_with (first
    | (refine wpList_box_rec rfl 47 (.tmp 1) rfl x.cs rfl W.heap.size rfl ?_; intro W1 R1 B1 z1; have E1 := hidIt B1; have P1 := hidIt R1; have T1 := hidIt (HT.out.below B1); have X1 := hidIt (HX.out.below B1); have c0 := (R1.cel 0 x.k rfl).1; have d1 := (R1.cel 1 x.v rfl).1; have d2 := (R1.cel 2 (.bool x.p.g) rfl).1; clear R1 B1 z1)
    | (go_at_call 19; refine (rcheck_any X1.out).mono ?_; rintro e W2 ⟨rfl, hb⟩; rw [HM.out]; clear c0 d1 d2; have E2 := hidIt (E1.out.trans (hb.mono E1.out.size)); have P2 := hidIt (P1.out.below hb); have T2 := hidIt (T1.out.below hb); have X2 := hidIt (X1.out.below hb); have d0 := (P2.out.cel 0 x.k rfl).1; clear hb)
    | (go_at_call 50; refine (rat_any T2.out X2.out.1).mono ?_; rintro e W3 ⟨rfl, hb⟩; rw [HH.out, ← HI.out]; clear d0; have E3 := hidIt (E2.out.trans (hb.mono E2.out.size)); have P3 := hidIt (P2.out.below hb); have q3 := QQ.out W3 E3.out; clear hb; refine Held.out ?_))
  obtain ⟨W4, hW4⟩ : ∃ W4, W4 = W3.alloc (.cells #[] 47) := ⟨_, rfl⟩
  have A4 : Below W3.heap.size W3 W4 := by rw [hW4]; exact (Below.refl _ _).alloc (Nat.le_refl _) _
  have OW : OwnP W4 0 (.slice (some ⟨W3.heap.size, 0, none⟩) 0 0) [] := by rw [hW4]; exact own_empty W3
  have E4 : Below W.heap.size W W4 := E3.out.trans (A4.mono E3.out.size)
  have q4 := QQ.out W4 E4
  have s1 := SL1.out W4
  have ti : (rs.take i).length = i := by rw [List.length_take]; exact Nat.min_eq_left IL.out.1
  obtain ⟨v5, W5, hr5, I5⟩ := app_any 27 W4 _ [] (rs.take i) a1 c1 OW (LL1.out.below E4) (by have := HF.out; simp; omega)
  obtain ⟨a5, c5, hv5, _⟩ := I5.own.slice
  have o5 := I5.own
  have n5 := ins_low I5 A4.size
  rw [List.nil_append, ti] at hv5
  rw [List.nil_append] at o5
  rw [ti] at hr5
  subst hv5
  have N5 : Hid (∀ b, b ∈ (Value.slice a5 i c5).ownBlock.toList → W.heap.size ≤ b) := hidIt (fun b hb => Nat.le_trans E3.out.size (n5 b hb))
  have B5 := hidIt (E4.trans ((I5.off.below (B := W3.heap.size) (by simp [Value.ownBlock]) A4.size).mono E3.out.size))
  have O5 : Hid (OwnP W5 0 (.slice a5 i c5) (rs.take i) ∧ True) := hidIt ⟨o5, trivial⟩
  have b35 : Below W3.heap.size W3 W5 := A4.trans (I5.off.below (B := W3.heap.size) (by simp [Value.ownBlock]) A4.size)
  have P5 := hidIt (P3.out.below b35)
  have HB : Hid (W.heap.size < W5.heap.size) := hidIt (Nat.lt_of_lt_of_le P3.out.2.2 b35.size)
  have CE : Hid (∀ U, Below W5.heap.size W5 U → U.cell? ⟨W.heap.size, 0, none⟩ = some x.k ∧ U.cell? ⟨W.heap.size, 1, none⟩ = some x.v ∧ U.cell? ⟨W.heap.size, 2, none⟩ = some (.bool x.p.g)) := hidIt (fun U hU => ⟨((P5.out.below hU).cel 0 _ rfl).1, ((P5.out.below hU).cel 1 _ rfl).1, ((P5.out.below hU).cel 2 _ rfl).1⟩)
  have XX : Hid (∀ U, Below W.heap.size W U → PVOk U [] x) := hidIt (fun U hU => (HX.out.mono (fun b hb => by cases hb)).below hU)
  have HNO : Hid (W.heap.size ∉ (Value.slice a5 i c5).ownBlock.toList) := hidIt (fun q => by have := n5 _ q; have := P3.out.2.2; omega)
  clear A4 OW E4 I5 o5 n5 ti b35
  subst hW4
  refine Held.mk ?_
  go_wp2_with (refine wpList_run_w (by rfl) (.slice a1 i c1) _ (slc_run (.tmp 32) none (some (.tmp 33)) rfl (.slice a n cap) none (some (.int .i64 (i : Int))) rfl rfl rfl a n cap rfl s1) ?_)
  have b0 : Below W5.heap.size W5 W5.drew := (Below.refl _ _).drew
  refine wp_region_noPanic ?_
  refine wp_region_held_drew (S := fun w' => w'.cell? ⟨W.heap.size, 0, none⟩ = some x.k ∧ w'.cell? ⟨W.heap.size, 1, none⟩ = some x.v ∧ w'.cell? ⟨W.heap.size, 2, none⟩ = some (.bool x.p.g)) (by kernel_rfl) ?_ (fun hHeld => ?_)
  · exact CE.out _ b0
  refine take_at (i := 0) (v := ?_) (some 36) rfl rfl (by kernel_rfl) (by kernel_rfl) (by kernel_rfl) (fun _ _ _ h => h) (Or.inl ⟨by rfl, ?_⟩) (by assumption) ?_
  rotate_left
  · (intro w hSw; (try dsimp only at hSw); go_simp; try with_reducible rfl)
  simp only [Act.put, List.setIfInBounds_toArray, List.set_cons_zero, List.set_cons_succ]
  refine take_at (i := 2) (v := ?_) (some 38) rfl rfl (by kernel_rfl) (by kernel_rfl) (by kernel_rfl) (fun _ _ _ h => h) (Or.inl ⟨by rfl, ?_⟩) (by assumption) ?_
  rotate_left
  · (intro w hSw; (try dsimp only at hSw); go_simp; try with_reducible rfl)
  simp only [Act.put, List.setIfInBounds_toArray, List.set_cons_zero, List.set_cons_succ]
  refine take_at (i := 3) (v := ?_) (some 39) rfl rfl (by kernel_rfl) (by kernel_rfl) (by kernel_rfl) (fun _ _ _ h => h) (Or.inl ⟨by rfl, ?_⟩) (by assumption) ?_
  rotate_left
  · (intro w hSw; (try dsimp only at hSw); go_simp; try with_reducible rfl)
  simp only [Act.put, List.setIfInBounds_toArray, List.set_cons_zero, List.set_cons_succ]
  refine take_at (i := 6) (v := ?_) (some 42) rfl rfl (by kernel_rfl) (by kernel_rfl) (by kernel_rfl) (fun _ _ _ h => h) (Or.inl ⟨by rfl, ?_⟩) (by assumption) ?_
  rotate_left
  · (intro w hSw; (try dsimp only at hSw); go_simp; try with_reducible rfl)
  simp only [Act.put, List.setIfInBounds_toArray, List.set_cons_zero, List.set_cons_succ]
  refine take_at (i := 7) (v := ?_) (some 43) rfl rfl (by kernel_rfl) (by kernel_rfl) (by kernel_rfl) (fun _ _ _ h => h) (Or.inl ⟨by rfl, ?_⟩) (by assumption) ?_
  rotate_left
  · (intro w hSw; (try dsimp only at hSw); go_simp; try with_reducible rfl)
  simp only [Act.put, List.setIfInBounds_toArray, List.set_cons_zero, List.set_cons_succ]
  refine take_at (i := 9) (v := ?_) (some 45) rfl rfl (by kernel_rfl) (by kernel_rfl) (by kernel_rfl) (fun _ _ _ h => h) (Or.inl ⟨by rfl, ?_⟩) (by assumption) ?_
  rotate_left
  · (intro w hSw; (try dsimp only at hSw); go_simp; try with_reducible rfl)
  simp only [Act.put, List.setIfInBounds_toArray, List.set_cons_zero, List.set_cons_succ]
  refine take_at (i := 10) (v := ?_) (some 46) rfl rfl (by kernel_rfl) (by kernel_rfl) (by kernel_rfl) (fun _ _ _ h => h) (Or.inl ⟨by rfl, ?_⟩) (by assumption) ?_
  rotate_left
  · (intro w hSw; (try dsimp only at hSw); go_simp; try with_reducible rfl)
  simp only [Act.put, List.setIfInBounds_toArray, List.set_cons_zero, List.set_cons_succ]
  have bW5d := b0
  obtain ⟨Wz, hWz⟩ : ∃ Wz, Wz = W5.drew := ⟨_, rfl⟩
  rw [← hWz] at hHeld bW5d ⊢
  have bWz : Below W5.heap.size W5 Wz := bW5d
  clear bW5d b0 hWz
  obtain ⟨Wa, hWa⟩ : ∃ Wa, Wa = Wz.alloc (.cells #[] 5) := ⟨_, rfl⟩
  have bWa : Below W5.heap.size W5 Wa := by rw [hWa]; exact bWz.alloc bWz.size _
  refine pair_at (i := 1) (j := 5) (some 37) (some 41) rfl rfl rfl rfl (by kernel_rfl) (by rfl) (by rfl) (.slice (some ⟨Wz.heap.size, 0, none⟩) 0 0) (.slice (some ⟨Wz.heap.size, 0, none⟩) 0 0) Wa Wa (by rw [hWa]; exact bs0u_run rfl) (by rw [hWa]; exact bs0u_run rfl) ⟨CE.out _ bWa, CE.out _ bWa⟩ (fun hHeld => ?_) (fun hHeld => ?_)
  · skip
    simp only [Act.put, List.setIfInBounds_toArray, List.set_cons_zero, List.set_cons_succ]
    obtain ⟨ka, kn, kC, Wb, hrk, Tk, ck⟩ := emp_app (XX.out Wa (B5.out.trans (bWa.mono B5.out.size))).1 (may_small HMM.out).1 33 Wz.heap.size
    have bWb : Below W5.heap.size W5 Wb := bWa.trans (ck.mono bWa.size)
    obtain ⟨Wc, hWc⟩ : ∃ Wc, Wc = Wa.alloc (.cells #[] 5) := ⟨_, rfl⟩
    have bWc : Below W5.heap.size W5 Wc := by rw [hWc]; exact bWa.alloc bWa.size _
    refine pair_at (i := 4) (j := 5) (some 40) (some 41) rfl rfl rfl rfl (by kernel_rfl) (by rfl) (by rfl) (.slice ka kn kC) (.slice (some ⟨Wa.heap.size, 0, none⟩) 0 0) Wb Wc (app_run (.tmp 37) (.tmp 39) 33 33 rfl _ _ rfl rfl hrk) (by rw [hWc]; exact bs0u_run rfl) ⟨CE.out _ bWb, CE.out _ bWc⟩ (fun hHeld => ?_) (fun hHeld => ?_)
    · skip
      simp only [Act.put, List.setIfInBounds_toArray, List.set_cons_zero, List.set_cons_succ]
      obtain ⟨Wd, hWd⟩ : ∃ Wd, Wd = Wb.alloc (.cells #[] 5) := ⟨_, rfl⟩
      have bWd : Below W5.heap.size W5 Wd := by rw [hWd]; exact bWb.alloc bWb.size _
      refine step_at (i := 5) (some 41) rfl rfl (by rfl) (by kernel_rfl) (.slice (some ⟨Wb.heap.size, 0, none⟩) 0 0) Wd (by rw [hWd]; exact bs0u_run rfl) (CE.out _ bWd) (fun hHeld => ?_)
      simp only [Act.put, List.setIfInBounds_toArray, List.set_cons_zero, List.set_cons_succ]
      obtain ⟨va, vn, vC, We, hrv, Tv, cv⟩ := emp_app (XX.out Wd (B5.out.trans (bWd.mono B5.out.size))).2 (may_small HMM.out).2 33 Wb.heap.size
      have bWe : Below W5.heap.size W5 We := bWd.trans (cv.mono bWd.size)
      refine step_at (i := 8) (some 44) rfl rfl (by rfl) (by kernel_rfl) (.slice va vn vC) We (app_run (.tmp 41) (.tmp 43) 33 33 rfl _ _ rfl rfl hrv) (CE.out _ bWe) (fun hHeld => ?_)
      simp only [Act.put, List.setIfInBounds_toArray, List.set_cons_zero, List.set_cons_succ]
      have e1 : Below Wb.heap.size Wb We := by have : Below Wb.heap.size Wb Wd := (by rw [hWd]; exact (Below.refl _ _).alloc (Nat.le_refl _) _); exact this.trans (cv.mono this.size)
      have K8 : ∀ M : List Nat, (∀ b, b ∈ M → b < W5.heap.size) → Txt We M (.slice ka kn kC) x.p.k := fun M hM => ((Tk M (fun b hb => Nat.lt_of_lt_of_le (hM b hb) bWa.size)).below e1)
      have V8 := fun (M : List Nat) (hM : ∀ b, b ∈ M → b < W5.heap.size) => Tv M (fun b hb => Nat.lt_of_lt_of_le (hM b hb) bWd.size)
      have BB8 := bWe
      have YO : PVOk We [] (PV.mk (.slice ka kn kC) (.slice va vn vC) x.p) := ⟨K8 [] (fun b hb => by cases hb), V8 [] (fun b hb => by cases hb)⟩
      have Y8 : Hid (∀ M : List Nat, (∀ b, b ∈ M → b < W5.heap.size) → PVOk We M (PV.mk (.slice ka kn kC) (.slice va vn vC) x.p)) := hidIt (fun M hM => ⟨K8 M hM, V8 M hM⟩)
      have A9 : Below We.heap.size We (We.alloc (.cells (PV.mk (.slice ka kn kC) (.slice va vn vC) x.p).cs.toArray 47)) := (Below.refl _ _).alloc (Nat.le_refl _) _
      have L9 : Lone (We.alloc (.cells (PV.mk (.slice ka kn kC) (.slice va vn vC) x.p).cs.toArray 47)) We.heap.size (PV.mk (.slice ka kn kC) (.slice va vn vC) x.p) := ⟨heap_alloc_new We _, YO.one⟩
      obtain ⟨W9, hW9⟩ : ∃ W9, W9 = We.alloc (.cells (PV.mk (.slice ka kn kC) (.slice va vn vC) x.p).cs.toArray 47) := ⟨_, rfl⟩
      rw [← hW9] at A9 L9
      have B59 : Below W5.heap.size W5 W9 := BB8.trans (A9.mono BB8.size)
      obtain ⟨v10, W10, hr10, I10⟩ := app_pairs 27 W9 (.slice a5 i c5) (rs.take i) [PV.mk (.slice ka kn kC) (.slice va vn vC) x.p] ⟨We.heap.size, 0, none⟩ 1 (O5.out.1.below B59) (fun j u hj => by rw [pcs_single] at hj; rw [Addr.add_mid, Nat.zero_add]; exact L9.cell j u hj) (by rw [pcs_single]; exact L9.2) (by simp) (by have := HF.out; simp; omega)
      simp only [List.length_singleton] at hr10
      have CE9 := CE.out W9 B59
      have B10 : Below W.heap.size W W10 := (B5.out.trans (B59.mono B5.out.size)).trans (I10.off.below (fun b hb => N5.out b hb) (Nat.le_trans B5.out.size B59.size))
      have P10 := (P5.out.below B59).off I10.off HNO.out
      have CE10 : W10.cell? ⟨W.heap.size, 0, none⟩ = some x.k ∧ W10.cell? ⟨W.heap.size, 1, none⟩ = some x.v ∧ W10.cell? ⟨W.heap.size, 2, none⟩ = some (.bool x.p.g) := ⟨(P10.cel 0 _ rfl).1, (P10.cel 1 _ rfl).1, (P10.cel 2 _ rfl).1⟩
      have q10 := QQ.out W10 B10
      obtain ⟨v11, W11, hr11, I11⟩ := app_any 27 W10 v10 (rs.take i ++ [PV.mk (.slice ka kn kC) (.slice va vn vC) x.p]) (rs.drop (i + 1)) a2 c2 I10.own (LL2.out.below B10) (by have := HF.out; simp; omega)
      have B11 : Below W.heap.size W W11 := B10.trans (I11.off.below (v10_low I10 N5.out (Nat.le_trans B5.out.size B59.size)) B10.size)
      have R11 := hidIt (HT.out.rc.below B11)
      have FIN : Hid (∀ w12, Rec19 w12 r 0 [v11] → But r W11 w12 → RLay W r (.slice a n cap) rs x.p (.returned (.int .i64 0)) w12) := hidIt (fun w12 R12 B12 => rl_fin (y := PV.mk (.slice ka kn kC) (.slice va vn vC) x.p) (i := i) (j := (i + 1)) HT.out HMM.out (fun g hg => N5.out g (by simp [hg])) (fun g hg => (World.ownsRow.lt O5.out.1 g hg).2) B5.out BB8 Y8.out A9 I10 I11 R12 B12 HI.out HJ.out HNN.out)
      have C11 : Hid (v11.cells.toList = [v11] ∧ v11.oneCell' = true) := hidIt (by obtain ⟨a11, c11, hv11, _⟩ := I11.own.slice; rw [hv11]; exact ⟨rfl, rfl⟩)
      have s2 := SL2.out W10
      rw [List.length_drop] at hr11 s2
      rw [show ((i + 1 : Nat) : Int) = (i : Int) + 1 from rfl] at s2
      clear I10 I11 L9 YO B59 A9 B10 B11 K8 V8 BB8 P10
      refine take_at (i := 11) (v := .agg (PV.mk (.slice ka kn kC) (.slice va vn vC) x.p).cs.toArray) (some 47) rfl rfl (by kernel_rfl) (by kernel_rfl) (by kernel_rfl) (fun _ _ _ h => h) (Or.inl ⟨by rfl, fun w hSw => bld_run 47 _ rfl _ (by kernel_rfl)⟩) (by assumption) ?_
      simp only [Act.put, List.setIfInBounds_toArray, List.set_cons_zero, List.set_cons_succ]
      refine step_at (i := 12) (some 48) rfl rfl (by rfl) (by kernel_rfl) (.slice (some ⟨We.heap.size, 0, none⟩) 1 1) W9 (by rw [hW9]; exact bsl_run 27 47 1 _ rfl 3 56 _ _ _ under_pairs info_pair (by decide) (by decide) rfl (by kernel_rfl)) CE9 (fun hHeld => ?_)
      simp only [Act.put, List.setIfInBounds_toArray, List.set_cons_zero, List.set_cons_succ]
      refine step_at (i := 13) (some 49) rfl rfl (by rfl) (by kernel_rfl) v10 W10 (app_run (.tmp 36) (.tmp 48) 27 27 rfl _ _ rfl rfl hr10) CE10 (fun hHeld => ?_)
      simp only [Act.put, List.setIfInBounds_toArray, List.set_cons_zero, List.set_cons_succ]
      clear hr10 CE9 hW9
      refine take_at (i := 14) (v := ?_) (some 7) rfl rfl (by kernel_rfl) (by kernel_rfl) (by kernel_rfl) (fun _ _ _ h => h) (Or.inl ⟨by rfl, ?_⟩) (by assumption) ?_
      rotate_left
      · (intro w hSw; (try dsimp only at hSw); go_simp; try with_reducible rfl)
      simp only [Act.put, List.setIfInBounds_toArray, List.set_cons_zero, List.set_cons_succ]
      refine wpAnyH_done (by kernel_rfl) ?_ _
      refine NoPanic.normal ?_
      clear hHeld CE10
      go_wp2_with (refine wpList_put_rec rfl 27 (.tmp 63) (.tmp 61) rfl r 0 [.slice a n cap] [v11] [v11] v11 rfl rfl C11.out.1 R11.out (by show 0 + 1 ≤ 1; omega) rfl (by kernel_rfl) (by intro u hu; rcases List.mem_singleton.1 hu with rfl; exact C11.out.2) ?_; intro W12 R12 B12 z12; have F12 := hidIt (FIN.out W12 R12 B12); clear R12 B12 z12)
      exact bodyPost_ret (v := .int .i64 0) (by simp [results, Try.results48, go_sem]) rfl (by rw [← HNL.out]; exact F12.out)
    · skip
      simp only [Act.put, List.setIfInBounds_toArray, List.set_cons_zero, List.set_cons_succ]
      clear hrk Tk ck bWb Wb
      obtain ⟨ka, kn, kC, Wd, hrk, Tk, ck⟩ := emp_app (XX.out Wc (B5.out.trans (bWc.mono B5.out.size))).1 (may_small HMM.out).1 33 Wz.heap.size
      have bWd : Below W5.heap.size W5 Wd := bWc.trans (ck.mono bWc.size)
      refine step_at (i := 4) (some 40) rfl rfl (by rfl) (by kernel_rfl) (.slice ka kn kC) Wd (app_run (.tmp 37) (.tmp 39) 33 33 rfl _ _ rfl rfl hrk) (CE.out _ bWd) (fun hHeld => ?_)
      simp only [Act.put, List.setIfInBounds_toArray, List.set_cons_zero, List.set_cons_succ]
      obtain ⟨va, vn, vC, We, hrv, Tv, cv⟩ := emp_app (XX.out Wd (B5.out.trans (bWd.mono B5.out.size))).2 (may_small HMM.out).2 33 Wa.heap.size
      have bWe : Below W5.heap.size W5 We := bWd.trans (cv.mono bWd.size)
      refine step_at (i := 8) (some 44) rfl rfl (by rfl) (by kernel_rfl) (.slice va vn vC) We (app_run (.tmp 41) (.tmp 43) 33 33 rfl _ _ rfl rfl hrv) (CE.out _ bWe) (fun hHeld => ?_)
      simp only [Act.put, List.setIfInBounds_toArray, List.set_cons_zero, List.set_cons_succ]
      have K8 : ∀ M : List Nat, (∀ b, b ∈ M → b < W5.heap.size) → Txt We M (.slice ka kn kC) x.p.k := fun M hM => ((Tk M (fun b hb => Nat.lt_of_lt_of_le (hM b hb) bWc.size)).below cv)
      have V8 := fun (M : List Nat) (hM : ∀ b, b ∈ M → b < W5.heap.size) => Tv M (fun b hb => Nat.lt_of_lt_of_le (hM b hb) bWd.size)
      have BB8 := bWe
      have YO : PVOk We [] (PV.mk (.slice ka kn kC) (.slice va vn vC) x.p) := ⟨K8 [] (fun b hb => by cases hb), V8 [] (fun b hb => by cases hb)⟩
      have Y8 : Hid (∀ M : List Nat, (∀ b, b ∈ M → b < W5.heap.size) → PVOk We M (PV.mk (.slice ka kn kC) (.slice va vn vC) x.p)) := hidIt (fun M hM => ⟨K8 M hM, V8 M hM⟩)
      have A9 : Below We.heap.size We (We.alloc (.cells (PV.mk (.slice ka kn kC) (.slice va vn vC) x.p).cs.toArray 47)) := (Below.refl _ _).alloc (Nat.le_refl _) _
      have L9 : Lone (We.alloc (.cells (PV.mk (.slice ka kn kC) (.slice va vn vC) x.p).cs.toArray 47)) We.heap.size (PV.mk (.slice ka kn kC) (.slice va vn vC) x.p) := ⟨heap_alloc_new We _, YO.one⟩
      obtain ⟨W9, hW9⟩ : ∃ W9, W9 = We.alloc (.cells (PV.mk (.slice ka kn kC) (.slice va vn vC) x.p).cs.toArray 47) := ⟨_, rfl⟩
      rw [← hW9] at A9 L9
      have B59 : Below W5.heap.size W5 W9 := BB8.trans (A9.mono BB8.size)
      obtain ⟨v10, W10, hr10, I10⟩ := app_pairs 27 W9 (.slice a5 i c5) (rs.take i) [PV.mk (.slice ka kn kC) (.slice va vn vC) x.p] ⟨We.heap.size, 0, none⟩ 1 (O5.out.1.below B59) (fun j u hj => by rw [pcs_single] at hj; rw [Addr.add_mid, Nat.zero_add]; exact L9.cell j u hj) (by rw [pcs_single]; exact L9.2) (by simp) (by have := HF.out; simp; omega)
      simp only [List.length_singleton] at hr10
      have CE9 := CE.out W9 B59
      have B10 : Below W.heap.size W W10 := (B5.out.trans (B59.mono B5.out.size)).trans (I10.off.below (fun b hb => N5.out b hb) (Nat.le_trans B5.out.size B59.size))
      have P10 := (P5.out.below B59).off I10.off HNO.out
      have CE10 : W10.cell? ⟨W.heap.size, 0, none⟩ = some x.k ∧ W10.cell? ⟨W.heap.size, 1, none⟩ = some x.v ∧ W10.cell? ⟨W.heap.size, 2, none⟩ = some (.bool x.p.g) := ⟨(P10.cel 0 _ rfl).1, (P10.cel 1 _ rfl).1, (P10.cel 2 _ rfl).1⟩
      have q10 := QQ.out W10 B10
      obtain ⟨v11, W11, hr11, I11⟩ := app_any 27 W10 v10 (rs.take i ++ [PV.mk (.slice ka kn kC) (.slice va vn vC) x.p]) (rs.drop (i + 1)) a2 c2 I10.own (LL2.out.below B10) (by have := HF.out; simp; omega)
      have B11 : Below W.heap.size W W11 := B10.trans (I11.off.below (v10_low I10 N5.out (Nat.le_trans B5.out.size B59.size)) B10.size)
      have R11 := hidIt (HT.out.rc.below B11)
      have FIN : Hid (∀ w12, Rec19 w12 r 0 [v11] → But r W11 w12 → RLay W r (.slice a n cap) rs x.p (.returned (.int .i64 0)) w12) := hidIt (fun w12 R12 B12 => rl_fin (y := PV.mk (.slice ka kn kC) (.slice va vn vC) x.p) (i := i) (j := (i + 1)) HT.out HMM.out (fun g hg => N5.out g (by simp [hg])) (fun g hg => (World.ownsRow.lt O5.out.1 g hg).2) B5.out BB8 Y8.out A9 I10 I11 R12 B12 HI.out HJ.out HNN.out)
      have C11 : Hid (v11.cells.toList = [v11] ∧ v11.oneCell' = true) := hidIt (by obtain ⟨a11, c11, hv11, _⟩ := I11.own.slice; rw [hv11]; exact ⟨rfl, rfl⟩)
      have s2 := SL2.out W10
      rw [List.length_drop] at hr11 s2
      rw [show ((i + 1 : Nat) : Int) = (i : Int) + 1 from rfl] at s2
      clear I10 I11 L9 YO B59 A9 B10 B11 K8 V8 BB8 P10
      refine take_at (i := 11) (v := .agg (PV.mk (.slice ka kn kC) (.slice va vn vC) x.p).cs.toArray) (some 47) rfl rfl (by kernel_rfl) (by kernel_rfl) (by kernel_rfl) (fun _ _ _ h => h) (Or.inl ⟨by rfl, fun w hSw => bld_run 47 _ rfl _ (by kernel_rfl)⟩) (by assumption) ?_
      simp only [Act.put, List.setIfInBounds_toArray, List.set_cons_zero, List.set_cons_succ]
      refine step_at (i := 12) (some 48) rfl rfl (by rfl) (by kernel_rfl) (.slice (some ⟨We.heap.size, 0, none⟩) 1 1) W9 (by rw [hW9]; exact bsl_run 27 47 1 _ rfl 3 56 _ _ _ under_pairs info_pair (by decide) (by decide) rfl (by kernel_rfl)) CE9 (fun hHeld => ?_)
      simp only [Act.put, List.setIfInBounds_toArray, List.set_cons_zero, List.set_cons_succ]
      refine step_at (i := 13) (some 49) rfl rfl (by rfl) (by kernel_rfl) v10 W10 (app_run (.tmp 36) (.tmp 48) 27 27 rfl _ _ rfl rfl hr10) CE10 (fun hHeld => ?_)
      simp only [Act.put, List.setIfInBounds_toArray, List.set_cons_zero, List.set_cons_succ]
      clear hr10 CE9 hW9
      refine take_at (i := 14) (v := ?_) (some 7) rfl rfl (by kernel_rfl) (by kernel_rfl) (by kernel_rfl) (fun _ _ _ h => h) (Or.inl ⟨by rfl, ?_⟩) (by assumption) ?_
      rotate_left
      · (intro w hSw; (try dsimp only at hSw); go_simp; try with_reducible rfl)
      simp only [Act.put, List.setIfInBounds_toArray, List.set_cons_zero, List.set_cons_succ]
      refine wpAnyH_done (by kernel_rfl) ?_ _
      refine NoPanic.normal ?_
      clear hHeld CE10
      go_wp2_with (refine wpList_put_rec rfl 27 (.tmp 63) (.tmp 61) rfl r 0 [.slice a n cap] [v11] [v11] v11 rfl rfl C11.out.1 R11.out (by show 0 + 1 ≤ 1; omega) rfl (by kernel_rfl) (by intro u hu; rcases List.mem_singleton.1 hu with rfl; exact C11.out.2) ?_; intro W12 R12 B12 z12; have F12 := hidIt (FIN.out W12 R12 B12); clear R12 B12 z12)
      exact bodyPost_ret (v := .int .i64 0) (by simp [results, Try.results48, go_sem]) rfl (by rw [← HNL.out]; exact F12.out)
  · skip
    simp only [Act.put, List.setIfInBounds_toArray, List.set_cons_zero, List.set_cons_succ]
    obtain ⟨Wb, hWb⟩ : ∃ Wb, Wb = Wa.alloc (.cells #[] 5) := ⟨_, rfl⟩
    have bWb : Below W5.heap.size W5 Wb := by rw [hWb]; exact bWa.alloc bWa.size _
    refine step_at (i := 1) (some 37) rfl rfl (by rfl) (by kernel_rfl) (.slice (some ⟨Wa.heap.size, 0, none⟩) 0 0) Wb (by rw [hWb]; exact bs0u_run rfl) (CE.out _ bWb) (fun hHeld => ?_)
    simp only [Act.put, List.setIfInBounds_toArray, List.set_cons_zero, List.set_cons_succ]
    obtain ⟨ka, kn, kC, Wc, hrk, Tk, ck⟩ := emp_app (XX.out Wb (B5.out.trans (bWb.mono B5.out.size))).1 (may_small HMM.out).1 33 Wa.heap.size
    have bWc : Below W5.heap.size W5 Wc := bWb.trans (ck.mono bWb.size)
    refine step_at (i := 4) (some 40) rfl rfl (by rfl) (by kernel_rfl) (.slice ka kn kC) Wc (app_run (.tmp 37) (.tmp 39) 33 33 rfl _ _ rfl rfl hrk) (CE.out _ bWc) (fun hHeld => ?_)
    simp only [Act.put, List.setIfInBounds_toArray, List.set_cons_zero, List.set_cons_succ]
    obtain ⟨va, vn, vC, Wd, hrv, Tv, cv⟩ := emp_app (XX.out Wc (B5.out.trans (bWc.mono B5.out.size))).2 (may_small HMM.out).2 33 Wz.heap.size
    have bWd : Below W5.heap.size W5 Wd := bWc.trans (cv.mono bWc.size)
    refine step_at (i := 8) (some 44) rfl rfl (by rfl) (by kernel_rfl) (.slice va vn vC) Wd (app_run (.tmp 41) (.tmp 43) 33 33 rfl _ _ rfl rfl hrv) (CE.out _ bWd) (fun hHeld => ?_)
    simp only [Act.put, List.setIfInBounds_toArray, List.set_cons_zero, List.set_cons_succ]
    have K8 : ∀ M : List Nat, (∀ b, b ∈ M → b < W5.heap.size) → Txt Wd M (.slice ka kn kC) x.p.k := fun M hM => ((Tk M (fun b hb => Nat.lt_of_lt_of_le (hM b hb) bWb.size)).below cv)
    have V8 := fun (M : List Nat) (hM : ∀ b, b ∈ M → b < W5.heap.size) => Tv M (fun b hb => Nat.lt_of_lt_of_le (hM b hb) bWc.size)
    have BB8 := bWd
    have YO : PVOk Wd [] (PV.mk (.slice ka kn kC) (.slice va vn vC) x.p) := ⟨K8 [] (fun b hb => by cases hb), V8 [] (fun b hb => by cases hb)⟩
    have Y8 : Hid (∀ M : List Nat, (∀ b, b ∈ M → b < W5.heap.size) → PVOk Wd M (PV.mk (.slice ka kn kC) (.slice va vn vC) x.p)) := hidIt (fun M hM => ⟨K8 M hM, V8 M hM⟩)
    have A9 : Below Wd.heap.size Wd (Wd.alloc (.cells (PV.mk (.slice ka kn kC) (.slice va vn vC) x.p).cs.toArray 47)) := (Below.refl _ _).alloc (Nat.le_refl _) _
    have L9 : Lone (Wd.alloc (.cells (PV.mk (.slice ka kn kC) (.slice va vn vC) x.p).cs.toArray 47)) Wd.heap.size (PV.mk (.slice ka kn kC) (.slice va vn vC) x.p) := ⟨heap_alloc_new Wd _, YO.one⟩
    obtain ⟨W9, hW9⟩ : ∃ W9, W9 = Wd.alloc (.cells (PV.mk (.slice ka kn kC) (.slice va vn vC) x.p).cs.toArray 47) := ⟨_, rfl⟩
    rw [← hW9] at A9 L9
    have B59 : Below W5.heap.size W5 W9 := BB8.trans (A9.mono BB8.size)
    obtain ⟨v10, W10, hr10, I10⟩ := app_pairs 27 W9 (.slice a5 i c5) (rs.take i) [PV.mk (.slice ka kn kC) (.slice va vn vC) x.p] ⟨Wd.heap.size, 0, none⟩ 1 (O5.out.1.below B59) (fun j u hj => by rw [pcs_single] at hj; rw [Addr.add_mid, Nat.zero_add]; exact L9.cell j u hj) (by rw [pcs_single]; exact L9.2) (by simp) (by have := HF.out; simp; omega)
    simp only [List.length_singleton] at hr10
    have CE9 := CE.out W9 B59
    have B10 : Below W.heap.size W W10 := (B5.out.trans (B59.mono B5.out.size)).trans (I10.off.below (fun b hb => N5.out b hb) (Nat.le_trans B5.out.size B59.size))
    have P10 := (P5.out.below B59).off I10.off HNO.out
    have CE10 : W10.cell? ⟨W.heap.size, 0, none⟩ = some x.k ∧ W10.cell? ⟨W.heap.size, 1, none⟩ = some x.v ∧ W10.cell? ⟨W.heap.size, 2, none⟩ = some (.bool x.p.g) := ⟨(P10.cel 0 _ rfl).1, (P10.cel 1 _ rfl).1, (P10.cel 2 _ rfl).1⟩
    have q10 := QQ.out W10 B10
    obtain ⟨v11, W11, hr11, I11⟩ := app_any 27 W10 v10 (rs.take i ++ [PV.mk (.slice ka kn kC) (.slice va vn vC) x.p]) (rs.drop (i + 1)) a2 c2 I10.own (LL2.out.below B10) (by have := HF.out; simp; omega)
    have B11 : Below W.heap.size W W11 := B10.trans (I11.off.below (v10_low I10 N5.out (Nat.le_trans B5.out.size B59.size)) B10.size)
    have R11 := hidIt (HT.out.rc.below B11)
    have FIN : Hid (∀ w12, Rec19 w12 r 0 [v11] → But r W11 w12 → RLay W r (.slice a n cap) rs x.p (.returned (.int .i64 0)) w12) := hidIt (fun w12 R12 B12 => rl_fin (y := PV.mk (.slice ka kn kC) (.slice va vn vC) x.p) (i := i) (j := (i + 1)) HT.out HMM.out (fun g hg => N5.out g (by simp [hg])) (fun g hg => (World.ownsRow.lt O5.out.1 g hg).2) B5.out BB8 Y8.out A9 I10 I11 R12 B12 HI.out HJ.out HNN.out)
    have C11 : Hid (v11.cells.toList = [v11] ∧ v11.oneCell' = true) := hidIt (by obtain ⟨a11, c11, hv11, _⟩ := I11.own.slice; rw [hv11]; exact ⟨rfl, rfl⟩)
    have s2 := SL2.out W10
    rw [List.length_drop] at hr11 s2
    rw [show ((i + 1 : Nat) : Int) = (i : Int) + 1 from rfl] at s2
    clear I10 I11 L9 YO B59 A9 B10 B11 K8 V8 BB8 P10
    refine take_at (i := 11) (v := .agg (PV.mk (.slice ka kn kC) (.slice va vn vC) x.p).cs.toArray) (some 47) rfl rfl (by kernel_rfl) (by kernel_rfl) (by kernel_rfl) (fun _ _ _ h => h) (Or.inl ⟨by rfl, fun w hSw => bld_run 47 _ rfl _ (by kernel_rfl)⟩) (by assumption) ?_
    simp only [Act.put, List.setIfInBounds_toArray, List.set_cons_zero, List.set_cons_succ]
    refine step_at (i := 12) (some 48) rfl rfl (by rfl) (by kernel_rfl) (.slice (some ⟨Wd.heap.size, 0, none⟩) 1 1) W9 (by rw [hW9]; exact bsl_run 27 47 1 _ rfl 3 56 _ _ _ under_pairs info_pair (by decide) (by decide) rfl (by kernel_rfl)) CE9 (fun hHeld => ?_)
    simp only [Act.put, List.setIfInBounds_toArray, List.set_cons_zero, List.set_cons_succ]
    refine step_at (i := 13) (some 49) rfl rfl (by rfl) (by kernel_rfl) v10 W10 (app_run (.tmp 36) (.tmp 48) 27 27 rfl _ _ rfl rfl hr10) CE10 (fun hHeld => ?_)
    simp only [Act.put, List.setIfInBounds_toArray, List.set_cons_zero, List.set_cons_succ]
    clear hr10 CE9 hW9
    refine take_at (i := 14) (v := ?_) (some 7) rfl rfl (by kernel_rfl) (by kernel_rfl) (by kernel_rfl) (fun _ _ _ h => h) (Or.inl ⟨by rfl, ?_⟩) (by assumption) ?_
    rotate_left
    · (intro w hSw; (try dsimp only at hSw); go_simp; try with_reducible rfl)
    simp only [Act.put, List.setIfInBounds_toArray, List.set_cons_zero, List.set_cons_succ]
    refine wpAnyH_done (by kernel_rfl) ?_ _
    refine NoPanic.normal ?_
    clear hHeld CE10
    go_wp2_with (refine wpList_put_rec rfl 27 (.tmp 63) (.tmp 61) rfl r 0 [.slice a n cap] [v11] [v11] v11 rfl rfl C11.out.1 R11.out (by show 0 + 1 ≤ 1; omega) rfl (by kernel_rfl) (by intro u hu; rcases List.mem_singleton.1 hu with rfl; exact C11.out.2) ?_; intro W12 R12 B12 z12; have F12 := hidIt (FIN.out W12 R12 B12); clear R12 B12 z12)
    exact bodyPost_ret (v := .int .i64 0) (by simp [results, Try.results48, go_sem]) rfl (by rw [← HNL.out]; exact F12.out)
end Go.Proofs.Ytandkedipjmdbaa
