/-
  Proved: SuperblockBytes: for every superblock and all bytes, in whatever memory, on every schedule, the statement's function returns true: which superblocks may be, which bytes one has, and which one bytes are, is told as the document says; what is handed in stays, what is answered is new memory. No condition.
-/
import Derived.Test.YtfapmogjmjlokaaSVal
import Derived.Great.BuildSlice
import Derived.Test.YtfapmogjmjlokaaBApp
import Derived.Lib.AppendZerosOnto
import Derived.Test.YtfapmogjmjlokaaSLaid
import Derived.Test.YtfapmogjmjlokaaReg
import Derived.Test.YtfapmogjmjlokaaSChk2
import Derived.Deep.DeepCutAuto
import Derived.Test.YtfapmogjmjlokaaSSup
import Derived.Test.YtfapmogjmjlokaaHOpen
import Derived.Test.YtfapmogjmjlokaaSSof0
import Derived.Test.YtfapmogjmjlokaaGate
import Derived.Test.YtfapmogjmjlokaaBArg
import Derived.Test.YtfapmogjmjlokaaVG1
import Derived.Test.YtfapmogjmjlokaaNGate
import Derived.Test.YtfapmogjmjlokaaBFrame
namespace Go.Proofs.Ytfapmogjmjlokaa
open Go.RowKit
theorem vappend_run {a : Act} {w : World} {o : Oper} (d x : Operand) (dT sT : TypeId) (hop : o.op = Op.call { callee := Callee.builtin Builtin.append, args := #[d, x], argTypes := #[dT, sT] })
    (v u : Value) (hd : a.eval d = v) (hx : a.eval x = u) {v' : Value} {w' : World} (hr : (Builtin.append_ #[dT, sT] o.type #[v, u]).run Try.prog w = .ok v' w') : (execOp a.eval o).run Try.prog w = .ok (.value v') w' := by
  simp [execOp, hop, resolve, invoke, builtin, hd, hx, hr, Result.andThen]
theorem bs_run {a : Act} {w : World} {o : Oper} (t e : TypeId) (len : Nat) (parts : Array (Nat × Operand)) (ho : o.op = .buildSlice t len parts) (sz by' : Nat) (z : Value) (cells : Array Value) (vs : List (Nat × Value))
    (hu : Try.prog.underlying t = some (.slice e)) (hinfo : (Try.prog.info? e).map (fun i => (i.zero, i.size, i.bytes)) = some (some z, sz, by')) (hsmall : ¬ len * sz > 2 ^ 24) (hpos : ¬ len * sz = 0)
    (hv : (parts.map fun (i, x) => (i, a.eval x)).toList = vs) (hf : Instr.fill (fun i => some (i * sz, sz)) ((Array.range (len * sz)).map (z.cells[· % z.cells.size]!)) vs = some cells) :
    (execOp a.eval o).run Try.prog w = .ok (.value (.slice (some ⟨w.heap.size, 0, none⟩) len len)) (w.alloc (.cells cells e)) := by
  obtain ⟨ie, hie, hz0, hz1, _⟩ := info_parts hinfo
  unfold execOp
  simp only [ho, Sem.run_bind, run_buildSlice w t e len _ cells ie z hu hie hz0 (by rw [hz1]; exact hsmall) (by rw [hz1]; exact hpos) (by rw [hv, hz1]; exact hf), Result.andThen_ok]
  rfl
theorem info_int : (Try.prog.info? 3).map (fun i => (i.zero, i.size, i.bytes)) = some (some (.int .i64 0), 1, 8) := by kernel_rfl
end Go.Proofs.Ytfapmogjmjlokaa
namespace Go.Proofs.Ytfapmogjmjlokaa
open Go.RowKit
theorem zeroCells_cl (m : Nat) : (Builtin.zeroCells (Value.int .u8 0).cells m).toList = cl .u8 m (fun _ => 0) := by
  refine List.ext_getElem? fun j => ?_
  by_cases h : j < m
  · rw [cl_at .u8 m _ j h]
    simp [Builtin.zeroCells, Value.cells, h, Nat.mod_one]
  · rw [List.getElem?_eq_none (by simp [Builtin.zeroCells, Value.cells]; omega), List.getElem?_eq_none (by rw [cl_len]; omega)]
end Go.Proofs.Ytfapmogjmjlokaa
namespace Go.Proofs.Ytfapmogjmjlokaa
open Go.RowKit
/-- Such a slice has grown: in its own block, or in a new one. -/
def GrowP (W : World) (g base N : Nat) (F : Nat → Int) (v' : Value) (W' : World) : Prop := ∃ g' cap', v' = .slice (some ⟨g', 0, none⟩) N cap' ∧ (g' = g ∨ W.heap.size ≤ g') ∧ Own W' base v' N F ∧ But g W W'
theorem GrowP.congr {W : World} {g base N : Nat} {F G : Nat → Int} {v' : Value} {W' : World} (h : GrowP W g base N F v' W') (e : ∀ j, j < N → F j = G j) : GrowP W g base N G v' W' := by
  obtain ⟨g', cap', h1, h2, h3, h4⟩ := h
  exact ⟨g', cap', h1, h2, h3.congr e, h4⟩
theorem But.far {U W W' : World} {g g1 : Nat} (h1 : g1 = g ∨ U.heap.size ≤ g1) (hB : But g U W) (h4 : But g1 W W') : But g U W' :=
  ⟨h4.os.trans hB.os, h4.tape.trans hB.tape, h4.output.trans hB.output, Nat.le_trans hB.size h4.size, fun k hk hn => (h4.block k (Nat.lt_of_lt_of_le hk hB.size) (by omega)).trans (hB.block k hk hn)⟩
/-- From one to the next. -/
theorem GrowP.next {U W W' : World} {g g1 base M : Nat} {G : Nat → Int} {v' : Value} (h1 : g1 = g ∨ U.heap.size ≤ g1) (hB : But g U W) (h : GrowP W g1 base M G v' W') : GrowP U g base M G v' W' := by
  obtain ⟨g', cap', e, h2, h3, h4⟩ := h
  exact ⟨g', cap', e, by have := hB.size; omega, h3, But.far h1 hB h4⟩
theorem app_but (ty : TypeId) (W : World) (base n m C g cap : Nat) (a : Option Addr) (F G : Nat → Int) (ho : Own W base (.slice (some ⟨g, 0, none⟩) n cap) n F) (hm0 : 0 < m) (hA : Arg W a m G) (hm : n + m ≤ 1000000) (hbase : base ≤ W.heap.size) :
    ∃ v' W', (Builtin.append_ #[27, 27] ty #[.slice (some ⟨g, 0, none⟩) n cap, .slice a m C]).run Try.prog W = .ok v' W' ∧ GrowP W g base (n + m) (cat F n G) v' W' := by
  obtain ⟨i0, hi, hz0, hz1, hz2⟩ := info_parts info_u8
  have hlen : (cl .u8 n F ++ cl .u8 m G).length = n + m := by simp [cl_len]
  rcases hA with ⟨h, _⟩ | ⟨_, b, off, rfl, hl⟩
  · omega
  have hnews : ∀ j u, (cl .u8 m G)[j]? = some u → W.cell? ((⟨b, off, none⟩ : Addr).add j) = some u := fun j u hj => by obtain ⟨h, rfl⟩ := cl_at' hj; rw [Addr.add_mid]; exact hl.1 j h
  rcases ho.2 with ⟨h, _⟩ | ⟨g', cap', cur, hv, hbg, hg, hnc, hcm, hcs, htake⟩
  · cases h
  injection hv with hv _ hc
  injection hv with hv
  injection hv with hv
  subst hv hc
  by_cases hroom : n + m ≤ cap
  · have hr := run_append_room (P := Try.prog) W 27 ty 5 i0 Try.underlying27 hi g n cap cur hg ⟨b, off, none⟩ m C (cl .u8 m G) (by rw [cl_len, hz1, Nat.mul_one]) hnews (cl_one _ _ _) hroom (by rw [cl_len, hcs, hz1]; omega)
    refine ⟨_, _, hr, g, cap, rfl, .inl rfl, ⟨by simp [cl_len], .inr ⟨g, cap, _, rfl, hbg, setRow_heap W g cur _ 5 _ hg, hroom, hcm, ?_, ?_⟩⟩, ?_⟩
    · simp only [List.size_toArray, List.length_append, List.length_take, List.length_drop, Array.length_toList, cl_len, hz1]
      omega
    · rw [Nat.mul_one] at htake ⊢
      rw [hz1, Nat.mul_one, htake, ← cl_cat, ← hlen]
      exact List.take_left
    · exact ⟨rfl, rfl, rfl, by simp, fun k _ hk => setRow_other W g k _ (fun e => hk e)⟩
  · have holds : ∀ j u, (cl .u8 n F)[j]? = some u → W.cell? ((⟨g, 0, none⟩ : Addr).add j) = some u := World.ownsRow.cells (g := g) ho rfl
    have hfit : Builtin.nextslicecap (n + m) cap * i0.bytes ≤ 281474976710656 := growslice_fits (by omega) (by rw [hz2]; omega)
    have hr := run_append_grow (P := Try.prog) W 27 ty 5 i0 (.int .u8 0) Try.underlying27 hi hz0 ⟨g, 0, none⟩ n cap (cl .u8 n F) (by rw [cl_len, hz1, Nat.mul_one]) holds ⟨b, off, none⟩ m C (cl .u8 m G) (by rw [cl_len, hz1, Nat.mul_one]) hnews (by omega) (by omega) hfit
    have hge := grownCap_ge W (n + m) cap 5
    refine ⟨_, _, hr, W.heap.size, _, rfl, .inr (Nat.le_refl _), ⟨by simp [cl_len], .inr ⟨W.heap.size, _, _, rfl, hbase, heap_alloc_new W.drew _, hge, grownCap_le_maxLen W (n + m) cap 5 (by unfold maxLen; omega), ?_, ?_⟩⟩, ?_⟩
    · simp only [Array.size_append, List.size_toArray, size_zeroCells, cl_len, Value.cells, List.length_singleton]
      omega
    · simp only [Array.toList_append, List.append_assoc, Nat.mul_one]
      rw [← List.append_assoc, ← cl_cat, ← hlen]
      exact List.take_left
    · exact But.of ((Below.refl W.heap.size W).drew.alloc (Nat.le_refl _) _)
theorem zeros_but (ty : TypeId) (W : World) (base n m g cap : Nat) (F : Nat → Int) (ho : Own W base (.slice (some ⟨g, 0, none⟩) n cap) n F) (hm0 : 0 < m) (hm : n + m ≤ 1000000) (hbase : base ≤ W.heap.size) :
    ∃ v' W', (Builtin.append_ #[27, 3] ty #[.slice (some ⟨g, 0, none⟩) n cap, .int .i64 (m : Int)]).run Try.prog W = .ok v' W' ∧ GrowP W g base (n + m) (cat F n (fun _ => 0)) v' W' := by
  obtain ⟨i0, hi, hz0, hz1, hz2⟩ := info_parts info_u8
  have hlen : (cl .u8 n F ++ cl .u8 m (fun _ => 0)).length = n + m := by simp [cl_len]
  rcases ho.2 with ⟨h, _⟩ | ⟨g', cap', cur, hv, hbg, hg, hnc, hcm, hcs, htake⟩
  · cases h
  injection hv with hv _ hc
  injection hv with hv
  injection hv with hv
  subst hv hc
  by_cases hroom : n + m ≤ cap
  · have hst := run_storeCells_at Try.prog g n 5 (cl .u8 m (fun _ => 0)) 0 cur W hg (by rw [cl_len, hcs]; omega) (cl_one _ _ _)
    simp only [Nat.add_zero] at hst
    have hw : IntKind.i64.wrap (m : Int) = m := by rw [IntKind.wrap_i64]; omega
    have hneg : ¬ ((m : Int) < 0) := by omega
    have h48 : ¬ (281474976710656 < (m : Int)) := by omega
    have hm1 : ¬ m = 0 := by omega
    refine ⟨.slice (some ⟨g, 0, none⟩) (n + m) cap, W.setRow g (cur.toList.take n ++ cl .u8 m (fun _ => 0) ++ cur.toList.drop (n + m)).toArray, ?_, g, cap, rfl, .inl rfl, ?_, ?_⟩
    · rw [cl_len] at hst
      simp [Builtin.append_, run_underlying Try.underlying27, run_underlying Try.underlying3, sizeOf, typeInfo, zeroValue, hi, hz0, hz1, hz2, asInt, asIntOf, hw, hneg, h48, hm1, hroom, Addr.add_lit, zeroCells_cl, hst]
    · refine ⟨by simp [cl_len], .inr ⟨g, cap, _, rfl, hbg, setRow_heap W g cur _ 5 _ hg, hroom, hcm, ?_, ?_⟩⟩
      · simp only [List.size_toArray, List.length_append, List.length_take, List.length_drop, Array.length_toList, cl_len]
        omega
      · rw [Nat.mul_one] at htake ⊢
        rw [htake, ← cl_cat, ← hlen]
        exact List.take_left
    · exact ⟨rfl, rfl, rfl, by simp, fun k _ hk => setRow_other W g k _ (fun e => hk e)⟩
  · have holds : ∀ j u, (cl .u8 n F)[j]? = some u → W.drew.cell? ((⟨g, 0, none⟩ : Addr).add j) = some u := World.ownsRow.cells (g := g) ho rfl
    have hold : (Builtin.firstCells i0.size n (.slice (some ⟨g, 0, none⟩) n cap)).run Try.prog W.drew = .ok (cl .u8 n F).toArray W.drew := run_firstCells_some (P := Try.prog) W.drew i0.size n ⟨g, 0, none⟩ n cap (cl .u8 n F) (by rw [cl_len, hz1, Nat.mul_one]) holds
    have hfit : Builtin.nextslicecap (n + m) cap * i0.bytes ≤ 281474976710656 := growslice_fits (by omega) (by rw [hz2]; omega)
    have hr := Go.Lib.run_append_grow_zeros (P := Try.prog) W 27 3 ty 5 i0 (.int .u8 0) .i64 .i64 Try.underlying27 Try.underlying3 hi hz0 (some ⟨g, 0, none⟩) n cap (cl .u8 n F) hold m hm0 (by omega) (by omega) (by omega) (by rw [hz2]; omega) hfit
    have hge := grownCap_ge W (n + m) cap 5
    refine ⟨_, _, hr, W.heap.size, _, rfl, .inr (Nat.le_refl _), ⟨by simp [cl_len], .inr ⟨W.heap.size, _, _, rfl, hbase, heap_alloc_new W.drew _, hge, grownCap_le_maxLen W (n + m) cap 5 (by unfold maxLen; omega), ?_, ?_⟩⟩, ?_⟩
    · simp only [Array.size_append, List.size_toArray, size_zeroCells, cl_len, Value.cells, List.length_singleton]
      omega
    · simp only [Array.toList_append, List.append_assoc, zeroCells_cl, Nat.mul_one]
      rw [← List.append_assoc, ← cl_cat, ← hlen]
      exact List.take_left
    · exact But.of ((Below.refl W.heap.size W).drew.alloc (Nat.le_refl _) _)
end Go.Proofs.Ytfapmogjmjlokaa
namespace Go.Proofs.Ytfapmogjmjlokaa
open Go.RowKit
theorem num_11 (s : Sup) (fv : Int) (hf : fetN s.f = fv) : (cl .i64 (11 * 1) s.num).toArray = #[.int .i64 (s.x 0), .int .i64 (s.x 1), .int .i64 (s.x 2), .int .i64 (s.x 3), .int .i64 (s.x 4), .int .i64 (s.x 5), .int .i64 (s.x 6), .int .i64 (s.x 7), .int .i64 (s.x 8), .int .i64 fv, .int .i64 (s.k : Int)] := by
  subst hf
  rfl
def b1Rel (w W1 : World) (s : Sup) (v i : Value) (wr : World) : Prop := ∃ j : Nat, j ≤ s.k ∧ i = .int .i64 j ∧ OwnI wr (w.heap.size + 1) 3 1 v (11 + 2 * j) s.num ∧ Below (w.heap.size + 1) W1 wr
def b2Rel (W2 : World) (g L : Nat) (s : Sup) (v i : Value) (wr : World) : Prop := ∃ p : Nat, p ≤ L ∧ i = .int .i64 p ∧ (∃ q cap, v = .slice q (4 * p) cap) ∧ Own wr W2.heap.size v (4 * p) s.beh ∧ (∀ j, j < L → wr.cell? ⟨g, j, none⟩ = some (.int .i64 (s.num j))) ∧ Below W2.heap.size W2 wr
/-- Two heads more. -/
theorem b1_app (w W1 wr V : World) (s : Sup) (j : Nat) (v : Value) (hj : j < s.k) (hk : s.k ≤ 32) (ho : OwnI wr (w.heap.size + 1) 3 1 v (11 + 2 * j) s.num) (hB : Below (w.heap.size + 1) W1 wr) (hs : w.heap.size + 1 ≤ W1.heap.size) (hV : Below wr.heap.size wr V) :
    ∃ v' W', (Builtin.append_ #[106, 106] 106 #[v, .slice (some ⟨V.heap.size, 0, none⟩) 2 2]).run Try.prog (V.alloc (.cells #[.int .i64 (s.h (j * 2)), .int .i64 (s.h (j * 2 + 1))] 3)) = .ok v' W' ∧ OwnI W' (w.heap.size + 1) 3 1 v' (11 + 2 * (j + 1)) s.num ∧ Below (w.heap.size + 1) W1 W' := by
  have BA : Below V.heap.size V (V.alloc (.cells #[.int .i64 (s.h (j * 2)), .int .i64 (s.h (j * 2 + 1))] 3)) := (Below.refl _ _).alloc (Nat.le_refl _) _
  have z0 := hB.size
  have z1 := hV.size
  have z2 := BA.size
  obtain ⟨v', W', h1, h2, h3⟩ := OwnI.app (T := 106) (ty := 106) (C := 2) (m := 2) Try.underlying106 info_int rfl (by omega) (by omega) ((ho.below hV).below BA) V.heap.size 0 (G := fun q => if q = 0 then s.h (j * 2) else s.h (j * 2 + 1)) (fun q hq => by
    rw [Nat.zero_add, cell_of_row _ _ _ _ _ _ (heap_alloc_new _ _)]
    match q, hq with
    | 0, _ => rfl
    | 1, _ => rfl
    | q + 2, hq => omega) (by omega) (by omega)
  refine ⟨v', W', h1, ?_, ((hB.trans (hV.mono (by omega))).trans (BA.mono (by omega))).trans h3⟩
  have h2' : OwnI W' (w.heap.size + 1) 3 1 v' (11 + 2 * (j + 1)) (cat s.num ((11 + 2 * j) * 1) fun q => if q = 0 then s.h (j * 2) else s.h (j * 2 + 1)) := h2
  refine h2'.congr fun q hq => ?_
  unfold cat
  by_cases g : q < (11 + 2 * j) * 1
  · rw [if_pos g]
  · rw [if_neg g]
    show (if q - (11 + 2 * j) * 1 = 0 then s.h (j * 2) else s.h (j * 2 + 1)) = s.num q
    by_cases g0 : q = 11 + 2 * j
    · rw [if_pos (by omega), g0, num_h s (j * 2) (by omega), Nat.mul_comm]
    · rw [if_neg (by omega), show q = 11 + (j * 2 + 1) by omega, num_h s (j * 2 + 1) (by omega)]
/-- Four bytes more. -/
theorem b2_app (W2 wr V : World) (s : Sup) (p : Nat) (v : Value) (x c0 c1 c2 c3 : Int) (hx : s.num p = x) (hp : p ≤ 1000) (ho : Own wr W2.heap.size v (4 * p) s.beh) (hB : Below W2.heap.size W2 wr) (hV : Below wr.heap.size wr V) (h0 : c0 = byt x 0) (h1 : c1 = byt x 1) (h2 : c2 = byt x 2) (h3 : c3 = byt x 3) :
    ∃ v' W', (Builtin.append_ #[27, 27] 27 #[v, .slice (some ⟨V.heap.size, 0, none⟩) 4 4]).run Try.prog (V.alloc (.cells #[.int .u8 c0, .int .u8 c1, .int .u8 c2, .int .u8 c3] 5)) = .ok v' W' ∧ Own W' W2.heap.size v' (4 * (p + 1)) s.beh ∧ Below W2.heap.size W2 W' := by
  have BA : Below V.heap.size V (V.alloc (.cells #[.int .u8 c0, .int .u8 c1, .int .u8 c2, .int .u8 c3] 5)) := (Below.refl _ _).alloc (Nat.le_refl _) _
  have z0 := hB.size
  have z1 := hV.size
  have z2 := BA.size
  have hA : Arg (V.alloc (.cells #[.int .u8 c0, .int .u8 c1, .int .u8 c2, .int .u8 c3] 5)) (some ⟨V.heap.size, 0, none⟩) 4 (byt x) := Arg.of ⟨fun q hq => by
    rw [Nat.zero_add, cell_of_row _ _ _ _ _ _ (heap_alloc_new _ _)]
    match q, hq with
    | 0, _ => rw [h0]; rfl
    | 1, _ => rw [h1]; rfl
    | 2, _ => rw [h2]; rfl
    | 3, _ => rw [h3]; rfl
    | q + 4, hq => omega, fun q _ => byt_byte _ _, by simp⟩
  obtain ⟨v', W', k1, k2, k3⟩ := app_arg 27 _ W2.heap.size (4 * p) 4 4 v _ s.beh (byt x) ((ho.below hV).below BA) hA (by omega) (by omega)
  refine ⟨v', W', k1, ?_, ((hB.trans (hV.mono (by omega))).trans (BA.mono (by omega))).trans k3⟩
  have k2' : Own W' W2.heap.size v' (4 * (p + 1)) (cat s.beh (4 * p) (byt x)) := k2
  refine k2'.congr fun q hq => ?_
  unfold cat
  by_cases g : q < 4 * p
  · rw [if_pos g]
  · rw [if_neg g]
    unfold Sup.beh
    rw [show q / 4 = p by omega, hx, show q % 4 = q - 4 * p by omega]
theorem byt4 (x : Int) : IntKind.u8.wrap x = byt x 0 ∧ IntKind.u8.wrap (x / 256) = byt x 1 ∧ IntKind.u8.wrap (x / 65536) = byt x 2 ∧ IntKind.u8.wrap (x / 16777216) = byt x 3 := by
  unfold byt up8
  simp only [IntKind.wrap_u8]
  simp
  try omega
theorem Own.shape {w : World} {base : Nat} {v : Value} {n : Nat} {F : Nat → Int} (h : Own w base v n F) : ∃ q cap, v = .slice q n cap := by
  rcases h.2 with ⟨e, h0⟩ | ⟨g, cap, cur, e, _⟩
  · exact ⟨none, 0, by rw [e, h0]⟩
  · exact ⟨_, cap, e⟩
theorem beh_tail (s : Sup) (q : Nat) (hq : 4 * (11 + 2 * s.k) ≤ q) : s.beh q = 0 := by
  unfold Sup.beh
  have : s.num (q / 4) = 0 := by unfold Sup.num; rw [if_neg (by omega), if_neg (by omega), if_neg (by omega), if_neg (by omega)]
  rw [this]
  unfold byt up8
  simp
/-- What behind answers. -/
def BehP (w : World) (s : Sup) (e : Ending) (w' : World) : Prop := ∃ g cap, e = .returned (.slice (some ⟨g, 0, none⟩) 496 cap) ∧ w.heap.size ≤ g ∧ Arg w' (some ⟨g, 0, none⟩) 496 s.beh ∧ Below w.heap.size w w'
set_option maxRecDepth 100000 in
set_option maxHeartbeats 2000000 in
theorem behind_f (s : Sup) (a : Option Addr) (C : Nat) (w : World) (hA : HArg w a s.k s.h) (m : s.May) (hf : s.f = false) : Calls Try.prog 35 #[supV s a C] w (BehP w s) := by
  have HA : Hid (HArg w a s.k s.h) := hA
  have HM : Hid s.May := m
  have HF : Hid (fetN s.f = 0) := (by rw [hf]; rfl : fetN s.f = 0)
  have hk : s.k ≤ 32 := m.2.1
  clear hA m
  unfold supV
  go_enter Try.func35, Try.ntmps35
  go_wp2_with (first
    | (refine wpList_box_rec rfl 26 (.tmp 0) rfl (supC s a C) rfl w.heap.size rfl ?_; intro W1 R1 B1 z1
       obtain ⟨c0, _⟩ := R1.cel 0 _ rfl
       obtain ⟨c1, _⟩ := R1.cel 1 _ rfl
       obtain ⟨c2, _⟩ := R1.cel 2 _ rfl
       obtain ⟨c3, _⟩ := R1.cel 3 _ rfl
       obtain ⟨c4, _⟩ := R1.cel 4 _ rfl
       obtain ⟨c5, _⟩ := R1.cel 5 _ rfl
       obtain ⟨c6, _⟩ := R1.cel 6 _ rfl
       obtain ⟨c7, _⟩ := R1.cel 7 _ rfl
       obtain ⟨c8, _⟩ := R1.cel 8 _ rfl
       obtain ⟨c9, _⟩ := R1.cel 9 _ rfl
       obtain ⟨c10, _⟩ := R1.cel 10 _ rfl
       have HZ : Hid (W1.heap.size = w.heap.size + 1) := z1
       have HR : Hid (Rec19 W1 w.heap.size 0 (supC s a C)) := R1
       have HB : Hid (Below w.heap.size w W1) := B1
       clear R1 B1))
  have ST : Hid (b1Rel w W1 s (.slice (some ⟨w.heap.size + 1, 0, none⟩) 11 11) (.int .i64 0) (W1.alloc (.cells #[.int .i64 (s.x 0), .int .i64 (s.x 1), .int .i64 (s.x 2), .int .i64 (s.x 3), .int .i64 (s.x 4), .int .i64 (s.x 5), .int .i64 (s.x 6), .int .i64 (s.x 7), .int .i64 (s.x 8), .int .i64 0, .int .i64 (s.k : Int)] 3))) := by
    have l := OwnI.lit W1 (w.heap.size + 1) 3 1 11 s.num (by rw [z1]; exact Nat.le_refl _) (by omega)
    rw [num_11 s 0 HF.out, z1] at l
    exact ⟨0, Nat.zero_le _, rfl, l, (Below.refl _ _).alloc (by rw [z1]; exact Nat.le_refl _) _⟩
  clear c0 c1 c2 c3 c4 c5 c6 c7 c8 c9 z1
  generalize (W1.alloc (.cells #[.int .i64 (s.x 0), .int .i64 (s.x 1), .int .i64 (s.x 2), .int .i64 (s.x 3), .int .i64 (s.x 4), .int .i64 (s.x 5), .int .i64 (s.x 6), .int .i64 (s.x 7), .int .i64 (s.x 8), .int .i64 0, .int .i64 (s.k : Int)] 3)) = WL at ST ⊢
  go_loopw [4, 5] (fun v i wr => b1Rel w W1 s v i wr) (fun _ i _ => s.k - (RowKit.intOf i).toNat)
  case atStart => exact ST.out
  case round =>
    obtain ⟨j, hj, rfl, ho, hB⟩ := hrel
    clear ST
    have HO : Hid (OwnI wr (w.heap.size + 1) 3 1 _ (11 + 2 * j) s.num) := ho
    have HE : Hid (Below (w.heap.size + 1) W1 wr) := hB
    obtain ⟨g, cap, rfl, hg, hcap, hcell, hgl⟩ := ho.form (by omega)
    have e10 : wr.cell? ⟨w.heap.size, 10, none⟩ = some (.slice a s.k C) := (hB.cell (p := ⟨w.heap.size, 10, none⟩) (by show w.heap.size < w.heap.size + 1; omega)).trans c10
    by_cases hlt : j < s.k
    · clear hcell hB
      as_aux_lemma =>
        obtain ⟨hb, ho', rfl, hc, hbl⟩ : ∃ b off, a = some ⟨b, off, none⟩ ∧ (∀ j, j < 2 * s.k → wr.cell? ⟨b, off + j, none⟩ = some (.int .i64 (s.h j))) ∧ b < wr.heap.size := by
          rcases (HA.out.below HB.out) with e | ⟨b, off, e1, e2, e3⟩
          · omega
          · have hz := HZ.out
            exact ⟨b, off, e1, fun q hq => (HE.out.cell (p := ⟨b, off + q, none⟩) (by show b < w.heap.size + 1; omega)).trans (e2 q hq), Nat.lt_of_lt_of_le e3 (by have := HE.out.size; omega)⟩
        have KK : ∀ V, Below (w.heap.size + 1) W1 V → V.cell? ⟨w.heap.size, 10, none⟩ = some (.slice (some ⟨hb, ho', none⟩) s.k C) ∧ V.cell? ⟨hb, ho' + j * 2, none⟩ = some (.int .i64 (s.h (j * 2))) ∧ V.cell? ⟨hb, ho' + j * 2 + 1, none⟩ = some (.int .i64 (s.h (j * 2 + 1))) := fun V hV => by
          rcases (HA.out.below HB.out) with e | ⟨b, off, e1, e2, e3⟩
          · omega
          · injection e1 with e1
            injection e1 with q1 q2 _
            subst q1 q2
            have hz := HZ.out
            have f0 := e2 (j * 2) (by omega)
            have f1 := e2 (j * 2 + 1) (by omega)
            exact ⟨(hV.cell (p := ⟨w.heap.size, 10, none⟩) (by show w.heap.size < w.heap.size + 1; omega)).trans c10, (hV.cell (p := ⟨hb, ho' + j * 2, none⟩) (by show hb < w.heap.size + 1; omega)).trans f0, (hV.cell (p := ⟨hb, ho' + j * 2 + 1, none⟩) (by show hb < w.heap.size + 1; omega)).trans (by rw [Nat.add_assoc]; exact f1)⟩
        have d0 := hc (2 * j) (by omega)
        have d1 := hc (2 * j + 1) (by omega)
        rw [Nat.mul_comm 2 j] at d0
        rw [Nat.mul_comm 2 j, ← Nat.add_assoc] at d1
        have i0 : (j : Int) < (s.k : Int) := by omega
        have i1 : (0 : Int) ≤ (j : Int) := by omega
        have AP := b1_app w W1 wr wr.drew s j _ hlt hk HO.out HE.out (by rw [HZ.out]; exact Nat.le_refl _) (Below.refl _ _).drew
        obtain ⟨v', W', h1, h2, h3⟩ := AP
        have H1 : Hid ((Builtin.append_ #[106, 106] 106 #[.slice (some ⟨g, 0, none⟩) (11 + 2 * j) cap, .slice (some ⟨wr.drew.heap.size, 0, none⟩) 2 2]).run Try.prog (wr.drew.alloc (.cells #[.int .i64 (s.h (j * 2)), .int .i64 (s.h (j * 2 + 1))] 3)) = .ok v' W') := h1
        have H2 : Hid (b1Rel w W1 s v' (.int .i64 ((j : Int) + 1)) W') := ⟨j + 1, hlt, by go_num, h2, h3⟩
        have KS : Hid (∀ V, Below (w.heap.size + 1) W1 V → V.cell? ⟨w.heap.size, 10, none⟩ = some (.slice (some ⟨hb, ho', none⟩) s.k C) ∧ V.cell? ⟨hb, ho' + j * 2, none⟩ = some (.int .i64 (s.h (j * 2))) ∧ V.cell? ⟨hb, ho' + j * 2 + 1, none⟩ = some (.int .i64 (s.h (j * 2 + 1)))) := KK
        have KW : Hid (W'.cell? ⟨w.heap.size, 10, none⟩ = some (.slice (some ⟨hb, ho', none⟩) s.k C) ∧ W'.cell? ⟨hb, ho' + j * 2, none⟩ = some (.int .i64 (s.h (j * 2))) ∧ W'.cell? ⟨hb, ho' + j * 2 + 1, none⟩ = some (.int .i64 (s.h (j * 2 + 1)))) := KK W' h3
        clear h1 h2 h3 hc d0 d1 hbl hgl KK
        generalize s.h (j * 2) = y0 at H1 KS KW
        generalize s.h (j * 2 + 1) = y1 at H1 KS KW
        go_wp2_with fail
        refine wp_region_noPanic ?_
        refine wp_region_held_drew (S := fun W => W.cell? ⟨w.heap.size, 10, none⟩ = some (.slice (some ⟨hb, ho', none⟩) s.k C) ∧ W.cell? ⟨hb, ho' + j * 2, none⟩ = some (.int .i64 y0) ∧ W.cell? ⟨hb, ho' + j * 2 + 1, none⟩ = some (.int .i64 y1)) (by kernel_rfl) ?_ (fun hHeld => ?_)
        · exact KS.out _ HE.out.drew
        refine take_at (i := 0) (v := ?_) (some 42) rfl rfl (by kernel_rfl) (by kernel_rfl) (by kernel_rfl) (fun _ _ _ h => h) (Or.inl ⟨by rfl, ?_⟩) (by assumption) ?_
        rotate_left
        · (intro w hSw; (try dsimp only at hSw); go_simp; try with_reducible rfl)
        simp only [Act.put, List.setIfInBounds_toArray, List.set_cons_zero, List.set_cons_succ]
        refine take_at (i := 1) (v := ?_) (some 43) rfl rfl (by kernel_rfl) (by kernel_rfl) (by kernel_rfl) (fun _ _ _ h => h) (Or.inl ⟨by rfl, ?_⟩) (by assumption) ?_
        rotate_left
        · (intro w hSw; (try dsimp only at hSw); go_simp; try with_reducible rfl)
        simp only [Act.put, List.setIfInBounds_toArray, List.set_cons_zero, List.set_cons_succ]
        refine take_at (i := 2) (v := ?_) (some 44) rfl rfl (by kernel_rfl) (by kernel_rfl) (by kernel_rfl) (fun _ _ _ h => h) (Or.inl ⟨by rfl, ?_⟩) (by assumption) ?_
        rotate_left
        · (intro w hSw; (try dsimp only at hSw); go_simp; try with_reducible rfl)
        simp only [Act.put, List.setIfInBounds_toArray, List.set_cons_zero, List.set_cons_succ]
        refine take_at (i := 3) (v := ?_) (some 45) rfl rfl (by kernel_rfl) (by kernel_rfl) (by kernel_rfl) (fun _ _ _ h => h) (Or.inl ⟨by rfl, ?_⟩) (by assumption) ?_
        rotate_left
        · (intro w hSw; (try dsimp only at hSw); go_simp; try with_reducible rfl)
        simp only [Act.put, List.setIfInBounds_toArray, List.set_cons_zero, List.set_cons_succ]
        refine take_at (i := 4) (v := ?_) (some 46) rfl rfl (by kernel_rfl) (by kernel_rfl) (by kernel_rfl) (fun _ _ _ h => h) (Or.inl ⟨by rfl, ?_⟩) (by assumption) ?_
        rotate_left
        · (intro w hSw; (try dsimp only at hSw); go_simp; try with_reducible rfl)
        simp only [Act.put, List.setIfInBounds_toArray, List.set_cons_zero, List.set_cons_succ]
        refine take_at (i := 5) (v := ?_) (some 47) rfl rfl (by kernel_rfl) (by kernel_rfl) (by kernel_rfl) (fun _ _ _ h => h) (Or.inl ⟨by rfl, ?_⟩) (by assumption) ?_
        rotate_left
        · (intro w hSw; (try dsimp only at hSw); go_simp; try with_reducible rfl)
        simp only [Act.put, List.setIfInBounds_toArray, List.set_cons_zero, List.set_cons_succ]
        refine take_at (i := 6) (v := ?_) (some 48) rfl rfl (by kernel_rfl) (by kernel_rfl) (by kernel_rfl) (fun _ _ _ h => h) (Or.inl ⟨by rfl, ?_⟩) (by assumption) ?_
        rotate_left
        · (intro w hSw; (try dsimp only at hSw); go_simp; try with_reducible rfl)
        simp only [Act.put, List.setIfInBounds_toArray, List.set_cons_zero, List.set_cons_succ]
        refine take_at (i := 7) (v := ?_) (some 49) rfl rfl (by kernel_rfl) (by kernel_rfl) (by kernel_rfl) (fun _ _ _ h => h) (Or.inl ⟨by rfl, ?_⟩) (by assumption) ?_
        rotate_left
        · (intro w hSw; (try dsimp only at hSw); go_simp; try with_reducible rfl)
        simp only [Act.put, List.setIfInBounds_toArray, List.set_cons_zero, List.set_cons_succ]
        refine take_at (i := 8) (v := ?_) (some 50) rfl rfl (by kernel_rfl) (by kernel_rfl) (by kernel_rfl) (fun _ _ _ h => h) (Or.inl ⟨by rfl, ?_⟩) (by assumption) ?_
        rotate_left
        · (intro w hSw; (try dsimp only at hSw); go_simp; try with_reducible rfl)
        simp only [Act.put, List.setIfInBounds_toArray, List.set_cons_zero, List.set_cons_succ]
        refine take_at (i := 9) (v := ?_) (some 51) rfl rfl (by kernel_rfl) (by kernel_rfl) (by kernel_rfl) (fun _ _ _ h => h) (Or.inl ⟨by rfl, ?_⟩) (by assumption) ?_
        rotate_left
        · (intro w hSw; (try dsimp only at hSw); go_simp; try with_reducible rfl)
        simp only [Act.put, List.setIfInBounds_toArray, List.set_cons_zero, List.set_cons_succ]
        refine take_at (i := 10) (v := ?_) (some 52) rfl rfl (by kernel_rfl) (by kernel_rfl) (by kernel_rfl) (fun _ _ _ h => h) (Or.inl ⟨by rfl, ?_⟩) (by assumption) ?_
        rotate_left
        · (intro w hSw; (try dsimp only at hSw); go_simp; try with_reducible rfl)
        simp only [Act.put, List.setIfInBounds_toArray, List.set_cons_zero, List.set_cons_succ]
        refine take_at (i := 11) (v := ?_) (some 53) rfl rfl (by kernel_rfl) (by kernel_rfl) (by kernel_rfl) (fun _ _ _ h => h) (Or.inl ⟨by rfl, ?_⟩) (by assumption) ?_
        rotate_left
        · (intro w hSw; (try dsimp only at hSw); go_simp; try with_reducible rfl)
        simp only [Act.put, List.setIfInBounds_toArray, List.set_cons_zero, List.set_cons_succ]
        refine take_at (i := 12) (v := ?_) (some 54) rfl rfl (by kernel_rfl) (by kernel_rfl) (by kernel_rfl) (fun _ _ _ h => h) (Or.inl ⟨by rfl, ?_⟩) (by assumption) ?_
        rotate_left
        · (intro w hSw; (try dsimp only at hSw); go_simp; try with_reducible rfl)
        simp only [Act.put, List.setIfInBounds_toArray, List.set_cons_zero, List.set_cons_succ]
        refine step_at (i := 13) (some 55) rfl rfl (by rfl) (by kernel_rfl) (.slice (some ⟨wr.drew.heap.size, 0, none⟩) 2 2) (wr.drew.alloc (.cells #[.int .i64 y0, .int .i64 y1] 3)) (bs_run 106 3 2 _ rfl 1 8 (.int .i64 0) #[.int .i64 y0, .int .i64 y1] [(0, .int .i64 y0), (1, .int .i64 y1)] Try.underlying106 info_int (by decide) (by decide) (by kernel_rfl) (by kernel_rfl)) (KS.out _ (HE.out.drew.alloc (by have := HE.out.drew.size; have := HZ.out; omega) _)) (fun hHeld => ?_)
        simp only [Act.put, List.setIfInBounds_toArray, List.set_cons_zero, List.set_cons_succ]
        refine step_at (i := 14) (some 56) rfl rfl (by rfl) (by kernel_rfl) v' W' (vappend_run (.tmp 42) (.tmp 55) 106 106 rfl _ _ rfl rfl H1.out) KW.out (fun hHeld => ?_)
        simp only [Act.put, List.setIfInBounds_toArray, List.set_cons_zero, List.set_cons_succ]
        refine take_at (i := 15) (v := ?_) (some 4) rfl rfl (by kernel_rfl) (by kernel_rfl) (by kernel_rfl) (fun _ _ _ h => h) (Or.inl ⟨by rfl, ?_⟩) (by assumption) ?_
        rotate_left
        · (intro w hSw; (try dsimp only at hSw); go_simp; try with_reducible rfl)
        simp only [Act.put, List.setIfInBounds_toArray, List.set_cons_zero, List.set_cons_succ]
        refine wpAnyH_done (by kernel_rfl) ?_ _
        refine NoPanic.normal ?_
        clear hHeld
        go_wp2_with fail
        exact ⟨H2.out, by simp [RowKit.intOf]; omega⟩
    · obtain rfl : j = s.k := by omega
      have i0 : ¬ (s.k : Int) < (s.k : Int) := by omega
      have HL : Hid (∀ j, j < 11 + 2 * s.k → wr.cell? ⟨g, j, none⟩ = some (.int .i64 (s.num j))) := fun j hj => hcell j (by omega)
      have HG : Hid (g < wr.heap.size) := hgl
      have B2 : Hid (Below w.heap.size w wr) := HB.out.trans (HE.out.mono (by omega))
      clear hcell hB ho HO HE HZ HR hgl c10 HA
      go_wp2_with fail
      clear e10
      obtain ⟨WO, rfl⟩ : ∃ WO, WO = wr := ⟨wr, rfl⟩
      as_aux_lemma =>
        have ST : Hid (b2Rel WO g (11 + 2 * s.k) s (.slice none 0 0) (.int .i64 0) WO) := ⟨0, Nat.zero_le _, rfl, ⟨none, 0, rfl⟩, Own.nil _ _ _, HL.out, Below.refl _ _⟩
        go_loopw [6, 7] (fun v i wx => b2Rel WO g (11 + 2 * s.k) s v i wx) (fun _ i _ => 11 + 2 * s.k - (RowKit.intOf i).toNat)
        case atStart => exact ST.out
        case round =>
          obtain ⟨p, hp, rfl, ⟨q, cp, rfl⟩, ho, hc, hB⟩ := hrel
          clear ST
          have HO : Hid (Own wr WO.heap.size (.slice q (4 * p) cp) (4 * p) s.beh) := ho
          have HE : Hid (Below WO.heap.size WO wr) := hB
          by_cases hlt : p < 11 + 2 * s.k
          · have d0 := hc p hlt
            have NB := HM.out.num p
            obtain ⟨x, hx⟩ : ∃ x, s.num p = x := ⟨_, rfl⟩
            rw [hx] at d0 NB
            have i0 : (p : Int) < 11 + 2 * (s.k : Int) := by omega
            have i2 : (p : Int) < ((11 + 2 * s.k : Nat) : Int) := by omega
            have i1 : (0 : Int) ≤ (p : Int) := by omega
            have x0 : 0 ≤ x := NB.1
            have x1 : x < 4294967296 := NB.2
            have KS : Hid (∀ V, Below WO.heap.size WO V → V.cell? ⟨g, p, none⟩ = some (.int .i64 x)) := fun V hV => (hV.cell (p := ⟨g, p, none⟩) HG.out).trans ((HL.out p hlt).trans (by rw [hx]))
            obtain ⟨e0, e1, e2, e3⟩ := byt4 x
            obtain ⟨v', W', h1, h2, h3⟩ := b2_app WO wr wr.drew s p (.slice q (4 * p) cp) x _ _ _ _ hx (by omega) ho hB (Below.refl _ _).drew e0 e1 e2 e3
            have H1 : Hid ((Builtin.append_ #[27, 27] 27 #[.slice q (4 * p) cp, .slice (some ⟨wr.drew.heap.size, 0, none⟩) 4 4]).run Try.prog (wr.drew.alloc (.cells #[.int .u8 (IntKind.u8.wrap x), .int .u8 (IntKind.u8.wrap (x / 256)), .int .u8 (IntKind.u8.wrap (x / 65536)), .int .u8 (IntKind.u8.wrap (x / 16777216))] 5)) = .ok v' W') := h1
            have H2 : Hid (b2Rel WO g (11 + 2 * s.k) s v' (.int .i64 ((p : Int) + 1)) W') := ⟨p + 1, hlt, by go_num, h2.shape, h2, fun j hj => (h3.cell (p := ⟨g, j, none⟩) HG.out).trans (HL.out j hj), h3⟩
            have KW : Hid (W'.cell? ⟨g, p, none⟩ = some (.int .i64 x)) := KS.out W' h3
            clear ho hc hB NB e0 e1 e2 e3 h1 h2 h3
            go_wp2_with fail
            refine wp_region_noPanic ?_
            refine wp_region_held_drew (S := fun W => W.cell? ⟨g, p, none⟩ = some (.int .i64 x)) (by kernel_rfl) ?_ (fun hHeld => ?_)
            · exact KS.out _ HE.out.drew
            refine take_at (i := 0) (v := ?_) (some 63) rfl rfl (by kernel_rfl) (by kernel_rfl) (by kernel_rfl) (fun _ _ _ h => h) (Or.inl ⟨by rfl, ?_⟩) (by assumption) ?_
            rotate_left
            · (intro w hSw; (try dsimp only at hSw); go_simp; try with_reducible rfl)
            simp only [Act.put, List.setIfInBounds_toArray, List.set_cons_zero, List.set_cons_succ]
            refine take_at (i := 1) (v := ?_) (some 64) rfl rfl (by kernel_rfl) (by kernel_rfl) (by kernel_rfl) (fun _ _ _ h => h) (Or.inl ⟨by rfl, ?_⟩) (by assumption) ?_
            rotate_left
            · (intro w hSw; (try dsimp only at hSw); go_simp; try with_reducible rfl)
            simp only [Act.put, List.setIfInBounds_toArray, List.set_cons_zero, List.set_cons_succ]
            refine take_at (i := 2) (v := ?_) (some 65) rfl rfl (by kernel_rfl) (by kernel_rfl) (by kernel_rfl) (fun _ _ _ h => h) (Or.inl ⟨by rfl, ?_⟩) (by assumption) ?_
            rotate_left
            · (intro w hSw; (try dsimp only at hSw); go_simp; try with_reducible rfl)
            simp only [Act.put, List.setIfInBounds_toArray, List.set_cons_zero, List.set_cons_succ]
            refine take_at (i := 3) (v := ?_) (some 66) rfl rfl (by kernel_rfl) (by kernel_rfl) (by kernel_rfl) (fun _ _ _ h => h) (Or.inl ⟨by rfl, ?_⟩) (by assumption) ?_
            rotate_left
            · (intro w hSw; (try dsimp only at hSw); go_simp; try with_reducible rfl)
            simp only [Act.put, List.setIfInBounds_toArray, List.set_cons_zero, List.set_cons_succ]
            refine take_at (i := 4) (v := ?_) (some 67) rfl rfl (by kernel_rfl) (by kernel_rfl) (by kernel_rfl) (fun _ _ _ h => h) (Or.inl ⟨by rfl, ?_⟩) (by assumption) ?_
            rotate_left
            · (intro w hSw; (try dsimp only at hSw); go_simp; try with_reducible rfl)
            simp only [Act.put, List.setIfInBounds_toArray, List.set_cons_zero, List.set_cons_succ]
            refine take_at (i := 5) (v := ?_) (some 68) rfl rfl (by kernel_rfl) (by kernel_rfl) (by kernel_rfl) (fun _ _ _ h => h) (Or.inl ⟨by rfl, ?_⟩) (by assumption) ?_
            rotate_left
            · (intro w hSw; (try dsimp only at hSw); go_simp; try with_reducible rfl)
            simp only [Act.put, List.setIfInBounds_toArray, List.set_cons_zero, List.set_cons_succ]
            refine take_at (i := 6) (v := ?_) (some 69) rfl rfl (by kernel_rfl) (by kernel_rfl) (by kernel_rfl) (fun _ _ _ h => h) (Or.inl ⟨by rfl, ?_⟩) (by assumption) ?_
            rotate_left
            · (intro w hSw; (try dsimp only at hSw); go_simp; try with_reducible rfl)
            simp only [Act.put, List.setIfInBounds_toArray, List.set_cons_zero, List.set_cons_succ]
            refine take_at (i := 7) (v := ?_) (some 70) rfl rfl (by kernel_rfl) (by kernel_rfl) (by kernel_rfl) (fun _ _ _ h => h) (Or.inl ⟨by rfl, ?_⟩) (by assumption) ?_
            rotate_left
            · (intro w hSw; (try dsimp only at hSw); go_simp; try with_reducible rfl)
            simp only [Act.put, List.setIfInBounds_toArray, List.set_cons_zero, List.set_cons_succ]
            refine take_at (i := 8) (v := ?_) (some 71) rfl rfl (by kernel_rfl) (by kernel_rfl) (by kernel_rfl) (fun _ _ _ h => h) (Or.inl ⟨by rfl, ?_⟩) (by assumption) ?_
            rotate_left
            · (intro w hSw; (try dsimp only at hSw); go_simp; try with_reducible rfl)
            simp only [Act.put, List.setIfInBounds_toArray, List.set_cons_zero, List.set_cons_succ]
            refine take_at (i := 9) (v := ?_) (some 72) rfl rfl (by kernel_rfl) (by kernel_rfl) (by kernel_rfl) (fun _ _ _ h => h) (Or.inl ⟨by rfl, ?_⟩) (by assumption) ?_
            rotate_left
            · (intro w hSw; (try dsimp only at hSw); go_simp; try with_reducible rfl)
            simp only [Act.put, List.setIfInBounds_toArray, List.set_cons_zero, List.set_cons_succ]
            refine take_at (i := 10) (v := ?_) (some 73) rfl rfl (by kernel_rfl) (by kernel_rfl) (by kernel_rfl) (fun _ _ _ h => h) (Or.inl ⟨by rfl, ?_⟩) (by assumption) ?_
            rotate_left
            · (intro w hSw; (try dsimp only at hSw); go_simp; try with_reducible rfl)
            simp only [Act.put, List.setIfInBounds_toArray, List.set_cons_zero, List.set_cons_succ]
            refine take_at (i := 11) (v := ?_) (some 74) rfl rfl (by kernel_rfl) (by kernel_rfl) (by kernel_rfl) (fun _ _ _ h => h) (Or.inl ⟨by rfl, ?_⟩) (by assumption) ?_
            rotate_left
            · (intro w hSw; (try dsimp only at hSw); go_simp; try with_reducible rfl)
            simp only [Act.put, List.setIfInBounds_toArray, List.set_cons_zero, List.set_cons_succ]
            refine take_at (i := 12) (v := ?_) (some 75) rfl rfl (by kernel_rfl) (by kernel_rfl) (by kernel_rfl) (fun _ _ _ h => h) (Or.inl ⟨by rfl, ?_⟩) (by assumption) ?_
            rotate_left
            · (intro w hSw; (try dsimp only at hSw); go_simp; try with_reducible rfl)
            simp only [Act.put, List.setIfInBounds_toArray, List.set_cons_zero, List.set_cons_succ]
            refine take_at (i := 13) (v := ?_) (some 76) rfl rfl (by kernel_rfl) (by kernel_rfl) (by kernel_rfl) (fun _ _ _ h => h) (Or.inl ⟨by rfl, ?_⟩) (by assumption) ?_
            rotate_left
            · (intro w hSw; (try dsimp only at hSw); go_simp; try with_reducible rfl)
            simp only [Act.put, List.setIfInBounds_toArray, List.set_cons_zero, List.set_cons_succ]
            refine take_at (i := 14) (v := ?_) (some 77) rfl rfl (by kernel_rfl) (by kernel_rfl) (by kernel_rfl) (fun _ _ _ h => h) (Or.inl ⟨by rfl, ?_⟩) (by assumption) ?_
            rotate_left
            · (intro w hSw; (try dsimp only at hSw); go_simp; try with_reducible rfl)
            simp only [Act.put, List.setIfInBounds_toArray, List.set_cons_zero, List.set_cons_succ]
            refine take_at (i := 15) (v := ?_) (some 78) rfl rfl (by kernel_rfl) (by kernel_rfl) (by kernel_rfl) (fun _ _ _ h => h) (Or.inl ⟨by rfl, ?_⟩) (by assumption) ?_
            rotate_left
            · (intro w hSw; (try dsimp only at hSw); go_simp; try with_reducible rfl)
            simp only [Act.put, List.setIfInBounds_toArray, List.set_cons_zero, List.set_cons_succ]
            refine take_at (i := 16) (v := ?_) (some 79) rfl rfl (by kernel_rfl) (by kernel_rfl) (by kernel_rfl) (fun _ _ _ h => h) (Or.inl ⟨by rfl, ?_⟩) (by assumption) ?_
            rotate_left
            · (intro w hSw; (try dsimp only at hSw); go_simp; try with_reducible rfl)
            simp only [Act.put, List.setIfInBounds_toArray, List.set_cons_zero, List.set_cons_succ]
            refine take_at (i := 17) (v := ?_) (some 80) rfl rfl (by kernel_rfl) (by kernel_rfl) (by kernel_rfl) (fun _ _ _ h => h) (Or.inl ⟨by rfl, ?_⟩) (by assumption) ?_
            rotate_left
            · (intro w hSw; (try dsimp only at hSw); go_simp; try with_reducible rfl)
            simp only [Act.put, List.setIfInBounds_toArray, List.set_cons_zero, List.set_cons_succ]
            refine take_at (i := 18) (v := ?_) (some 81) rfl rfl (by kernel_rfl) (by kernel_rfl) (by kernel_rfl) (fun _ _ _ h => h) (Or.inl ⟨by rfl, ?_⟩) (by assumption) ?_
            rotate_left
            · (intro w hSw; (try dsimp only at hSw); go_simp; try with_reducible rfl)
            simp only [Act.put, List.setIfInBounds_toArray, List.set_cons_zero, List.set_cons_succ]
            refine take_at (i := 19) (v := ?_) (some 82) rfl rfl (by kernel_rfl) (by kernel_rfl) (by kernel_rfl) (fun _ _ _ h => h) (Or.inl ⟨by rfl, ?_⟩) (by assumption) ?_
            rotate_left
            · (intro w hSw; (try dsimp only at hSw); go_simp; try with_reducible rfl)
            simp only [Act.put, List.setIfInBounds_toArray, List.set_cons_zero, List.set_cons_succ]
            refine take_at (i := 20) (v := ?_) (some 83) rfl rfl (by kernel_rfl) (by kernel_rfl) (by kernel_rfl) (fun _ _ _ h => h) (Or.inl ⟨by rfl, ?_⟩) (by assumption) ?_
            rotate_left
            · (intro w hSw; (try dsimp only at hSw); go_simp; try with_reducible rfl)
            simp only [Act.put, List.setIfInBounds_toArray, List.set_cons_zero, List.set_cons_succ]
            refine take_at (i := 21) (v := ?_) (some 84) rfl rfl (by kernel_rfl) (by kernel_rfl) (by kernel_rfl) (fun _ _ _ h => h) (Or.inl ⟨by rfl, ?_⟩) (by assumption) ?_
            rotate_left
            · (intro w hSw; (try dsimp only at hSw); go_simp; try with_reducible rfl)
            simp only [Act.put, List.setIfInBounds_toArray, List.set_cons_zero, List.set_cons_succ]
            refine take_at (i := 22) (v := ?_) (some 85) rfl rfl (by kernel_rfl) (by kernel_rfl) (by kernel_rfl) (fun _ _ _ h => h) (Or.inl ⟨by rfl, ?_⟩) (by assumption) ?_
            rotate_left
            · (intro w hSw; (try dsimp only at hSw); go_simp; try with_reducible rfl)
            simp only [Act.put, List.setIfInBounds_toArray, List.set_cons_zero, List.set_cons_succ]
            refine take_at (i := 23) (v := ?_) (some 86) rfl rfl (by kernel_rfl) (by kernel_rfl) (by kernel_rfl) (fun _ _ _ h => h) (Or.inl ⟨by rfl, ?_⟩) (by assumption) ?_
            rotate_left
            · (intro w hSw; (try dsimp only at hSw); go_simp; try with_reducible rfl)
            simp only [Act.put, List.setIfInBounds_toArray, List.set_cons_zero, List.set_cons_succ]
            refine step_at (i := 24) (some 87) rfl rfl (by rfl) (by kernel_rfl) (.slice (some ⟨wr.drew.heap.size, 0, none⟩) 4 4) (wr.drew.alloc (.cells #[.int .u8 (IntKind.u8.wrap x), .int .u8 (IntKind.u8.wrap (x / 256)), .int .u8 (IntKind.u8.wrap (x / 65536)), .int .u8 (IntKind.u8.wrap (x / 16777216))] 5)) (bs_run 27 5 4 _ rfl 1 1 (.int .u8 0) #[.int .u8 (IntKind.u8.wrap x), .int .u8 (IntKind.u8.wrap (x / 256)), .int .u8 (IntKind.u8.wrap (x / 65536)), .int .u8 (IntKind.u8.wrap (x / 16777216))] [(0, .int .u8 (IntKind.u8.wrap x)), (1, .int .u8 (IntKind.u8.wrap (x / 256))), (2, .int .u8 (IntKind.u8.wrap (x / 65536))), (3, .int .u8 (IntKind.u8.wrap (x / 16777216)))] Try.underlying27 info_u8 (by decide) (by decide) (by kernel_rfl) (by kernel_rfl)) (KS.out _ (HE.out.drew.alloc HE.out.drew.size _)) (fun hHeld => ?_)
            simp only [Act.put, List.setIfInBounds_toArray, List.set_cons_zero, List.set_cons_succ]
            refine step_at (i := 25) (some 88) rfl rfl (by rfl) (by kernel_rfl) v' W' (vappend_run (.tmp 63) (.tmp 87) 27 27 rfl _ _ rfl rfl H1.out) KW.out (fun hHeld => ?_)
            simp only [Act.put, List.setIfInBounds_toArray, List.set_cons_zero, List.set_cons_succ]
            refine take_at (i := 26) (v := ?_) (some 6) rfl rfl (by kernel_rfl) (by kernel_rfl) (by kernel_rfl) (fun _ _ _ h => h) (Or.inl ⟨by rfl, ?_⟩) (by assumption) ?_
            rotate_left
            · (intro w hSw; (try dsimp only at hSw); go_simp; try with_reducible rfl)
            simp only [Act.put, List.setIfInBounds_toArray, List.set_cons_zero, List.set_cons_succ]
            refine wpAnyH_done (by kernel_rfl) ?_ _
            refine NoPanic.normal ?_
            clear hHeld
            go_wp2_with fail
            exact ⟨H2.out, by simp [RowKit.intOf]; omega⟩
          · obtain rfl : p = 11 + 2 * s.k := by omega
            have i0 : ¬ ((11 + 2 * s.k : Nat) : Int) < ((11 + 2 * s.k : Nat) : Int) := by omega
            obtain ⟨g2, cap2, hv, hg2, hcap2, hl2⟩ := ho.form (by omega) (fun j _ => s.beh_byte j)
            injection hv with hv1 _ hv2
            subst hv1 hv2
            obtain ⟨L, hL⟩ : ∃ L, 11 + 2 * s.k = L := ⟨_, rfl⟩
            obtain ⟨n, hn⟩ : ∃ n, 4 * (11 + 2 * s.k) = n := ⟨_, rfl⟩
            have TL : Hid (∀ q, n ≤ q → s.beh q = 0) := fun q hq => beh_tail s q (by omega)
            have n0 : 0 < n := by omega
            have n1 : n ≤ 300 := by omega
            rw [hn] at HO
            have em : (496 : Int) - (n : Int) = ((496 - n : Nat) : Int) := by omega
            obtain ⟨v5, W5, hr5, hG5⟩ := zeros_but 27 wr WO.heap.size n (496 - n) g2 cp s.beh HO.out (by omega) (by omega) hB.size
            rw [show n + (496 - n) = 496 by omega] at hG5
            have PP : Hid (BehP w s (.returned v5) W5) := by
              obtain ⟨g', cap', rfl, _, hO, hBt⟩ := hG5
              have hO' := hO.congr (G := s.beh) (fun q _ => by
                unfold cat
                by_cases gq : q < n
                · rw [if_pos gq]
                · rw [if_neg gq, TL.out q (by omega)])
              obtain ⟨g'', cap'', hv', hg'', _, hl⟩ := hO'.form (by omega) (fun j _ => s.beh_byte j)
              injection hv' with hv1 _ hv2
              injection hv1 with hv1
              injection hv1 with hv1 _ _
              subst hv1
              have z1 := B2.out.size
              have z2 := hB.size
              exact ⟨g', cap', rfl, by omega, Arg.of hl, (B2.out.trans (hB.mono z1)).trans (hBt.below (by omega) (by omega))⟩
            clear hG5 TL
            rw [hn, hL] at *
            go_wp2_with (at_builtin; refine wpList_append_go rfl (.tmp 89) (.tmp 92) 27 3 rfl _ _ rfl rfl hr5 ?_)
            go_ret
            exact PP.out
set_option maxRecDepth 100000 in
set_option maxHeartbeats 2000000 in
theorem behind_t (s : Sup) (a : Option Addr) (C : Nat) (w : World) (hA : HArg w a s.k s.h) (m : s.May) (hf : s.f = true) : Calls Try.prog 35 #[supV s a C] w (BehP w s) := by
  have HA : Hid (HArg w a s.k s.h) := hA
  have HM : Hid s.May := m
  have HF : Hid (fetN s.f = 1) := (by rw [hf]; rfl : fetN s.f = 1)
  have hk : s.k ≤ 32 := m.2.1
  clear hA m
  unfold supV
  go_enter Try.func35, Try.ntmps35
  go_wp2_with (first
    | (refine wpList_box_rec rfl 26 (.tmp 0) rfl (supC s a C) rfl w.heap.size rfl ?_; intro W1 R1 B1 z1
       obtain ⟨c0, _⟩ := R1.cel 0 _ rfl
       obtain ⟨c1, _⟩ := R1.cel 1 _ rfl
       obtain ⟨c2, _⟩ := R1.cel 2 _ rfl
       obtain ⟨c3, _⟩ := R1.cel 3 _ rfl
       obtain ⟨c4, _⟩ := R1.cel 4 _ rfl
       obtain ⟨c5, _⟩ := R1.cel 5 _ rfl
       obtain ⟨c6, _⟩ := R1.cel 6 _ rfl
       obtain ⟨c7, _⟩ := R1.cel 7 _ rfl
       obtain ⟨c8, _⟩ := R1.cel 8 _ rfl
       obtain ⟨c9, _⟩ := R1.cel 9 _ rfl
       obtain ⟨c10, _⟩ := R1.cel 10 _ rfl
       have HZ : Hid (W1.heap.size = w.heap.size + 1) := z1
       have HR : Hid (Rec19 W1 w.heap.size 0 (supC s a C)) := R1
       have HB : Hid (Below w.heap.size w W1) := B1
       clear R1 B1))
  have ST : Hid (b1Rel w W1 s (.slice (some ⟨w.heap.size + 1, 0, none⟩) 11 11) (.int .i64 0) (W1.alloc (.cells #[.int .i64 (s.x 0), .int .i64 (s.x 1), .int .i64 (s.x 2), .int .i64 (s.x 3), .int .i64 (s.x 4), .int .i64 (s.x 5), .int .i64 (s.x 6), .int .i64 (s.x 7), .int .i64 (s.x 8), .int .i64 1, .int .i64 (s.k : Int)] 3))) := by
    have l := OwnI.lit W1 (w.heap.size + 1) 3 1 11 s.num (by rw [z1]; exact Nat.le_refl _) (by omega)
    rw [num_11 s 1 HF.out, z1] at l
    exact ⟨0, Nat.zero_le _, rfl, l, (Below.refl _ _).alloc (by rw [z1]; exact Nat.le_refl _) _⟩
  clear c0 c1 c2 c3 c4 c5 c6 c7 c8 c9 z1
  generalize (W1.alloc (.cells #[.int .i64 (s.x 0), .int .i64 (s.x 1), .int .i64 (s.x 2), .int .i64 (s.x 3), .int .i64 (s.x 4), .int .i64 (s.x 5), .int .i64 (s.x 6), .int .i64 (s.x 7), .int .i64 (s.x 8), .int .i64 1, .int .i64 (s.k : Int)] 3)) = WL at ST ⊢
  go_loopw [4, 5] (fun v i wr => b1Rel w W1 s v i wr) (fun _ i _ => s.k - (RowKit.intOf i).toNat)
  case atStart => exact ST.out
  case round =>
    obtain ⟨j, hj, rfl, ho, hB⟩ := hrel
    clear ST
    have HO : Hid (OwnI wr (w.heap.size + 1) 3 1 _ (11 + 2 * j) s.num) := ho
    have HE : Hid (Below (w.heap.size + 1) W1 wr) := hB
    obtain ⟨g, cap, rfl, hg, hcap, hcell, hgl⟩ := ho.form (by omega)
    have e10 : wr.cell? ⟨w.heap.size, 10, none⟩ = some (.slice a s.k C) := (hB.cell (p := ⟨w.heap.size, 10, none⟩) (by show w.heap.size < w.heap.size + 1; omega)).trans c10
    by_cases hlt : j < s.k
    · clear hcell hB
      as_aux_lemma =>
        obtain ⟨hb, ho', rfl, hc, hbl⟩ : ∃ b off, a = some ⟨b, off, none⟩ ∧ (∀ j, j < 2 * s.k → wr.cell? ⟨b, off + j, none⟩ = some (.int .i64 (s.h j))) ∧ b < wr.heap.size := by
          rcases (HA.out.below HB.out) with e | ⟨b, off, e1, e2, e3⟩
          · omega
          · have hz := HZ.out
            exact ⟨b, off, e1, fun q hq => (HE.out.cell (p := ⟨b, off + q, none⟩) (by show b < w.heap.size + 1; omega)).trans (e2 q hq), Nat.lt_of_lt_of_le e3 (by have := HE.out.size; omega)⟩
        have KK : ∀ V, Below (w.heap.size + 1) W1 V → V.cell? ⟨w.heap.size, 10, none⟩ = some (.slice (some ⟨hb, ho', none⟩) s.k C) ∧ V.cell? ⟨hb, ho' + j * 2, none⟩ = some (.int .i64 (s.h (j * 2))) ∧ V.cell? ⟨hb, ho' + j * 2 + 1, none⟩ = some (.int .i64 (s.h (j * 2 + 1))) := fun V hV => by
          rcases (HA.out.below HB.out) with e | ⟨b, off, e1, e2, e3⟩
          · omega
          · injection e1 with e1
            injection e1 with q1 q2 _
            subst q1 q2
            have hz := HZ.out
            have f0 := e2 (j * 2) (by omega)
            have f1 := e2 (j * 2 + 1) (by omega)
            exact ⟨(hV.cell (p := ⟨w.heap.size, 10, none⟩) (by show w.heap.size < w.heap.size + 1; omega)).trans c10, (hV.cell (p := ⟨hb, ho' + j * 2, none⟩) (by show hb < w.heap.size + 1; omega)).trans f0, (hV.cell (p := ⟨hb, ho' + j * 2 + 1, none⟩) (by show hb < w.heap.size + 1; omega)).trans (by rw [Nat.add_assoc]; exact f1)⟩
        have d0 := hc (2 * j) (by omega)
        have d1 := hc (2 * j + 1) (by omega)
        rw [Nat.mul_comm 2 j] at d0
        rw [Nat.mul_comm 2 j, ← Nat.add_assoc] at d1
        have i0 : (j : Int) < (s.k : Int) := by omega
        have i1 : (0 : Int) ≤ (j : Int) := by omega
        have AP := b1_app w W1 wr wr.drew s j _ hlt hk HO.out HE.out (by rw [HZ.out]; exact Nat.le_refl _) (Below.refl _ _).drew
        obtain ⟨v', W', h1, h2, h3⟩ := AP
        have H1 : Hid ((Builtin.append_ #[106, 106] 106 #[.slice (some ⟨g, 0, none⟩) (11 + 2 * j) cap, .slice (some ⟨wr.drew.heap.size, 0, none⟩) 2 2]).run Try.prog (wr.drew.alloc (.cells #[.int .i64 (s.h (j * 2)), .int .i64 (s.h (j * 2 + 1))] 3)) = .ok v' W') := h1
        have H2 : Hid (b1Rel w W1 s v' (.int .i64 ((j : Int) + 1)) W') := ⟨j + 1, hlt, by go_num, h2, h3⟩
        have KS : Hid (∀ V, Below (w.heap.size + 1) W1 V → V.cell? ⟨w.heap.size, 10, none⟩ = some (.slice (some ⟨hb, ho', none⟩) s.k C) ∧ V.cell? ⟨hb, ho' + j * 2, none⟩ = some (.int .i64 (s.h (j * 2))) ∧ V.cell? ⟨hb, ho' + j * 2 + 1, none⟩ = some (.int .i64 (s.h (j * 2 + 1)))) := KK
        have KW : Hid (W'.cell? ⟨w.heap.size, 10, none⟩ = some (.slice (some ⟨hb, ho', none⟩) s.k C) ∧ W'.cell? ⟨hb, ho' + j * 2, none⟩ = some (.int .i64 (s.h (j * 2))) ∧ W'.cell? ⟨hb, ho' + j * 2 + 1, none⟩ = some (.int .i64 (s.h (j * 2 + 1)))) := KK W' h3
        clear h1 h2 h3 hc d0 d1 hbl hgl KK
        generalize s.h (j * 2) = y0 at H1 KS KW
        generalize s.h (j * 2 + 1) = y1 at H1 KS KW
        go_wp2_with fail
        refine wp_region_noPanic ?_
        refine wp_region_held_drew (S := fun W => W.cell? ⟨w.heap.size, 10, none⟩ = some (.slice (some ⟨hb, ho', none⟩) s.k C) ∧ W.cell? ⟨hb, ho' + j * 2, none⟩ = some (.int .i64 y0) ∧ W.cell? ⟨hb, ho' + j * 2 + 1, none⟩ = some (.int .i64 y1)) (by kernel_rfl) ?_ (fun hHeld => ?_)
        · exact KS.out _ HE.out.drew
        refine take_at (i := 0) (v := ?_) (some 42) rfl rfl (by kernel_rfl) (by kernel_rfl) (by kernel_rfl) (fun _ _ _ h => h) (Or.inl ⟨by rfl, ?_⟩) (by assumption) ?_
        rotate_left
        · (intro w hSw; (try dsimp only at hSw); go_simp; try with_reducible rfl)
        simp only [Act.put, List.setIfInBounds_toArray, List.set_cons_zero, List.set_cons_succ]
        refine take_at (i := 1) (v := ?_) (some 43) rfl rfl (by kernel_rfl) (by kernel_rfl) (by kernel_rfl) (fun _ _ _ h => h) (Or.inl ⟨by rfl, ?_⟩) (by assumption) ?_
        rotate_left
        · (intro w hSw; (try dsimp only at hSw); go_simp; try with_reducible rfl)
        simp only [Act.put, List.setIfInBounds_toArray, List.set_cons_zero, List.set_cons_succ]
        refine take_at (i := 2) (v := ?_) (some 44) rfl rfl (by kernel_rfl) (by kernel_rfl) (by kernel_rfl) (fun _ _ _ h => h) (Or.inl ⟨by rfl, ?_⟩) (by assumption) ?_
        rotate_left
        · (intro w hSw; (try dsimp only at hSw); go_simp; try with_reducible rfl)
        simp only [Act.put, List.setIfInBounds_toArray, List.set_cons_zero, List.set_cons_succ]
        refine take_at (i := 3) (v := ?_) (some 45) rfl rfl (by kernel_rfl) (by kernel_rfl) (by kernel_rfl) (fun _ _ _ h => h) (Or.inl ⟨by rfl, ?_⟩) (by assumption) ?_
        rotate_left
        · (intro w hSw; (try dsimp only at hSw); go_simp; try with_reducible rfl)
        simp only [Act.put, List.setIfInBounds_toArray, List.set_cons_zero, List.set_cons_succ]
        refine take_at (i := 4) (v := ?_) (some 46) rfl rfl (by kernel_rfl) (by kernel_rfl) (by kernel_rfl) (fun _ _ _ h => h) (Or.inl ⟨by rfl, ?_⟩) (by assumption) ?_
        rotate_left
        · (intro w hSw; (try dsimp only at hSw); go_simp; try with_reducible rfl)
        simp only [Act.put, List.setIfInBounds_toArray, List.set_cons_zero, List.set_cons_succ]
        refine take_at (i := 5) (v := ?_) (some 47) rfl rfl (by kernel_rfl) (by kernel_rfl) (by kernel_rfl) (fun _ _ _ h => h) (Or.inl ⟨by rfl, ?_⟩) (by assumption) ?_
        rotate_left
        · (intro w hSw; (try dsimp only at hSw); go_simp; try with_reducible rfl)
        simp only [Act.put, List.setIfInBounds_toArray, List.set_cons_zero, List.set_cons_succ]
        refine take_at (i := 6) (v := ?_) (some 48) rfl rfl (by kernel_rfl) (by kernel_rfl) (by kernel_rfl) (fun _ _ _ h => h) (Or.inl ⟨by rfl, ?_⟩) (by assumption) ?_
        rotate_left
        · (intro w hSw; (try dsimp only at hSw); go_simp; try with_reducible rfl)
        simp only [Act.put, List.setIfInBounds_toArray, List.set_cons_zero, List.set_cons_succ]
        refine take_at (i := 7) (v := ?_) (some 49) rfl rfl (by kernel_rfl) (by kernel_rfl) (by kernel_rfl) (fun _ _ _ h => h) (Or.inl ⟨by rfl, ?_⟩) (by assumption) ?_
        rotate_left
        · (intro w hSw; (try dsimp only at hSw); go_simp; try with_reducible rfl)
        simp only [Act.put, List.setIfInBounds_toArray, List.set_cons_zero, List.set_cons_succ]
        refine take_at (i := 8) (v := ?_) (some 50) rfl rfl (by kernel_rfl) (by kernel_rfl) (by kernel_rfl) (fun _ _ _ h => h) (Or.inl ⟨by rfl, ?_⟩) (by assumption) ?_
        rotate_left
        · (intro w hSw; (try dsimp only at hSw); go_simp; try with_reducible rfl)
        simp only [Act.put, List.setIfInBounds_toArray, List.set_cons_zero, List.set_cons_succ]
        refine take_at (i := 9) (v := ?_) (some 51) rfl rfl (by kernel_rfl) (by kernel_rfl) (by kernel_rfl) (fun _ _ _ h => h) (Or.inl ⟨by rfl, ?_⟩) (by assumption) ?_
        rotate_left
        · (intro w hSw; (try dsimp only at hSw); go_simp; try with_reducible rfl)
        simp only [Act.put, List.setIfInBounds_toArray, List.set_cons_zero, List.set_cons_succ]
        refine take_at (i := 10) (v := ?_) (some 52) rfl rfl (by kernel_rfl) (by kernel_rfl) (by kernel_rfl) (fun _ _ _ h => h) (Or.inl ⟨by rfl, ?_⟩) (by assumption) ?_
        rotate_left
        · (intro w hSw; (try dsimp only at hSw); go_simp; try with_reducible rfl)
        simp only [Act.put, List.setIfInBounds_toArray, List.set_cons_zero, List.set_cons_succ]
        refine take_at (i := 11) (v := ?_) (some 53) rfl rfl (by kernel_rfl) (by kernel_rfl) (by kernel_rfl) (fun _ _ _ h => h) (Or.inl ⟨by rfl, ?_⟩) (by assumption) ?_
        rotate_left
        · (intro w hSw; (try dsimp only at hSw); go_simp; try with_reducible rfl)
        simp only [Act.put, List.setIfInBounds_toArray, List.set_cons_zero, List.set_cons_succ]
        refine take_at (i := 12) (v := ?_) (some 54) rfl rfl (by kernel_rfl) (by kernel_rfl) (by kernel_rfl) (fun _ _ _ h => h) (Or.inl ⟨by rfl, ?_⟩) (by assumption) ?_
        rotate_left
        · (intro w hSw; (try dsimp only at hSw); go_simp; try with_reducible rfl)
        simp only [Act.put, List.setIfInBounds_toArray, List.set_cons_zero, List.set_cons_succ]
        refine step_at (i := 13) (some 55) rfl rfl (by rfl) (by kernel_rfl) (.slice (some ⟨wr.drew.heap.size, 0, none⟩) 2 2) (wr.drew.alloc (.cells #[.int .i64 y0, .int .i64 y1] 3)) (bs_run 106 3 2 _ rfl 1 8 (.int .i64 0) #[.int .i64 y0, .int .i64 y1] [(0, .int .i64 y0), (1, .int .i64 y1)] Try.underlying106 info_int (by decide) (by decide) (by kernel_rfl) (by kernel_rfl)) (KS.out _ (HE.out.drew.alloc (by have := HE.out.drew.size; have := HZ.out; omega) _)) (fun hHeld => ?_)
        simp only [Act.put, List.setIfInBounds_toArray, List.set_cons_zero, List.set_cons_succ]
        refine step_at (i := 14) (some 56) rfl rfl (by rfl) (by kernel_rfl) v' W' (vappend_run (.tmp 42) (.tmp 55) 106 106 rfl _ _ rfl rfl H1.out) KW.out (fun hHeld => ?_)
        simp only [Act.put, List.setIfInBounds_toArray, List.set_cons_zero, List.set_cons_succ]
        refine take_at (i := 15) (v := ?_) (some 4) rfl rfl (by kernel_rfl) (by kernel_rfl) (by kernel_rfl) (fun _ _ _ h => h) (Or.inl ⟨by rfl, ?_⟩) (by assumption) ?_
        rotate_left
        · (intro w hSw; (try dsimp only at hSw); go_simp; try with_reducible rfl)
        simp only [Act.put, List.setIfInBounds_toArray, List.set_cons_zero, List.set_cons_succ]
        refine wpAnyH_done (by kernel_rfl) ?_ _
        refine NoPanic.normal ?_
        clear hHeld
        go_wp2_with fail
        exact ⟨H2.out, by simp [RowKit.intOf]; omega⟩
    · obtain rfl : j = s.k := by omega
      have i0 : ¬ (s.k : Int) < (s.k : Int) := by omega
      have HL : Hid (∀ j, j < 11 + 2 * s.k → wr.cell? ⟨g, j, none⟩ = some (.int .i64 (s.num j))) := fun j hj => hcell j (by omega)
      have HG : Hid (g < wr.heap.size) := hgl
      have B2 : Hid (Below w.heap.size w wr) := HB.out.trans (HE.out.mono (by omega))
      clear hcell hB ho HO HE HZ HR hgl c10 HA
      go_wp2_with fail
      clear e10
      obtain ⟨WO, rfl⟩ : ∃ WO, WO = wr := ⟨wr, rfl⟩
      as_aux_lemma =>
        have ST : Hid (b2Rel WO g (11 + 2 * s.k) s (.slice none 0 0) (.int .i64 0) WO) := ⟨0, Nat.zero_le _, rfl, ⟨none, 0, rfl⟩, Own.nil _ _ _, HL.out, Below.refl _ _⟩
        go_loopw [6, 7] (fun v i wx => b2Rel WO g (11 + 2 * s.k) s v i wx) (fun _ i _ => 11 + 2 * s.k - (RowKit.intOf i).toNat)
        case atStart => exact ST.out
        case round =>
          obtain ⟨p, hp, rfl, ⟨q, cp, rfl⟩, ho, hc, hB⟩ := hrel
          clear ST
          have HO : Hid (Own wr WO.heap.size (.slice q (4 * p) cp) (4 * p) s.beh) := ho
          have HE : Hid (Below WO.heap.size WO wr) := hB
          by_cases hlt : p < 11 + 2 * s.k
          · have d0 := hc p hlt
            have NB := HM.out.num p
            obtain ⟨x, hx⟩ : ∃ x, s.num p = x := ⟨_, rfl⟩
            rw [hx] at d0 NB
            have i0 : (p : Int) < 11 + 2 * (s.k : Int) := by omega
            have i2 : (p : Int) < ((11 + 2 * s.k : Nat) : Int) := by omega
            have i1 : (0 : Int) ≤ (p : Int) := by omega
            have x0 : 0 ≤ x := NB.1
            have x1 : x < 4294967296 := NB.2
            have KS : Hid (∀ V, Below WO.heap.size WO V → V.cell? ⟨g, p, none⟩ = some (.int .i64 x)) := fun V hV => (hV.cell (p := ⟨g, p, none⟩) HG.out).trans ((HL.out p hlt).trans (by rw [hx]))
            obtain ⟨e0, e1, e2, e3⟩ := byt4 x
            obtain ⟨v', W', h1, h2, h3⟩ := b2_app WO wr wr.drew s p (.slice q (4 * p) cp) x _ _ _ _ hx (by omega) ho hB (Below.refl _ _).drew e0 e1 e2 e3
            have H1 : Hid ((Builtin.append_ #[27, 27] 27 #[.slice q (4 * p) cp, .slice (some ⟨wr.drew.heap.size, 0, none⟩) 4 4]).run Try.prog (wr.drew.alloc (.cells #[.int .u8 (IntKind.u8.wrap x), .int .u8 (IntKind.u8.wrap (x / 256)), .int .u8 (IntKind.u8.wrap (x / 65536)), .int .u8 (IntKind.u8.wrap (x / 16777216))] 5)) = .ok v' W') := h1
            have H2 : Hid (b2Rel WO g (11 + 2 * s.k) s v' (.int .i64 ((p : Int) + 1)) W') := ⟨p + 1, hlt, by go_num, h2.shape, h2, fun j hj => (h3.cell (p := ⟨g, j, none⟩) HG.out).trans (HL.out j hj), h3⟩
            have KW : Hid (W'.cell? ⟨g, p, none⟩ = some (.int .i64 x)) := KS.out W' h3
            clear ho hc hB NB e0 e1 e2 e3 h1 h2 h3
            go_wp2_with fail
            refine wp_region_noPanic ?_
            refine wp_region_held_drew (S := fun W => W.cell? ⟨g, p, none⟩ = some (.int .i64 x)) (by kernel_rfl) ?_ (fun hHeld => ?_)
            · exact KS.out _ HE.out.drew
            refine take_at (i := 0) (v := ?_) (some 63) rfl rfl (by kernel_rfl) (by kernel_rfl) (by kernel_rfl) (fun _ _ _ h => h) (Or.inl ⟨by rfl, ?_⟩) (by assumption) ?_
            rotate_left
            · (intro w hSw; (try dsimp only at hSw); go_simp; try with_reducible rfl)
            simp only [Act.put, List.setIfInBounds_toArray, List.set_cons_zero, List.set_cons_succ]
            refine take_at (i := 1) (v := ?_) (some 64) rfl rfl (by kernel_rfl) (by kernel_rfl) (by kernel_rfl) (fun _ _ _ h => h) (Or.inl ⟨by rfl, ?_⟩) (by assumption) ?_
            rotate_left
            · (intro w hSw; (try dsimp only at hSw); go_simp; try with_reducible rfl)
            simp only [Act.put, List.setIfInBounds_toArray, List.set_cons_zero, List.set_cons_succ]
            refine take_at (i := 2) (v := ?_) (some 65) rfl rfl (by kernel_rfl) (by kernel_rfl) (by kernel_rfl) (fun _ _ _ h => h) (Or.inl ⟨by rfl, ?_⟩) (by assumption) ?_
            rotate_left
            · (intro w hSw; (try dsimp only at hSw); go_simp; try with_reducible rfl)
            simp only [Act.put, List.setIfInBounds_toArray, List.set_cons_zero, List.set_cons_succ]
            refine take_at (i := 3) (v := ?_) (some 66) rfl rfl (by kernel_rfl) (by kernel_rfl) (by kernel_rfl) (fun _ _ _ h => h) (Or.inl ⟨by rfl, ?_⟩) (by assumption) ?_
            rotate_left
            · (intro w hSw; (try dsimp only at hSw); go_simp; try with_reducible rfl)
            simp only [Act.put, List.setIfInBounds_toArray, List.set_cons_zero, List.set_cons_succ]
            refine take_at (i := 4) (v := ?_) (some 67) rfl rfl (by kernel_rfl) (by kernel_rfl) (by kernel_rfl) (fun _ _ _ h => h) (Or.inl ⟨by rfl, ?_⟩) (by assumption) ?_
            rotate_left
            · (intro w hSw; (try dsimp only at hSw); go_simp; try with_reducible rfl)
            simp only [Act.put, List.setIfInBounds_toArray, List.set_cons_zero, List.set_cons_succ]
            refine take_at (i := 5) (v := ?_) (some 68) rfl rfl (by kernel_rfl) (by kernel_rfl) (by kernel_rfl) (fun _ _ _ h => h) (Or.inl ⟨by rfl, ?_⟩) (by assumption) ?_
            rotate_left
            · (intro w hSw; (try dsimp only at hSw); go_simp; try with_reducible rfl)
            simp only [Act.put, List.setIfInBounds_toArray, List.set_cons_zero, List.set_cons_succ]
            refine take_at (i := 6) (v := ?_) (some 69) rfl rfl (by kernel_rfl) (by kernel_rfl) (by kernel_rfl) (fun _ _ _ h => h) (Or.inl ⟨by rfl, ?_⟩) (by assumption) ?_
            rotate_left
            · (intro w hSw; (try dsimp only at hSw); go_simp; try with_reducible rfl)
            simp only [Act.put, List.setIfInBounds_toArray, List.set_cons_zero, List.set_cons_succ]
            refine take_at (i := 7) (v := ?_) (some 70) rfl rfl (by kernel_rfl) (by kernel_rfl) (by kernel_rfl) (fun _ _ _ h => h) (Or.inl ⟨by rfl, ?_⟩) (by assumption) ?_
            rotate_left
            · (intro w hSw; (try dsimp only at hSw); go_simp; try with_reducible rfl)
            simp only [Act.put, List.setIfInBounds_toArray, List.set_cons_zero, List.set_cons_succ]
            refine take_at (i := 8) (v := ?_) (some 71) rfl rfl (by kernel_rfl) (by kernel_rfl) (by kernel_rfl) (fun _ _ _ h => h) (Or.inl ⟨by rfl, ?_⟩) (by assumption) ?_
            rotate_left
            · (intro w hSw; (try dsimp only at hSw); go_simp; try with_reducible rfl)
            simp only [Act.put, List.setIfInBounds_toArray, List.set_cons_zero, List.set_cons_succ]
            refine take_at (i := 9) (v := ?_) (some 72) rfl rfl (by kernel_rfl) (by kernel_rfl) (by kernel_rfl) (fun _ _ _ h => h) (Or.inl ⟨by rfl, ?_⟩) (by assumption) ?_
            rotate_left
            · (intro w hSw; (try dsimp only at hSw); go_simp; try with_reducible rfl)
            simp only [Act.put, List.setIfInBounds_toArray, List.set_cons_zero, List.set_cons_succ]
            refine take_at (i := 10) (v := ?_) (some 73) rfl rfl (by kernel_rfl) (by kernel_rfl) (by kernel_rfl) (fun _ _ _ h => h) (Or.inl ⟨by rfl, ?_⟩) (by assumption) ?_
            rotate_left
            · (intro w hSw; (try dsimp only at hSw); go_simp; try with_reducible rfl)
            simp only [Act.put, List.setIfInBounds_toArray, List.set_cons_zero, List.set_cons_succ]
            refine take_at (i := 11) (v := ?_) (some 74) rfl rfl (by kernel_rfl) (by kernel_rfl) (by kernel_rfl) (fun _ _ _ h => h) (Or.inl ⟨by rfl, ?_⟩) (by assumption) ?_
            rotate_left
            · (intro w hSw; (try dsimp only at hSw); go_simp; try with_reducible rfl)
            simp only [Act.put, List.setIfInBounds_toArray, List.set_cons_zero, List.set_cons_succ]
            refine take_at (i := 12) (v := ?_) (some 75) rfl rfl (by kernel_rfl) (by kernel_rfl) (by kernel_rfl) (fun _ _ _ h => h) (Or.inl ⟨by rfl, ?_⟩) (by assumption) ?_
            rotate_left
            · (intro w hSw; (try dsimp only at hSw); go_simp; try with_reducible rfl)
            simp only [Act.put, List.setIfInBounds_toArray, List.set_cons_zero, List.set_cons_succ]
            refine take_at (i := 13) (v := ?_) (some 76) rfl rfl (by kernel_rfl) (by kernel_rfl) (by kernel_rfl) (fun _ _ _ h => h) (Or.inl ⟨by rfl, ?_⟩) (by assumption) ?_
            rotate_left
            · (intro w hSw; (try dsimp only at hSw); go_simp; try with_reducible rfl)
            simp only [Act.put, List.setIfInBounds_toArray, List.set_cons_zero, List.set_cons_succ]
            refine take_at (i := 14) (v := ?_) (some 77) rfl rfl (by kernel_rfl) (by kernel_rfl) (by kernel_rfl) (fun _ _ _ h => h) (Or.inl ⟨by rfl, ?_⟩) (by assumption) ?_
            rotate_left
            · (intro w hSw; (try dsimp only at hSw); go_simp; try with_reducible rfl)
            simp only [Act.put, List.setIfInBounds_toArray, List.set_cons_zero, List.set_cons_succ]
            refine take_at (i := 15) (v := ?_) (some 78) rfl rfl (by kernel_rfl) (by kernel_rfl) (by kernel_rfl) (fun _ _ _ h => h) (Or.inl ⟨by rfl, ?_⟩) (by assumption) ?_
            rotate_left
            · (intro w hSw; (try dsimp only at hSw); go_simp; try with_reducible rfl)
            simp only [Act.put, List.setIfInBounds_toArray, List.set_cons_zero, List.set_cons_succ]
            refine take_at (i := 16) (v := ?_) (some 79) rfl rfl (by kernel_rfl) (by kernel_rfl) (by kernel_rfl) (fun _ _ _ h => h) (Or.inl ⟨by rfl, ?_⟩) (by assumption) ?_
            rotate_left
            · (intro w hSw; (try dsimp only at hSw); go_simp; try with_reducible rfl)
            simp only [Act.put, List.setIfInBounds_toArray, List.set_cons_zero, List.set_cons_succ]
            refine take_at (i := 17) (v := ?_) (some 80) rfl rfl (by kernel_rfl) (by kernel_rfl) (by kernel_rfl) (fun _ _ _ h => h) (Or.inl ⟨by rfl, ?_⟩) (by assumption) ?_
            rotate_left
            · (intro w hSw; (try dsimp only at hSw); go_simp; try with_reducible rfl)
            simp only [Act.put, List.setIfInBounds_toArray, List.set_cons_zero, List.set_cons_succ]
            refine take_at (i := 18) (v := ?_) (some 81) rfl rfl (by kernel_rfl) (by kernel_rfl) (by kernel_rfl) (fun _ _ _ h => h) (Or.inl ⟨by rfl, ?_⟩) (by assumption) ?_
            rotate_left
            · (intro w hSw; (try dsimp only at hSw); go_simp; try with_reducible rfl)
            simp only [Act.put, List.setIfInBounds_toArray, List.set_cons_zero, List.set_cons_succ]
            refine take_at (i := 19) (v := ?_) (some 82) rfl rfl (by kernel_rfl) (by kernel_rfl) (by kernel_rfl) (fun _ _ _ h => h) (Or.inl ⟨by rfl, ?_⟩) (by assumption) ?_
            rotate_left
            · (intro w hSw; (try dsimp only at hSw); go_simp; try with_reducible rfl)
            simp only [Act.put, List.setIfInBounds_toArray, List.set_cons_zero, List.set_cons_succ]
            refine take_at (i := 20) (v := ?_) (some 83) rfl rfl (by kernel_rfl) (by kernel_rfl) (by kernel_rfl) (fun _ _ _ h => h) (Or.inl ⟨by rfl, ?_⟩) (by assumption) ?_
            rotate_left
            · (intro w hSw; (try dsimp only at hSw); go_simp; try with_reducible rfl)
            simp only [Act.put, List.setIfInBounds_toArray, List.set_cons_zero, List.set_cons_succ]
            refine take_at (i := 21) (v := ?_) (some 84) rfl rfl (by kernel_rfl) (by kernel_rfl) (by kernel_rfl) (fun _ _ _ h => h) (Or.inl ⟨by rfl, ?_⟩) (by assumption) ?_
            rotate_left
            · (intro w hSw; (try dsimp only at hSw); go_simp; try with_reducible rfl)
            simp only [Act.put, List.setIfInBounds_toArray, List.set_cons_zero, List.set_cons_succ]
            refine take_at (i := 22) (v := ?_) (some 85) rfl rfl (by kernel_rfl) (by kernel_rfl) (by kernel_rfl) (fun _ _ _ h => h) (Or.inl ⟨by rfl, ?_⟩) (by assumption) ?_
            rotate_left
            · (intro w hSw; (try dsimp only at hSw); go_simp; try with_reducible rfl)
            simp only [Act.put, List.setIfInBounds_toArray, List.set_cons_zero, List.set_cons_succ]
            refine take_at (i := 23) (v := ?_) (some 86) rfl rfl (by kernel_rfl) (by kernel_rfl) (by kernel_rfl) (fun _ _ _ h => h) (Or.inl ⟨by rfl, ?_⟩) (by assumption) ?_
            rotate_left
            · (intro w hSw; (try dsimp only at hSw); go_simp; try with_reducible rfl)
            simp only [Act.put, List.setIfInBounds_toArray, List.set_cons_zero, List.set_cons_succ]
            refine step_at (i := 24) (some 87) rfl rfl (by rfl) (by kernel_rfl) (.slice (some ⟨wr.drew.heap.size, 0, none⟩) 4 4) (wr.drew.alloc (.cells #[.int .u8 (IntKind.u8.wrap x), .int .u8 (IntKind.u8.wrap (x / 256)), .int .u8 (IntKind.u8.wrap (x / 65536)), .int .u8 (IntKind.u8.wrap (x / 16777216))] 5)) (bs_run 27 5 4 _ rfl 1 1 (.int .u8 0) #[.int .u8 (IntKind.u8.wrap x), .int .u8 (IntKind.u8.wrap (x / 256)), .int .u8 (IntKind.u8.wrap (x / 65536)), .int .u8 (IntKind.u8.wrap (x / 16777216))] [(0, .int .u8 (IntKind.u8.wrap x)), (1, .int .u8 (IntKind.u8.wrap (x / 256))), (2, .int .u8 (IntKind.u8.wrap (x / 65536))), (3, .int .u8 (IntKind.u8.wrap (x / 16777216)))] Try.underlying27 info_u8 (by decide) (by decide) (by kernel_rfl) (by kernel_rfl)) (KS.out _ (HE.out.drew.alloc HE.out.drew.size _)) (fun hHeld => ?_)
            simp only [Act.put, List.setIfInBounds_toArray, List.set_cons_zero, List.set_cons_succ]
            refine step_at (i := 25) (some 88) rfl rfl (by rfl) (by kernel_rfl) v' W' (vappend_run (.tmp 63) (.tmp 87) 27 27 rfl _ _ rfl rfl H1.out) KW.out (fun hHeld => ?_)
            simp only [Act.put, List.setIfInBounds_toArray, List.set_cons_zero, List.set_cons_succ]
            refine take_at (i := 26) (v := ?_) (some 6) rfl rfl (by kernel_rfl) (by kernel_rfl) (by kernel_rfl) (fun _ _ _ h => h) (Or.inl ⟨by rfl, ?_⟩) (by assumption) ?_
            rotate_left
            · (intro w hSw; (try dsimp only at hSw); go_simp; try with_reducible rfl)
            simp only [Act.put, List.setIfInBounds_toArray, List.set_cons_zero, List.set_cons_succ]
            refine wpAnyH_done (by kernel_rfl) ?_ _
            refine NoPanic.normal ?_
            clear hHeld
            go_wp2_with fail
            exact ⟨H2.out, by simp [RowKit.intOf]; omega⟩
          · obtain rfl : p = 11 + 2 * s.k := by omega
            have i0 : ¬ ((11 + 2 * s.k : Nat) : Int) < ((11 + 2 * s.k : Nat) : Int) := by omega
            obtain ⟨g2, cap2, hv, hg2, hcap2, hl2⟩ := ho.form (by omega) (fun j _ => s.beh_byte j)
            injection hv with hv1 _ hv2
            subst hv1 hv2
            obtain ⟨L, hL⟩ : ∃ L, 11 + 2 * s.k = L := ⟨_, rfl⟩
            obtain ⟨n, hn⟩ : ∃ n, 4 * (11 + 2 * s.k) = n := ⟨_, rfl⟩
            have TL : Hid (∀ q, n ≤ q → s.beh q = 0) := fun q hq => beh_tail s q (by omega)
            have n0 : 0 < n := by omega
            have n1 : n ≤ 300 := by omega
            rw [hn] at HO
            have em : (496 : Int) - (n : Int) = ((496 - n : Nat) : Int) := by omega
            obtain ⟨v5, W5, hr5, hG5⟩ := zeros_but 27 wr WO.heap.size n (496 - n) g2 cp s.beh HO.out (by omega) (by omega) hB.size
            rw [show n + (496 - n) = 496 by omega] at hG5
            have PP : Hid (BehP w s (.returned v5) W5) := by
              obtain ⟨g', cap', rfl, _, hO, hBt⟩ := hG5
              have hO' := hO.congr (G := s.beh) (fun q _ => by
                unfold cat
                by_cases gq : q < n
                · rw [if_pos gq]
                · rw [if_neg gq, TL.out q (by omega)])
              obtain ⟨g'', cap'', hv', hg'', _, hl⟩ := hO'.form (by omega) (fun j _ => s.beh_byte j)
              injection hv' with hv1 _ hv2
              injection hv1 with hv1
              injection hv1 with hv1 _ _
              subst hv1
              have z1 := B2.out.size
              have z2 := hB.size
              exact ⟨g', cap', rfl, by omega, Arg.of hl, (B2.out.trans (hB.mono z1)).trans (hBt.below (by omega) (by omega))⟩
            clear hG5 TL
            rw [hn, hL] at *
            go_wp2_with (at_builtin; refine wpList_append_go rfl (.tmp 89) (.tmp 92) 27 3 rfl _ _ rfl rfl hr5 ?_)
            go_ret
            exact PP.out
theorem sbehind_any (s : Sup) (a : Option Addr) (C : Nat) (w : World) (hA : HArg w a s.k s.h) (m : s.May) : Calls Try.prog 35 #[supV s a C] w (BehP w s) := by
  cases hf : s.f with
  | false => exact behind_f s a C w hA m hf
  | true => exact behind_t s a C w hA m hf
end Go.Proofs.Ytfapmogjmjlokaa
namespace Go.Proofs.Ytfapmogjmjlokaa
open Go.RowKit
set_option maxHeartbeats 400000 in
theorem swithin_any (x lo hi : Int) (w : World) {r : Bool} (hr : (decide (lo ≤ x) && decide (x ≤ hi)) = r) : Calls Try.prog 43 #[.int .i64 x, .int .i64 lo, .int .i64 hi] w fun e w' => e = .returned (.bool r) ∧ w' = w := by
  by_cases h1 : lo ≤ x
  · by_cases h2 : x ≤ hi
    · rw [decide_eq_true h1, decide_eq_true h2] at hr
      subst hr
      go_enter Try.func43, Try.ntmps43
      go_wp2
      go_ret
      exact ⟨rfl, rfl⟩
    · rw [decide_eq_true h1, decide_eq_false h2] at hr
      subst hr
      go_enter Try.func43, Try.ntmps43
      go_wp2
      go_ret
      exact ⟨rfl, rfl⟩
  · rw [decide_eq_false h1] at hr
    subst hr
    go_enter Try.func43, Try.ntmps43
    go_wp2
    go_ret
    exact ⟨rfl, rfl⟩
/-- Within bounds. -/
def inB (x lo hi : Int) : Bool := decide (lo ≤ x) && decide (x ≤ hi)
theorem inB_iff {x lo hi : Int} : inB x lo hi = true ↔ InR x lo hi := by unfold inB InR; simp
def vN (s : Sup) : Bool := decide (s.x 2 = 3) || decide (s.x 2 = 5) || decide (s.x 2 = 7)
def v1 (s : Sup) : Bool := inB (s.x 0) 1 1073741824 && vN s && inB (s.x 1) 0 (s.x 2 - 1)
def v2 (s : Sup) : Bool := v1 s && inB (s.x 3) 0 1073741824 && inB (s.x 4) 0 1073741824 && inB (s.x 5) 0 1073741824 && inB (s.x 6) 0 1073741824
def v3 (s : Sup) : Bool := v2 s && inB (s.x 8) 0 1073741824 && inB (s.x 7) 0 512 && decide (s.k ≤ 32)
def v4 (s : Sup) : Nat → Bool
  | 0 => v3 s
  | j + 1 => v4 s j && inB (s.h (2 * j)) 0 1073741824 && inB (s.h (2 * j + 1)) 0 1073741824
theorem v4_iff (s : Sup) : ∀ n, v4 s n = true ↔ v3 s = true ∧ ∀ j, j < 2 * n → InR (s.h j) 0 mOp
  | 0 => by simp [v4]
  | n + 1 => by
    rw [v4, Bool.and_eq_true, Bool.and_eq_true, v4_iff s n, inB_iff, inB_iff]
    constructor
    · rintro ⟨⟨⟨a, b⟩, c⟩, d⟩
      refine ⟨a, fun j hj => ?_⟩
      by_cases g : j < 2 * n
      · exact b j g
      · by_cases g2 : j = 2 * n
        · rw [g2]; exact c
        · rw [show j = 2 * n + 1 by omega]; exact d
    · rintro ⟨a, b⟩
      exact ⟨⟨⟨a, fun j hj => b j (by omega)⟩, b _ (by omega)⟩, b _ (by omega)⟩
theorem v4_may (s : Sup) : v4 s s.k = true ↔ s.May := by
  rw [v4_iff]
  unfold v3 v2 v1 vN
  simp only [Bool.and_eq_true, Bool.or_eq_true, decide_eq_true_eq, inB_iff]
  unfold Sup.May
  show _ ↔ (_ ∧ _ ∧ InR (s.x 0) 1 1073741824 ∧ _ ∧ InR (s.x 3) 0 1073741824 ∧ InR (s.x 4) 0 1073741824 ∧ InR (s.x 5) 0 1073741824 ∧ InR (s.x 6) 0 1073741824 ∧ _ ∧ InR (s.x 8) 0 1073741824 ∧ _)
  constructor
  · rintro ⟨⟨⟨⟨⟨⟨⟨⟨⟨⟨h0, hN⟩, h1⟩, h3⟩, h4⟩, h5⟩, h6⟩, h8⟩, h7⟩, hk⟩, hh⟩
    exact ⟨by omega, hk, h0, h1, h3, h4, h5, h6, h7, h8, hh⟩
  · rintro ⟨hN, hk, h0, h1, h3, h4, h5, h6, h7, h8, hh⟩
    exact ⟨⟨⟨⟨⟨⟨⟨⟨⟨⟨h0, by omega⟩, h1⟩, h3⟩, h4⟩, h5⟩, h6⟩, h8⟩, h7⟩, hk⟩, hh⟩
theorem v4_chk (s : Sup) : chkV s = if v4 s s.k = true then 0 else 2 := by
  unfold chkV
  by_cases h : s.May
  · rw [if_pos h, if_pos ((v4_may s).2 h)]
  · rw [if_neg h, if_neg (fun q => h ((v4_may s).1 q))]
/-- What lies there all the time. -/
def vSt (w : World) (s : Sup) (a : Option Addr) (C : Nat) (W : World) : Prop := Rec19 W w.heap.size 0 (supC s a C) ∧ HArg W a s.k s.h ∧ Below w.heap.size w W
def vRel (w : World) (s : Sup) (b i : Value) (W : World) : Prop := ∃ j : Nat, j ≤ s.k ∧ b = .bool (v4 s j) ∧ i = .int .i64 j ∧ W = w
set_option maxRecDepth 100000 in
set_option maxHeartbeats 2000000 in
theorem scheck_gen (s : Sup) (a : Option Addr) (C : Nat) (w : World) (hA : HArg w a s.k s.h) (hk : s.k ≤ 1000) : Calls Try.prog 17 #[supV s a C] w fun e w' => e = .returned (.int .i64 (if v4 s s.k = true then 0 else 2)) ∧ Below w.heap.size w w' := by
  have HA : Hid (HArg w a s.k s.h) := hA
  have HK : Hid (s.k ≤ 1000) := hk
  clear hA hk
  unfold supV
  go_enter Try.func17, Try.ntmps17
  go_upto_region 1 with (refine wpList_box_rec rfl 26 (.tmp 0) rfl (supC s a C) rfl w.heap.size rfl ?_; intro W1 R1 B1 z1)
  obtain ⟨c0, _⟩ := R1.cel 0 _ rfl
  obtain ⟨c1, _⟩ := R1.cel 1 _ rfl
  obtain ⟨c2, _⟩ := R1.cel 2 _ rfl
  obtain ⟨c3, _⟩ := R1.cel 3 _ rfl
  obtain ⟨c4, _⟩ := R1.cel 4 _ rfl
  obtain ⟨c5, _⟩ := R1.cel 5 _ rfl
  obtain ⟨c6, _⟩ := R1.cel 6 _ rfl
  obtain ⟨c7, _⟩ := R1.cel 7 _ rfl
  obtain ⟨c8, _⟩ := R1.cel 8 _ rfl
  obtain ⟨c10, _⟩ := R1.cel 10 _ rfl
  have BB : Hid (Below w.heap.size w W1) := B1
  have AA : Hid (HArg W1 a s.k s.h) := HA.out.below B1
  clear R1 B1 z1 HA
  go_cut [3] (fun t3 wx => t3 = .bool (v1 s) ∧ W1 = wx)
  case first =>
    cases g0 : inB (s.x 0) 1 1073741824 with
    | false =>
      have G0 : Hid (inB (s.x 0) 1 1073741824 = false) := g0
      have E : Hid (v1 s = false) := (by unfold v1; rw [g0]; rfl : v1 s = false)
      clear g0
      as_aux_lemma =>
        go_wp2_with (first | (have _q := G0; clear _q; go_at_call 43; refine (swithin_any (s.x 0) 1 1073741824 _ G0.out).mono ?_; rintro e W2 ⟨rfl, hW2⟩; rw [hW2]; clear hW2 W2 G0))
        go_meet
        case rel => exact ⟨by rw [E.out], rfl⟩
    | true =>
      have G0 : Hid (inB (s.x 0) 1 1073741824 = true) := g0
      by_cases n3 : s.x 2 = 3
      · cases g1 : inB (s.x 1) 0 2 with
        | false =>
          have G1 : Hid (inB (s.x 1) 0 2 = false) := g1
          have E : Hid (v1 s = false) := (by unfold v1; rw [n3]; rw [show ((3 : Int) - 1) = 2 from rfl, g1]; simp : v1 s = false)
          clear g0 g1
          as_aux_lemma =>
            go_wp2_with (first | (have _q := G0; clear _q; go_at_call 43; refine (swithin_any (s.x 0) 1 1073741824 _ G0.out).mono ?_; rintro e W2 ⟨rfl, hW2⟩; rw [hW2]; clear hW2 W2 G0) | (have _q := G1; clear _q; go_at_call 43; refine (swithin_any (s.x 1) 0 2 _ G1.out).mono ?_; rintro e W2 ⟨rfl, hW2⟩; rw [hW2]; clear hW2 W2 G1))
            go_meet
            case rel => exact ⟨by rw [E.out], rfl⟩
        | true =>
          have G1 : Hid (inB (s.x 1) 0 2 = true) := g1
          have E : Hid (v1 s = true) := (by unfold v1 vN; rw [n3]; rw [show ((3 : Int) - 1) = 2 from rfl, g0, g1]; rfl : v1 s = true)
          clear g0 g1
          as_aux_lemma =>
            go_wp2_with (first | (have _q := G0; clear _q; go_at_call 43; refine (swithin_any (s.x 0) 1 1073741824 _ G0.out).mono ?_; rintro e W2 ⟨rfl, hW2⟩; rw [hW2]; clear hW2 W2 G0) | (have _q := G1; clear _q; go_at_call 43; refine (swithin_any (s.x 1) 0 2 _ G1.out).mono ?_; rintro e W2 ⟨rfl, hW2⟩; rw [hW2]; clear hW2 W2 G1))
            go_meet
            case rel => exact ⟨by rw [E.out], rfl⟩
      · by_cases n5 : s.x 2 = 5
        · cases g1 : inB (s.x 1) 0 4 with
          | false =>
            have G1 : Hid (inB (s.x 1) 0 4 = false) := g1
            have E : Hid (v1 s = false) := (by unfold v1; rw [n5]; rw [show ((5 : Int) - 1) = 4 from rfl, g1]; simp : v1 s = false)
            clear g0 g1
            as_aux_lemma =>
              go_wp2_with (first | (have _q := G0; clear _q; go_at_call 43; refine (swithin_any (s.x 0) 1 1073741824 _ G0.out).mono ?_; rintro e W2 ⟨rfl, hW2⟩; rw [hW2]; clear hW2 W2 G0) | (have _q := G1; clear _q; go_at_call 43; refine (swithin_any (s.x 1) 0 4 _ G1.out).mono ?_; rintro e W2 ⟨rfl, hW2⟩; rw [hW2]; clear hW2 W2 G1))
              go_meet
              case rel => exact ⟨by rw [E.out], rfl⟩
          | true =>
            have G1 : Hid (inB (s.x 1) 0 4 = true) := g1
            have E : Hid (v1 s = true) := (by unfold v1 vN; rw [n5]; rw [show ((5 : Int) - 1) = 4 from rfl, g0, g1]; rfl : v1 s = true)
            clear g0 g1
            as_aux_lemma =>
              go_wp2_with (first | (have _q := G0; clear _q; go_at_call 43; refine (swithin_any (s.x 0) 1 1073741824 _ G0.out).mono ?_; rintro e W2 ⟨rfl, hW2⟩; rw [hW2]; clear hW2 W2 G0) | (have _q := G1; clear _q; go_at_call 43; refine (swithin_any (s.x 1) 0 4 _ G1.out).mono ?_; rintro e W2 ⟨rfl, hW2⟩; rw [hW2]; clear hW2 W2 G1))
              go_meet
              case rel => exact ⟨by rw [E.out], rfl⟩
        · by_cases n7 : s.x 2 = 7
          · cases g1 : inB (s.x 1) 0 6 with
            | false =>
              have G1 : Hid (inB (s.x 1) 0 6 = false) := g1
              have E : Hid (v1 s = false) := (by unfold v1; rw [n7]; rw [show ((7 : Int) - 1) = 6 from rfl, g1]; simp : v1 s = false)
              clear g0 g1
              as_aux_lemma =>
                go_wp2_with (first | (have _q := G0; clear _q; go_at_call 43; refine (swithin_any (s.x 0) 1 1073741824 _ G0.out).mono ?_; rintro e W2 ⟨rfl, hW2⟩; rw [hW2]; clear hW2 W2 G0) | (have _q := G1; clear _q; go_at_call 43; refine (swithin_any (s.x 1) 0 6 _ G1.out).mono ?_; rintro e W2 ⟨rfl, hW2⟩; rw [hW2]; clear hW2 W2 G1))
                go_meet
                case rel => exact ⟨by rw [E.out], rfl⟩
            | true =>
              have G1 : Hid (inB (s.x 1) 0 6 = true) := g1
              have E : Hid (v1 s = true) := (by unfold v1 vN; rw [n7]; rw [show ((7 : Int) - 1) = 6 from rfl, g0, g1]; rfl : v1 s = true)
              clear g0 g1
              as_aux_lemma =>
                go_wp2_with (first | (have _q := G0; clear _q; go_at_call 43; refine (swithin_any (s.x 0) 1 1073741824 _ G0.out).mono ?_; rintro e W2 ⟨rfl, hW2⟩; rw [hW2]; clear hW2 W2 G0) | (have _q := G1; clear _q; go_at_call 43; refine (swithin_any (s.x 1) 0 6 _ G1.out).mono ?_; rintro e W2 ⟨rfl, hW2⟩; rw [hW2]; clear hW2 W2 G1))
                go_meet
                case rel => exact ⟨by rw [E.out], rfl⟩
          · have E : Hid (v1 s = false) := (by unfold v1 vN; rw [decide_eq_false n3, decide_eq_false n5, decide_eq_false n7]; simp : v1 s = false)
            clear g0
            as_aux_lemma =>
              go_wp2_with (first | (have _q := G0; clear _q; go_at_call 43; refine (swithin_any (s.x 0) 1 1073741824 _ G0.out).mono ?_; rintro e W2 ⟨rfl, hW2⟩; rw [hW2]; clear hW2 W2 G0))
              go_meet
              case rel => exact ⟨by rw [E.out], rfl⟩
  case rest =>
    obtain ⟨rfl, rfl⟩ := hcut
    go_upto_region 2 with fail
    go_cut [3] (fun t3 wx => t3 = .bool (v2 s) ∧ W1 = wx)
    case first =>
      cases u1 : v1 s with
      | false =>
        have E : Hid (v2 s = false) := (by unfold v2; rw [u1]; rfl : v2 s = false)
        clear u1
        as_aux_lemma =>
          go_wp2_with (fail)
          go_meet
          case rel => exact ⟨by rw [E.out], rfl⟩
      | true =>
        cases g3 : inB (s.x 3) 0 1073741824 with
        | false =>
          have G3 : Hid (inB (s.x 3) 0 1073741824 = false) := g3
          have E : Hid (v2 s = false) := (by unfold v2; rw [g3]; simp : v2 s = false)
          clear g3 u1
          as_aux_lemma =>
            go_wp2_with (first | (have _q := G3; clear _q; go_at_call 43; refine (swithin_any (s.x 3) 0 1073741824 _ G3.out).mono ?_; rintro e W2 ⟨rfl, hW2⟩; rw [hW2]; clear hW2 W2 G3))
            go_meet
            case rel => exact ⟨by rw [E.out], rfl⟩
        | true =>
          have G3 : Hid (inB (s.x 3) 0 1073741824 = true) := g3
          cases g4 : inB (s.x 4) 0 1073741824 with
          | false =>
            have G4 : Hid (inB (s.x 4) 0 1073741824 = false) := g4
            have E : Hid (v2 s = false) := (by unfold v2; rw [g4]; simp : v2 s = false)
            clear g3 g4 u1
            as_aux_lemma =>
              go_wp2_with (first | (have _q := G3; clear _q; go_at_call 43; refine (swithin_any (s.x 3) 0 1073741824 _ G3.out).mono ?_; rintro e W2 ⟨rfl, hW2⟩; rw [hW2]; clear hW2 W2 G3) | (have _q := G4; clear _q; go_at_call 43; refine (swithin_any (s.x 4) 0 1073741824 _ G4.out).mono ?_; rintro e W2 ⟨rfl, hW2⟩; rw [hW2]; clear hW2 W2 G4))
              go_meet
              case rel => exact ⟨by rw [E.out], rfl⟩
          | true =>
            have G4 : Hid (inB (s.x 4) 0 1073741824 = true) := g4
            cases g5 : inB (s.x 5) 0 1073741824 with
            | false =>
              have G5 : Hid (inB (s.x 5) 0 1073741824 = false) := g5
              have E : Hid (v2 s = false) := (by unfold v2; rw [g5]; simp : v2 s = false)
              clear g3 g4 g5 u1
              as_aux_lemma =>
                go_wp2_with (first | (have _q := G3; clear _q; go_at_call 43; refine (swithin_any (s.x 3) 0 1073741824 _ G3.out).mono ?_; rintro e W2 ⟨rfl, hW2⟩; rw [hW2]; clear hW2 W2 G3) | (have _q := G4; clear _q; go_at_call 43; refine (swithin_any (s.x 4) 0 1073741824 _ G4.out).mono ?_; rintro e W2 ⟨rfl, hW2⟩; rw [hW2]; clear hW2 W2 G4) | (have _q := G5; clear _q; go_at_call 43; refine (swithin_any (s.x 5) 0 1073741824 _ G5.out).mono ?_; rintro e W2 ⟨rfl, hW2⟩; rw [hW2]; clear hW2 W2 G5))
                go_meet
                case rel => exact ⟨by rw [E.out], rfl⟩
            | true =>
              have G5 : Hid (inB (s.x 5) 0 1073741824 = true) := g5
              cases g6 : inB (s.x 6) 0 1073741824 with
              | false =>
                have G6 : Hid (inB (s.x 6) 0 1073741824 = false) := g6
                have E : Hid (v2 s = false) := (by unfold v2; rw [g6]; simp : v2 s = false)
                clear g3 g4 g5 g6 u1
                as_aux_lemma =>
                  go_wp2_with (first | (have _q := G3; clear _q; go_at_call 43; refine (swithin_any (s.x 3) 0 1073741824 _ G3.out).mono ?_; rintro e W2 ⟨rfl, hW2⟩; rw [hW2]; clear hW2 W2 G3) | (have _q := G4; clear _q; go_at_call 43; refine (swithin_any (s.x 4) 0 1073741824 _ G4.out).mono ?_; rintro e W2 ⟨rfl, hW2⟩; rw [hW2]; clear hW2 W2 G4) | (have _q := G5; clear _q; go_at_call 43; refine (swithin_any (s.x 5) 0 1073741824 _ G5.out).mono ?_; rintro e W2 ⟨rfl, hW2⟩; rw [hW2]; clear hW2 W2 G5) | (have _q := G6; clear _q; go_at_call 43; refine (swithin_any (s.x 6) 0 1073741824 _ G6.out).mono ?_; rintro e W2 ⟨rfl, hW2⟩; rw [hW2]; clear hW2 W2 G6))
                  go_meet
                  case rel => exact ⟨by rw [E.out], rfl⟩
              | true =>
                have G6 : Hid (inB (s.x 6) 0 1073741824 = true) := g6
                have E : Hid (v2 s = true) := (by unfold v2; rw [u1, g3, g4, g5, g6]; rfl : v2 s = true)
                clear g3 g4 g5 g6 u1
                as_aux_lemma =>
                  go_wp2_with (first | (have _q := G3; clear _q; go_at_call 43; refine (swithin_any (s.x 3) 0 1073741824 _ G3.out).mono ?_; rintro e W2 ⟨rfl, hW2⟩; rw [hW2]; clear hW2 W2 G3) | (have _q := G4; clear _q; go_at_call 43; refine (swithin_any (s.x 4) 0 1073741824 _ G4.out).mono ?_; rintro e W2 ⟨rfl, hW2⟩; rw [hW2]; clear hW2 W2 G4) | (have _q := G5; clear _q; go_at_call 43; refine (swithin_any (s.x 5) 0 1073741824 _ G5.out).mono ?_; rintro e W2 ⟨rfl, hW2⟩; rw [hW2]; clear hW2 W2 G5) | (have _q := G6; clear _q; go_at_call 43; refine (swithin_any (s.x 6) 0 1073741824 _ G6.out).mono ?_; rintro e W2 ⟨rfl, hW2⟩; rw [hW2]; clear hW2 W2 G6))
                  go_meet
                  case rel => exact ⟨by rw [E.out], rfl⟩
    case rest =>
      obtain ⟨rfl, rfl⟩ := hcut
      go_upto_region 3 with fail
      go_cut [3] (fun t3 wx => t3 = .bool (v3 s) ∧ W1 = wx)
      case first =>
        cases u1 : v2 s with
        | false =>
          have E : Hid (v3 s = false) := (by unfold v3; rw [u1]; rfl : v3 s = false)
          clear u1
          as_aux_lemma =>
            go_wp2_with (fail)
            go_meet
            case rel => exact ⟨by rw [E.out], rfl⟩
        | true =>
          cases g8 : inB (s.x 8) 0 1073741824 with
          | false =>
            have G8 : Hid (inB (s.x 8) 0 1073741824 = false) := g8
            have E : Hid (v3 s = false) := (by unfold v3; rw [g8]; simp : v3 s = false)
            clear g8 u1
            as_aux_lemma =>
              go_wp2_with (first | (have _q := G8; clear _q; go_at_call 43; refine (swithin_any (s.x 8) 0 1073741824 _ G8.out).mono ?_; rintro e W2 ⟨rfl, hW2⟩; rw [hW2]; clear hW2 W2 G8))
              go_meet
              case rel => exact ⟨by rw [E.out], rfl⟩
          | true =>
            have G8 : Hid (inB (s.x 8) 0 1073741824 = true) := g8
            cases g7 : inB (s.x 7) 0 512 with
            | false =>
              have G7 : Hid (inB (s.x 7) 0 512 = false) := g7
              have E : Hid (v3 s = false) := (by unfold v3; rw [g7]; simp : v3 s = false)
              clear g8 g7 u1
              as_aux_lemma =>
                go_wp2_with (first | (have _q := G8; clear _q; go_at_call 43; refine (swithin_any (s.x 8) 0 1073741824 _ G8.out).mono ?_; rintro e W2 ⟨rfl, hW2⟩; rw [hW2]; clear hW2 W2 G8) | (have _q := G7; clear _q; go_at_call 43; refine (swithin_any (s.x 7) 0 512 _ G7.out).mono ?_; rintro e W2 ⟨rfl, hW2⟩; rw [hW2]; clear hW2 W2 G7))
                go_meet
                case rel => exact ⟨by rw [E.out], rfl⟩
            | true =>
              have G7 : Hid (inB (s.x 7) 0 512 = true) := g7
              by_cases hk : s.k ≤ 32
              · have E : Hid (v3 s = true) := (by unfold v3; rw [u1, g8, g7, decide_eq_true hk]; rfl : v3 s = true)
                have hk' : (s.k : Int) ≤ 32 := by omega
                clear g8 g7 u1
                as_aux_lemma =>
                  go_wp2_with (first | (have _q := G8; clear _q; go_at_call 43; refine (swithin_any (s.x 8) 0 1073741824 _ G8.out).mono ?_; rintro e W2 ⟨rfl, hW2⟩; rw [hW2]; clear hW2 W2 G8) | (have _q := G7; clear _q; go_at_call 43; refine (swithin_any (s.x 7) 0 512 _ G7.out).mono ?_; rintro e W2 ⟨rfl, hW2⟩; rw [hW2]; clear hW2 W2 G7))
                  go_meet
                  case rel => exact ⟨by rw [E.out], rfl⟩
              · have E : Hid (v3 s = false) := (by unfold v3; rw [decide_eq_false hk]; simp : v3 s = false)
                have hk' : ¬ (s.k : Int) ≤ 32 := by omega
                clear g8 g7 u1
                as_aux_lemma =>
                  go_wp2_with (first | (have _q := G8; clear _q; go_at_call 43; refine (swithin_any (s.x 8) 0 1073741824 _ G8.out).mono ?_; rintro e W2 ⟨rfl, hW2⟩; rw [hW2]; clear hW2 W2 G8) | (have _q := G7; clear _q; go_at_call 43; refine (swithin_any (s.x 7) 0 512 _ G7.out).mono ?_; rintro e W2 ⟨rfl, hW2⟩; rw [hW2]; clear hW2 W2 G7))
                  go_meet
                  case rel => exact ⟨by rw [E.out, decide_eq_false (by omega)], rfl⟩
      case rest =>
        obtain ⟨rfl, rfl⟩ := hcut
        clear c0 c1 c2 c3 c4 c5 c6 c7 c8
        have ST : Hid (vRel W1 s (.bool (v3 s)) (.int .i64 0) W1) := ⟨0, Nat.zero_le _, rfl, rfl, rfl⟩
        go_wp2_with fail
        go_loopw [3, 4] (fun b i wr => vRel W1 s b i wr) (fun _ i _ => s.k - (RowKit.intOf i).toNat)
        case atStart => exact ST.out
        case round =>
          obtain ⟨j, hj, rfl, rfl, rfl⟩ := hrel
          clear ST
          have hK : s.k ≤ 1000 := HK.out
          as_aux_lemma =>
            by_cases hlt : j < s.k
            · have i0 : (j : Int) < (s.k : Int) := by omega
              cases u1 : v4 s j with
              | false =>
                have E : Hid (v4 s (j + 1) = false) := (by rw [v4, u1]; rfl : v4 s (j + 1) = false)
                clear u1
                go_wp2_with fail
                exact ⟨⟨j + 1, hlt, by rw [E.out], by go_num, rfl⟩, by simp [RowKit.intOf]; omega⟩
              | true =>
                obtain ⟨b, off, rfl, hc, hb⟩ : ∃ b off, a = some ⟨b, off, none⟩ ∧ (∀ j, j < 2 * s.k → wr.cell? ⟨b, off + j, none⟩ = some (.int .i64 (s.h j))) ∧ b < wr.heap.size := by
                  rcases AA.out with e | h
                  · omega
                  · exact h
                have d0 := hc (2 * j) (by omega)
                have d1 := hc (2 * j + 1) (by omega)
                clear hc hb
                have d0' : wr.cell? ⟨b, off + j * 2, none⟩ = some (.int .i64 (s.h (2 * j))) := by rw [Nat.mul_comm j 2]; exact d0
                have d1' : wr.cell? ⟨b, off + j * 2 + 1, none⟩ = some (.int .i64 (s.h (2 * j + 1))) := by rw [Nat.mul_comm j 2, Nat.add_assoc]; exact d1
                clear d0 d1
                cases g0 : inB (s.h (2 * j)) 0 1073741824 with
                | false =>
                  have G0 : Hid (inB (s.h (2 * j)) 0 1073741824 = false) := g0
                  have E : Hid (v4 s (j + 1) = false) := (by rw [v4, g0]; simp : v4 s (j + 1) = false)
                  clear u1 g0
                  generalize s.h (2 * j) = y0 at d0' G0
                  go_wp2_with (go_at_call 43; refine (swithin_any y0 0 1073741824 _ G0.out).mono ?_; rintro e W2 ⟨rfl, hW2⟩; rw [hW2]; clear hW2 W2)
                  exact ⟨⟨j + 1, hlt, by rw [E.out], by go_num, rfl⟩, by simp [RowKit.intOf]; omega⟩
                | true =>
                  have G0 : Hid (inB (s.h (2 * j)) 0 1073741824 = true) := g0
                  obtain ⟨r, hr⟩ : ∃ r, inB (s.h (2 * j + 1)) 0 1073741824 = r := ⟨_, rfl⟩
                  have G1 : Hid (inB (s.h (2 * j + 1)) 0 1073741824 = r) := hr
                  have E : Hid (v4 s (j + 1) = r) := (by rw [v4, u1, g0, hr]; rfl : v4 s (j + 1) = r)
                  clear u1 g0 hr
                  generalize s.h (2 * j) = y0 at d0' G0
                  generalize s.h (2 * j + 1) = y1 at d1' G1
                  go_wp2_with (first
                    | (have _q := G0; clear _q; go_at_call 43; refine (swithin_any y0 0 1073741824 _ G0.out).mono ?_; rintro e W2 ⟨rfl, hW2⟩; rw [hW2]; clear hW2 W2 G0)
                    | (go_at_call 43; refine (swithin_any y1 0 1073741824 _ G1.out).mono ?_; rintro e W2 ⟨rfl, hW2⟩; rw [hW2]; clear hW2 W2))
                  exact ⟨⟨j + 1, hlt, by rw [E.out], by go_num, rfl⟩, by simp [RowKit.intOf]; omega⟩
            · obtain rfl : j = s.k := by omega
              have i0 : ¬ (s.k : Int) < (s.k : Int) := by omega
              cases u1 : v4 s s.k with
              | false =>
                go_wp2_with fail
                go_ret
                exact ⟨by simp, BB.out⟩
              | true =>
                go_wp2_with fail
                go_ret
                exact ⟨by simp, BB.out⟩
theorem scheck_any (s : Sup) (a : Option Addr) (C : Nat) (w : World) (hA : HArg w a s.k s.h) (hk : s.k ≤ 1000) : Calls Try.prog 17 #[supV s a C] w fun e w' => e = .returned (.int .i64 (chkV s)) ∧ Below w.heap.size w w' := by
  rw [v4_chk]
  exact scheck_gen s a C w hA hk
end Go.Proofs.Ytfapmogjmjlokaa
namespace Go.Proofs.Ytfapmogjmjlokaa
open Go.RowKit
theorem at_sum (f : Nat → Int) : f 0 + f 1 * 256 + f 2 * 65536 + f 3 * 16777216 = ps f 4 := by
  simp only [ps]
  omega
set_option maxRecDepth 100000 in
set_option maxHeartbeats 1000000 in
theorem at_any (b off C i : Nat) (F : Nat → Int) (w : World) (h : Lies w b off 512 F) (hi : i ≤ 123) : Calls Try.prog 39 #[.slice (some ⟨b, off, none⟩) 512 C, .int .i64 (i : Int)] w fun e w' => e = .returned (.int .i64 (rdN (behO F) i)) ∧ Below w.heap.size w w' := by
  have q : rdN (behO F) i = F (16 + 4 * i) + F (16 + 4 * i + 1) * 256 + F (16 + 4 * i + 2) * 65536 + F (16 + 4 * i + 3) * 16777216 := by
    unfold rdN behO
    rw [← at_sum]
    simp only [Nat.add_assoc, Nat.add_zero]
  rw [q]
  clear q
  have c0 := h.1 (16 + 4 * i) (by omega)
  have c1 := h.1 (16 + 4 * i + 1) (by omega)
  have c2 := h.1 (16 + 4 * i + 2) (by omega)
  have c3 := h.1 (16 + 4 * i + 3) (by omega)
  have b0 := h.2.1 (16 + 4 * i) (by omega)
  have b1 := h.2.1 (16 + 4 * i + 1) (by omega)
  have b2 := h.2.1 (16 + 4 * i + 2) (by omega)
  have b3 := h.2.1 (16 + 4 * i + 3) (by omega)
  clear h
  generalize F (16 + 4 * i) = f0 at *
  generalize F (16 + 4 * i + 1) = f1 at *
  generalize F (16 + 4 * i + 2) = f2 at *
  generalize F (16 + 4 * i + 3) = f3 at *
  obtain ⟨k, hk⟩ : ∃ k, 16 + 4 * i = k := ⟨_, rfl⟩
  rw [hk] at c0 c1 c2 c3
  have k0 : (16 : Int) + 4 * (i : Int) = (k : Int) := by omega
  have k1 : (k : Int) + 3 < 512 := by omega
  have i1 : (0 : Int) ≤ (i : Int) := by omega
  have i2 : (i : Int) ≤ 123 := by omega
  go_enter Try.func39, Try.ntmps39
  go_wp2_with fail
  have k2 : (0 : Int) ≤ (k : Int) := by omega
  have w1 : IntKind.i64.wrap ((k : Int) + 1) = (k : Int) + 1 := by simp only [IntKind.wrap_i64]; omega
  have w2 : IntKind.i64.wrap ((k : Int) + 2) = (k : Int) + 2 := by simp only [IntKind.wrap_i64]; omega
  have w3 : IntKind.i64.wrap ((k : Int) + 3) = (k : Int) + 3 := by simp only [IntKind.wrap_i64]; omega
  have p1 : (0 : Int) ≤ (k : Int) + 1 := by omega
  have p2 : (0 : Int) ≤ (k : Int) + 2 := by omega
  have p3 : (0 : Int) ≤ (k : Int) + 3 := by omega
  have j0 : (k : Int) < 512 := by omega
  have j1 : (k : Int) + 1 < 512 := by omega
  have j2 : (k : Int) + 2 < 512 := by omega
  have t1 : ((k : Int) + 1).toNat = k + 1 := by omega
  have t2 : ((k : Int) + 2).toNat = k + 2 := by omega
  have t3 : ((k : Int) + 3).toNat = k + 3 := by omega
  have d0 : w.drew.cell? ⟨b, off + k, none⟩ = some (.int .u8 f0) := c0
  have d1 : w.drew.cell? ⟨b, off + (k + 1), none⟩ = some (.int .u8 f1) := c1
  have d2 : w.drew.cell? ⟨b, off + (k + 2), none⟩ = some (.int .u8 f2) := c2
  have d3 : w.drew.cell? ⟨b, off + (k + 3), none⟩ = some (.int .u8 f3) := c3
  clear k0 hk i1 i2 c0 c1 c2 c3
  refine wp_region_noPanic ?_
  refine wp_region_held_drew (S := fun W => W = w.drew) (by kernel_rfl) ?_ (fun hHeld => ?_)
  · rfl
  refine take_at (i := 0) (v := ?_) (some 9) rfl rfl (by kernel_rfl) (by kernel_rfl) (by kernel_rfl) (fun _ _ _ h => h) (Or.inl ⟨by rfl, ?_⟩) (by assumption) ?_
  rotate_left
  · (intro u hSw; subst hSw; go_simp; first | done | with_reducible rfl | (simp only [w1, w2, w3, p1, p2, p3, j1, j2, k1, t1, t2, t3, and_self, if_true]; with_reducible rfl))
  simp only [Act.put, List.setIfInBounds_toArray, List.set_cons_zero, List.set_cons_succ]
  refine take_at (i := 1) (v := ?_) (some 10) rfl rfl (by kernel_rfl) (by kernel_rfl) (by kernel_rfl) (fun _ _ _ h => h) (Or.inl ⟨by rfl, ?_⟩) (by assumption) ?_
  rotate_left
  · (intro u hSw; subst hSw; go_simp; first | done | with_reducible rfl | (simp only [w1, w2, w3, p1, p2, p3, j1, j2, k1, t1, t2, t3, and_self, if_true]; with_reducible rfl))
  simp only [Act.put, List.setIfInBounds_toArray, List.set_cons_zero, List.set_cons_succ]
  refine take_at (i := 2) (v := ?_) (some 11) rfl rfl (by kernel_rfl) (by kernel_rfl) (by kernel_rfl) (fun _ _ _ h => h) (Or.inl ⟨by rfl, ?_⟩) (by assumption) ?_
  rotate_left
  · (intro u hSw; subst hSw; go_simp; first | done | with_reducible rfl | (simp only [w1, w2, w3, p1, p2, p3, j1, j2, k1, t1, t2, t3, and_self, if_true]; with_reducible rfl))
  simp only [Act.put, List.setIfInBounds_toArray, List.set_cons_zero, List.set_cons_succ]
  refine take_at (i := 3) (v := ?_) (some 12) rfl rfl (by kernel_rfl) (by kernel_rfl) (by kernel_rfl) (fun _ _ _ h => h) (Or.inl ⟨by rfl, ?_⟩) (by assumption) ?_
  rotate_left
  · (intro u hSw; subst hSw; go_simp; first | done | with_reducible rfl | (simp only [w1, w2, w3, p1, p2, p3, j1, j2, k1, t1, t2, t3, and_self, if_true]; with_reducible rfl))
  simp only [Act.put, List.setIfInBounds_toArray, List.set_cons_zero, List.set_cons_succ]
  refine take_at (i := 4) (v := ?_) (some 13) rfl rfl (by kernel_rfl) (by kernel_rfl) (by kernel_rfl) (fun _ _ _ h => h) (Or.inl ⟨by rfl, ?_⟩) (by assumption) ?_
  rotate_left
  · (intro u hSw; subst hSw; go_simp; first | done | with_reducible rfl | (simp only [w1, w2, w3, p1, p2, p3, j1, j2, k1, t1, t2, t3, and_self, if_true]; with_reducible rfl))
  simp only [Act.put, List.setIfInBounds_toArray, List.set_cons_zero, List.set_cons_succ]
  refine take_at (i := 5) (v := ?_) (some 14) rfl rfl (by kernel_rfl) (by kernel_rfl) (by kernel_rfl) (fun _ _ _ h => h) (Or.inl ⟨by rfl, ?_⟩) (by assumption) ?_
  rotate_left
  · (intro u hSw; subst hSw; go_simp; first | done | with_reducible rfl | (simp only [w1, w2, w3, p1, p2, p3, j1, j2, k1, t1, t2, t3, and_self, if_true]; with_reducible rfl))
  simp only [Act.put, List.setIfInBounds_toArray, List.set_cons_zero, List.set_cons_succ]
  refine take_at (i := 6) (v := ?_) (some 15) rfl rfl (by kernel_rfl) (by kernel_rfl) (by kernel_rfl) (fun _ _ _ h => h) (Or.inl ⟨by rfl, ?_⟩) (by assumption) ?_
  rotate_left
  · (intro u hSw; subst hSw; go_simp; first | done | with_reducible rfl | (simp only [w1, w2, w3, p1, p2, p3, j1, j2, k1, t1, t2, t3, and_self, if_true]; with_reducible rfl))
  simp only [Act.put, List.setIfInBounds_toArray, List.set_cons_zero, List.set_cons_succ]
  refine take_at (i := 7) (v := ?_) (some 16) rfl rfl (by kernel_rfl) (by kernel_rfl) (by kernel_rfl) (fun _ _ _ h => h) (Or.inl ⟨by rfl, ?_⟩) (by assumption) ?_
  rotate_left
  · (intro u hSw; subst hSw; go_simp; first | done | with_reducible rfl | (simp only [w1, w2, w3, p1, p2, p3, j1, j2, k1, t1, t2, t3, and_self, if_true]; with_reducible rfl))
  simp only [Act.put, List.setIfInBounds_toArray, List.set_cons_zero, List.set_cons_succ]
  refine take_at (i := 8) (v := ?_) (some 17) rfl rfl (by kernel_rfl) (by kernel_rfl) (by kernel_rfl) (fun _ _ _ h => h) (Or.inl ⟨by rfl, ?_⟩) (by assumption) ?_
  rotate_left
  · (intro u hSw; subst hSw; go_simp; first | done | with_reducible rfl | (simp only [w1, w2, w3, p1, p2, p3, j1, j2, k1, t1, t2, t3, and_self, if_true]; with_reducible rfl))
  simp only [Act.put, List.setIfInBounds_toArray, List.set_cons_zero, List.set_cons_succ]
  refine take_at (i := 9) (v := ?_) (some 18) rfl rfl (by kernel_rfl) (by kernel_rfl) (by kernel_rfl) (fun _ _ _ h => h) (Or.inl ⟨by rfl, ?_⟩) (by assumption) ?_
  rotate_left
  · (intro u hSw; subst hSw; go_simp; first | done | with_reducible rfl | (simp only [w1, w2, w3, p1, p2, p3, j1, j2, k1, t1, t2, t3, and_self, if_true]; with_reducible rfl))
  simp only [Act.put, List.setIfInBounds_toArray, List.set_cons_zero, List.set_cons_succ]
  refine take_at (i := 10) (v := ?_) (some 19) rfl rfl (by kernel_rfl) (by kernel_rfl) (by kernel_rfl) (fun _ _ _ h => h) (Or.inl ⟨by rfl, ?_⟩) (by assumption) ?_
  rotate_left
  · (intro u hSw; subst hSw; go_simp; first | done | with_reducible rfl | (simp only [w1, w2, w3, p1, p2, p3, j1, j2, k1, t1, t2, t3, and_self, if_true]; with_reducible rfl))
  simp only [Act.put, List.setIfInBounds_toArray, List.set_cons_zero, List.set_cons_succ]
  refine take_at (i := 11) (v := ?_) (some 20) rfl rfl (by kernel_rfl) (by kernel_rfl) (by kernel_rfl) (fun _ _ _ h => h) (Or.inl ⟨by rfl, ?_⟩) (by assumption) ?_
  rotate_left
  · (intro u hSw; subst hSw; go_simp; first | done | with_reducible rfl | (simp only [w1, w2, w3, p1, p2, p3, j1, j2, k1, t1, t2, t3, and_self, if_true]; with_reducible rfl))
  simp only [Act.put, List.setIfInBounds_toArray, List.set_cons_zero, List.set_cons_succ]
  refine take_at (i := 12) (v := ?_) (some 21) rfl rfl (by kernel_rfl) (by kernel_rfl) (by kernel_rfl) (fun _ _ _ h => h) (Or.inl ⟨by rfl, ?_⟩) (by assumption) ?_
  rotate_left
  · (intro u hSw; subst hSw; go_simp; first | done | with_reducible rfl | (simp only [w1, w2, w3, p1, p2, p3, j1, j2, k1, t1, t2, t3, and_self, if_true]; with_reducible rfl))
  simp only [Act.put, List.setIfInBounds_toArray, List.set_cons_zero, List.set_cons_succ]
  refine take_at (i := 13) (v := ?_) (some 22) rfl rfl (by kernel_rfl) (by kernel_rfl) (by kernel_rfl) (fun _ _ _ h => h) (Or.inl ⟨by rfl, ?_⟩) (by assumption) ?_
  rotate_left
  · (intro u hSw; subst hSw; go_simp; first | done | with_reducible rfl | (simp only [w1, w2, w3, p1, p2, p3, j1, j2, k1, t1, t2, t3, and_self, if_true]; with_reducible rfl))
  simp only [Act.put, List.setIfInBounds_toArray, List.set_cons_zero, List.set_cons_succ]
  refine take_at (i := 14) (v := ?_) (some 23) rfl rfl (by kernel_rfl) (by kernel_rfl) (by kernel_rfl) (fun _ _ _ h => h) (Or.inl ⟨by rfl, ?_⟩) (by assumption) ?_
  rotate_left
  · (intro u hSw; subst hSw; go_simp; first | done | with_reducible rfl | (simp only [w1, w2, w3, p1, p2, p3, j1, j2, k1, t1, t2, t3, and_self, if_true]; with_reducible rfl))
  simp only [Act.put, List.setIfInBounds_toArray, List.set_cons_zero, List.set_cons_succ]
  refine take_at (i := 15) (v := ?_) (some 24) rfl rfl (by kernel_rfl) (by kernel_rfl) (by kernel_rfl) (fun _ _ _ h => h) (Or.inl ⟨by rfl, ?_⟩) (by assumption) ?_
  rotate_left
  · (intro u hSw; subst hSw; go_simp; first | done | with_reducible rfl | (simp only [w1, w2, w3, p1, p2, p3, j1, j2, k1, t1, t2, t3, and_self, if_true]; with_reducible rfl))
  simp only [Act.put, List.setIfInBounds_toArray, List.set_cons_zero, List.set_cons_succ]
  refine take_at (i := 16) (v := ?_) (some 25) rfl rfl (by kernel_rfl) (by kernel_rfl) (by kernel_rfl) (fun _ _ _ h => h) (Or.inl ⟨by rfl, ?_⟩) (by assumption) ?_
  rotate_left
  · (intro u hSw; subst hSw; go_simp; first | done | with_reducible rfl | (simp only [w1, w2, w3, p1, p2, p3, j1, j2, k1, t1, t2, t3, and_self, if_true]; with_reducible rfl))
  simp only [Act.put, List.setIfInBounds_toArray, List.set_cons_zero, List.set_cons_succ]
  refine take_at (i := 17) (v := ?_) (some 26) rfl rfl (by kernel_rfl) (by kernel_rfl) (by kernel_rfl) (fun _ _ _ h => h) (Or.inl ⟨by rfl, ?_⟩) (by assumption) ?_
  rotate_left
  · (intro u hSw; subst hSw; go_simp; first | done | with_reducible rfl | (simp only [w1, w2, w3, p1, p2, p3, j1, j2, k1, t1, t2, t3, and_self, if_true]; with_reducible rfl))
  simp only [Act.put, List.setIfInBounds_toArray, List.set_cons_zero, List.set_cons_succ]
  refine take_at (i := 18) (v := ?_) (some 27) rfl rfl (by kernel_rfl) (by kernel_rfl) (by kernel_rfl) (fun _ _ _ h => h) (Or.inl ⟨by rfl, ?_⟩) (by assumption) ?_
  rotate_left
  · (intro u hSw; subst hSw; go_simp; first | done | with_reducible rfl | (simp only [w1, w2, w3, p1, p2, p3, j1, j2, k1, t1, t2, t3, and_self, if_true]; with_reducible rfl))
  simp only [Act.put, List.setIfInBounds_toArray, List.set_cons_zero, List.set_cons_succ]
  refine take_at (i := 19) (v := ?_) (some 28) rfl rfl (by kernel_rfl) (by kernel_rfl) (by kernel_rfl) (fun _ _ _ h => h) (Or.inl ⟨by rfl, ?_⟩) (by assumption) ?_
  rotate_left
  · (intro u hSw; subst hSw; go_simp; first | done | with_reducible rfl | (simp only [w1, w2, w3, p1, p2, p3, j1, j2, k1, t1, t2, t3, and_self, if_true]; with_reducible rfl))
  simp only [Act.put, List.setIfInBounds_toArray, List.set_cons_zero, List.set_cons_succ]
  refine take_at (i := 20) (v := ?_) (some 29) rfl rfl (by kernel_rfl) (by kernel_rfl) (by kernel_rfl) (fun _ _ _ h => h) (Or.inl ⟨by rfl, ?_⟩) (by assumption) ?_
  rotate_left
  · (intro u hSw; subst hSw; go_simp; first | done | with_reducible rfl | (simp only [w1, w2, w3, p1, p2, p3, j1, j2, k1, t1, t2, t3, and_self, if_true]; with_reducible rfl))
  simp only [Act.put, List.setIfInBounds_toArray, List.set_cons_zero, List.set_cons_succ]
  refine take_at (i := 21) (v := ?_) (some 30) rfl rfl (by kernel_rfl) (by kernel_rfl) (by kernel_rfl) (fun _ _ _ h => h) (Or.inl ⟨by rfl, ?_⟩) (by assumption) ?_
  rotate_left
  · (intro u hSw; subst hSw; go_simp; first | done | with_reducible rfl | (simp only [w1, w2, w3, p1, p2, p3, j1, j2, k1, t1, t2, t3, and_self, if_true]; with_reducible rfl))
  simp only [Act.put, List.setIfInBounds_toArray, List.set_cons_zero, List.set_cons_succ]
  refine take_at (i := 22) (v := ?_) (some 31) rfl rfl (by kernel_rfl) (by kernel_rfl) (by kernel_rfl) (fun _ _ _ h => h) (Or.inl ⟨by rfl, ?_⟩) (by assumption) ?_
  rotate_left
  · (intro u hSw; subst hSw; go_simp; first | done | with_reducible rfl | (simp only [w1, w2, w3, p1, p2, p3, j1, j2, k1, t1, t2, t3, and_self, if_true]; with_reducible rfl))
  simp only [Act.put, List.setIfInBounds_toArray, List.set_cons_zero, List.set_cons_succ]
  refine take_at (i := 23) (v := ?_) (some 32) rfl rfl (by kernel_rfl) (by kernel_rfl) (by kernel_rfl) (fun _ _ _ h => h) (Or.inl ⟨by rfl, ?_⟩) (by assumption) ?_
  rotate_left
  · (intro u hSw; subst hSw; go_simp; first | done | with_reducible rfl | (simp only [w1, w2, w3, p1, p2, p3, j1, j2, k1, t1, t2, t3, and_self, if_true]; with_reducible rfl))
  simp only [Act.put, List.setIfInBounds_toArray, List.set_cons_zero, List.set_cons_succ]
  refine take_at (i := 24) (v := ?_) (some 33) rfl rfl (by kernel_rfl) (by kernel_rfl) (by kernel_rfl) (fun _ _ _ h => h) (Or.inl ⟨by rfl, ?_⟩) (by assumption) ?_
  rotate_left
  · (intro u hSw; subst hSw; go_simp; first | done | with_reducible rfl | (simp only [w1, w2, w3, p1, p2, p3, j1, j2, k1, t1, t2, t3, and_self, if_true]; with_reducible rfl))
  simp only [Act.put, List.setIfInBounds_toArray, List.set_cons_zero, List.set_cons_succ]
  refine take_at (i := 25) (v := ?_) (some 34) rfl rfl (by kernel_rfl) (by kernel_rfl) (by kernel_rfl) (fun _ _ _ h => h) (Or.inl ⟨by rfl, ?_⟩) (by assumption) ?_
  rotate_left
  · (intro u hSw; subst hSw; go_simp; first | done | with_reducible rfl | (simp only [w1, w2, w3, p1, p2, p3, j1, j2, k1, t1, t2, t3, and_self, if_true]; with_reducible rfl))
  simp only [Act.put, List.setIfInBounds_toArray, List.set_cons_zero, List.set_cons_succ]
  refine take_at (i := 26) (v := ?_) (some 35) rfl rfl (by kernel_rfl) (by kernel_rfl) (by kernel_rfl) (fun _ _ _ h => h) (Or.inl ⟨by rfl, ?_⟩) (by assumption) ?_
  rotate_left
  · (intro u hSw; subst hSw; go_simp; first | done | with_reducible rfl | (simp only [w1, w2, w3, p1, p2, p3, j1, j2, k1, t1, t2, t3, and_self, if_true]; with_reducible rfl))
  simp only [Act.put, List.setIfInBounds_toArray, List.set_cons_zero, List.set_cons_succ]
  refine take_at (i := 27) (v := ?_) (some 36) rfl rfl (by kernel_rfl) (by kernel_rfl) (by kernel_rfl) (fun _ _ _ h => h) (Or.inl ⟨by rfl, ?_⟩) (by assumption) ?_
  rotate_left
  · (intro u hSw; subst hSw; go_simp; first | done | with_reducible rfl | (simp only [w1, w2, w3, p1, p2, p3, j1, j2, k1, t1, t2, t3, and_self, if_true]; with_reducible rfl))
  simp only [Act.put, List.setIfInBounds_toArray, List.set_cons_zero, List.set_cons_succ]
  refine take_at (i := 28) (v := ?_) (some 37) rfl rfl (by kernel_rfl) (by kernel_rfl) (by kernel_rfl) (fun _ _ _ h => h) (Or.inl ⟨by rfl, ?_⟩) (by assumption) ?_
  rotate_left
  · (intro u hSw; subst hSw; go_simp; first | done | with_reducible rfl | (simp only [w1, w2, w3, p1, p2, p3, j1, j2, k1, t1, t2, t3, and_self, if_true]; with_reducible rfl))
  simp only [Act.put, List.setIfInBounds_toArray, List.set_cons_zero, List.set_cons_succ]
  refine take_at (i := 29) (v := ?_) (some 4) rfl rfl (by kernel_rfl) (by kernel_rfl) (by kernel_rfl) (fun _ _ _ h => h) (Or.inl ⟨by rfl, ?_⟩) (by assumption) ?_
  rotate_left
  · (intro u hSw; subst hSw; go_simp; first | done | with_reducible rfl | (simp only [w1, w2, w3, p1, p2, p3, j1, j2, k1, t1, t2, t3, and_self, if_true]; with_reducible rfl))
  simp only [Act.put, List.setIfInBounds_toArray, List.set_cons_zero, List.set_cons_succ]
  refine wpAnyH_done (by kernel_rfl) ?_ _
  refine NoPanic.normal ?_
  have E : IntKind.i64.wrap (IntKind.i64.wrap (IntKind.i64.wrap (IntKind.i64.wrap f0 + IntKind.i64.wrap (IntKind.i64.wrap f1 * 256)) + IntKind.i64.wrap (IntKind.i64.wrap f2 * 65536)) + IntKind.i64.wrap (IntKind.i64.wrap f3 * 16777216)) = f0 + f1 * 256 + f2 * 65536 + f3 * 16777216 := by
    simp only [IntKind.wrap_i64]
    omega
  rw [E]
  clear E
  go_wp2_with fail
  go_ret
  exact ⟨rfl, (Below.refl _ _).drew⟩
end Go.Proofs.Ytfapmogjmjlokaa
namespace Go.Proofs.Ytfapmogjmjlokaa
open Go.RowKit
/-- What the reference's Bytes answers. -/
def RBy (w : World) (N : Nat) (F : Nat → Int) (c : Int) (e : Ending) (w' : World) : Prop := ∃ ay cap, e = .returned (.tuple #[.slice ay N cap, .int .i64 c]) ∧ Arg w' ay N F ∧ Below w.heap.size w w'
theorem chk_ok {s : Sup} (m : s.May) : chkV s = 0 := by unfold chkV; rw [if_pos m]
theorem chk_no {s : Sup} (m : ¬ s.May) : chkV s = 2 := by unfold chkV; rw [if_neg m]
set_option maxRecDepth 100000 in
set_option maxHeartbeats 400000 in
theorem rsbytes_no (s : Sup) (a : Option Addr) (C : Nat) (w : World) (hA : HArg w a s.k s.h) (hk : s.k ≤ 1000) (m : ¬ s.May) : Calls Try.prog 11 #[supV s a C] w (RBy w 0 (fun _ => 0) 2) := by
  have CK : Hid (∀ u, Below w.heap.size w u → Calls Try.prog 17 #[supV s a C] u fun e w' => e = .returned (.int .i64 2) ∧ Below u.heap.size u w') := fun u hB => by
    have := scheck_any s a C u (hA.below hB) hk
    rw [chk_no m] at this
    exact this
  clear hA
  unfold supV
  go_enter Try.func11, Try.ntmps11
  go_wp2_with (first
    | (refine wpList_box_rec rfl 26 (.tmp 0) rfl (supC s a C) rfl w.heap.size rfl ?_; intro W0 R0 B0 z0)
    | (refine wpList_load_rec rfl 26 (.tmp 1) rfl w.heap.size 0 (supC s a C) rfl _ Try.underlying26 rfl (by kernel_rfl) R0 ?_)
    | (go_at_call 17; refine (CK.out _ B0).mono ?_; rintro e w1 ⟨rfl, B1⟩
       have E1 : Hid (Below w.heap.size w w1) := B0.trans (B1.mono B0.size)
       clear B1))
  exact bodyPost_ret (v := .tuple #[.slice none 0 0, .int .i64 2]) (by simp [results, Try.results11, go_sem]) rfl ⟨none, 0, rfl, .inl ⟨rfl, .inl rfl⟩, E1.out⟩
set_option maxRecDepth 100000 in
set_option maxHeartbeats 400000 in
theorem rsbytes_ok (s : Sup) (a : Option Addr) (C : Nat) (w : World) (hA : HArg w a s.k s.h) (m : s.May) : Calls Try.prog 11 #[supV s a C] w (RBy w 512 s.img 0) := by
  have hk : s.k ≤ 32 := m.2.1
  have CK : Hid (∀ u, Below w.heap.size w u → Calls Try.prog 17 #[supV s a C] u fun e w' => e = .returned (.int .i64 0) ∧ Below u.heap.size u w') := fun u hB => by
    have := scheck_any s a C u (hA.below hB) (by omega)
    rw [chk_ok m] at this
    exact this
  have BH : Hid (∀ u, Below w.heap.size w u → Calls Try.prog 35 #[supV s a C] u (BehP u s)) := fun u hB => sbehind_any s a C u (hA.below hB) m
  clear hA m hk
  unfold supV
  go_enter Try.func11, Try.ntmps11
  go_wp2_with (first
    | (refine wpList_box_rec rfl 26 (.tmp 0) rfl (supC s a C) rfl w.heap.size rfl ?_; intro W0 R0 B0 z0)
    | (have _q := z0; clear _q; refine wpList_load_rec rfl 26 (.tmp 1) rfl w.heap.size 0 (supC s a C) rfl _ Try.underlying26 rfl (by kernel_rfl) R0 ?_)
    | (go_at_call 17; refine (CK.out _ B0).mono ?_; rintro e w1 ⟨rfl, B1⟩
       have E1 : Hid (Below w.heap.size w w1) := B0.trans (B1.mono B0.size)
       have R1 := R0.below B1
       clear B1 z0)
    | (have _q := E1; clear _q; refine wpList_load_rec rfl 26 (.tmp 1) rfl w.heap.size 0 (supC s a C) rfl _ Try.underlying26 rfl (by kernel_rfl) R1 ?_)
    | (go_at_call 35; refine (BH.out _ E1.out).mono ?_; rintro e w2 ⟨g, cap, rfl, hg, hA2, B2⟩
       have E2 : Hid (Below w.heap.size w w2) := E1.out.trans (B2.mono E1.out.size)
       have A2 : Hid (Arg w2 (some ⟨g, 0, none⟩) 496 s.beh) := hA2
       clear B2 hA2 hg E1)
    | (go_at_call 34; refine (hseal_any _ 496 _ s.beh _ A2.out (by omega)).mono ?_; rintro e w3 ⟨a3, cap3, rfl, hA3, B3⟩
       have E3 : Hid (Below w.heap.size w w3) := E2.out.trans (B3.mono E2.out.size)
       have A3 : Hid (Arg w3 a3 512 s.img) := hA3
       clear B3 hA3 E2 A2))
  exact bodyPost_ret (v := .tuple #[.slice a3 512 cap3, .int .i64 0]) (by simp [results, Try.results11, go_sem]) rfl ⟨a3, cap3, rfl, A3.out, E3.out⟩
end Go.Proofs.Ytfapmogjmjlokaa
namespace Go.Proofs.Ytfapmogjmjlokaa
open Go.RowKit Go.Maps
theorem at_z (b off C : Nat) (z : Int) (F : Nat → Int) (w : World) (h : Lies w b off 512 F) (h0 : 0 ≤ z) (h1 : z ≤ 123) : Calls Try.prog 39 #[.slice (some ⟨b, off, none⟩) 512 C, .int .i64 z] w fun e w' => e = .returned (.int .i64 (rdN (behO F) z.toNat)) ∧ Below w.heap.size w w' := by
  obtain ⟨i, rfl⟩ := Int.eq_ofNat_of_zero_le h0
  exact at_any b off C i F w h (by omega)
theorem at_l (b off C i : Nat) (z v : Int) (F : Nat → Int) (w : World) (h : Lies w b off 512 F) (hz : z = (i : Int)) (hi : i ≤ 123) (hv : rdN (behO F) i = v) : Calls Try.prog 39 #[.slice (some ⟨b, off, none⟩) 512 C, .int .i64 z] w fun e w' => e = .returned (.int .i64 v) ∧ Below w.heap.size w w' := by
  subst hz hv
  exact at_any b off C i F w h hi
theorem vbuild_run {a : Act} {w : World} {o : Oper} (t : TypeId) (parts : Array (Nat × Operand)) (ho : o.op = .build t parts) (cells : Array Value) (hf : Try.prog.built t (parts.map fun (i, x) => (i, a.eval x)).toList = some cells) :
    (execOp a.eval o).run Try.prog w = .ok (.value (.agg cells)) w := by
  unfold execOp
  simp only [ho, Sem.run_bind, run_build w t _ cells hf, Result.andThen_ok]
  rfl
theorem wpList_alloc_X {ops : Array Oper} {rest : List Oper} {op : Oper} {a : Act} {w : World} {Q : Exit → Act → World → Prop} (hgd : op.guard = none) (ty : TypeId) (ho : op.op = .alloc ty) (cs : List Value)
    (hz : (Try.prog.info? ty).bind (·.zero) = some (.agg cs.toArray))
    (hK : ∀ X W, w.heap.size = X → Rec19 W X 0 cs → Below X w W → W.heap.size = X + 1 → wpList Try.prog ops Q rest (a.put op.dst (.pointer (some ⟨X, 0, none⟩))) W) : wpList Try.prog ops Q (op :: rest) a w :=
  wpList_alloc_rec hgd ty ho cs w.heap.size rfl hz (fun W h1 h2 h3 => hK _ W rfl h1 h2 h3)
theorem st1_run {a : Act} {w : World} {o : Oper} (x y : Operand) (hop : o.op = .store 24 x y) (X f : Nat) (p : Option Addr) (k C : Nat) (old : Value) (hx : a.eval x = .pointer (some ⟨X, f, none⟩)) (hy : a.eval y = .slice p k C) (hc : w.cell? ⟨X, f, none⟩ = some old) (hfz : w.frozen? ⟨X, f, none⟩ = false) :
    (execOp a.eval o).run Try.prog w = .ok .skip (w.setCell ⟨X, f, none⟩ (.slice p k C)) := by
  unfold execOp
  simp only [hop, hx, hy]
  simp [go_sem, hc, hfz]
theorem ld1_run {a : Act} {w : World} {o : Oper} (x : Operand) (hop : o.op = .load 24 x) (X f : Nat) (p : Option Addr) (k C : Nat) (hx : a.eval x = .pointer (some ⟨X, f, none⟩)) (hc : w.cell? ⟨X, f, none⟩ = some (.slice p k C)) :
    (execOp a.eval o).run Try.prog w = .ok (.value (.slice p k C)) w := by
  unfold execOp
  simp only [hop, hx]
  simp [go_sem, hc]
theorem cv_run {a : Act} {w : World} {o : Oper} (x : Operand) (hop : o.op = .convert 27 9 x) (p : Option Addr) (n C : Nat) (f : Nat → Int) (hx : a.eval x = .slice p n C) (h : Arg w p n f) : (execOp a.eval o).run Try.prog w = .ok (.value (.string (txtN n f))) w := by
  unfold execOp
  simp only [hop, hx, Sem.run_bind, conv_arg w p n C f h, Result.andThen_ok]
  rfl
section
variable {ops : Array Oper} {Q : Exit → Act → World → Prop} {md : Region.Mode} {S : World → Prop}
/-- A store that alone may come up. -/
theorem vskip_at {i : Nat} {o : Oper} {fuel : Nat} {listed : Array Bool} {a : Act} {w : World} (d : Option Tmp) (hi : ops[i]? = some o) (hd : o.dst = d) (hw : Region.wanted o (yielded ops a.tmps) = true) (hr : Region.ready md ops listed = [i])
    (w' : World) (hx : (execOp a.eval o).run Try.prog w = .ok .skip w') (hS : S w') (h : S w' → wpAnyH Try.prog md ops Q S fuel (listed.setIfInBounds i true) (a.put d undef) w') : wpAnyH Try.prog md ops Q S (fuel + 1) listed a w := by
  subst hd
  refine wpAnyH_all hr (by simp) (fun j hj => ?_)
  obtain rfl : j = i := by simpa using hj
  unfold wpOp
  simp only [hi, hw, if_true]
  refine .inl ?_
  unfold Oper.wp
  rw [hx]
  exact ⟨hS, h hS⟩
/-- An operation whose run is known, where others may come up. -/
theorem all_run {i : Nat} {o : Oper} {rs : List Nat} {fuel : Nat} {listed : Array Bool} {a : Act} {w : World} (d : Option Tmp) (ho : ops[i]? = some o) (hd : o.dst = d) (hw : Region.wanted o (yielded ops a.tmps) = true) (v : Value) (w' : World)
    (hx : (execOp a.eval o).run Try.prog w = .ok (.value v) w') (hS : S w') (h : S w' → wpAnyH Try.prog md ops Q S fuel (listed.setIfInBounds i true) (a.put d v) w')
    (hs : AllReadyH Try.prog md ops Q S fuel listed a w rs) : AllReadyH Try.prog md ops Q S fuel listed a w (i :: rs) := by
  subst hd
  refine AllReadyH.cons ho (fun K hK => ?_) hs
  rw [if_pos hw]
  unfold Oper.wp
  rw [hx]
  exact hK.out _ _ hS h
end
/-- What was read, with so many heads. -/
def tK (F : Nat → Int) (k : Nat) : Sup := ⟨rdN (behO F), decide (rdN (behO F) 9 = 1), k, fun j => rdN (behO F) (11 + j)⟩
/-- What lies there all the time. -/
def rvS (w : World) (b off : Nat) (F : Nat → Int) (r : Option Addr) (W : World) : Prop := Below w.heap.size w W ∧ Rec19 W w.heap.size 0 (supC sup0 none 0) ∧ Lies W b off 512 F ∧ Arg W r 496 (behO F) ∧ b < w.heap.size ∧ (∀ p, r = some p → p.block < W.heap.size)
theorem rvS.below {w : World} {b off : Nat} {F : Nat → Int} {r : Option Addr} {W W' : World} (h : rvS w b off F r W) (hB : Below W.heap.size W W') : rvS w b off F r W' :=
  ⟨h.1.trans (hB.mono h.1.size), h.2.1.below hB, h.2.2.1.below hB, h.2.2.2.1.below hB, h.2.2.2.2.1, fun p hp => Nat.lt_of_lt_of_le (h.2.2.2.2.2 p hp) hB.size⟩
theorem rvS.but {w : World} {b off X : Nat} {F : Nat → Int} {r : Option Addr} {W W' : World} (h : rvS w b off F r W) (hB : But X W W') (hX : w.heap.size < X) (hr : ∀ p, r = some p → p.block ≠ X) : rvS w b off F r W' :=
  ⟨h.1.trans (hB.below (by omega) h.1.size), h.2.1.but hB (by omega), h.2.2.1.but hB (by have := h.2.2.2.2.1; omega), h.2.2.2.1.but hB hr, h.2.2.2.2.1, fun p hp => Nat.lt_of_lt_of_le (h.2.2.2.2.2 p hp) hB.size⟩
/-- At the head of the loop. -/
def rdI (w : World) (b off X j : Nat) (F : Nat → Int) (r a : Option Addr) (C : Nat) (W : World) : Prop := rvS w b off F r W ∧ Rec19 W X 0 (supC (tK F j) a C) ∧ OwnI W (X + 1) 75 2 (.slice a j C) j (fun q => rdN (behO F) (11 + q)) ∧ w.heap.size < X ∧ X < W.heap.size ∧ (∀ p, r = some p → p.block < X)
theorem rdI.below {w : World} {b off X j : Nat} {F : Nat → Int} {r a : Option Addr} {C : Nat} {W W' : World} (h : rdI w b off X j F r a C W) (hB : Below W.heap.size W W') : rdI w b off X j F r a C W' :=
  ⟨h.1.below hB, h.2.1.below hB, h.2.2.1.below hB, h.2.2.2.1, Nat.lt_of_lt_of_le h.2.2.2.2.1 hB.size, h.2.2.2.2.2⟩
theorem harg_of {W : World} {base j : Nat} {F : Nat → Int} {a : Option Addr} {C : Nat} (h : OwnI W base 75 2 (.slice a j C) j (fun q => rdN (behO F) (11 + q))) : HArg W a (tK F j).k (tK F j).h := by
  by_cases k0 : j = 0
  · exact .inl k0
  · obtain ⟨g, cap, e, _, _, hc, hg⟩ := h.form (by omega)
    injection e with e1 _ _
    subst e1
    exact .inr ⟨g, 0, rfl, fun q hq => by rw [Nat.zero_add]; exact hc q (by show q < j * 2; have : q < 2 * j := hq; omega), hg⟩
theorem rdI.harg {w : World} {b off X j : Nat} {F : Nat → Int} {r a : Option Addr} {C : Nat} {W : World} (h : rdI w b off X j F r a C W) : HArg W a (tK F j).k (tK F j).h := harg_of h.2.2.1
def rdRel (w : World) (b off X : Nat) (F : Nat → Int) (r : Option Addr) (i : Value) (W : World) : Prop := ∃ (j : Nat) (a : Option Addr) (C : Nat), (j : Int) ≤ rdN (behO F) 10 ∧ j ≤ 33 ∧ i = .int .i64 (j : Int) ∧ rdI w b off X j F r a C W
theorem supC_set (F : Nat → Int) (j j' : Nat) (a a' : Option Addr) (C C' : Nat) : (supC (tK F j) a C).set 10 (.slice a' j' C') = supC (tK F j') a' C' := rfl
theorem info_hd : (Try.prog.info? 75).map (fun i => (i.zero, i.size, i.bytes)) = some (some (.agg #[.int .i64 0, .int .i64 0]), 2, 16) := by kernel_rfl
/-- One head more. -/
theorem rd_app {w : World} {b off X j : Nat} {F : Nat → Int} {r a : Option Addr} {C : Nat} {V : World} (h : rdI w b off X j F r a C V) (hj : j ≤ 32) (y0 y1 : Int) (e0 : rdN (behO F) (11 + 2 * j) = y0) (e1 : rdN (behO F) (12 + 2 * j) = y1) :
    ∃ a' C' W', (Builtin.append_ #[24, 24] 24 #[.slice a j C, .slice (some ⟨V.heap.size, 0, none⟩) 1 1]).run Try.prog (V.alloc (.cells #[.int .i64 y0, .int .i64 y1] 75)) = .ok (.slice a' (j + 1) C') W' ∧ W'.cell? ⟨X, 10, none⟩ = some (.slice a j C) ∧ W'.frozen? ⟨X, 10, none⟩ = false ∧ rvS w b off F r W' ∧ rdI w b off X (j + 1) F r a' C' (W'.setCell ⟨X, 10, none⟩ (.slice a' (j + 1) C')) := by
  have BA : Below V.heap.size V (V.alloc (.cells #[.int .i64 y0, .int .i64 y1] 75)) := (Below.refl _ _).alloc (Nat.le_refl _) _
  have hX := h.2.2.2.2.1
  have z2 := BA.size
  obtain ⟨v', W', h1, h2, h3⟩ := OwnI.app (T := 24) (ty := 24) (C := 1) (m := 1) Try.underlying24 info_hd rfl (by omega) (by omega) (h.2.2.1.below BA) V.heap.size 0 (G := fun q => if q = 0 then y0 else y1) (fun q hq => by
    rw [Nat.zero_add, cell_of_row _ _ _ _ _ _ (heap_alloc_new _ _)]
    match q, hq with
    | 0, _ => rfl
    | 1, _ => rfl
    | q + 2, hq => omega) (by omega) (by omega)
  have h2' : OwnI W' (X + 1) 75 2 v' (j + 1) (fun q => rdN (behO F) (11 + q)) := by
    have h2'' : OwnI W' (X + 1) 75 2 v' (j + 1) (cat (fun q => rdN (behO F) (11 + q)) (j * 2) fun q => if q = 0 then y0 else y1) := h2
    refine h2''.congr fun q hq => ?_
    unfold cat
    by_cases g : q < j * 2
    · rw [if_pos g]
    · rw [if_neg g]
      show (if q - j * 2 = 0 then y0 else y1) = rdN (behO F) (11 + q)
      by_cases g0 : q = j * 2
      · rw [if_pos (by omega), g0, ← e0, Nat.mul_comm]
      · rw [if_neg (by omega), ← e1, show 11 + q = 12 + 2 * j by omega]
  obtain ⟨a', C', rfl, _⟩ := h2'.slice
  have B2 : Below (X + 1) V W' := (BA.mono (by omega)).trans h3
  have z3 := B2.size
  have R' : Rec19 W' X 0 (supC (tK F j) a C) := ⟨fun q v hv => (B2.cell (p := ⟨X, 0 + q, none⟩) (by show X < X + 1; omega)).trans (h.2.1.1 q v hv), fun q hq => ⟨by rw [B2.cell (p := ⟨X, 0 + q, none⟩) (by show X < X + 1; omega)]; exact (h.2.1.2.1 q hq).1, by rw [B2.frozen (p := ⟨X, 0 + q, none⟩) (by show X < X + 1; omega)]; exact (h.2.1.2.1 q hq).2⟩, by omega⟩
  obtain ⟨c10, f10⟩ := R'.cel 10 _ rfl
  have S' : rvS w b off F r W' := by
    obtain ⟨s1, s2, s3, s4, s5, s6⟩ := h.1
    have hr := h.2.2.2.2.2
    refine ⟨s1.trans (B2.mono (by have := h.2.2.2.1; omega)), ?_, ?_, ?_, s5, fun p hp => Nat.lt_of_lt_of_le (s6 p hp) z3⟩
    · exact ⟨fun q v hv => (B2.cell (p := ⟨w.heap.size, 0 + q, none⟩) (by show w.heap.size < X + 1; have := h.2.2.2.1; omega)).trans (s2.1 q v hv), fun q hq => ⟨by rw [B2.cell (p := ⟨w.heap.size, 0 + q, none⟩) (by show w.heap.size < X + 1; have := h.2.2.2.1; omega)]; exact (s2.2.1 q hq).1, by rw [B2.frozen (p := ⟨w.heap.size, 0 + q, none⟩) (by show w.heap.size < X + 1; have := h.2.2.2.1; omega)]; exact (s2.2.1 q hq).2⟩, by have := h.2.2.2.1; omega⟩
    · exact ⟨fun q hq => (B2.cell (p := ⟨b, off + q, none⟩) (by show b < X + 1; have := h.2.2.2.1; omega)).trans (s3.1 q hq), s3.2.1, by have := h.2.2.2.1; omega⟩
    · rcases s4 with e | ⟨n0, rb, ro, e, l⟩
      · exact .inl e
      · have := hr _ e
        exact .inr ⟨n0, rb, ro, e, fun q hq => (B2.cell (p := ⟨rb, ro + q, none⟩) (by show rb < X + 1; have h9 : rb < X := this; omega)).trans (l.1 q hq), l.2.1, by have h9 : rb < X := this; omega⟩
  refine ⟨a', C', W', h1, c10, f10, S', ?_⟩
  have U : But X W' (W'.setCell ⟨X, 10, none⟩ (.slice a' (j + 1) C')) := But.set _ _ _
  have RP := R'.put 10 (.slice a' (j + 1) C')
  rw [supC_set] at RP
  exact ⟨S'.but U h.2.2.2.1 (fun p hp => by have := h.2.2.2.2.2 p hp; omega), RP, h2'.but U (by omega), h.2.2.2.1, by have := U.size; omega, h.2.2.2.2.2⟩
/-- What Read answers where the seal is right. -/
def RdQ (w : World) (F : Nat → Int) (e : Ending) (w' : World) : Prop :=
  ((SupOk (behO F) ∧ (supOf (behO F)).May) ∧ ∃ a C, e = .returned (.tuple #[supV (supOf (behO F)) a C, .int .i64 0]) ∧ HArg w' a (supOf (behO F)).k (supOf (behO F)).h ∧ Below w.heap.size w w') ∨
  (¬ (SupOk (behO F) ∧ (supOf (behO F)).May) ∧ e = .returned (.tuple #[supV sup0 none 0, .int .i64 4]) ∧ Below w.heap.size w w')
theorem rdN_low {F : Nat → Int} (i : Nat) (hi : i ≤ 123) (hF : ∀ j, j < 512 → 0 ≤ F j ∧ F j < 256) : 0 ≤ rdN (behO F) i ∧ rdN (behO F) i < 4294967296 := rdN_bound _ i fun j hj => hF _ (by omega)
theorem tK_of {F : Nat → Int} {j : Nat} (h : (j : Int) = rdN (behO F) 10) : tK F j = supOf (behO F) := by
  unfold tK supOf
  rw [show (rdN (behO F) 10).toNat = j by omega]
/-- It is one, and these are its bytes. -/
theorem rd_yes {F : Nat → Int} {j : Nat} (hj : (j : Int) = rdN (behO F) 10) (m : (tK F j).May) (hb : ∀ q, q < 496 → (tK F j).beh q = behO F q) : SupOk (behO F) ∧ (supOf (behO F)).May := by
  have e := tK_of hj
  refine ⟨?_, e ▸ m⟩
  have ok := m.back.1
  unfold SupOk at ok ⊢
  have r : ∀ i, i < 124 → rdN (tK F j).beh i = rdN (behO F) i := fun i hi => rdN_congr i fun q hq => hb _ (by omega)
  rw [r 9 (by omega), r 10 (by omega)] at ok
  exact ⟨ok.1, ok.2.1, fun i hi hl => (r i hi).symm.trans (ok.2.2 i hi hl)⟩
theorem rd_no {F : Nat → Int} {j : Nat} (hF : ∀ j, j < 512 → 0 ≤ F j ∧ F j < 256) (hj : (j : Int) = rdN (behO F) 10) (hb : ¬ ∀ q, q < 496 → (tK F j).beh q = behO F q) : ¬ (SupOk (behO F) ∧ (supOf (behO F)).May) := by
  rintro ⟨ok, _⟩
  refine hb fun q hq => ?_
  rw [tK_of hj]
  exact ok.back (fun i hi => hF _ (by omega)) q hq
theorem rd_bad {F : Nat → Int} {j : Nat} (hj : (j : Int) = rdN (behO F) 10 ∨ (j = 33 ∧ (33 : Int) ≤ rdN (behO F) 10)) (m : ¬ (tK F j).May) : ¬ (SupOk (behO F) ∧ (supOf (behO F)).May) := by
  rintro ⟨ok, mm⟩
  rcases hj with hj | ⟨_, hj⟩
  · exact m (by rw [tK_of hj]; exact mm)
  · have := ok.2.1
    omega
set_option maxRecDepth 100000 in
set_option maxHeartbeats 4000000 in
theorem sread_open (b off C : Nat) (F : Nat → Int) (w : World) (hL : Lies w b off 512 F) (hC : 512 ≤ C) (ho : opens 512 F = true) : Calls Try.prog 13 #[.slice (some ⟨b, off, none⟩) 512 C] w (RdQ w F) := by
  have OP : Hid (∀ u, Below w.heap.size w u → Calls Try.prog 38 #[.slice (some ⟨b, off, none⟩) 512 C] u fun e w' => ∃ a' cap, e = .returned (.tuple #[.slice a' 496 cap, .int .i64 0]) ∧ Arg w' a' 496 (behO F) ∧ Below u.heap.size u w') := fun u hB => hopen_ok (some ⟨b, off, none⟩) 512 C F u (Arg.of (hL.below hB)) (by omega) hC (by omega) ho
  have HL : Hid (Lies w b off 512 F) := hL
  have HF : Hid (∀ j, j < 512 → 0 ≤ F j ∧ F j < 256) := hL.2.1
  have K1 : Hid True := trivial
  clear hL ho
  go_enter Try.func13, Try.ntmps13
  go_wp2_with (first
    | (have _q := K1; clear K1 _q; refine wpList_alloc_rec rfl 26 rfl (supC sup0 none 0) w.heap.size rfl zero_super ?_; intro W0 R0 B0 z0)
    | (go_at_call 38; refine (OP.out _ B0).mono ?_; rintro e W1 ⟨r, cr, rfl, hA1, B1⟩
       have LB : Hid (rvS w b off F r W1) := ⟨B0.trans (B1.mono B0.size), R0.below B1, (HL.out.below B0).below B1, hA1, HL.out.2.2, fun p hp => by
         rcases hA1 with e | ⟨_, rb, ro, e, l⟩
         · omega
         · rw [hp] at e; injection e with e; rw [e]; exact l.2.2⟩
       clear hA1 B1 R0 B0 z0)
    | (go_at_call 39; refine (at_z b off C _ F _ LB.out.2.2.1 (by omega) (by omega)).mono ?_; rintro e WN ⟨rfl, BN⟩
       replace LB : Hid (rvS w b off F r WN) := LB.out.below BN
       clear BN)
    | (refine wpList_build_to rfl 26 _ rfl (supC (tK F 0) none 0).toArray (by kernel_rfl) ?_)
    | (refine wpList_alloc_X rfl 26 rfl (supC sup0 none 0) zero_super ?_; intro X W3 hX R3 B3 z3)
    | (refine wpList_store_rec rfl 26 (.tmp 6) (.tmp 43) rfl X 0 _ (supC (tK F 0) none 0) rfl rfl R3 rfl (by kernel_rfl) (supC_one _ _ _) ?_; intro W4 R4 B4
       have XW : w.heap.size < X := by have := LB.out.2.1.2.2; omega
       have RX : ∀ p, r = some p → p.block < X := fun p hp => by have := LB.out.2.2.2.2.2 p hp; omega
       have ST : Hid (rdRel w b off X F r (.int .i64 0) W4) := ⟨0, none, 0, (rdN_low 10 (by omega) HF.out).1, Nat.zero_le _, rfl, (LB.out.below (by rw [hX]; exact B3)).but B4 XW (fun p hp => by have := RX p hp; omega), R4, OwnI.nil _ _ _ _ _, XW, by have := B4.size; omega, RX⟩
       clear R3 B3 z3 R4 B4 LB))
  obtain ⟨kI, hkI⟩ : ∃ kI, rdN (behO F) 10 = kI := ⟨_, rfl⟩
  go_loopw [7] (fun i wr => rdRel w b off X F r i wr) (fun i _ => 40 - (RowKit.intOf i).toNat)
  case atStart => exact ST.out
  case round =>
    obtain ⟨j, a, Ca, hjk, hj33, rfl, hI⟩ := hrel
    clear ST
    have KB := rdN_low (F := F) 10 (by omega) HF.out
    rw [hkI] at hjk KB
    have AT : Hid (∀ u, rdI w b off X j F r a Ca u → Calls Try.prog 39 #[.slice (some ⟨b, off, none⟩) 512 C, .int .i64 10] u fun e w' => e = .returned (.int .i64 kI) ∧ Below u.heap.size u w') := fun u hu => at_l b off C 10 10 kI F u hu.1.2.2.1 rfl (by omega) hkI
    have HI : Hid (rdI w b off X j F r a Ca wr) := hI
    have HKI : Hid (rdN (behO F) 10 = kI) := hkI
    clear hI hkI
    by_cases hlt : (j : Int) < kI
    · by_cases h32 : j ≤ 32
      · as_aux_lemma =>
          have i2 : (j : Int) ≤ 32 := by omega
          have i1 : (0 : Int) ≤ (j : Int) := by omega
          go_wp2_with (go_at_call 39; refine (AT.out _ HI.out).mono ?_; rintro e W1 ⟨rfl, B1⟩
                       replace HI : Hid (rdI w b off X j F r a Ca W1) := HI.out.below B1
                       clear B1)
          obtain ⟨y0, e0⟩ : ∃ y0, rdN (behO F) (11 + 2 * j) = y0 := ⟨_, rfl⟩
          obtain ⟨y1, e1⟩ : ∃ y1, rdN (behO F) (12 + 2 * j) = y1 := ⟨_, rfl⟩
          have A0 : Hid (∀ u, rdI w b off X j F r a Ca u → Calls Try.prog 39 #[.slice (some ⟨b, off, none⟩) 512 C, .int .i64 (11 + 2 * (j : Int))] u fun e w' => e = .returned (.int .i64 y0) ∧ Below u.heap.size u w') := fun u hu => at_l b off C (11 + 2 * j) _ y0 F u hu.1.2.2.1 (by omega) (by omega) e0
          have A1 : Hid (∀ u, rdI w b off X j F r a Ca u → Calls Try.prog 39 #[.slice (some ⟨b, off, none⟩) 512 C, .int .i64 (12 + 2 * (j : Int))] u fun e w' => e = .returned (.int .i64 y1) ∧ Below u.heap.size u w') := fun u hu => at_l b off C (12 + 2 * j) _ y1 F u hu.1.2.2.1 (by omega) (by omega) e1
          have E0 : Hid (rdN (behO F) (11 + 2 * j) = y0 ∧ rdN (behO F) (12 + 2 * j) = y1) := ⟨e0, e1⟩
          have m1 : IntKind.i64.wrap (2 * (j : Int)) = 2 * (j : Int) := by simp only [IntKind.wrap_i64]; omega
          have m2 : IntKind.i64.wrap (11 + 2 * (j : Int)) = 11 + 2 * (j : Int) := by simp only [IntKind.wrap_i64]; omega
          have m3 : IntKind.i64.wrap (12 + 2 * (j : Int)) = 12 + 2 * (j : Int) := by simp only [IntKind.wrap_i64]; omega
          clear e0 e1
          refine wp_region_noPanic ?_
          refine wp_region_held_drew (S := fun W => Hid (rvS w b off F r W)) (by kernel_rfl) ?_ (fun hHeld => ?_)
          · exact (HI.out.below (Below.refl _ _).drew).1
          refine take_at (i := 0) (v := ?_) (some 54) rfl rfl (by kernel_rfl) (by kernel_rfl) (by kernel_rfl) (fun _ _ _ h => h) (Or.inl ⟨by rfl, ?_⟩) (by assumption) ?_
          rotate_left
          · (intro w hSw; (try dsimp only at hSw); go_simp; try with_reducible rfl)
          simp only [Act.put, List.setIfInBounds_toArray, List.set_cons_zero, List.set_cons_succ]
          refine take_at (i := 2) (v := ?_) (some 56) rfl rfl (by kernel_rfl) (by kernel_rfl) (by kernel_rfl) (fun _ _ _ h => h) (Or.inl ⟨by rfl, ?_⟩) (by assumption) ?_
          rotate_left
          · (intro w hSw; (try dsimp only at hSw); go_simp; try with_reducible rfl)
          simp only [Act.put, List.setIfInBounds_toArray, List.set_cons_zero, List.set_cons_succ]
          refine take_at (i := 3) (v := ?_) (some 57) rfl rfl (by kernel_rfl) (by kernel_rfl) (by kernel_rfl) (fun _ _ _ h => h) (Or.inl ⟨by rfl, ?_⟩) (by assumption) ?_
          rotate_left
          · (intro w hSw; (try dsimp only at hSw); go_simp; try with_reducible rfl)
          simp only [Act.put, List.setIfInBounds_toArray, List.set_cons_zero, List.set_cons_succ]
          refine take_at (i := 4) (v := .int .i64 (2 * (j : Int))) (some 58) rfl rfl (by kernel_rfl) (by kernel_rfl) (by kernel_rfl) (fun _ _ _ h => h) (Or.inl ⟨by rfl, fun w _ => (by go_simp <;> simp only [m1])⟩) (by assumption) ?_
          simp only [Act.put, List.setIfInBounds_toArray, List.set_cons_zero, List.set_cons_succ]
          refine take_at (i := 5) (v := .int .i64 (11 + 2 * (j : Int))) (some 59) rfl rfl (by kernel_rfl) (by kernel_rfl) (by kernel_rfl) (fun _ _ _ h => h) (Or.inl ⟨by rfl, fun w _ => (by go_simp <;> simp only [m2])⟩) (by assumption) ?_
          simp only [Act.put, List.setIfInBounds_toArray, List.set_cons_zero, List.set_cons_succ]
          refine take_at (i := 7) (v := ?_) (some 61) rfl rfl (by kernel_rfl) (by kernel_rfl) (by kernel_rfl) (fun _ _ _ h => h) (Or.inl ⟨by rfl, ?_⟩) (by assumption) ?_
          rotate_left
          · (intro w hSw; (try dsimp only at hSw); go_simp; try with_reducible rfl)
          simp only [Act.put, List.setIfInBounds_toArray, List.set_cons_zero, List.set_cons_succ]
          refine take_at (i := 8) (v := ?_) (some 62) rfl rfl (by kernel_rfl) (by kernel_rfl) (by kernel_rfl) (fun _ _ _ h => h) (Or.inl ⟨by rfl, ?_⟩) (by assumption) ?_
          rotate_left
          · (intro w hSw; (try dsimp only at hSw); go_simp; try with_reducible rfl)
          simp only [Act.put, List.setIfInBounds_toArray, List.set_cons_zero, List.set_cons_succ]
          refine take_at (i := 9) (v := .int .i64 (2 * (j : Int))) (some 63) rfl rfl (by kernel_rfl) (by kernel_rfl) (by kernel_rfl) (fun _ _ _ h => h) (Or.inl ⟨by rfl, fun w _ => (by go_simp <;> simp only [m1])⟩) (by assumption) ?_
          simp only [Act.put, List.setIfInBounds_toArray, List.set_cons_zero, List.set_cons_succ]
          refine take_at (i := 10) (v := .int .i64 (12 + 2 * (j : Int))) (some 64) rfl rfl (by kernel_rfl) (by kernel_rfl) (by kernel_rfl) (fun _ _ _ h => h) (Or.inl ⟨by rfl, fun w _ => (by go_simp <;> simp only [m3])⟩) (by assumption) ?_
          simp only [Act.put, List.setIfInBounds_toArray, List.set_cons_zero, List.set_cons_succ]
          have I4 := (HI.out.below (Below.refl _ _).drew)
          refine wpAnyH_ready (rs := [1, 6]) (by kernel_rfl) (by simp) ?_
          refine all_run (i := 1) (some 55) rfl rfl (by rfl) (.slice a j Ca) _ (ld1_run (.tmp 54) rfl X 10 a j Ca rfl (I4.2.1.cel 10 _ rfl).1) I4.1 (fun hHeld => ?_) ?_
          · simp only [Act.put, List.setIfInBounds_toArray, List.set_cons_zero, List.set_cons_succ]
            refine wpAnyH_ready (rs := [6]) (by kernel_rfl) (by simp) ?_
            refine all_call (i := 6) (some 60) 39 _ _ rfl rfl rfl (by rfl) #[.slice (some ⟨b, off, none⟩) 512 C, .int .i64 (11 + 2 * (j : Int))] rfl Try.func39 (by kernel_rfl) (by kernel_rfl) ?_ AllReadyH.nil
            refine (A0.out _ I4).mono ?_
            rintro e W5 ⟨rfl, B5⟩
            have I5 := I4.below B5
            refine ⟨_, rfl, I5.1, fun hHeld => ?_⟩
            simp only [Act.put, List.setIfInBounds_toArray, List.set_cons_zero, List.set_cons_succ]
            refine wpAnyH_ready (rs := [11]) (by kernel_rfl) (by simp) ?_
            refine all_call (i := 11) (some 65) 39 _ _ rfl rfl rfl (by rfl) #[.slice (some ⟨b, off, none⟩) 512 C, .int .i64 (12 + 2 * (j : Int))] rfl Try.func39 (by kernel_rfl) (by kernel_rfl) ?_ AllReadyH.nil
            refine (A1.out _ I5).mono ?_
            rintro e W6 ⟨rfl, B6⟩
            have I6 := I5.below B6
            refine ⟨_, rfl, I6.1, fun hHeld => ?_⟩
            simp only [Act.put, List.setIfInBounds_toArray, List.set_cons_zero, List.set_cons_succ]
            refine take_at (i := 12) (v := .agg #[.int .i64 y0, .int .i64 y1]) (some 66) rfl rfl (by kernel_rfl) (by kernel_rfl) (by kernel_rfl) (fun _ _ _ h => h) (Or.inl ⟨by rfl, fun w _ => (vbuild_run 75 _ rfl #[.int .i64 y0, .int .i64 y1] (by kernel_rfl))⟩) (by assumption) ?_
            simp only [Act.put, List.setIfInBounds_toArray, List.set_cons_zero, List.set_cons_succ]
            obtain ⟨a', C', W7, hr7, c7, f7, S7, I8⟩ := rd_app I6 h32 y0 y1 E0.out.1 E0.out.2
            have BA : Below W6.heap.size W6 (W6.alloc (.cells #[.int .i64 y0, .int .i64 y1] 75)) := (Below.refl _ _).alloc (Nat.le_refl _) _
            refine wpAnyH_ready (rs := [13]) (by kernel_rfl) (by simp) ?_
            refine all_run (i := 13) (some 67) rfl rfl (by rfl) (.slice (some ⟨W6.heap.size, 0, none⟩) 1 1) (W6.alloc (.cells #[.int .i64 y0, .int .i64 y1] 75)) (bs_run 24 75 1 _ rfl 2 16 (.agg #[.int .i64 0, .int .i64 0]) #[.int .i64 y0, .int .i64 y1] [(0, .agg #[.int .i64 y0, .int .i64 y1])] Try.underlying24 info_hd (by decide) (by decide) (by kernel_rfl) (by kernel_rfl)) (I6.below BA).1 (fun hHeld => ?_) AllReadyH.nil
            simp only [Act.put, List.setIfInBounds_toArray, List.set_cons_zero, List.set_cons_succ]
            refine step_at (i := 14) (some 68) rfl rfl (by rfl) (by kernel_rfl) (.slice a' (j + 1) C') W7 (vappend_run (.tmp 55) (.tmp 67) 24 24 rfl _ _ rfl rfl hr7) S7 (fun hHeld => ?_)
            simp only [Act.put, List.setIfInBounds_toArray, List.set_cons_zero, List.set_cons_succ]
            refine take_at (i := 15) (v := ?_) (some 69) rfl rfl (by kernel_rfl) (by kernel_rfl) (by kernel_rfl) (fun _ _ _ h => h) (Or.inl ⟨by rfl, ?_⟩) (by assumption) ?_
            rotate_left
            · (intro w hSw; (try dsimp only at hSw); go_simp; try with_reducible rfl)
            simp only [Act.put, List.setIfInBounds_toArray, List.set_cons_zero, List.set_cons_succ]
            refine vskip_at (i := 16) none rfl rfl (by rfl) (by kernel_rfl) (W7.setCell ⟨X, 10, none⟩ (.slice a' (j + 1) C')) (st1_run (.tmp 69) (.tmp 68) rfl X 10 a' (j + 1) C' _ rfl rfl c7 f7) I8.1 (fun hHeld => ?_)
            simp only [Act.put]
            refine wpAnyH_done (by kernel_rfl) ?_ _
            refine NoPanic.normal ?_
            have H2 : Hid (rdRel w b off X F r (.int .i64 ((j : Int) + 1)) (W7.setCell ⟨X, 10, none⟩ (.slice a' (j + 1) C'))) := ⟨j + 1, a', C', by rw [HKI.out]; omega, by omega, by go_num, I8⟩
            clear hHeld I8 S7
            go_wp2_with fail
            exact ⟨H2.out, by simp [RowKit.intOf]; omega⟩
          · refine all_call (i := 6) (some 60) 39 _ _ rfl rfl rfl (by rfl) #[.slice (some ⟨b, off, none⟩) 512 C, .int .i64 (11 + 2 * (j : Int))] rfl Try.func39 (by kernel_rfl) (by kernel_rfl) ?_ AllReadyH.nil
            refine (A0.out _ I4).mono ?_
            rintro e W5 ⟨rfl, B5⟩
            have I5 := I4.below B5
            refine ⟨_, rfl, I5.1, fun hHeld => ?_⟩
            simp only [Act.put, List.setIfInBounds_toArray, List.set_cons_zero, List.set_cons_succ]
            refine wpAnyH_ready (rs := [1, 11]) (by kernel_rfl) (by simp) ?_
            refine all_run (i := 1) (some 55) rfl rfl (by rfl) (.slice a j Ca) _ (ld1_run (.tmp 54) rfl X 10 a j Ca rfl (I5.2.1.cel 10 _ rfl).1) I5.1 (fun hHeld => ?_) ?_
            · simp only [Act.put, List.setIfInBounds_toArray, List.set_cons_zero, List.set_cons_succ]
              refine wpAnyH_ready (rs := [11]) (by kernel_rfl) (by simp) ?_
              refine all_call (i := 11) (some 65) 39 _ _ rfl rfl rfl (by rfl) #[.slice (some ⟨b, off, none⟩) 512 C, .int .i64 (12 + 2 * (j : Int))] rfl Try.func39 (by kernel_rfl) (by kernel_rfl) ?_ AllReadyH.nil
              refine (A1.out _ I5).mono ?_
              rintro e W6 ⟨rfl, B6⟩
              have I6 := I5.below B6
              refine ⟨_, rfl, I6.1, fun hHeld => ?_⟩
              simp only [Act.put, List.setIfInBounds_toArray, List.set_cons_zero, List.set_cons_succ]
              refine take_at (i := 12) (v := .agg #[.int .i64 y0, .int .i64 y1]) (some 66) rfl rfl (by kernel_rfl) (by kernel_rfl) (by kernel_rfl) (fun _ _ _ h => h) (Or.inl ⟨by rfl, fun w _ => (vbuild_run 75 _ rfl #[.int .i64 y0, .int .i64 y1] (by kernel_rfl))⟩) (by assumption) ?_
              simp only [Act.put, List.setIfInBounds_toArray, List.set_cons_zero, List.set_cons_succ]
              obtain ⟨a', C', W7, hr7, c7, f7, S7, I8⟩ := rd_app I6 h32 y0 y1 E0.out.1 E0.out.2
              have BA : Below W6.heap.size W6 (W6.alloc (.cells #[.int .i64 y0, .int .i64 y1] 75)) := (Below.refl _ _).alloc (Nat.le_refl _) _
              refine wpAnyH_ready (rs := [13]) (by kernel_rfl) (by simp) ?_
              refine all_run (i := 13) (some 67) rfl rfl (by rfl) (.slice (some ⟨W6.heap.size, 0, none⟩) 1 1) (W6.alloc (.cells #[.int .i64 y0, .int .i64 y1] 75)) (bs_run 24 75 1 _ rfl 2 16 (.agg #[.int .i64 0, .int .i64 0]) #[.int .i64 y0, .int .i64 y1] [(0, .agg #[.int .i64 y0, .int .i64 y1])] Try.underlying24 info_hd (by decide) (by decide) (by kernel_rfl) (by kernel_rfl)) (I6.below BA).1 (fun hHeld => ?_) AllReadyH.nil
              simp only [Act.put, List.setIfInBounds_toArray, List.set_cons_zero, List.set_cons_succ]
              refine step_at (i := 14) (some 68) rfl rfl (by rfl) (by kernel_rfl) (.slice a' (j + 1) C') W7 (vappend_run (.tmp 55) (.tmp 67) 24 24 rfl _ _ rfl rfl hr7) S7 (fun hHeld => ?_)
              simp only [Act.put, List.setIfInBounds_toArray, List.set_cons_zero, List.set_cons_succ]
              refine take_at (i := 15) (v := ?_) (some 69) rfl rfl (by kernel_rfl) (by kernel_rfl) (by kernel_rfl) (fun _ _ _ h => h) (Or.inl ⟨by rfl, ?_⟩) (by assumption) ?_
              rotate_left
              · (intro w hSw; (try dsimp only at hSw); go_simp; try with_reducible rfl)
              simp only [Act.put, List.setIfInBounds_toArray, List.set_cons_zero, List.set_cons_succ]
              refine vskip_at (i := 16) none rfl rfl (by rfl) (by kernel_rfl) (W7.setCell ⟨X, 10, none⟩ (.slice a' (j + 1) C')) (st1_run (.tmp 69) (.tmp 68) rfl X 10 a' (j + 1) C' _ rfl rfl c7 f7) I8.1 (fun hHeld => ?_)
              simp only [Act.put]
              refine wpAnyH_done (by kernel_rfl) ?_ _
              refine NoPanic.normal ?_
              have H2 : Hid (rdRel w b off X F r (.int .i64 ((j : Int) + 1)) (W7.setCell ⟨X, 10, none⟩ (.slice a' (j + 1) C'))) := ⟨j + 1, a', C', by rw [HKI.out]; omega, by omega, by go_num, I8⟩
              clear hHeld I8 S7
              go_wp2_with fail
              exact ⟨H2.out, by simp [RowKit.intOf]; omega⟩
            · refine all_call (i := 11) (some 65) 39 _ _ rfl rfl rfl (by rfl) #[.slice (some ⟨b, off, none⟩) 512 C, .int .i64 (12 + 2 * (j : Int))] rfl Try.func39 (by kernel_rfl) (by kernel_rfl) ?_ AllReadyH.nil
              refine (A1.out _ I5).mono ?_
              rintro e W6 ⟨rfl, B6⟩
              have I6 := I5.below B6
              refine ⟨_, rfl, I6.1, fun hHeld => ?_⟩
              simp only [Act.put, List.setIfInBounds_toArray, List.set_cons_zero, List.set_cons_succ]
              refine take_at (i := 12) (v := .agg #[.int .i64 y0, .int .i64 y1]) (some 66) rfl rfl (by kernel_rfl) (by kernel_rfl) (by kernel_rfl) (fun _ _ _ h => h) (Or.inl ⟨by rfl, fun w _ => (vbuild_run 75 _ rfl #[.int .i64 y0, .int .i64 y1] (by kernel_rfl))⟩) (by assumption) ?_
              simp only [Act.put, List.setIfInBounds_toArray, List.set_cons_zero, List.set_cons_succ]
              obtain ⟨a', C', W7, hr7, c7, f7, S7, I8⟩ := rd_app I6 h32 y0 y1 E0.out.1 E0.out.2
              have BA : Below W6.heap.size W6 (W6.alloc (.cells #[.int .i64 y0, .int .i64 y1] 75)) := (Below.refl _ _).alloc (Nat.le_refl _) _
              refine wpAnyH_ready (rs := [1, 13]) (by kernel_rfl) (by simp) ?_
              refine all_run (i := 1) (some 55) rfl rfl (by rfl) (.slice a j Ca) _ (ld1_run (.tmp 54) rfl X 10 a j Ca rfl (I6.2.1.cel 10 _ rfl).1) I6.1 (fun hHeld => ?_) ?_
              · simp only [Act.put, List.setIfInBounds_toArray, List.set_cons_zero, List.set_cons_succ]
                refine wpAnyH_ready (rs := [13]) (by kernel_rfl) (by simp) ?_
                refine all_run (i := 13) (some 67) rfl rfl (by rfl) (.slice (some ⟨W6.heap.size, 0, none⟩) 1 1) (W6.alloc (.cells #[.int .i64 y0, .int .i64 y1] 75)) (bs_run 24 75 1 _ rfl 2 16 (.agg #[.int .i64 0, .int .i64 0]) #[.int .i64 y0, .int .i64 y1] [(0, .agg #[.int .i64 y0, .int .i64 y1])] Try.underlying24 info_hd (by decide) (by decide) (by kernel_rfl) (by kernel_rfl)) (I6.below BA).1 (fun hHeld => ?_) AllReadyH.nil
                simp only [Act.put, List.setIfInBounds_toArray, List.set_cons_zero, List.set_cons_succ]
                refine step_at (i := 14) (some 68) rfl rfl (by rfl) (by kernel_rfl) (.slice a' (j + 1) C') W7 (vappend_run (.tmp 55) (.tmp 67) 24 24 rfl _ _ rfl rfl hr7) S7 (fun hHeld => ?_)
                simp only [Act.put, List.setIfInBounds_toArray, List.set_cons_zero, List.set_cons_succ]
                refine take_at (i := 15) (v := ?_) (some 69) rfl rfl (by kernel_rfl) (by kernel_rfl) (by kernel_rfl) (fun _ _ _ h => h) (Or.inl ⟨by rfl, ?_⟩) (by assumption) ?_
                rotate_left
                · (intro w hSw; (try dsimp only at hSw); go_simp; try with_reducible rfl)
                simp only [Act.put, List.setIfInBounds_toArray, List.set_cons_zero, List.set_cons_succ]
                refine vskip_at (i := 16) none rfl rfl (by rfl) (by kernel_rfl) (W7.setCell ⟨X, 10, none⟩ (.slice a' (j + 1) C')) (st1_run (.tmp 69) (.tmp 68) rfl X 10 a' (j + 1) C' _ rfl rfl c7 f7) I8.1 (fun hHeld => ?_)
                simp only [Act.put]
                refine wpAnyH_done (by kernel_rfl) ?_ _
                refine NoPanic.normal ?_
                have H2 : Hid (rdRel w b off X F r (.int .i64 ((j : Int) + 1)) (W7.setCell ⟨X, 10, none⟩ (.slice a' (j + 1) C'))) := ⟨j + 1, a', C', by rw [HKI.out]; omega, by omega, by go_num, I8⟩
                clear hHeld I8 S7
                go_wp2_with fail
                exact ⟨H2.out, by simp [RowKit.intOf]; omega⟩
              · refine all_run (i := 13) (some 67) rfl rfl (by rfl) (.slice (some ⟨W6.heap.size, 0, none⟩) 1 1) (W6.alloc (.cells #[.int .i64 y0, .int .i64 y1] 75)) (bs_run 24 75 1 _ rfl 2 16 (.agg #[.int .i64 0, .int .i64 0]) #[.int .i64 y0, .int .i64 y1] [(0, .agg #[.int .i64 y0, .int .i64 y1])] Try.underlying24 info_hd (by decide) (by decide) (by kernel_rfl) (by kernel_rfl)) (I6.below BA).1 (fun hHeld => ?_) AllReadyH.nil
                simp only [Act.put, List.setIfInBounds_toArray, List.set_cons_zero, List.set_cons_succ]
                refine wpAnyH_ready (rs := [1]) (by kernel_rfl) (by simp) ?_
                refine all_run (i := 1) (some 55) rfl rfl (by rfl) (.slice a j Ca) _ (ld1_run (.tmp 54) rfl X 10 a j Ca rfl ((I6.below BA).2.1.cel 10 _ rfl).1) (I6.below BA).1 (fun hHeld => ?_) AllReadyH.nil
                simp only [Act.put, List.setIfInBounds_toArray, List.set_cons_zero, List.set_cons_succ]
                refine step_at (i := 14) (some 68) rfl rfl (by rfl) (by kernel_rfl) (.slice a' (j + 1) C') W7 (vappend_run (.tmp 55) (.tmp 67) 24 24 rfl _ _ rfl rfl hr7) S7 (fun hHeld => ?_)
                simp only [Act.put, List.setIfInBounds_toArray, List.set_cons_zero, List.set_cons_succ]
                refine take_at (i := 15) (v := ?_) (some 69) rfl rfl (by kernel_rfl) (by kernel_rfl) (by kernel_rfl) (fun _ _ _ h => h) (Or.inl ⟨by rfl, ?_⟩) (by assumption) ?_
                rotate_left
                · (intro w hSw; (try dsimp only at hSw); go_simp; try with_reducible rfl)
                simp only [Act.put, List.setIfInBounds_toArray, List.set_cons_zero, List.set_cons_succ]
                refine vskip_at (i := 16) none rfl rfl (by rfl) (by kernel_rfl) (W7.setCell ⟨X, 10, none⟩ (.slice a' (j + 1) C')) (st1_run (.tmp 69) (.tmp 68) rfl X 10 a' (j + 1) C' _ rfl rfl c7 f7) I8.1 (fun hHeld => ?_)
                simp only [Act.put]
                refine wpAnyH_done (by kernel_rfl) ?_ _
                refine NoPanic.normal ?_
                have H2 : Hid (rdRel w b off X F r (.int .i64 ((j : Int) + 1)) (W7.setCell ⟨X, 10, none⟩ (.slice a' (j + 1) C'))) := ⟨j + 1, a', C', by rw [HKI.out]; omega, by omega, by go_num, I8⟩
                clear hHeld I8 S7
                go_wp2_with fail
                exact ⟨H2.out, by simp [RowKit.intOf]; omega⟩
      · as_aux_lemma =>
          have j33 : j = 33 := by omega
          have i2 : ¬ (j : Int) ≤ 32 := by omega
          have mm : ¬ (tK F j).May := fun m => by have : j ≤ 32 := m.2.1; omega
          have BD : Hid (¬ (SupOk (behO F) ∧ (supOf (behO F)).May)) := rd_bad (.inr ⟨j33, by rw [HKI.out]; omega⟩) mm
          have CK : Hid (∀ u, rdI w b off X j F r a Ca u → Calls Try.prog 17 #[supV (tK F j) a Ca] u fun e w' => e = .returned (.int .i64 2) ∧ Below u.heap.size u w') := fun u hu => by
            have := scheck_any (tK F j) a Ca u hu.harg (by show j ≤ 1000; omega)
            rw [chk_no mm] at this
            exact this
          clear mm
          go_wp2_with (go_at_call 39; refine (AT.out _ HI.out).mono ?_; rintro e W1 ⟨rfl, B1⟩
                       replace HI : Hid (rdI w b off X j F r a Ca W1) := HI.out.below B1
                       clear B1)
          refine wp_region_noPanic ?_
          refine wp_region_held_drew (S := fun W => W.rangeAt X 0 (supC (tK F j) a Ca) ∧ Hid (rdI w b off X j F r a Ca W)) (by kernel_rfl) ?_ (fun hHeld => ?_)
          · exact ⟨(HI.out.below (Below.refl _ _).drew).2.1.1, HI.out.below (Below.refl _ _).drew⟩
          refine take_at (i := 0) (v := _) (some 70) rfl rfl (by kernel_rfl) (by kernel_rfl) (by kernel_rfl) (fun _ _ _ h => h) (yieldsIf_load_mid (by rfl) 26 (.tmp 6) rfl X 0 rfl (supC (tK F j) a Ca) _ (fun _ h => h.1) Try.underlying26 rfl (by kernel_rfl)) (by assumption) ?_
          simp only [Act.put, List.setIfInBounds_toArray, List.set_cons_zero, List.set_cons_succ]
          refine call_at (i := 1) (some 71) 17 _ _ rfl rfl rfl (by rfl) (by kernel_rfl) #[supV (tK F j) a Ca] rfl Try.func17 (by kernel_rfl) (by kernel_rfl) ?_
          refine (CK.out _ hHeld.2.out).mono ?_; rintro e W5 ⟨rfl, B5⟩
          have I5 := hHeld.2.out.below B5
          refine ⟨_, rfl, ⟨I5.2.1.1, I5⟩, fun hHeld => ?_⟩
          simp only [Act.put, List.setIfInBounds_toArray, List.set_cons_zero, List.set_cons_succ]
          refine take_at (i := 2) (v := ?_) (some 72) rfl rfl (by kernel_rfl) (by kernel_rfl) (by kernel_rfl) (fun _ _ _ h => h) (Or.inl ⟨by rfl, ?_⟩) (by assumption) ?_
          rotate_left
          · (intro w hSw; (try dsimp only at hSw); go_simp; try with_reducible rfl)
          simp only [Act.put, List.setIfInBounds_toArray, List.set_cons_zero, List.set_cons_succ]
          refine take_at (i := 3) (v := ?_) (some 73) rfl rfl (by kernel_rfl) (by kernel_rfl) (by kernel_rfl) (fun _ _ _ h => h) (Or.inl ⟨by rfl, ?_⟩) (by assumption) ?_
          rotate_left
          · (intro w hSw; (try dsimp only at hSw); go_simp; try with_reducible rfl)
          simp only [Act.put, List.setIfInBounds_toArray, List.set_cons_zero, List.set_cons_succ]
          refine take_at (i := 4) (v := undef) (some 74) rfl rfl (by kernel_rfl) (by kernel_rfl) (by kernel_rfl) (fun _ _ _ h => h) (Or.inr ⟨by rfl, rfl⟩) (by assumption) ?_
          simp only [Act.put, List.setIfInBounds_toArray, List.set_cons_zero, List.set_cons_succ]
          refine take_at (i := 5) (v := undef) (some 75) rfl rfl (by kernel_rfl) (by kernel_rfl) (by kernel_rfl) (fun _ _ _ h => h) (Or.inr ⟨by rfl, rfl⟩) (by assumption) ?_
          simp only [Act.put, List.setIfInBounds_toArray, List.set_cons_zero, List.set_cons_succ]
          refine take_at (i := 6) (v := undef) (some 76) rfl rfl (by kernel_rfl) (by kernel_rfl) (by kernel_rfl) (fun _ _ _ h => h) (Or.inr ⟨by rfl, rfl⟩) (by assumption) ?_
          simp only [Act.put, List.setIfInBounds_toArray, List.set_cons_zero, List.set_cons_succ]
          refine take_at (i := 7) (v := undef) (some 77) rfl rfl (by kernel_rfl) (by kernel_rfl) (by kernel_rfl) (fun _ _ _ h => h) (Or.inr ⟨by rfl, rfl⟩) (by assumption) ?_
          simp only [Act.put, List.setIfInBounds_toArray, List.set_cons_zero, List.set_cons_succ]
          refine take_at (i := 8) (v := undef) (some 78) rfl rfl (by kernel_rfl) (by kernel_rfl) (by kernel_rfl) (fun _ _ _ h => h) (Or.inr ⟨by rfl, rfl⟩) (by assumption) ?_
          simp only [Act.put, List.setIfInBounds_toArray, List.set_cons_zero, List.set_cons_succ]
          refine take_at (i := 9) (v := undef) (some 79) rfl rfl (by kernel_rfl) (by kernel_rfl) (by kernel_rfl) (fun _ _ _ h => h) (Or.inr ⟨by rfl, rfl⟩) (by assumption) ?_
          simp only [Act.put, List.setIfInBounds_toArray, List.set_cons_zero, List.set_cons_succ]
          refine take_at (i := 10) (v := ?_) (some 80) rfl rfl (by kernel_rfl) (by kernel_rfl) (by kernel_rfl) (fun _ _ _ h => h) (Or.inl ⟨by rfl, ?_⟩) (by assumption) ?_
          rotate_left
          · (intro w hSw; (try dsimp only at hSw); go_simp; try with_reducible rfl)
          simp only [Act.put, List.setIfInBounds_toArray, List.set_cons_zero, List.set_cons_succ]
          refine wpAnyH_done (by kernel_rfl) ?_ _
          refine NoPanic.normal ?_
          have IE : Hid (rdI w b off X j F r a Ca W5) := I5
          clear hHeld I5
          have R2 := IE.out.1.2.1
          go_wp2_with (first
            | (refine wpList_build_to rfl 26 _ rfl (supC sup0 none 0).toArray (by kernel_rfl) ?_)
            | (refine wpList_store_rec rfl 26 (.tmp 2) (.tmp 81) rfl w.heap.size 0 _ (supC sup0 none 0) rfl rfl R2 rfl (by kernel_rfl) (supC_one _ _ _) ?_; intro W9 R9 B9))
          have hl := R9.run_load 26 _ Try.underlying26 rfl (by kernel_rfl)
          exact bodyPost_ret (v := .tuple #[supV sup0 none 0, .int .i64 4]) (by simp [results, Try.results13, asAddr, supV, hl]) rfl (.inr ⟨BD.out, rfl, IE.out.1.1.trans (B9.below (Nat.le_refl _) IE.out.1.1.size)⟩)
    · have i0 : ¬ (j : Int) < kI := hlt
      have HJ : Hid ((j : Int) = rdN (behO F) 10) := (by rw [HKI.out]; omega : (j : Int) = rdN (behO F) 10)
      by_cases mm : (tK F j).May
      · by_cases hbe : ∀ q, q < 496 → (tK F j).beh q = behO F q
        · as_aux_lemma =>
            have HE : Hid (∀ q, q < 496 → (tK F j).beh q = behO F q) := hbe
            have GD : Hid (SupOk (behO F) ∧ (supOf (behO F)).May) := rd_yes HJ.out mm hbe
            have BH : Hid (∀ u, rdI w b off X j F r a Ca u → Calls Try.prog 35 #[supV (tK F j) a Ca] u (BehP u (tK F j))) := fun u hu => sbehind_any (tK F j) a Ca u hu.harg mm
            have CK : Hid (∀ u, rdI w b off X j F r a Ca u → Calls Try.prog 17 #[supV (tK F j) a Ca] u fun e w' => e = .returned (.int .i64 0) ∧ Below u.heap.size u w') := fun u hu => by
              have := scheck_any (tK F j) a Ca u hu.harg (by show j ≤ 1000; omega)
              rw [chk_ok mm] at this
              exact this
            clear mm hbe
            go_wp2_with (go_at_call 39; refine (AT.out _ HI.out).mono ?_; rintro e W1 ⟨rfl, B1⟩
                         replace HI : Hid (rdI w b off X j F r a Ca W1) := HI.out.below B1
                         clear B1)
            refine wp_region_noPanic ?_
            refine wp_region_held_drew (S := fun W => W.rangeAt X 0 (supC (tK F j) a Ca) ∧ Hid (rdI w b off X j F r a Ca W)) (by kernel_rfl) ?_ (fun hHeld => ?_)
            · exact ⟨(HI.out.below (Below.refl _ _).drew).2.1.1, HI.out.below (Below.refl _ _).drew⟩
            refine take_at (i := 0) (v := _) (some 70) rfl rfl (by kernel_rfl) (by kernel_rfl) (by kernel_rfl) (fun _ _ _ h => h) (yieldsIf_load_mid (by rfl) 26 (.tmp 6) rfl X 0 rfl (supC (tK F j) a Ca) _ (fun _ h => h.1) Try.underlying26 rfl (by kernel_rfl)) (by assumption) ?_
            simp only [Act.put, List.setIfInBounds_toArray, List.set_cons_zero, List.set_cons_succ]
            refine call_at (i := 1) (some 71) 17 _ _ rfl rfl rfl (by rfl) (by kernel_rfl) #[supV (tK F j) a Ca] rfl Try.func17 (by kernel_rfl) (by kernel_rfl) ?_
            refine (CK.out _ hHeld.2.out).mono ?_; rintro e W5 ⟨rfl, B5⟩
            have I5 := hHeld.2.out.below B5
            refine ⟨_, rfl, ⟨I5.2.1.1, I5⟩, fun hHeld => ?_⟩
            simp only [Act.put, List.setIfInBounds_toArray, List.set_cons_zero, List.set_cons_succ]
            refine take_at (i := 2) (v := ?_) (some 72) rfl rfl (by kernel_rfl) (by kernel_rfl) (by kernel_rfl) (fun _ _ _ h => h) (Or.inl ⟨by rfl, ?_⟩) (by assumption) ?_
            rotate_left
            · (intro w hSw; (try dsimp only at hSw); go_simp; try with_reducible rfl)
            simp only [Act.put, List.setIfInBounds_toArray, List.set_cons_zero, List.set_cons_succ]
            refine take_at (i := 3) (v := ?_) (some 73) rfl rfl (by kernel_rfl) (by kernel_rfl) (by kernel_rfl) (fun _ _ _ h => h) (Or.inl ⟨by rfl, ?_⟩) (by assumption) ?_
            rotate_left
            · (intro w hSw; (try dsimp only at hSw); go_simp; try with_reducible rfl)
            simp only [Act.put, List.setIfInBounds_toArray, List.set_cons_zero, List.set_cons_succ]
            refine take_at (i := 4) (v := _) (some 74) rfl rfl (by kernel_rfl) (by kernel_rfl) (by kernel_rfl) (fun _ _ _ h => h) (yieldsIf_load_mid (by rfl) 26 (.tmp 6) rfl X 0 rfl (supC (tK F j) a Ca) _ (fun _ h => h.1) Try.underlying26 rfl (by kernel_rfl)) (by assumption) ?_
            simp only [Act.put, List.setIfInBounds_toArray, List.set_cons_zero, List.set_cons_succ]
            refine take_at (i := 7) (v := ?_) (some 77) rfl rfl (by kernel_rfl) (by kernel_rfl) (by kernel_rfl) (fun _ _ _ h => h) (Or.inl ⟨by rfl, ?_⟩) (by assumption) ?_
            rotate_left
            · (intro w hSw; (try dsimp only at hSw); go_simp; try with_reducible rfl)
            simp only [Act.put, List.setIfInBounds_toArray, List.set_cons_zero, List.set_cons_succ]
            refine take_at (i := 8) (v := .string (txtN 496 (behO F))) (some 78) rfl rfl (by kernel_rfl) (by kernel_rfl) (by kernel_rfl) (fun _ _ _ h => h) (Or.inl ⟨by rfl, fun u hu => cv_run (.tmp 77) rfl r 496 cr (behO F) rfl hu.2.out.1.2.2.2.1⟩) (by assumption) ?_
            simp only [Act.put, List.setIfInBounds_toArray, List.set_cons_zero, List.set_cons_succ]
            refine call_at (i := 5) (some 75) 35 _ _ rfl rfl rfl (by rfl) (by kernel_rfl) #[supV (tK F j) a Ca] rfl Try.func35 (by kernel_rfl) (by kernel_rfl) ?_
            refine (BH.out _ hHeld.2.out).mono ?_; rintro e W6 ⟨g, cg, rfl, hg, hA6, B6⟩
            have I6 := hHeld.2.out.below B6
            refine ⟨_, rfl, ⟨I6.2.1.1, I6⟩, fun hHeld => ?_⟩
            simp only [Act.put, List.setIfInBounds_toArray, List.set_cons_zero, List.set_cons_succ]
            refine step_at (i := 6) (some 76) rfl rfl (by rfl) (by kernel_rfl) (.string (txtN 496 (behO F))) W6 (cv_run (.tmp 75) rfl (some ⟨g, 0, none⟩) 496 cg (behO F) rfl (hA6.congr HE.out)) ⟨I6.2.1.1, I6⟩ (fun hHeld => ?_)
            simp only [Act.put, List.setIfInBounds_toArray, List.set_cons_zero, List.set_cons_succ]
            refine take_at (i := 9) (v := ?_) (some 79) rfl rfl (by kernel_rfl) (by kernel_rfl) (by kernel_rfl) (fun _ _ _ h => h) (Or.inl ⟨by rfl, ?_⟩) (by assumption) ?_
            rotate_left
            · (intro w hSw; (try dsimp only at hSw); go_simp; try with_reducible rfl)
            simp only [Act.put, List.setIfInBounds_toArray, List.set_cons_zero, List.set_cons_succ]
            refine take_at (i := 10) (v := ?_) (some 80) rfl rfl (by kernel_rfl) (by kernel_rfl) (by kernel_rfl) (fun _ _ _ h => h) (Or.inl ⟨by rfl, ?_⟩) (by assumption) ?_
            rotate_left
            · (intro w hSw; (try dsimp only at hSw); go_simp; try with_reducible rfl)
            simp only [Act.put, List.setIfInBounds_toArray, List.set_cons_zero, List.set_cons_succ]
            refine wpAnyH_done (by kernel_rfl) ?_ _
            refine NoPanic.normal ?_
            have IE : Hid (rdI w b off X j F r a Ca W6) := I6
            clear hHeld I6 hA6 I5
            have RX := IE.out.2.1
            have R2 := IE.out.1.2.1
            go_wp2_with (first
              | (refine wpList_load_rec rfl 26 (.tmp 6) rfl X 0 (supC (tK F j) a Ca) rfl _ Try.underlying26 rfl (by kernel_rfl) RX ?_)
              | (refine wpList_store_rec rfl 26 (.tmp 2) (.tmp 82) rfl w.heap.size 0 _ (supC (tK F j) a Ca) rfl rfl R2 rfl (by kernel_rfl) (supC_one _ _ _) ?_; intro W9 R9 B9))
            have hl := R9.run_load 26 _ Try.underlying26 rfl (by kernel_rfl)
            refine bodyPost_ret (v := .tuple #[supV (tK F j) a Ca, .int .i64 0]) (by simp [results, Try.results13, asAddr, supV, hl]) rfl (.inl ⟨GD.out, a, Ca, ?_, ?_, IE.out.1.1.trans (B9.below (Nat.le_refl _) IE.out.1.1.size)⟩)
            · rw [tK_of HJ.out]
            · have := harg_of (IE.out.2.2.1.but B9 (by have := IE.out.2.2.2.1; omega))
              rw [tK_of HJ.out] at this
              exact this
        · as_aux_lemma =>
            have BD : Hid (¬ (SupOk (behO F) ∧ (supOf (behO F)).May)) := rd_no HF.out HJ.out hbe
            have TN : decide (txtN 496 (tK F j).beh = txtN 496 (behO F)) = false := decide_eq_false fun e => hbe (txtN_inj (fun q _ => (tK F j).beh_byte q) (fun q hq => HF.out _ (by omega)) e).2
            have TM : ¬ txtN 496 (tK F j).beh = txtN 496 (behO F) := of_decide_eq_false TN
            have BH : Hid (∀ u, rdI w b off X j F r a Ca u → Calls Try.prog 35 #[supV (tK F j) a Ca] u (BehP u (tK F j))) := fun u hu => sbehind_any (tK F j) a Ca u hu.harg mm
            have CK : Hid (∀ u, rdI w b off X j F r a Ca u → Calls Try.prog 17 #[supV (tK F j) a Ca] u fun e w' => e = .returned (.int .i64 0) ∧ Below u.heap.size u w') := fun u hu => by
              have := scheck_any (tK F j) a Ca u hu.harg (by show j ≤ 1000; omega)
              rw [chk_ok mm] at this
              exact this
            clear mm hbe
            go_wp2_with (go_at_call 39; refine (AT.out _ HI.out).mono ?_; rintro e W1 ⟨rfl, B1⟩
                         replace HI : Hid (rdI w b off X j F r a Ca W1) := HI.out.below B1
                         clear B1)
            refine wp_region_noPanic ?_
            refine wp_region_held_drew (S := fun W => W.rangeAt X 0 (supC (tK F j) a Ca) ∧ Hid (rdI w b off X j F r a Ca W)) (by kernel_rfl) ?_ (fun hHeld => ?_)
            · exact ⟨(HI.out.below (Below.refl _ _).drew).2.1.1, HI.out.below (Below.refl _ _).drew⟩
            refine take_at (i := 0) (v := _) (some 70) rfl rfl (by kernel_rfl) (by kernel_rfl) (by kernel_rfl) (fun _ _ _ h => h) (yieldsIf_load_mid (by rfl) 26 (.tmp 6) rfl X 0 rfl (supC (tK F j) a Ca) _ (fun _ h => h.1) Try.underlying26 rfl (by kernel_rfl)) (by assumption) ?_
            simp only [Act.put, List.setIfInBounds_toArray, List.set_cons_zero, List.set_cons_succ]
            refine call_at (i := 1) (some 71) 17 _ _ rfl rfl rfl (by rfl) (by kernel_rfl) #[supV (tK F j) a Ca] rfl Try.func17 (by kernel_rfl) (by kernel_rfl) ?_
            refine (CK.out _ hHeld.2.out).mono ?_; rintro e W5 ⟨rfl, B5⟩
            have I5 := hHeld.2.out.below B5
            refine ⟨_, rfl, ⟨I5.2.1.1, I5⟩, fun hHeld => ?_⟩
            simp only [Act.put, List.setIfInBounds_toArray, List.set_cons_zero, List.set_cons_succ]
            refine take_at (i := 2) (v := ?_) (some 72) rfl rfl (by kernel_rfl) (by kernel_rfl) (by kernel_rfl) (fun _ _ _ h => h) (Or.inl ⟨by rfl, ?_⟩) (by assumption) ?_
            rotate_left
            · (intro w hSw; (try dsimp only at hSw); go_simp; try with_reducible rfl)
            simp only [Act.put, List.setIfInBounds_toArray, List.set_cons_zero, List.set_cons_succ]
            refine take_at (i := 3) (v := ?_) (some 73) rfl rfl (by kernel_rfl) (by kernel_rfl) (by kernel_rfl) (fun _ _ _ h => h) (Or.inl ⟨by rfl, ?_⟩) (by assumption) ?_
            rotate_left
            · (intro w hSw; (try dsimp only at hSw); go_simp; try with_reducible rfl)
            simp only [Act.put, List.setIfInBounds_toArray, List.set_cons_zero, List.set_cons_succ]
            refine take_at (i := 4) (v := _) (some 74) rfl rfl (by kernel_rfl) (by kernel_rfl) (by kernel_rfl) (fun _ _ _ h => h) (yieldsIf_load_mid (by rfl) 26 (.tmp 6) rfl X 0 rfl (supC (tK F j) a Ca) _ (fun _ h => h.1) Try.underlying26 rfl (by kernel_rfl)) (by assumption) ?_
            simp only [Act.put, List.setIfInBounds_toArray, List.set_cons_zero, List.set_cons_succ]
            refine take_at (i := 7) (v := ?_) (some 77) rfl rfl (by kernel_rfl) (by kernel_rfl) (by kernel_rfl) (fun _ _ _ h => h) (Or.inl ⟨by rfl, ?_⟩) (by assumption) ?_
            rotate_left
            · (intro w hSw; (try dsimp only at hSw); go_simp; try with_reducible rfl)
            simp only [Act.put, List.setIfInBounds_toArray, List.set_cons_zero, List.set_cons_succ]
            refine take_at (i := 8) (v := .string (txtN 496 (behO F))) (some 78) rfl rfl (by kernel_rfl) (by kernel_rfl) (by kernel_rfl) (fun _ _ _ h => h) (Or.inl ⟨by rfl, fun u hu => cv_run (.tmp 77) rfl r 496 cr (behO F) rfl hu.2.out.1.2.2.2.1⟩) (by assumption) ?_
            simp only [Act.put, List.setIfInBounds_toArray, List.set_cons_zero, List.set_cons_succ]
            refine call_at (i := 5) (some 75) 35 _ _ rfl rfl rfl (by rfl) (by kernel_rfl) #[supV (tK F j) a Ca] rfl Try.func35 (by kernel_rfl) (by kernel_rfl) ?_
            refine (BH.out _ hHeld.2.out).mono ?_; rintro e W6 ⟨g, cg, rfl, hg, hA6, B6⟩
            have I6 := hHeld.2.out.below B6
            refine ⟨_, rfl, ⟨I6.2.1.1, I6⟩, fun hHeld => ?_⟩
            simp only [Act.put, List.setIfInBounds_toArray, List.set_cons_zero, List.set_cons_succ]
            refine step_at (i := 6) (some 76) rfl rfl (by rfl) (by kernel_rfl) (.string (txtN 496 (tK F j).beh)) W6 (cv_run (.tmp 75) rfl (some ⟨g, 0, none⟩) 496 cg (tK F j).beh rfl hA6) ⟨I6.2.1.1, I6⟩ (fun hHeld => ?_)
            simp only [Act.put, List.setIfInBounds_toArray, List.set_cons_zero, List.set_cons_succ]
            refine take_at (i := 9) (v := .bool true) (some 79) rfl rfl (by kernel_rfl) (by kernel_rfl) (by kernel_rfl) (fun _ _ _ h => h) (Or.inl ⟨by rfl, fun w _ => (by go_simp; exact fun e => TM (of_decide_eq_true ((bytes_beq _ _).symm.trans (by rw [e]; exact beq_self_eq_true _))))⟩) (by assumption) ?_
            simp only [Act.put, List.setIfInBounds_toArray, List.set_cons_zero, List.set_cons_succ]
            refine take_at (i := 10) (v := ?_) (some 80) rfl rfl (by kernel_rfl) (by kernel_rfl) (by kernel_rfl) (fun _ _ _ h => h) (Or.inl ⟨by rfl, ?_⟩) (by assumption) ?_
            rotate_left
            · (intro w hSw; (try dsimp only at hSw); go_simp; try with_reducible rfl)
            simp only [Act.put, List.setIfInBounds_toArray, List.set_cons_zero, List.set_cons_succ]
            refine wpAnyH_done (by kernel_rfl) ?_ _
            refine NoPanic.normal ?_
            have IE : Hid (rdI w b off X j F r a Ca W6) := I6
            clear hHeld I6 hA6 I5
            have R2 := IE.out.1.2.1
            go_wp2_with (first
              | (refine wpList_build_to rfl 26 _ rfl (supC sup0 none 0).toArray (by kernel_rfl) ?_)
              | (refine wpList_store_rec rfl 26 (.tmp 2) (.tmp 81) rfl w.heap.size 0 _ (supC sup0 none 0) rfl rfl R2 rfl (by kernel_rfl) (supC_one _ _ _) ?_; intro W9 R9 B9))
            have hl := R9.run_load 26 _ Try.underlying26 rfl (by kernel_rfl)
            exact bodyPost_ret (v := .tuple #[supV sup0 none 0, .int .i64 4]) (by simp [results, Try.results13, asAddr, supV, hl]) rfl (.inr ⟨BD.out, rfl, IE.out.1.1.trans (B9.below (Nat.le_refl _) IE.out.1.1.size)⟩)
      · as_aux_lemma =>
          have BD : Hid (¬ (SupOk (behO F) ∧ (supOf (behO F)).May)) := rd_bad (.inl (by rw [HKI.out]; omega)) mm
          have CK : Hid (∀ u, rdI w b off X j F r a Ca u → Calls Try.prog 17 #[supV (tK F j) a Ca] u fun e w' => e = .returned (.int .i64 2) ∧ Below u.heap.size u w') := fun u hu => by
            have := scheck_any (tK F j) a Ca u hu.harg (by show j ≤ 1000; omega)
            rw [chk_no mm] at this
            exact this
          clear mm
          go_wp2_with (go_at_call 39; refine (AT.out _ HI.out).mono ?_; rintro e W1 ⟨rfl, B1⟩
                       replace HI : Hid (rdI w b off X j F r a Ca W1) := HI.out.below B1
                       clear B1)
          refine wp_region_noPanic ?_
          refine wp_region_held_drew (S := fun W => W.rangeAt X 0 (supC (tK F j) a Ca) ∧ Hid (rdI w b off X j F r a Ca W)) (by kernel_rfl) ?_ (fun hHeld => ?_)
          · exact ⟨(HI.out.below (Below.refl _ _).drew).2.1.1, HI.out.below (Below.refl _ _).drew⟩
          refine take_at (i := 0) (v := _) (some 70) rfl rfl (by kernel_rfl) (by kernel_rfl) (by kernel_rfl) (fun _ _ _ h => h) (yieldsIf_load_mid (by rfl) 26 (.tmp 6) rfl X 0 rfl (supC (tK F j) a Ca) _ (fun _ h => h.1) Try.underlying26 rfl (by kernel_rfl)) (by assumption) ?_
          simp only [Act.put, List.setIfInBounds_toArray, List.set_cons_zero, List.set_cons_succ]
          refine call_at (i := 1) (some 71) 17 _ _ rfl rfl rfl (by rfl) (by kernel_rfl) #[supV (tK F j) a Ca] rfl Try.func17 (by kernel_rfl) (by kernel_rfl) ?_
          refine (CK.out _ hHeld.2.out).mono ?_; rintro e W5 ⟨rfl, B5⟩
          have I5 := hHeld.2.out.below B5
          refine ⟨_, rfl, ⟨I5.2.1.1, I5⟩, fun hHeld => ?_⟩
          simp only [Act.put, List.setIfInBounds_toArray, List.set_cons_zero, List.set_cons_succ]
          refine take_at (i := 2) (v := ?_) (some 72) rfl rfl (by kernel_rfl) (by kernel_rfl) (by kernel_rfl) (fun _ _ _ h => h) (Or.inl ⟨by rfl, ?_⟩) (by assumption) ?_
          rotate_left
          · (intro w hSw; (try dsimp only at hSw); go_simp; try with_reducible rfl)
          simp only [Act.put, List.setIfInBounds_toArray, List.set_cons_zero, List.set_cons_succ]
          refine take_at (i := 3) (v := ?_) (some 73) rfl rfl (by kernel_rfl) (by kernel_rfl) (by kernel_rfl) (fun _ _ _ h => h) (Or.inl ⟨by rfl, ?_⟩) (by assumption) ?_
          rotate_left
          · (intro w hSw; (try dsimp only at hSw); go_simp; try with_reducible rfl)
          simp only [Act.put, List.setIfInBounds_toArray, List.set_cons_zero, List.set_cons_succ]
          refine take_at (i := 4) (v := undef) (some 74) rfl rfl (by kernel_rfl) (by kernel_rfl) (by kernel_rfl) (fun _ _ _ h => h) (Or.inr ⟨by rfl, rfl⟩) (by assumption) ?_
          simp only [Act.put, List.setIfInBounds_toArray, List.set_cons_zero, List.set_cons_succ]
          refine take_at (i := 5) (v := undef) (some 75) rfl rfl (by kernel_rfl) (by kernel_rfl) (by kernel_rfl) (fun _ _ _ h => h) (Or.inr ⟨by rfl, rfl⟩) (by assumption) ?_
          simp only [Act.put, List.setIfInBounds_toArray, List.set_cons_zero, List.set_cons_succ]
          refine take_at (i := 6) (v := undef) (some 76) rfl rfl (by kernel_rfl) (by kernel_rfl) (by kernel_rfl) (fun _ _ _ h => h) (Or.inr ⟨by rfl, rfl⟩) (by assumption) ?_
          simp only [Act.put, List.setIfInBounds_toArray, List.set_cons_zero, List.set_cons_succ]
          refine take_at (i := 7) (v := undef) (some 77) rfl rfl (by kernel_rfl) (by kernel_rfl) (by kernel_rfl) (fun _ _ _ h => h) (Or.inr ⟨by rfl, rfl⟩) (by assumption) ?_
          simp only [Act.put, List.setIfInBounds_toArray, List.set_cons_zero, List.set_cons_succ]
          refine take_at (i := 8) (v := undef) (some 78) rfl rfl (by kernel_rfl) (by kernel_rfl) (by kernel_rfl) (fun _ _ _ h => h) (Or.inr ⟨by rfl, rfl⟩) (by assumption) ?_
          simp only [Act.put, List.setIfInBounds_toArray, List.set_cons_zero, List.set_cons_succ]
          refine take_at (i := 9) (v := undef) (some 79) rfl rfl (by kernel_rfl) (by kernel_rfl) (by kernel_rfl) (fun _ _ _ h => h) (Or.inr ⟨by rfl, rfl⟩) (by assumption) ?_
          simp only [Act.put, List.setIfInBounds_toArray, List.set_cons_zero, List.set_cons_succ]
          refine take_at (i := 10) (v := ?_) (some 80) rfl rfl (by kernel_rfl) (by kernel_rfl) (by kernel_rfl) (fun _ _ _ h => h) (Or.inl ⟨by rfl, ?_⟩) (by assumption) ?_
          rotate_left
          · (intro w hSw; (try dsimp only at hSw); go_simp; try with_reducible rfl)
          simp only [Act.put, List.setIfInBounds_toArray, List.set_cons_zero, List.set_cons_succ]
          refine wpAnyH_done (by kernel_rfl) ?_ _
          refine NoPanic.normal ?_
          have IE : Hid (rdI w b off X j F r a Ca W5) := I5
          clear hHeld I5
          have R2 := IE.out.1.2.1
          go_wp2_with (first
            | (refine wpList_build_to rfl 26 _ rfl (supC sup0 none 0).toArray (by kernel_rfl) ?_)
            | (refine wpList_store_rec rfl 26 (.tmp 2) (.tmp 81) rfl w.heap.size 0 _ (supC sup0 none 0) rfl rfl R2 rfl (by kernel_rfl) (supC_one _ _ _) ?_; intro W9 R9 B9))
          have hl := R9.run_load 26 _ Try.underlying26 rfl (by kernel_rfl)
          exact bodyPost_ret (v := .tuple #[supV sup0 none 0, .int .i64 4]) (by simp [results, Try.results13, asAddr, supV, hl]) rfl (.inr ⟨BD.out, rfl, IE.out.1.1.trans (B9.below (Nat.le_refl _) IE.out.1.1.size)⟩)
set_option maxRecDepth 100000 in
set_option maxHeartbeats 400000 in
theorem sread_len (a : Option Addr) (n C : Nat) (w : World) (h : n ≠ 512) : Calls Try.prog 13 #[.slice a n C] w fun e w' => e = .returned (.tuple #[supV sup0 none 0, .int .i64 4]) ∧ Below w.heap.size w w' := by
  have h' : ¬ (n : Int) = 512 := by omega
  go_enter Try.func13, Try.ntmps13
  go_wp2_with (first
    | (refine wpList_alloc_rec rfl 26 rfl (supC sup0 none 0) w.heap.size rfl zero_super ?_; intro W0 R0 B0 z0)
    | (refine wpList_build_to rfl 26 _ rfl (supC sup0 none 0).toArray (by kernel_rfl) ?_)
    | (refine wpList_store_rec rfl 26 (.tmp 2) (.tmp 11) rfl w.heap.size 0 _ (supC sup0 none 0) rfl rfl R0 rfl (by kernel_rfl) (supC_one _ _ _) ?_; intro W9 R9 B9))
  have hl := R9.run_load 26 _ Try.underlying26 rfl (by kernel_rfl)
  exact bodyPost_ret (v := .tuple #[supV sup0 none 0, .int .i64 4]) (by simp [results, Try.results13, asAddr, supV, hl]) rfl ⟨rfl, B0.trans (B9.below (Nat.le_refl _) B0.size)⟩
set_option maxRecDepth 100000 in
set_option maxHeartbeats 400000 in
theorem sread_seal (b off C : Nat) (F : Nat → Int) (w : World) (hL : Lies w b off 512 F) (hC : 512 ≤ C) (ho : opens 512 F = false) : Calls Try.prog 13 #[.slice (some ⟨b, off, none⟩) 512 C] w fun e w' => e = .returned (.tuple #[supV sup0 none 0, .int .i64 12]) ∧ Below w.heap.size w w' := by
  have OP : Hid (∀ u, Below w.heap.size w u → Calls Try.prog 38 #[.slice (some ⟨b, off, none⟩) 512 C] u fun e w' => e = .returned (.tuple #[.slice none 0 0, .int .i64 12]) ∧ Below u.heap.size u w') := fun u hB => hopen_no (some ⟨b, off, none⟩) 512 C F u (Arg.of (hL.below hB)) (by omega) hC (by omega) ho
  clear hL ho hC
  go_enter Try.func13, Try.ntmps13
  go_wp2_with (first
    | (refine wpList_alloc_rec rfl 26 rfl (supC sup0 none 0) w.heap.size rfl zero_super ?_; intro W0 R0 B0 z0)
    | (go_at_call 38; refine (OP.out _ B0).mono ?_; rintro e W1 ⟨rfl, B1⟩
       have E1 : Hid (Below w.heap.size w W1) := B0.trans (B1.mono B0.size)
       have R1 := R0.below B1
       clear B1)
    | (refine wpList_build_to rfl 26 _ rfl (supC sup0 none 0).toArray (by kernel_rfl) ?_)
    | (refine wpList_store_rec rfl 26 (.tmp 2) (.tmp 19) rfl w.heap.size 0 _ (supC sup0 none 0) rfl rfl R1 rfl (by kernel_rfl) (supC_one _ _ _) ?_; intro W9 R9 B9))
  have hl := R9.run_load 26 _ Try.underlying26 rfl (by kernel_rfl)
  exact bodyPost_ret (v := .tuple #[supV sup0 none 0, .int .i64 12]) (by simp [results, Try.results13, asAddr, supV, hl]) rfl ⟨rfl, E1.out.trans (B9.below (Nat.le_refl _) E1.out.size)⟩
end Go.Proofs.Ytfapmogjmjlokaa
namespace Go.Proofs.Ytfapmogjmjlokaa
open Go.RowKit
/-- The marks behind a list that is lent. -/
def mark (n m : Nat) : Int := 160 + ((n + m : Nat) : Int) % 90
/-- The bytes of a list that is lent, its room too. -/
def lentF (n : Nat) (f : Nat → Int) (m : Nat) : Nat → Int := over (over (fun _ => 0) 0 n f) n m (mark n)
theorem lentF_low (n : Nat) (f : Nat → Int) (m j : Nat) (h : j < n) : lentF n f m j = f j := by
  unfold lentF over; rw [if_neg (by omega), if_pos (by omega), Nat.sub_zero]
theorem lentF_byte (n : Nat) (f : Nat → Int) (m : Nat) (hf : ∀ j, j < n → 0 ≤ f j ∧ f j < 256) (j : Nat) : 0 ≤ lentF n f m j ∧ lentF n f m j < 256 := by
  unfold lentF over mark
  split
  · omega
  · split
    · exact hf _ (by omega)
    · exact ⟨Int.le_refl 0, by show (0 : Int) < 256; omega⟩
theorem lentF_step (n : Nat) (f : Nat → Int) (m : Nat) : upd (lentF n f m) (n + m) (mark n m) = lentF n f (m + 1) := by
  funext j
  unfold upd lentF over
  by_cases h : j = n + m
  · rw [if_pos h, if_pos (by omega), h, show n + m - n = m by omega]
  · rw [if_neg h]
    by_cases g : n ≤ j ∧ j < n + m
    · rw [if_pos g, if_pos (by omega)]
    · rw [if_neg g, if_neg (show ¬ (n ≤ j ∧ j < n + (m + 1)) by omega)]
/-- What holds at the head of the loop. -/
def lentRel (w : World) (g n : Nat) (f : Nat → Int) (i : Value) (wr : World) : Prop := ∃ m : Nat, m ≤ 3 ∧ i = .int .i64 ((n + m : Nat) : Int) ∧ IRow wr g .u8 (n + 3) (lentF n f m) ∧ Below w.heap.size w wr
theorem lent_step (w wr : World) (g n m k : Nat) (f : Nat → Int) (v : Int) (hg : w.heap.size ≤ g) (hm : m < 3) (hk : k = n + m) (hv : v = mark n m) (hR : IRow wr g .u8 (n + 3) (lentF n f m)) (hB : Below w.heap.size w wr) :
    lentRel w g n f (.int .i64 ((n : Int) + m + 1)) (wr.setCell ⟨g, k, none⟩ (.int .u8 v)) := by
  subst hk hv
  exact ⟨m + 1, by omega, by go_num, by rw [← lentF_step]; exact hR.set _ _, hB.setCell hg _⟩
set_option maxRecDepth 100000 in
set_option maxHeartbeats 1000000 in
theorem lent_any (a : Option Addr) (n C : Nat) (f : Nat → Int) (w : World) (h : Arg w a n f) (hn : n ≤ 1000000) :
    Calls Try.prog 8 #[.slice a n C] w fun e w' => ∃ g, e = .returned (.slice (some ⟨g, 0, none⟩) n (n + 3)) ∧ w.heap.size ≤ g ∧ IRow w' g .u8 (n + 3) (lentF n f 3) ∧ Below w.heap.size w w' := by
  have hmk : ∀ w, (Instr.makeSlice 27 (.int .i64 ((n : Int) + 3)) (.int .i64 ((n : Int) + 3))).run Try.prog w = .ok (.slice (some ⟨w.heap.size, 0, none⟩) (n + 3) (n + 3)) (w.alloc (.cells (zeros (n + 3)) 5)) := by
    have := make_bytes (n + 3) (by omega)
    rw [show ((n + 3 : Nat) : Int) = (n : Int) + 3 from by omega] at this
    exact this
  obtain ⟨W2, hcopy, hR2, hB2, _⟩ := copy_row (w.alloc (.cells (zeros (n + 3)) 5)) w.heap.size (n + 3) 0 (n + 3) (n + 3) n C n a f (fun _ => 0) (IRow.made w (n + 3) 5) (by omega) (Nat.min_eq_left (by omega)).symm (h.below ((Below.refl _ _).alloc (Nat.le_refl _) _))
  have ST : Hid (lentRel w w.heap.size n f (.int .i64 n) W2) := by
    refine ⟨0, by omega, rfl, hR2.congr (fun j _ => ?_), ((Below.refl _ _).alloc (Nat.le_refl _) _).trans (hB2.below (Nat.le_refl _) (by simp))⟩
    unfold lentF
    rw [show over (over (fun _ => 0) 0 n f) n 0 (mark n) j = over (fun _ => 0) 0 n f j from by rw [over, if_neg (by omega)]]
  clear hR2 hB2 h
  have wr1 : wrap64 ((n : Int) + 3) = (n : Int) + 3 := by unfold wrap64; omega
  go_enter Try.func8, Try.ntmps8
  go_wp2_with (at_builtin; refine wpList_copy_go rfl (.tmp 9) (.tmp 10) 27 27 rfl _ _ rfl rfl hcopy ?_)
  clear hmk hcopy
  go_loopw [4] (fun i wr => lentRel w w.heap.size n f i wr) (fun i _ => n + 3 - (RowKit.intOf i).toNat)
  case atStart => exact ST.out
  case round =>
    obtain ⟨m, hm, rfl, hR, hB⟩ := hrel
    clear ST
    have BE : Hid (Below w.heap.size w wr) := hB
    have RR : Hid (IRow wr w.heap.size .u8 (n + 3) (lentF n f m)) := hR
    clear hB
    by_cases hlt : m < 3
    · have gk := hR.1 (n + m) (by omega)
      have fk := hR.2.1 (n + m)
      clear hR
      have e0 : ((n + m : Nat) : Int) = (n : Int) + m := by omega
      have e1 : (n : Int) + m < (n : Int) + 3 := by omega
      have e2 : (0 : Int) ≤ (n : Int) + m := by omega
      have e3 : ((n : Int) + m).toNat = n + m := by omega
      have e4 : IntKind.u8.wrap (160 + ((n : Int) + m) % 90) = 160 + ((n : Int) + m) % 90 := by rw [IntKind.wrap_u8]; omega
      have e5 : wrap64 (160 + ((n : Int) + m) % 90) = 160 + ((n : Int) + m) % 90 := by unfold wrap64; omega
      have e6 : wrap64 ((n : Int) + m + 1) = (n : Int) + m + 1 := by unfold wrap64; omega
      go_wp2_with fail
      refine ⟨lent_step w wr w.heap.size n m _ f _ (Nat.le_refl _) hlt rfl ?_ RR.out BE.out, by simp [RowKit.intOf]; omega⟩
      unfold mark
      rw [e0]
    · obtain rfl : m = 3 := by omega
      clear hR
      have e0 : ((n + 3 : Nat) : Int) = (n : Int) + 3 := by omega
      go_wp2_with fail
      go_ret
      exact ⟨_, rfl, Nat.le_refl _, RR.out, BE.out⟩
set_option maxRecDepth 100000 in
set_option maxHeartbeats 1000000 in
theorem kept_any (g : Nat) (a : Option Addr) (n C : Nat) (f : Nat → Int) (w : World) (h : Arg w a n f) (hn : n ≤ 1000000) (hR : IRow w g .u8 (n + 3) (lentF n f 3)) :
    Calls Try.prog 18 #[.slice (some ⟨g, 0, none⟩) n (n + 3), .slice a n C] w fun e w' => e = .returned (.bool true) ∧ Below w.heap.size w w' := by
  have HA : Hid (Arg w.drew a n f) := h
  have HR : Hid (IRow w g .u8 (n + 3) (lentF n f 3)) := hR
  have FB : Hid (∀ j, j < n + 3 → 0 ≤ lentF n f 3 j ∧ lentF n f 3 j < 256) := fun j _ => lentF_byte n f 3 h.bytes j
  clear h hR
  have wr1 : wrap64 ((n : Int) + 3) = (n : Int) + 3 := by unfold wrap64; omega
  have wr2 : IntKind.i64.wrap ((n : Int) + 3) = (n : Int) + 3 := by rw [IntKind.wrap_i64]; omega
  have e1 : ((n + 3 : Nat) : Int) = (n : Int) + 3 := by omega
  have e2 : ((n : Int) + 3).toNat = n + 3 := by omega
  have e3 : (0 : Int) ≤ (n : Int) + 3 := by omega
  go_enter Try.func18, Try.ntmps18
  go_wp2_with fail
  go_region_held3 (fun w' => True) (trivial)
    (first
      | (go_at_call 8; refine (lent_any a n C f _ HA.out hn).mono ?_; rintro e w1 ⟨g1, rfl, hg1, hR1, hB1⟩)
      | (go_at_call 14; refine (same_any (some ⟨g, 0, none⟩) _ (n + 3) (n + 3) _ _ (lentF n f 3) (lentF n f 3) _ (Arg.of ((HR.out.drew.below (by assumption)).lies FB.out)) (Arg.of ((by assumption : IRow _ _ .u8 (n + 3) (lentF n f 3)).lies FB.out))).mono ?_; rintro e w2 ⟨rfl, hw⟩; rw [hw, decide_eq_true rfl]; clear hw))
  go_wp2_with fail
  go_ret
  exact ⟨rfl, (Below.refl _ _).drew.trans (by assumption)⟩
end Go.Proofs.Ytfapmogjmjlokaa
namespace Go.Proofs.Ytfapmogjmjlokaa
open Go.RowKit Go.Maps
/-- What both Reads answer. -/
def PSup (w : World) (sq : Sup) (c : Int) (e : Ending) (w' : World) : Prop := ∃ ap Cp, e = .returned (.tuple #[supV sq ap Cp, .int .i64 c]) ∧ HArg w' ap sq.k sq.h ∧ Below w.heap.size w w'
theorem PSup.nil {w w' : World} {e : Ending} {c : Int} (h : e = .returned (.tuple #[supV sup0 none 0, .int .i64 c]) ∧ Below w.heap.size w w') : PSup w sup0 c e w' := ⟨none, 0, h.1, .inl rfl, h.2⟩
theorem lent_lies {W : World} {g n : Nat} {f : Nat → Int} (hf : ∀ j, j < n → 0 ≤ f j ∧ f j < 256) (h : IRow W g .u8 (n + 3) (lentF n f 3)) : Lies W g 0 n f :=
  ⟨fun j hj => by rw [Nat.zero_add]; have := h.1 j (by omega); rwa [lentF_low n f 3 j hj] at this, hf, h.2.2⟩
theorem read_both (g : Nat) (a1 : Option Addr) (n C1 : Nat) (f : Nat → Int) (hf : ∀ j, j < n → 0 ≤ f j ∧ f j < 256) : ∃ (sq : Sup) (c : Int), sq.k ≤ 32 ∧
    (∀ W : World, IRow W g .u8 (n + 3) (lentF n f 3) → Calls Try.prog 12 #[.slice (some ⟨g, 0, none⟩) n (n + 3)] W (PSup W sq c)) ∧
    (∀ W : World, Arg W a1 n f → n ≤ C1 → Calls Try.prog 13 #[.slice a1 n C1] W (PSup W sq c)) := by
  by_cases h512 : n = 512
  · subst h512
    have two : ∀ {W : World}, Arg W a1 512 f → ∃ b off, a1 = some ⟨b, off, none⟩ ∧ Lies W b off 512 f := fun h => by
      rcases h with ⟨e, _⟩ | ⟨_, b, off, e, l⟩
      · omega
      · exact ⟨b, off, e, l⟩
    by_cases ho : opens 512 f = true
    · by_cases gd : SupOk (behO f) ∧ (supOf (behO f)).May
      · refine ⟨supOf (behO f), 0, gd.2.2.1, fun W hR => (read_ok512 g 0 515 f W (lent_lies hf hR) (by omega) ⟨ho, gd.1, gd.2⟩).mono ?_, fun W hA hC => ?_⟩
        · rintro e w' ⟨a, C, rfl, h1, _, _, h2⟩
          exact ⟨a, C, rfl, h1, h2⟩
        · obtain ⟨b, off, rfl, hl⟩ := two hA
          refine (sread_open b off C1 f W hl hC ho).mono ?_
          rintro e w' (⟨_, a, C, rfl, h1, h2⟩ | ⟨h, _⟩)
          · exact ⟨a, C, rfl, h1, h2⟩
          · exact absurd gd h
      · have nw : ¬ Whole f := fun q => gd ⟨q.2.1, q.2.2⟩
        have re : rdE f = 4 := by unfold rdE; rw [if_pos ho, if_neg gd]
        refine ⟨sup0, 4, by decide, fun W hR => ?_, fun W hA hC => ?_⟩
        · have := read_no512 g 0 515 f W (lent_lies hf hR) (by omega) nw
          rw [re] at this
          exact this.mono fun _ _ q => PSup.nil q
        · obtain ⟨b, off, rfl, hl⟩ := two hA
          refine (sread_open b off C1 f W hl hC ho).mono ?_
          rintro e w' (⟨q, _⟩ | ⟨_, rfl, h2⟩)
          · exact absurd q gd
          · exact PSup.nil ⟨rfl, h2⟩
    · have ho' : opens 512 f = false := by simpa using ho
      have nw : ¬ Whole f := fun q => ho q.1
      have re : rdE f = 12 := by unfold rdE; rw [if_neg ho]
      refine ⟨sup0, 12, by decide, fun W hR => ?_, fun W hA hC => ?_⟩
      · have := read_no512 g 0 515 f W (lent_lies hf hR) (by omega) nw
        rw [re] at this
        exact this.mono fun _ _ q => PSup.nil q
      · obtain ⟨b, off, rfl, hl⟩ := two hA
        exact (sread_seal b off C1 f W hl hC ho').mono fun _ _ q => PSup.nil q
  · exact ⟨sup0, 4, by decide, fun W _ => (read_len _ n (n + 3) W h512).mono fun _ _ q => PSup.nil q, fun W _ _ => (sread_len a1 n C1 W h512).mono fun _ _ q => PSup.nil q⟩
/-- What the program's Bytes answers. -/
def PBy (w : World) (N : Nat) (F : Nat → Int) (c : Int) (e : Ending) (w' : World) : Prop := ∃ ax, e = .returned (.tuple #[.slice ax N N, .int .i64 c]) ∧ Lst.ok w.heap.size w' ⟨ax, N, N⟩ F ∧ (∀ p, ax = some p → w.heap.size ≤ p.block ∧ p.block < w'.heap.size) ∧ Below w.heap.size w w'
theorem bytes_both (sp : Sup) (hk : sp.k ≤ 1000) : ∃ (N : Nat) (F : Nat → Int) (c : Int), (∀ (W : World) (a : Option Addr) (C : Nat), HArg W a sp.k sp.h → Calls Try.prog 10 #[supV sp a C] W (PBy W N F c)) ∧ (∀ (W : World) (a : Option Addr) (C : Nat), HArg W a sp.k sp.h → Calls Try.prog 11 #[supV sp a C] W (RBy W N F c)) := by
  by_cases m : sp.May
  · refine ⟨512, sp.img, 0, fun W a C hA => (bytes_ok sp a C W hA m).mono ?_, fun W a C hA => rsbytes_ok sp a C W hA m⟩
    rintro e w' ⟨g, rfl, hg, hR, hB⟩
    exact ⟨some ⟨g, 0, none⟩, rfl, ⟨Nat.le_refl _, by show 512 ≤ 1000000; omega, fun j hj => sp.img_byte j hj, .inr ⟨g, rfl, hg, hR⟩⟩, fun p hp => (by injection hp with hp; subst hp; exact ⟨hg, hR.2.2⟩), hB⟩
  · refine ⟨0, fun _ => 0, 2, fun W a C hA => (bytes_no sp a C W hA m).mono ?_, fun W a C hA => rsbytes_no sp a C W hA hk m⟩
    rintro e w' ⟨rfl, hB⟩
    exact ⟨none, rfl, ⟨Nat.le_refl _, by show 0 ≤ 1000000; omega, fun j _ => (by show (0 : Int) ≤ 0 ∧ (0 : Int) < 256; omega), .inl ⟨rfl, rfl⟩⟩, fun p hp => (by cases hp), hB⟩
/-- What lies there behind the first region. -/
def lS (w : World) (sp : Sup) (a : Option Addr) (C n : Nat) (f : Nat → Int) (g : Nat) (W : World) : Prop := Below w.heap.size w W ∧ Rec19 W w.heap.size 0 (supC sp a C) ∧ IRow W g .u8 (n + 3) (lentF n f 3) ∧ w.heap.size < g
theorem lS.below {w : World} {sp : Sup} {a : Option Addr} {C n : Nat} {f : Nat → Int} {g : Nat} {W W' : World} (h : lS w sp a C n f g W) (hB : Below W.heap.size W W') : lS w sp a C n f g W' := ⟨h.1.trans (hB.mono h.1.size), h.2.1.below hB, h.2.2.1.below hB, h.2.2.2⟩
theorem lS.but {w : World} {sp : Sup} {a : Option Addr} {C n : Nat} {f : Nat → Int} {g Y : Nat} {W W' : World} (h : lS w sp a C n f g W) (hB : But Y W W') (hY : w.heap.size < Y) (hg : Y ≠ g) : lS w sp a C n f g W' := ⟨h.1.trans (hB.below (by omega) h.1.size), h.2.1.but hB (by omega), h.2.2.1.but hB (Ne.symm hg), h.2.2.2⟩
theorem HArg.but1 {W W' : World} {a : Option Addr} {k Y : Nat} {h : Nat → Int} (hA : HArg W a k h) (hB : But Y W W') (hy : 0 < k → ∀ r, a = some r → r.block ≠ Y) : HArg W' a k h := by
  by_cases k0 : 0 < k
  · rcases hA with e | ⟨b, off, rfl, hc, hb⟩
    · omega
    · have := hy k0 _ rfl
      exact .inr ⟨b, off, rfl, fun j hj => (hB.cell (p := ⟨b, off + j, none⟩) hb this).trans (hc j hj), Nat.lt_of_lt_of_le hb hB.size⟩
  · exact .inl (by omega)
theorem HArg.lt {W : World} {a : Option Addr} {k : Nat} {h : Nat → Int} (hA : HArg W a k h) (k0 : 0 < k) : ∀ r, a = some r → r.block < W.heap.size := by
  rcases hA with e | ⟨b, off, rfl, hc, hb⟩
  · omega
  · intro r hr
    injection hr with hr
    rw [← hr]
    exact hb
def lT (w : World) (sp : Sup) (a : Option Addr) (C n : Nat) (f : Nat → Int) (g Y : Nat) (a' : Option Addr) (C' : Nat) (W : World) : Prop := lS w sp a C n f g W ∧ Rec19 W Y 0 (supC sp a' C') ∧ HArg W a' sp.k sp.h
theorem lT.below {w : World} {sp : Sup} {a : Option Addr} {C n : Nat} {f : Nat → Int} {g Y : Nat} {a' : Option Addr} {C' : Nat} {W W' : World} (h : lT w sp a C n f g Y a' C' W) (hB : Below W.heap.size W W') : lT w sp a C n f g Y a' C' W' := ⟨h.1.below hB, h.2.1.below hB, h.2.2.below hB⟩
/-- The bytes of either, apart from what was lent. -/
def lX (w : World) (g N : Nat) (F : Nat → Int) (ax : Option Addr) (W : World) : Prop := Lst.ok w.heap.size W ⟨ax, N, N⟩ F ∧ (∀ p, ax = some p → g < p.block ∧ p.block < W.heap.size)
theorem lX.below {w : World} {g N : Nat} {F : Nat → Int} {ax : Option Addr} {W W' : World} (h : lX w g N F ax W) (hB : Below W.heap.size W W') : lX w g N F ax W' := ⟨h.1.below hB, fun p hp => ⟨(h.2 p hp).1, Nat.lt_of_lt_of_le (h.2 p hp).2 hB.size⟩⟩
theorem Lst.ok.base {B B' : Nat} {w : World} {L : Lst} {F : Nat → Int} (h : L.ok B w F) (hb : B' ≤ B) : L.ok B' w F := by
  obtain ⟨h1, h2, h3, h4⟩ := h
  refine ⟨h1, h2, h3, ?_⟩
  rcases h4 with q | ⟨g, e, hg, hR⟩
  · exact .inl q
  · exact .inr ⟨g, e, by omega, hR⟩
theorem lX.arg {w : World} {g N : Nat} {F : Nat → Int} {ax : Option Addr} {W : World} (h : lX w g N F ax W) : Arg W ax N F := h.1.arg
def lP (W : World) (P : Nat) (sq : Sup) (ap : Option Addr) (Cp : Nat) : Prop := Rec19 W P 0 (supC sq ap Cp) ∧ HArg W ap sq.k sq.h
theorem lP.below {W W' : World} {P : Nat} {sq : Sup} {ap : Option Addr} {Cp : Nat} (h : lP W P sq ap Cp) (hB : Below W.heap.size W W') : lP W' P sq ap Cp := ⟨h.1.below hB, h.2.below hB⟩
theorem apart_all {w : World} {sp : Sup} {a : Option Addr} {C n : Nat} {f : Nat → Int} {g N : Nat} {F : Nat → Int} {ax : Option Addr} {W : World} (hf : ∀ j, j < n → 0 ≤ f j ∧ f j < 256) (hn : n ≤ 2000) (h : lS w sp a C n f g W) (hx : lX w g N F ax W) :
    Calls Try.prog 19 #[.slice (some ⟨W.heap.size, 0, none⟩) 2 2] (W.alloc (.cells #[.slice ax N N, .slice (some ⟨g, 0, none⟩) n (n + 3)] 27)) fun e w' => e = .returned (.bool true) ∧ Below w.heap.size W w' :=
  two_apart w.heap.size W ⟨ax, N, N⟩ ⟨some ⟨g, 0, none⟩, n, n + 3⟩ F (lentF n f 3) hx.1 ⟨by show n ≤ n + 3; omega, by show n + 3 ≤ 1000000; omega, fun j _ => lentF_byte n f 3 hf j, .inr ⟨g, rfl, Nat.le_of_lt h.2.2.2, h.2.2.1⟩⟩ h.1.size
    (fun p hp => (hx.2 p hp).2) (fun p hp => by injection hp with hp; subst hp; exact h.2.2.1.2.2) (fun p q hp hq => by injection hq with hq; subst hq; have := (hx.2 p hp).1; show p.block ≠ g; omega)
set_option maxRecDepth 100000 in
theorem law_far (sp : Sup) (a a1 : Option Addr) (C n C1 : Nat) (w : World) (h : 100 < sp.k ∨ 2000 < n) : Calls Try.prog 3 #[supV sp a C, .slice a1 n C1] w fun e w' => e = .returned (.bool true) ∧ Below w.heap.size w w' := by
  unfold supV
  by_cases h1 : 100 < sp.k
  · have i1 : (100 : Int) < (sp.k : Int) := by omega
    clear h
    go_enter Try.func3, Try.ntmps3
    go_wp2_with (refine wpList_box_rec rfl 26 (.tmp 0) rfl (supC sp a C) rfl w.heap.size rfl ?_; intro W0 R0 B0 z0; obtain ⟨c10, _⟩ := R0.cel 10 _ rfl)
    go_ret
    exact ⟨rfl, B0⟩
  · have i1 : ¬ (100 : Int) < (sp.k : Int) := by omega
    have i2 : (2000 : Int) < (n : Int) := by omega
    clear h
    go_enter Try.func3, Try.ntmps3
    go_wp2_with (refine wpList_box_rec rfl 26 (.tmp 0) rfl (supC sp a C) rfl w.heap.size rfl ?_; intro W0 R0 B0 z0; obtain ⟨c10, _⟩ := R0.cel 10 _ rfl)
    go_ret
    exact ⟨rfl, B0⟩
set_option maxRecDepth 100000 in
set_option maxHeartbeats 4000000 in
theorem law_near (sp : Sup) (a a1 : Option Addr) (C n C1 : Nat) (f : Nat → Int) (w : World) (hA : HArg w a sp.k sp.h) (h1 : Arg w a1 n f) (hC1 : n ≤ C1) (hk : sp.k ≤ 100) (hn : n ≤ 2000) : Calls Try.prog 3 #[supV sp a C, .slice a1 n C1] w fun e w' => e = .returned (.bool true) ∧ Below w.heap.size w w' := by
  have HF : Hid (∀ j, j < n → 0 ≤ f j ∧ f j < 256) := h1.bytes
  have HA : Hid (∀ u, Below w.heap.size w u → HArg u a sp.k sp.h) := fun u hB => hA.below hB
  have H1 : Hid (∀ u, Below w.heap.size w u → Arg u a1 n f) := fun u hB => h1.below hB
  have HC : Hid (n ≤ C1) := hC1
  obtain ⟨N, F, cb, pb, rb⟩ := bytes_both sp (by omega)
  have PB : Hid (∀ (W : World) (a : Option Addr) (C : Nat), HArg W a sp.k sp.h → Calls Try.prog 10 #[supV sp a C] W (PBy W N F cb)) := pb
  have RB : Hid (∀ (W : World) (a : Option Addr) (C : Nat), HArg W a sp.k sp.h → Calls Try.prog 11 #[supV sp a C] W (RBy W N F cb)) := rb
  clear pb rb hA h1 hC1
  have i1 : ¬ (100 : Int) < (sp.k : Int) := by omega
  have i2 : ¬ (2000 : Int) < (n : Int) := by omega
  unfold supV
  go_enter Try.func3, Try.ntmps3
  go_wp2_with (refine wpList_box_rec rfl 26 (.tmp 0) rfl (supC sp a C) rfl w.heap.size rfl ?_; intro W0 R0 B0 z0; obtain ⟨c10, _⟩ := R0.cel 10 _ rfl)
  have N0 : Hid (Below w.heap.size w W0 ∧ Rec19 W0 w.heap.size 0 (supC sp a C)) := ⟨B0, R0⟩
  clear R0 B0 z0 c10 i1 i2
  refine wp_region_noPanic ?_
  refine wp_region_held_drew (S := fun W => W.rangeAt w.heap.size 0 (supC sp a C) ∧ Hid (Below w.heap.size w W ∧ Rec19 W w.heap.size 0 (supC sp a C))) (by kernel_rfl) ?_ (fun hHeld => ?_)
  · exact ⟨(N0.out.2.below (Below.refl _ _).drew).1, N0.out.1.drew, N0.out.2.below (Below.refl _ _).drew⟩
  have KE : ∀ {u u' : World}, (Below w.heap.size w u ∧ Rec19 u w.heap.size 0 (supC sp a C)) → Below u.heap.size u u' → u'.rangeAt w.heap.size 0 (supC sp a C) ∧ Hid (Below w.heap.size w u' ∧ Rec19 u' w.heap.size 0 (supC sp a C)) := fun h hB => ⟨(h.2.below hB).1, h.1.trans (hB.mono h.1.size), h.2.below hB⟩
  refine take_at (i := 0) (v := ?_) (some 24) rfl rfl (by kernel_rfl) (by kernel_rfl) (by kernel_rfl) (fun _ _ _ h => h) (Or.inl ⟨by rfl, ?_⟩) (by assumption) ?_
  rotate_left
  · (intro w hSw; (try dsimp only at hSw); go_simp; try with_reducible rfl)
  simp only [Act.put, List.setIfInBounds_toArray, List.set_cons_zero, List.set_cons_succ]
  refine take_at (i := 2) (v := _) (some 26) rfl rfl (by kernel_rfl) (by kernel_rfl) (by kernel_rfl) (fun _ _ _ h => h) (yieldsIf_load_mid (by rfl) 26 (.tmp 2) rfl w.heap.size 0 rfl (supC sp a C) _ (fun _ h => h.1) Try.underlying26 rfl (by kernel_rfl)) (by assumption) ?_
  simp only [Act.put, List.setIfInBounds_toArray, List.set_cons_zero, List.set_cons_succ]
  have N4 := hHeld.2.out
  refine wpAnyH_ready (rs := [1, 4]) (by kernel_rfl) (by simp) ?_
  refine all_call (i := 1) (some 25) 8 _ _ rfl rfl rfl (by rfl) #[.slice a1 n C1] rfl Try.func8 (by kernel_rfl) (by kernel_rfl) ?_ ?_
  · refine (lent_any a1 n C1 f _ (H1.out _ N4.1) (by omega)).mono ?_
    rintro e W5 ⟨g, rfl, hg, G0, BW5⟩
    have KW5 := KE N4 BW5
    have N5 := KW5.2.out
    have LW5 : lS w sp a C n f g W5 := ⟨N5.1, N5.2, G0, by have := N4.2.2.2; omega⟩
    refine ⟨_, rfl, KW5, fun hHeld => ?_⟩
    simp only [Act.put, List.setIfInBounds_toArray, List.set_cons_zero, List.set_cons_succ]
    refine wpAnyH_ready (rs := [3, 4]) (by kernel_rfl) (by simp) ?_
    refine all_call (i := 3) (some 27) 9 _ _ rfl rfl rfl (by rfl) #[supV sp a C] rfl Try.func9 (by kernel_rfl) (by kernel_rfl) ?_ ?_
    · refine (copy_superN _ sp a C (HA.out _ N5.1) (by omega)).mono ?_
      rintro e W6 ⟨a', C', rfl, HP, _, BW6, HR⟩
      have KW6 := KE N5 BW6
      have N6 := KW6.2.out
      have LW6 := LW5.below BW6
      refine ⟨_, rfl, KW6, fun hHeld => ?_⟩
      simp only [Act.put, List.setIfInBounds_toArray, List.set_cons_zero, List.set_cons_succ]
      refine wpAnyH_ready (rs := [4]) (by kernel_rfl) (by simp) ?_
      refine all_alloc_rec (i := 4) (some 6) 26 rfl rfl rfl (by rfl) (supC sup0 none 0) zero_super ?_ AllReadyH.nil
      intro Y W7 hY RY BW7
      have KW7 := KE N6 (by rw [hY]; exact BW7)
      have N7 := KW7.2.out
      refine ⟨KW7, fun hHeld => ?_⟩
      simp only [Act.put, List.setIfInBounds_toArray, List.set_cons_zero, List.set_cons_succ]
      have L7 := LW6.below (by rw [hY]; exact BW7)
      have H7 := HP.below (by rw [hY]; exact BW7)
      refine take_at (i := 5) (v := ?_) (some 5) rfl rfl (by kernel_rfl) (by kernel_rfl) (by kernel_rfl) (fun _ _ _ h => h) (Or.inl ⟨by rfl, ?_⟩) (by assumption) ?_
      rotate_left
      · (intro w hSw; (try dsimp only at hSw); go_simp; try with_reducible rfl)
      simp only [Act.put, List.setIfInBounds_toArray, List.set_cons_zero, List.set_cons_succ]
      refine wpAnyH_ready (rs := [6]) (by kernel_rfl) (by simp) ?_
      refine all_store_rec (i := 6) none 26 (.tmp 6) (.tmp 27) rfl rfl rfl (by rfl) Y (supC sup0 none 0) (supC sp a' C') rfl rfl RY rfl (by kernel_rfl) (supC_one _ _ _) ?_ AllReadyH.nil
      intro W9 V9 B9
      have YW : w.heap.size < Y := by have := N6.2.2.2; omega
      have LT : Hid (lT w sp a C n f g Y a' C' W9) := ⟨L7.but B9 YW (by have := LW6.2.2.1.2.2; omega), V9, H7.but1 B9 (fun k0 r hr => by have := HP.lt k0 r hr; omega)⟩
      refine ⟨⟨LT.out.1.2.1.1, LT.out.1.1, LT.out.1.2.1⟩, fun hHeld => ?_⟩
      simp only [Act.put]
      refine wpAnyH_done (by kernel_rfl) ?_ _
      refine NoPanic.normal ?_
      clear hHeld V9 B9 KE N4 N0 N5 N6 N7 KW5 KW6 KW7 LW5 LW6 L7 H7 HP HR RY BW5 BW6 BW7
      as_aux_lemma =>
        obtain ⟨sq, cr, hsq, pr, rr⟩ := read_both g a1 n C1 f HF.out
        have PR : Hid (∀ W : World, IRow W g .u8 (n + 3) (lentF n f 3) → Calls Try.prog 12 #[.slice (some ⟨g, 0, none⟩) n (n + 3)] W (PSup W sq cr)) := pr
        have RR : Hid (∀ W : World, Arg W a1 n f → n ≤ C1 → Calls Try.prog 13 #[.slice a1 n C1] W (PSup W sq cr)) := rr
        have SK : Hid (sq.k ≤ 32) := hsq
        have M1 : Hid True := trivial
        clear pr rr hsq
        go_wp2_with (first
          | (refine wpList_load_rec rfl 26 (.tmp 6) rfl Y 0 (supC sp a' C') rfl _ Try.underlying26 rfl (by kernel_rfl) LT.out.2.1 ?_)
          | (refine wpList_load_rec rfl 26 (.tmp 2) rfl w.heap.size 0 (supC sp a C) rfl _ Try.underlying26 rfl (by kernel_rfl) LT.out.1.2.1 ?_)
          | (go_at_call 10; refine (PB.out _ _ _ LT.out.2.2).mono ?_; rintro e V1 ⟨ax, rfl, hx, hxb, b1⟩
             have XX : Hid (lX w g N F ax V1) := ⟨hx.base LT.out.1.1.size, fun p hp => ⟨Nat.lt_of_lt_of_le LT.out.1.2.2.1.2.2 (hxb p hp).1, (hxb p hp).2⟩⟩
             replace LT : Hid (lT w sp a C n f g Y a' C' V1) := LT.out.below b1
             clear hx hxb b1)
          | (go_at_call 11; refine (RB.out _ _ _ (HA.out _ LT.out.1.1)).mono ?_; rintro e V2 ⟨ay, cy, rfl, hy, b2⟩
             have YY : Hid (Arg V2 ay N F) := hy
             replace XX : Hid (lX w g N F ax V2) := XX.out.below b2
             replace LT : Hid (lT w sp a C n f g Y a' C' V2) := LT.out.below b2
             clear hy b2)
          | (go_at_call 12; refine (PR.out _ LT.out.1.2.2.1).mono ?_; rintro e V3 ⟨ap, Cp, rfl, hp, b3⟩
             have HP3 : Hid (HArg V3 ap sq.k sq.h) := hp
             replace YY : Hid (Arg V3 ay N F) := YY.out.below b3
             replace XX : Hid (lX w g N F ax V3) := XX.out.below b3
             replace LT : Hid (lT w sp a C n f g Y a' C' V3) := LT.out.below b3
             clear hp b3)
          | (have _q := M1; clear M1 _q; refine wpList_alloc_X rfl 26 rfl (supC sup0 none 0) zero_super ?_; intro P V4 hP R4 B4 z4)
          | (refine wpList_store_rec rfl 26 (.tmp 11) (.tmp 41) rfl P 0 _ (supC sq ap Cp) rfl rfl R4 rfl (by kernel_rfl) (supC_one _ _ _) ?_; intro V5 R5 B5
             have b5 : Below V3.heap.size V3 V5 := by
               rw [← hP] at B4 B5
               exact B4.trans (B5.below (Nat.le_refl _) B4.size)
             have PP : Hid (lP V5 P sq ap Cp) := ⟨R5, HP3.out.below b5⟩
             replace YY : Hid (Arg V5 ay N F) := YY.out.below b5
             replace XX : Hid (lX w g N F ax V5) := XX.out.below b5
             replace LT : Hid (lT w sp a C n f g Y a' C' V5) := LT.out.below b5
             clear b5 R4 B4 z4 R5 B5 HP3 hP)
          | (go_at_call 13; refine (RR.out _ (H1.out _ LT.out.1.1) HC.out).mono ?_; rintro e V6 ⟨aq, Cq, rfl, hq, b6⟩
             have HQ6 : Hid (HArg V6 aq sq.k sq.h) := hq
             replace PP : Hid (lP V6 P sq ap Cp) := PP.out.below b6
             replace YY : Hid (Arg V6 ay N F) := YY.out.below b6
             replace XX : Hid (lX w g N F ax V6) := XX.out.below b6
             replace LT : Hid (lT w sp a C n f g Y a' C' V6) := LT.out.below b6
             clear hq b6)
          | (refine wpList_alloc_X rfl 26 rfl (supC sup0 none 0) zero_super ?_; intro Q V7 hQ R7 B7 z7)
          | (refine wpList_store_rec rfl 26 (.tmp 13) (.tmp 46) rfl Q 0 _ (supC sq aq Cq) rfl rfl R7 rfl (by kernel_rfl) (supC_one _ _ _) ?_; intro V8 R8 B8
             have b8 : Below V6.heap.size V6 V8 := by
               rw [← hQ] at B7 B8
               exact B7.trans (B8.below (Nat.le_refl _) B7.size)
             have QQ : Hid (lP V8 Q sq aq Cq) := ⟨R8, HQ6.out.below b8⟩
             replace PP : Hid (lP V8 P sq ap Cp) := PP.out.below b8
             replace YY : Hid (Arg V8 ay N F) := YY.out.below b8
             replace XX : Hid (lX w g N F ax V8) := XX.out.below b8
             replace LT : Hid (lT w sp a C n f g Y a' C' V8) := LT.out.below b8
             clear b8 R7 B7 z7 R8 B8 HQ6 hQ))
        have KA : ∀ {u : World}, (lT w sp a C n f g Y a' C' u ∧ lX w g N F ax u ∧ Arg u ay N F ∧ lP u P sq ap Cp ∧ lP u Q sq aq Cq) → u.rangeAt P 0 (supC sq ap Cp) ∧ u.rangeAt Q 0 (supC sq aq Cq) ∧ u.rangeAt Y 0 (supC sp a' C') ∧ u.rangeAt w.heap.size 0 (supC sp a C) ∧ Hid (lT w sp a C n f g Y a' C' u ∧ lX w g N F ax u ∧ Arg u ay N F ∧ lP u P sq ap Cp ∧ lP u Q sq aq Cq) := fun h => ⟨h.2.2.2.1.1.1, h.2.2.2.2.1.1, h.1.2.1.1, h.1.1.2.1.1, h⟩
        have KB : ∀ {u u' : World}, (lT w sp a C n f g Y a' C' u ∧ lX w g N F ax u ∧ Arg u ay N F ∧ lP u P sq ap Cp ∧ lP u Q sq aq Cq) → Below u.heap.size u u' → (lT w sp a C n f g Y a' C' u' ∧ lX w g N F ax u' ∧ Arg u' ay N F ∧ lP u' P sq ap Cp ∧ lP u' Q sq aq Cq) := fun h hB => ⟨h.1.below hB, h.2.1.below hB, h.2.2.1.below hB, h.2.2.2.1.below hB, h.2.2.2.2.below hB⟩
        refine wp_region_noPanic ?_
        refine wp_region_held_drew (S := fun W => W.rangeAt P 0 (supC sq ap Cp) ∧ W.rangeAt Q 0 (supC sq aq Cq) ∧ W.rangeAt Y 0 (supC sp a' C') ∧ W.rangeAt w.heap.size 0 (supC sp a C) ∧ Hid (lT w sp a C n f g Y a' C' W ∧ lX w g N F ax W ∧ Arg W ay N F ∧ lP W P sq ap Cp ∧ lP W Q sq aq Cq)) (by kernel_rfl) ?_ (fun hHeld => ?_)
        · exact KA (KB ⟨LT.out, XX.out, YY.out, PP.out, QQ.out⟩ (Below.refl _ _).drew)
        refine take_at (i := 0) (v := ?_) (some 48) rfl rfl (by kernel_rfl) (by kernel_rfl) (by kernel_rfl) (fun _ _ _ h => h) (Or.inl ⟨by rfl, ?_⟩) (by assumption) ?_
        rotate_left
        · (intro w hSw; (try dsimp only at hSw); go_simp; try with_reducible rfl)
        simp only [Act.put, List.setIfInBounds_toArray, List.set_cons_zero, List.set_cons_succ]
        refine take_at (i := 1) (v := ?_) (some 49) rfl rfl (by kernel_rfl) (by kernel_rfl) (by kernel_rfl) (fun _ _ _ h => h) (Or.inl ⟨by rfl, ?_⟩) (by assumption) ?_
        rotate_left
        · (intro w hSw; (try dsimp only at hSw); go_simp; try with_reducible rfl)
        simp only [Act.put, List.setIfInBounds_toArray, List.set_cons_zero, List.set_cons_succ]
        refine call_at (i := 2) (some 50) 14 _ _ rfl rfl rfl (by rfl) (by kernel_rfl) #[.slice ax N N, .slice ay N cy] rfl Try.func14 (by kernel_rfl) (by kernel_rfl) ?_
        refine (same_any ax ay N N N cy F F _ hHeld.2.2.2.2.out.2.1.arg hHeld.2.2.2.2.out.2.2.1).mono ?_; rintro e w' ⟨rfl, rfl⟩
        refine ⟨_, rfl, hHeld, fun hHeld => ?_⟩
        simp only [Act.put, List.setIfInBounds_toArray, List.set_cons_zero, List.set_cons_succ]
        refine take_at (i := 3) (v := ?_) (some 51) rfl rfl (by kernel_rfl) (by kernel_rfl) (by kernel_rfl) (fun _ _ _ h => h) (Or.inl ⟨by rfl, ?_⟩) (by assumption) ?_
        rotate_left
        · (intro w hSw; (try dsimp only at hSw); go_simp; try with_reducible rfl)
        simp only [Act.put, List.setIfInBounds_toArray, List.set_cons_zero, List.set_cons_succ]
        refine take_at (i := 4) (v := ?_) (some 52) rfl rfl (by kernel_rfl) (by kernel_rfl) (by kernel_rfl) (fun _ _ _ h => h) (Or.inl ⟨by rfl, ?_⟩) (by assumption) ?_
        rotate_left
        · (intro w hSw; (try dsimp only at hSw); go_simp; try with_reducible rfl)
        simp only [Act.put, List.setIfInBounds_toArray, List.set_cons_zero, List.set_cons_succ]
        refine take_at (i := 5) (v := ?_) (some 53) rfl rfl (by kernel_rfl) (by kernel_rfl) (by kernel_rfl) (fun _ _ _ h => h) (Or.inl ⟨by rfl, ?_⟩) (by assumption) ?_
        rotate_left
        · (intro w hSw; (try dsimp only at hSw); go_simp; try with_reducible rfl)
        simp only [Act.put, List.setIfInBounds_toArray, List.set_cons_zero, List.set_cons_succ]
        refine take_at (i := 6) (v := ?_) (some 54) rfl rfl (by kernel_rfl) (by kernel_rfl) (by kernel_rfl) (fun _ _ _ h => h) (Or.inl ⟨by rfl, ?_⟩) (by assumption) ?_
        rotate_left
        · (intro w hSw; (try dsimp only at hSw); go_simp; try with_reducible rfl)
        simp only [Act.put, List.setIfInBounds_toArray, List.set_cons_zero, List.set_cons_succ]
        refine take_at (i := 7) (v := ?_) (some 55) rfl rfl (by kernel_rfl) (by kernel_rfl) (by kernel_rfl) (fun _ _ _ h => h) (Or.inl ⟨by rfl, ?_⟩) (by assumption) ?_
        rotate_left
        · (intro w hSw; (try dsimp only at hSw); go_simp; try with_reducible rfl)
        simp only [Act.put, List.setIfInBounds_toArray, List.set_cons_zero, List.set_cons_succ]
        refine take_at (i := 8) (v := ?_) (some 56) rfl rfl (by kernel_rfl) (by kernel_rfl) (by kernel_rfl) (fun _ _ _ h => h) (Or.inl ⟨by rfl, ?_⟩) (by assumption) ?_
        rotate_left
        · (intro w hSw; (try dsimp only at hSw); go_simp; try with_reducible rfl)
        simp only [Act.put, List.setIfInBounds_toArray, List.set_cons_zero, List.set_cons_succ]
        refine take_at (i := 9) (v := ?_) (some 57) rfl rfl (by kernel_rfl) (by kernel_rfl) (by kernel_rfl) (fun _ _ _ h => h) (Or.inl ⟨by rfl, ?_⟩) (by assumption) ?_
        rotate_left
        · (intro w hSw; (try dsimp only at hSw); go_simp; try with_reducible rfl)
        simp only [Act.put, List.setIfInBounds_toArray, List.set_cons_zero, List.set_cons_succ]
        refine take_at (i := 10) (v := _) (some 58) rfl rfl (by kernel_rfl) (by kernel_rfl) (by kernel_rfl) (fun _ _ _ h => h) (yieldsIf_load_mid (by rfl) 26 (.tmp 11) rfl P 0 rfl (supC sq ap Cp) _ (fun _ h => h.1) Try.underlying26 rfl (by kernel_rfl)) (by assumption) ?_
        simp only [Act.put, List.setIfInBounds_toArray, List.set_cons_zero, List.set_cons_succ]
        refine take_at (i := 11) (v := _) (some 59) rfl rfl (by kernel_rfl) (by kernel_rfl) (by kernel_rfl) (fun _ _ _ h => h) (yieldsIf_load_mid (by rfl) 26 (.tmp 13) rfl Q 0 rfl (supC sq aq Cq) _ (fun _ h => h.2.1) Try.underlying26 rfl (by kernel_rfl)) (by assumption) ?_
        simp only [Act.put, List.setIfInBounds_toArray, List.set_cons_zero, List.set_cons_succ]
        refine call_at (i := 12) (some 60) 15 _ _ rfl rfl rfl (by rfl) (by kernel_rfl) #[supV sq ap Cp, supV sq aq Cq] rfl Try.func15 (by kernel_rfl) (by kernel_rfl) ?_
        refine (same_self sq ap aq Cp Cq _ hHeld.2.2.2.2.out.2.2.2.1.2 hHeld.2.2.2.2.out.2.2.2.2.2 (by have := SK.out; omega)).mono ?_; rintro e w' ⟨rfl, hB⟩
        refine ⟨_, rfl, KA (KB hHeld.2.2.2.2.out hB), fun hHeld => ?_⟩
        simp only [Act.put, List.setIfInBounds_toArray, List.set_cons_zero, List.set_cons_succ]
        refine take_at (i := 13) (v := ?_) (some 61) rfl rfl (by kernel_rfl) (by kernel_rfl) (by kernel_rfl) (fun _ _ _ h => h) (Or.inl ⟨by rfl, ?_⟩) (by assumption) ?_
        rotate_left
        · (intro w hSw; (try dsimp only at hSw); go_simp; try with_reducible rfl)
        simp only [Act.put, List.setIfInBounds_toArray, List.set_cons_zero, List.set_cons_succ]
        refine take_at (i := 14) (v := ?_) (some 62) rfl rfl (by kernel_rfl) (by kernel_rfl) (by kernel_rfl) (fun _ _ _ h => h) (Or.inl ⟨by rfl, ?_⟩) (by assumption) ?_
        rotate_left
        · (intro w hSw; (try dsimp only at hSw); go_simp; try with_reducible rfl)
        simp only [Act.put, List.setIfInBounds_toArray, List.set_cons_zero, List.set_cons_succ]
        refine take_at (i := 15) (v := ?_) (some 63) rfl rfl (by kernel_rfl) (by kernel_rfl) (by kernel_rfl) (fun _ _ _ h => h) (Or.inl ⟨by rfl, ?_⟩) (by assumption) ?_
        rotate_left
        · (intro w hSw; (try dsimp only at hSw); go_simp; try with_reducible rfl)
        simp only [Act.put, List.setIfInBounds_toArray, List.set_cons_zero, List.set_cons_succ]
        refine take_at (i := 16) (v := ?_) (some 64) rfl rfl (by kernel_rfl) (by kernel_rfl) (by kernel_rfl) (fun _ _ _ h => h) (Or.inl ⟨by rfl, ?_⟩) (by assumption) ?_
        rotate_left
        · (intro w hSw; (try dsimp only at hSw); go_simp; try with_reducible rfl)
        simp only [Act.put, List.setIfInBounds_toArray, List.set_cons_zero, List.set_cons_succ]
        refine take_at (i := 17) (v := ?_) (some 65) rfl rfl (by kernel_rfl) (by kernel_rfl) (by kernel_rfl) (fun _ _ _ h => h) (Or.inl ⟨by rfl, ?_⟩) (by assumption) ?_
        rotate_left
        · (intro w hSw; (try dsimp only at hSw); go_simp; try with_reducible rfl)
        simp only [Act.put, List.setIfInBounds_toArray, List.set_cons_zero, List.set_cons_succ]
        refine take_at (i := 18) (v := ?_) (some 66) rfl rfl (by kernel_rfl) (by kernel_rfl) (by kernel_rfl) (fun _ _ _ h => h) (Or.inl ⟨by rfl, ?_⟩) (by assumption) ?_
        rotate_left
        · (intro w hSw; (try dsimp only at hSw); go_simp; try with_reducible rfl)
        simp only [Act.put, List.setIfInBounds_toArray, List.set_cons_zero, List.set_cons_succ]
        refine take_at (i := 19) (v := ?_) (some 67) rfl rfl (by kernel_rfl) (by kernel_rfl) (by kernel_rfl) (fun _ _ _ h => h) (Or.inl ⟨by rfl, ?_⟩) (by assumption) ?_
        rotate_left
        · (intro w hSw; (try dsimp only at hSw); go_simp; try with_reducible rfl)
        simp only [Act.put, List.setIfInBounds_toArray, List.set_cons_zero, List.set_cons_succ]
        refine take_at (i := 20) (v := ?_) (some 68) rfl rfl (by kernel_rfl) (by kernel_rfl) (by kernel_rfl) (fun _ _ _ h => h) (Or.inl ⟨by rfl, ?_⟩) (by assumption) ?_
        rotate_left
        · (intro w hSw; (try dsimp only at hSw); go_simp; try with_reducible rfl)
        simp only [Act.put, List.setIfInBounds_toArray, List.set_cons_zero, List.set_cons_succ]
        refine take_at (i := 21) (v := _) (some 69) rfl rfl (by kernel_rfl) (by kernel_rfl) (by kernel_rfl) (fun _ _ _ h => h) (yieldsIf_load_mid (by rfl) 26 (.tmp 6) rfl Y 0 rfl (supC sp a' C') _ (fun _ h => h.2.2.1) Try.underlying26 rfl (by kernel_rfl)) (by assumption) ?_
        simp only [Act.put, List.setIfInBounds_toArray, List.set_cons_zero, List.set_cons_succ]
        refine take_at (i := 23) (v := _) (some 71) rfl rfl (by kernel_rfl) (by kernel_rfl) (by kernel_rfl) (fun _ _ _ h => h) (yieldsIf_load_mid (by rfl) 26 (.tmp 2) rfl w.heap.size 0 rfl (supC sp a C) _ (fun _ h => h.2.2.2.1) Try.underlying26 rfl (by kernel_rfl)) (by assumption) ?_
        simp only [Act.put, List.setIfInBounds_toArray, List.set_cons_zero, List.set_cons_succ]
        refine call_at (i := 22) (some 70) 16 _ _ rfl rfl rfl (by rfl) (by kernel_rfl) #[supV sp a' C'] rfl Try.func16 (by kernel_rfl) (by kernel_rfl) ?_
        refine (check_any sp a' C' _ hHeld.2.2.2.2.out.1.2.2).mono ?_; rintro e w' ⟨rfl, hB⟩
        refine ⟨_, rfl, KA (KB hHeld.2.2.2.2.out hB), fun hHeld => ?_⟩
        simp only [Act.put, List.setIfInBounds_toArray, List.set_cons_zero, List.set_cons_succ]
        refine call_at (i := 24) (some 72) 17 _ _ rfl rfl rfl (by rfl) (by kernel_rfl) #[supV sp a C] rfl Try.func17 (by kernel_rfl) (by kernel_rfl) ?_
        refine (scheck_any sp a C _ (HA.out _ hHeld.2.2.2.2.out.1.1.1) (by omega)).mono ?_; rintro e w' ⟨rfl, hB⟩
        refine ⟨_, rfl, KA (KB hHeld.2.2.2.2.out hB), fun hHeld => ?_⟩
        simp only [Act.put, List.setIfInBounds_toArray, List.set_cons_zero, List.set_cons_succ]
        refine take_at (i := 25) (v := ?_) (some 73) rfl rfl (by kernel_rfl) (by kernel_rfl) (by kernel_rfl) (fun _ _ _ h => h) (Or.inl ⟨by rfl, ?_⟩) (by assumption) ?_
        rotate_left
        · (intro w hSw; (try dsimp only at hSw); go_simp; try with_reducible rfl)
        simp only [Act.put, List.setIfInBounds_toArray, List.set_cons_zero, List.set_cons_succ]
        refine take_at (i := 26) (v := ?_) (some 74) rfl rfl (by kernel_rfl) (by kernel_rfl) (by kernel_rfl) (fun _ _ _ h => h) (Or.inl ⟨by rfl, ?_⟩) (by assumption) ?_
        rotate_left
        · (intro w hSw; (try dsimp only at hSw); go_simp; try with_reducible rfl)
        simp only [Act.put, List.setIfInBounds_toArray, List.set_cons_zero, List.set_cons_succ]
        refine wpAnyH_done (by kernel_rfl) ?_ _
        refine NoPanic.normal ?_
        have LL := hHeld.2.2.2.2.out
        clear hHeld KA KB LT XX YY PP QQ
        have LA : Hid (lT w sp a C n f g Y a' C' _ ∧ lX w g N F ax _ ∧ Arg _ ay N F ∧ lP _ P sq ap Cp ∧ lP _ Q sq aq Cq) := LL
        clear LL
        go_wp2_with (first
          | (refine wpList_load_rec rfl 26 (.tmp 6) rfl Y 0 (supC sp a' C') rfl _ Try.underlying26 rfl (by kernel_rfl) LA.out.1.2.1 ?_)
          | (refine wpList_load_rec rfl 26 (.tmp 2) rfl w.heap.size 0 (supC sp a C) rfl _ Try.underlying26 rfl (by kernel_rfl) LA.out.1.1.2.1 ?_)
          | (go_at_call 15; refine (same_self sp a' a C' C _ LA.out.1.2.2 (HA.out _ LA.out.1.1.1) (by omega)).mono ?_; rintro e U1 ⟨rfl, b1⟩
             have LB : Hid (lS w sp a C n f g U1 ∧ lX w g N F ax U1) := ⟨LA.out.1.1.below b1, LA.out.2.1.below b1⟩
             clear LA b1)
          | (go_at_call 18; refine (kept_any g a1 n C1 f _ (H1.out _ LB.out.1.1) (by omega) LB.out.1.2.2.1).mono ?_; rintro e U2 ⟨rfl, b2⟩
             replace LB : Hid (lS w sp a C n f g U2 ∧ lX w g N F ax U2) := ⟨LB.out.1.below b2, LB.out.2.below b2⟩
             clear b2)
          | (go_at_call 19; refine (apart_all HF.out hn LB.out.1 LB.out.2).mono ?_; rintro e U3 ⟨rfl, b3⟩
             have E3 : Hid (Below w.heap.size w U3) := LB.out.1.1.trans b3
             clear b3)
          | (go_at_call 20; refine (awake_ok _).mono ?_; rintro e U4 ⟨rfl, b4⟩
             have E4 : Hid (Below w.heap.size w U4) := E3.out.trans (b4.mono E3.out.size)
             clear b4))
        go_ret
        exact ⟨rfl, E4.out⟩
    · refine all_alloc_rec (i := 4) (some 6) 26 rfl rfl rfl (by rfl) (supC sup0 none 0) zero_super ?_ AllReadyH.nil
      intro Y W6 hY RY BW6
      have KW6 := KE N5 (by rw [hY]; exact BW6)
      have N6 := KW6.2.out
      refine ⟨KW6, fun hHeld => ?_⟩
      simp only [Act.put, List.setIfInBounds_toArray, List.set_cons_zero, List.set_cons_succ]
      have LW6 := LW5.below (by rw [hY]; exact BW6)
      refine wpAnyH_ready (rs := [3]) (by kernel_rfl) (by simp) ?_
      refine all_call (i := 3) (some 27) 9 _ _ rfl rfl rfl (by rfl) #[supV sp a C] rfl Try.func9 (by kernel_rfl) (by kernel_rfl) ?_ AllReadyH.nil
      refine (copy_superN _ sp a C (HA.out _ N6.1) (by omega)).mono ?_
      rintro e W7 ⟨a', C', rfl, HP, _, BW7, HR⟩
      have KW7 := KE N6 BW7
      have N7 := KW7.2.out
      have LW7 := LW6.below BW7
      refine ⟨_, rfl, KW7, fun hHeld => ?_⟩
      simp only [Act.put, List.setIfInBounds_toArray, List.set_cons_zero, List.set_cons_succ]
      refine take_at (i := 5) (v := ?_) (some 5) rfl rfl (by kernel_rfl) (by kernel_rfl) (by kernel_rfl) (fun _ _ _ h => h) (Or.inl ⟨by rfl, ?_⟩) (by assumption) ?_
      rotate_left
      · (intro w hSw; (try dsimp only at hSw); go_simp; try with_reducible rfl)
      simp only [Act.put, List.setIfInBounds_toArray, List.set_cons_zero, List.set_cons_succ]
      refine wpAnyH_ready (rs := [6]) (by kernel_rfl) (by simp) ?_
      refine all_store_rec (i := 6) none 26 (.tmp 6) (.tmp 27) rfl rfl rfl (by rfl) Y (supC sup0 none 0) (supC sp a' C') rfl rfl (RY.below BW7) rfl (by kernel_rfl) (supC_one _ _ _) ?_ AllReadyH.nil
      intro W9 V9 B9
      have YW : w.heap.size < Y := by have := N5.2.2.2; omega
      have LT : Hid (lT w sp a C n f g Y a' C' W9) := ⟨LW7.but B9 YW (by have := LW5.2.2.1.2.2; omega), V9, HP.but1 B9 (fun k0 r hr => by obtain ⟨q, e, hq⟩ := HR k0; rw [e] at hr; injection hr with hr; subst hr; have := RY.2.2; show q ≠ Y; omega)⟩
      refine ⟨⟨LT.out.1.2.1.1, LT.out.1.1, LT.out.1.2.1⟩, fun hHeld => ?_⟩
      simp only [Act.put]
      refine wpAnyH_done (by kernel_rfl) ?_ _
      refine NoPanic.normal ?_
      clear hHeld V9 B9 KE N4 N0 N5 N6 N7 KW5 KW6 KW7 LW5 LW6 LW7 HP HR RY BW5 BW6 BW7
      as_aux_lemma =>
        obtain ⟨sq, cr, hsq, pr, rr⟩ := read_both g a1 n C1 f HF.out
        have PR : Hid (∀ W : World, IRow W g .u8 (n + 3) (lentF n f 3) → Calls Try.prog 12 #[.slice (some ⟨g, 0, none⟩) n (n + 3)] W (PSup W sq cr)) := pr
        have RR : Hid (∀ W : World, Arg W a1 n f → n ≤ C1 → Calls Try.prog 13 #[.slice a1 n C1] W (PSup W sq cr)) := rr
        have SK : Hid (sq.k ≤ 32) := hsq
        have M1 : Hid True := trivial
        clear pr rr hsq
        go_wp2_with (first
          | (refine wpList_load_rec rfl 26 (.tmp 6) rfl Y 0 (supC sp a' C') rfl _ Try.underlying26 rfl (by kernel_rfl) LT.out.2.1 ?_)
          | (refine wpList_load_rec rfl 26 (.tmp 2) rfl w.heap.size 0 (supC sp a C) rfl _ Try.underlying26 rfl (by kernel_rfl) LT.out.1.2.1 ?_)
          | (go_at_call 10; refine (PB.out _ _ _ LT.out.2.2).mono ?_; rintro e V1 ⟨ax, rfl, hx, hxb, b1⟩
             have XX : Hid (lX w g N F ax V1) := ⟨hx.base LT.out.1.1.size, fun p hp => ⟨Nat.lt_of_lt_of_le LT.out.1.2.2.1.2.2 (hxb p hp).1, (hxb p hp).2⟩⟩
             replace LT : Hid (lT w sp a C n f g Y a' C' V1) := LT.out.below b1
             clear hx hxb b1)
          | (go_at_call 11; refine (RB.out _ _ _ (HA.out _ LT.out.1.1)).mono ?_; rintro e V2 ⟨ay, cy, rfl, hy, b2⟩
             have YY : Hid (Arg V2 ay N F) := hy
             replace XX : Hid (lX w g N F ax V2) := XX.out.below b2
             replace LT : Hid (lT w sp a C n f g Y a' C' V2) := LT.out.below b2
             clear hy b2)
          | (go_at_call 12; refine (PR.out _ LT.out.1.2.2.1).mono ?_; rintro e V3 ⟨ap, Cp, rfl, hp, b3⟩
             have HP3 : Hid (HArg V3 ap sq.k sq.h) := hp
             replace YY : Hid (Arg V3 ay N F) := YY.out.below b3
             replace XX : Hid (lX w g N F ax V3) := XX.out.below b3
             replace LT : Hid (lT w sp a C n f g Y a' C' V3) := LT.out.below b3
             clear hp b3)
          | (have _q := M1; clear M1 _q; refine wpList_alloc_X rfl 26 rfl (supC sup0 none 0) zero_super ?_; intro P V4 hP R4 B4 z4)
          | (refine wpList_store_rec rfl 26 (.tmp 11) (.tmp 41) rfl P 0 _ (supC sq ap Cp) rfl rfl R4 rfl (by kernel_rfl) (supC_one _ _ _) ?_; intro V5 R5 B5
             have b5 : Below V3.heap.size V3 V5 := by
               rw [← hP] at B4 B5
               exact B4.trans (B5.below (Nat.le_refl _) B4.size)
             have PP : Hid (lP V5 P sq ap Cp) := ⟨R5, HP3.out.below b5⟩
             replace YY : Hid (Arg V5 ay N F) := YY.out.below b5
             replace XX : Hid (lX w g N F ax V5) := XX.out.below b5
             replace LT : Hid (lT w sp a C n f g Y a' C' V5) := LT.out.below b5
             clear b5 R4 B4 z4 R5 B5 HP3 hP)
          | (go_at_call 13; refine (RR.out _ (H1.out _ LT.out.1.1) HC.out).mono ?_; rintro e V6 ⟨aq, Cq, rfl, hq, b6⟩
             have HQ6 : Hid (HArg V6 aq sq.k sq.h) := hq
             replace PP : Hid (lP V6 P sq ap Cp) := PP.out.below b6
             replace YY : Hid (Arg V6 ay N F) := YY.out.below b6
             replace XX : Hid (lX w g N F ax V6) := XX.out.below b6
             replace LT : Hid (lT w sp a C n f g Y a' C' V6) := LT.out.below b6
             clear hq b6)
          | (refine wpList_alloc_X rfl 26 rfl (supC sup0 none 0) zero_super ?_; intro Q V7 hQ R7 B7 z7)
          | (refine wpList_store_rec rfl 26 (.tmp 13) (.tmp 46) rfl Q 0 _ (supC sq aq Cq) rfl rfl R7 rfl (by kernel_rfl) (supC_one _ _ _) ?_; intro V8 R8 B8
             have b8 : Below V6.heap.size V6 V8 := by
               rw [← hQ] at B7 B8
               exact B7.trans (B8.below (Nat.le_refl _) B7.size)
             have QQ : Hid (lP V8 Q sq aq Cq) := ⟨R8, HQ6.out.below b8⟩
             replace PP : Hid (lP V8 P sq ap Cp) := PP.out.below b8
             replace YY : Hid (Arg V8 ay N F) := YY.out.below b8
             replace XX : Hid (lX w g N F ax V8) := XX.out.below b8
             replace LT : Hid (lT w sp a C n f g Y a' C' V8) := LT.out.below b8
             clear b8 R7 B7 z7 R8 B8 HQ6 hQ))
        have KA : ∀ {u : World}, (lT w sp a C n f g Y a' C' u ∧ lX w g N F ax u ∧ Arg u ay N F ∧ lP u P sq ap Cp ∧ lP u Q sq aq Cq) → u.rangeAt P 0 (supC sq ap Cp) ∧ u.rangeAt Q 0 (supC sq aq Cq) ∧ u.rangeAt Y 0 (supC sp a' C') ∧ u.rangeAt w.heap.size 0 (supC sp a C) ∧ Hid (lT w sp a C n f g Y a' C' u ∧ lX w g N F ax u ∧ Arg u ay N F ∧ lP u P sq ap Cp ∧ lP u Q sq aq Cq) := fun h => ⟨h.2.2.2.1.1.1, h.2.2.2.2.1.1, h.1.2.1.1, h.1.1.2.1.1, h⟩
        have KB : ∀ {u u' : World}, (lT w sp a C n f g Y a' C' u ∧ lX w g N F ax u ∧ Arg u ay N F ∧ lP u P sq ap Cp ∧ lP u Q sq aq Cq) → Below u.heap.size u u' → (lT w sp a C n f g Y a' C' u' ∧ lX w g N F ax u' ∧ Arg u' ay N F ∧ lP u' P sq ap Cp ∧ lP u' Q sq aq Cq) := fun h hB => ⟨h.1.below hB, h.2.1.below hB, h.2.2.1.below hB, h.2.2.2.1.below hB, h.2.2.2.2.below hB⟩
        refine wp_region_noPanic ?_
        refine wp_region_held_drew (S := fun W => W.rangeAt P 0 (supC sq ap Cp) ∧ W.rangeAt Q 0 (supC sq aq Cq) ∧ W.rangeAt Y 0 (supC sp a' C') ∧ W.rangeAt w.heap.size 0 (supC sp a C) ∧ Hid (lT w sp a C n f g Y a' C' W ∧ lX w g N F ax W ∧ Arg W ay N F ∧ lP W P sq ap Cp ∧ lP W Q sq aq Cq)) (by kernel_rfl) ?_ (fun hHeld => ?_)
        · exact KA (KB ⟨LT.out, XX.out, YY.out, PP.out, QQ.out⟩ (Below.refl _ _).drew)
        refine take_at (i := 0) (v := ?_) (some 48) rfl rfl (by kernel_rfl) (by kernel_rfl) (by kernel_rfl) (fun _ _ _ h => h) (Or.inl ⟨by rfl, ?_⟩) (by assumption) ?_
        rotate_left
        · (intro w hSw; (try dsimp only at hSw); go_simp; try with_reducible rfl)
        simp only [Act.put, List.setIfInBounds_toArray, List.set_cons_zero, List.set_cons_succ]
        refine take_at (i := 1) (v := ?_) (some 49) rfl rfl (by kernel_rfl) (by kernel_rfl) (by kernel_rfl) (fun _ _ _ h => h) (Or.inl ⟨by rfl, ?_⟩) (by assumption) ?_
        rotate_left
        · (intro w hSw; (try dsimp only at hSw); go_simp; try with_reducible rfl)
        simp only [Act.put, List.setIfInBounds_toArray, List.set_cons_zero, List.set_cons_succ]
        refine call_at (i := 2) (some 50) 14 _ _ rfl rfl rfl (by rfl) (by kernel_rfl) #[.slice ax N N, .slice ay N cy] rfl Try.func14 (by kernel_rfl) (by kernel_rfl) ?_
        refine (same_any ax ay N N N cy F F _ hHeld.2.2.2.2.out.2.1.arg hHeld.2.2.2.2.out.2.2.1).mono ?_; rintro e w' ⟨rfl, rfl⟩
        refine ⟨_, rfl, hHeld, fun hHeld => ?_⟩
        simp only [Act.put, List.setIfInBounds_toArray, List.set_cons_zero, List.set_cons_succ]
        refine take_at (i := 3) (v := ?_) (some 51) rfl rfl (by kernel_rfl) (by kernel_rfl) (by kernel_rfl) (fun _ _ _ h => h) (Or.inl ⟨by rfl, ?_⟩) (by assumption) ?_
        rotate_left
        · (intro w hSw; (try dsimp only at hSw); go_simp; try with_reducible rfl)
        simp only [Act.put, List.setIfInBounds_toArray, List.set_cons_zero, List.set_cons_succ]
        refine take_at (i := 4) (v := ?_) (some 52) rfl rfl (by kernel_rfl) (by kernel_rfl) (by kernel_rfl) (fun _ _ _ h => h) (Or.inl ⟨by rfl, ?_⟩) (by assumption) ?_
        rotate_left
        · (intro w hSw; (try dsimp only at hSw); go_simp; try with_reducible rfl)
        simp only [Act.put, List.setIfInBounds_toArray, List.set_cons_zero, List.set_cons_succ]
        refine take_at (i := 5) (v := ?_) (some 53) rfl rfl (by kernel_rfl) (by kernel_rfl) (by kernel_rfl) (fun _ _ _ h => h) (Or.inl ⟨by rfl, ?_⟩) (by assumption) ?_
        rotate_left
        · (intro w hSw; (try dsimp only at hSw); go_simp; try with_reducible rfl)
        simp only [Act.put, List.setIfInBounds_toArray, List.set_cons_zero, List.set_cons_succ]
        refine take_at (i := 6) (v := ?_) (some 54) rfl rfl (by kernel_rfl) (by kernel_rfl) (by kernel_rfl) (fun _ _ _ h => h) (Or.inl ⟨by rfl, ?_⟩) (by assumption) ?_
        rotate_left
        · (intro w hSw; (try dsimp only at hSw); go_simp; try with_reducible rfl)
        simp only [Act.put, List.setIfInBounds_toArray, List.set_cons_zero, List.set_cons_succ]
        refine take_at (i := 7) (v := ?_) (some 55) rfl rfl (by kernel_rfl) (by kernel_rfl) (by kernel_rfl) (fun _ _ _ h => h) (Or.inl ⟨by rfl, ?_⟩) (by assumption) ?_
        rotate_left
        · (intro w hSw; (try dsimp only at hSw); go_simp; try with_reducible rfl)
        simp only [Act.put, List.setIfInBounds_toArray, List.set_cons_zero, List.set_cons_succ]
        refine take_at (i := 8) (v := ?_) (some 56) rfl rfl (by kernel_rfl) (by kernel_rfl) (by kernel_rfl) (fun _ _ _ h => h) (Or.inl ⟨by rfl, ?_⟩) (by assumption) ?_
        rotate_left
        · (intro w hSw; (try dsimp only at hSw); go_simp; try with_reducible rfl)
        simp only [Act.put, List.setIfInBounds_toArray, List.set_cons_zero, List.set_cons_succ]
        refine take_at (i := 9) (v := ?_) (some 57) rfl rfl (by kernel_rfl) (by kernel_rfl) (by kernel_rfl) (fun _ _ _ h => h) (Or.inl ⟨by rfl, ?_⟩) (by assumption) ?_
        rotate_left
        · (intro w hSw; (try dsimp only at hSw); go_simp; try with_reducible rfl)
        simp only [Act.put, List.setIfInBounds_toArray, List.set_cons_zero, List.set_cons_succ]
        refine take_at (i := 10) (v := _) (some 58) rfl rfl (by kernel_rfl) (by kernel_rfl) (by kernel_rfl) (fun _ _ _ h => h) (yieldsIf_load_mid (by rfl) 26 (.tmp 11) rfl P 0 rfl (supC sq ap Cp) _ (fun _ h => h.1) Try.underlying26 rfl (by kernel_rfl)) (by assumption) ?_
        simp only [Act.put, List.setIfInBounds_toArray, List.set_cons_zero, List.set_cons_succ]
        refine take_at (i := 11) (v := _) (some 59) rfl rfl (by kernel_rfl) (by kernel_rfl) (by kernel_rfl) (fun _ _ _ h => h) (yieldsIf_load_mid (by rfl) 26 (.tmp 13) rfl Q 0 rfl (supC sq aq Cq) _ (fun _ h => h.2.1) Try.underlying26 rfl (by kernel_rfl)) (by assumption) ?_
        simp only [Act.put, List.setIfInBounds_toArray, List.set_cons_zero, List.set_cons_succ]
        refine call_at (i := 12) (some 60) 15 _ _ rfl rfl rfl (by rfl) (by kernel_rfl) #[supV sq ap Cp, supV sq aq Cq] rfl Try.func15 (by kernel_rfl) (by kernel_rfl) ?_
        refine (same_self sq ap aq Cp Cq _ hHeld.2.2.2.2.out.2.2.2.1.2 hHeld.2.2.2.2.out.2.2.2.2.2 (by have := SK.out; omega)).mono ?_; rintro e w' ⟨rfl, hB⟩
        refine ⟨_, rfl, KA (KB hHeld.2.2.2.2.out hB), fun hHeld => ?_⟩
        simp only [Act.put, List.setIfInBounds_toArray, List.set_cons_zero, List.set_cons_succ]
        refine take_at (i := 13) (v := ?_) (some 61) rfl rfl (by kernel_rfl) (by kernel_rfl) (by kernel_rfl) (fun _ _ _ h => h) (Or.inl ⟨by rfl, ?_⟩) (by assumption) ?_
        rotate_left
        · (intro w hSw; (try dsimp only at hSw); go_simp; try with_reducible rfl)
        simp only [Act.put, List.setIfInBounds_toArray, List.set_cons_zero, List.set_cons_succ]
        refine take_at (i := 14) (v := ?_) (some 62) rfl rfl (by kernel_rfl) (by kernel_rfl) (by kernel_rfl) (fun _ _ _ h => h) (Or.inl ⟨by rfl, ?_⟩) (by assumption) ?_
        rotate_left
        · (intro w hSw; (try dsimp only at hSw); go_simp; try with_reducible rfl)
        simp only [Act.put, List.setIfInBounds_toArray, List.set_cons_zero, List.set_cons_succ]
        refine take_at (i := 15) (v := ?_) (some 63) rfl rfl (by kernel_rfl) (by kernel_rfl) (by kernel_rfl) (fun _ _ _ h => h) (Or.inl ⟨by rfl, ?_⟩) (by assumption) ?_
        rotate_left
        · (intro w hSw; (try dsimp only at hSw); go_simp; try with_reducible rfl)
        simp only [Act.put, List.setIfInBounds_toArray, List.set_cons_zero, List.set_cons_succ]
        refine take_at (i := 16) (v := ?_) (some 64) rfl rfl (by kernel_rfl) (by kernel_rfl) (by kernel_rfl) (fun _ _ _ h => h) (Or.inl ⟨by rfl, ?_⟩) (by assumption) ?_
        rotate_left
        · (intro w hSw; (try dsimp only at hSw); go_simp; try with_reducible rfl)
        simp only [Act.put, List.setIfInBounds_toArray, List.set_cons_zero, List.set_cons_succ]
        refine take_at (i := 17) (v := ?_) (some 65) rfl rfl (by kernel_rfl) (by kernel_rfl) (by kernel_rfl) (fun _ _ _ h => h) (Or.inl ⟨by rfl, ?_⟩) (by assumption) ?_
        rotate_left
        · (intro w hSw; (try dsimp only at hSw); go_simp; try with_reducible rfl)
        simp only [Act.put, List.setIfInBounds_toArray, List.set_cons_zero, List.set_cons_succ]
        refine take_at (i := 18) (v := ?_) (some 66) rfl rfl (by kernel_rfl) (by kernel_rfl) (by kernel_rfl) (fun _ _ _ h => h) (Or.inl ⟨by rfl, ?_⟩) (by assumption) ?_
        rotate_left
        · (intro w hSw; (try dsimp only at hSw); go_simp; try with_reducible rfl)
        simp only [Act.put, List.setIfInBounds_toArray, List.set_cons_zero, List.set_cons_succ]
        refine take_at (i := 19) (v := ?_) (some 67) rfl rfl (by kernel_rfl) (by kernel_rfl) (by kernel_rfl) (fun _ _ _ h => h) (Or.inl ⟨by rfl, ?_⟩) (by assumption) ?_
        rotate_left
        · (intro w hSw; (try dsimp only at hSw); go_simp; try with_reducible rfl)
        simp only [Act.put, List.setIfInBounds_toArray, List.set_cons_zero, List.set_cons_succ]
        refine take_at (i := 20) (v := ?_) (some 68) rfl rfl (by kernel_rfl) (by kernel_rfl) (by kernel_rfl) (fun _ _ _ h => h) (Or.inl ⟨by rfl, ?_⟩) (by assumption) ?_
        rotate_left
        · (intro w hSw; (try dsimp only at hSw); go_simp; try with_reducible rfl)
        simp only [Act.put, List.setIfInBounds_toArray, List.set_cons_zero, List.set_cons_succ]
        refine take_at (i := 21) (v := _) (some 69) rfl rfl (by kernel_rfl) (by kernel_rfl) (by kernel_rfl) (fun _ _ _ h => h) (yieldsIf_load_mid (by rfl) 26 (.tmp 6) rfl Y 0 rfl (supC sp a' C') _ (fun _ h => h.2.2.1) Try.underlying26 rfl (by kernel_rfl)) (by assumption) ?_
        simp only [Act.put, List.setIfInBounds_toArray, List.set_cons_zero, List.set_cons_succ]
        refine take_at (i := 23) (v := _) (some 71) rfl rfl (by kernel_rfl) (by kernel_rfl) (by kernel_rfl) (fun _ _ _ h => h) (yieldsIf_load_mid (by rfl) 26 (.tmp 2) rfl w.heap.size 0 rfl (supC sp a C) _ (fun _ h => h.2.2.2.1) Try.underlying26 rfl (by kernel_rfl)) (by assumption) ?_
        simp only [Act.put, List.setIfInBounds_toArray, List.set_cons_zero, List.set_cons_succ]
        refine call_at (i := 22) (some 70) 16 _ _ rfl rfl rfl (by rfl) (by kernel_rfl) #[supV sp a' C'] rfl Try.func16 (by kernel_rfl) (by kernel_rfl) ?_
        refine (check_any sp a' C' _ hHeld.2.2.2.2.out.1.2.2).mono ?_; rintro e w' ⟨rfl, hB⟩
        refine ⟨_, rfl, KA (KB hHeld.2.2.2.2.out hB), fun hHeld => ?_⟩
        simp only [Act.put, List.setIfInBounds_toArray, List.set_cons_zero, List.set_cons_succ]
        refine call_at (i := 24) (some 72) 17 _ _ rfl rfl rfl (by rfl) (by kernel_rfl) #[supV sp a C] rfl Try.func17 (by kernel_rfl) (by kernel_rfl) ?_
        refine (scheck_any sp a C _ (HA.out _ hHeld.2.2.2.2.out.1.1.1) (by omega)).mono ?_; rintro e w' ⟨rfl, hB⟩
        refine ⟨_, rfl, KA (KB hHeld.2.2.2.2.out hB), fun hHeld => ?_⟩
        simp only [Act.put, List.setIfInBounds_toArray, List.set_cons_zero, List.set_cons_succ]
        refine take_at (i := 25) (v := ?_) (some 73) rfl rfl (by kernel_rfl) (by kernel_rfl) (by kernel_rfl) (fun _ _ _ h => h) (Or.inl ⟨by rfl, ?_⟩) (by assumption) ?_
        rotate_left
        · (intro w hSw; (try dsimp only at hSw); go_simp; try with_reducible rfl)
        simp only [Act.put, List.setIfInBounds_toArray, List.set_cons_zero, List.set_cons_succ]
        refine take_at (i := 26) (v := ?_) (some 74) rfl rfl (by kernel_rfl) (by kernel_rfl) (by kernel_rfl) (fun _ _ _ h => h) (Or.inl ⟨by rfl, ?_⟩) (by assumption) ?_
        rotate_left
        · (intro w hSw; (try dsimp only at hSw); go_simp; try with_reducible rfl)
        simp only [Act.put, List.setIfInBounds_toArray, List.set_cons_zero, List.set_cons_succ]
        refine wpAnyH_done (by kernel_rfl) ?_ _
        refine NoPanic.normal ?_
        have LL := hHeld.2.2.2.2.out
        clear hHeld KA KB LT XX YY PP QQ
        have LA : Hid (lT w sp a C n f g Y a' C' _ ∧ lX w g N F ax _ ∧ Arg _ ay N F ∧ lP _ P sq ap Cp ∧ lP _ Q sq aq Cq) := LL
        clear LL
        go_wp2_with (first
          | (refine wpList_load_rec rfl 26 (.tmp 6) rfl Y 0 (supC sp a' C') rfl _ Try.underlying26 rfl (by kernel_rfl) LA.out.1.2.1 ?_)
          | (refine wpList_load_rec rfl 26 (.tmp 2) rfl w.heap.size 0 (supC sp a C) rfl _ Try.underlying26 rfl (by kernel_rfl) LA.out.1.1.2.1 ?_)
          | (go_at_call 15; refine (same_self sp a' a C' C _ LA.out.1.2.2 (HA.out _ LA.out.1.1.1) (by omega)).mono ?_; rintro e U1 ⟨rfl, b1⟩
             have LB : Hid (lS w sp a C n f g U1 ∧ lX w g N F ax U1) := ⟨LA.out.1.1.below b1, LA.out.2.1.below b1⟩
             clear LA b1)
          | (go_at_call 18; refine (kept_any g a1 n C1 f _ (H1.out _ LB.out.1.1) (by omega) LB.out.1.2.2.1).mono ?_; rintro e U2 ⟨rfl, b2⟩
             replace LB : Hid (lS w sp a C n f g U2 ∧ lX w g N F ax U2) := ⟨LB.out.1.below b2, LB.out.2.below b2⟩
             clear b2)
          | (go_at_call 19; refine (apart_all HF.out hn LB.out.1 LB.out.2).mono ?_; rintro e U3 ⟨rfl, b3⟩
             have E3 : Hid (Below w.heap.size w U3) := LB.out.1.1.trans b3
             clear b3)
          | (go_at_call 20; refine (awake_ok _).mono ?_; rintro e U4 ⟨rfl, b4⟩
             have E4 : Hid (Below w.heap.size w U4) := E3.out.trans (b4.mono E3.out.size)
             clear b4))
        go_ret
        exact ⟨rfl, E4.out⟩
  · refine all_alloc_rec (i := 4) (some 6) 26 rfl rfl rfl (by rfl) (supC sup0 none 0) zero_super ?_ AllReadyH.nil
    intro Y W5 hY RY BW5
    have KW5 := KE N4 (by rw [hY]; exact BW5)
    have N5 := KW5.2.out
    refine ⟨KW5, fun hHeld => ?_⟩
    simp only [Act.put, List.setIfInBounds_toArray, List.set_cons_zero, List.set_cons_succ]
    refine wpAnyH_ready (rs := [1]) (by kernel_rfl) (by simp) ?_
    refine all_call (i := 1) (some 25) 8 _ _ rfl rfl rfl (by rfl) #[.slice a1 n C1] rfl Try.func8 (by kernel_rfl) (by kernel_rfl) ?_ AllReadyH.nil
    refine (lent_any a1 n C1 f _ (H1.out _ N5.1) (by omega)).mono ?_
    rintro e W6 ⟨g, rfl, hg, G0, BW6⟩
    have KW6 := KE N5 BW6
    have N6 := KW6.2.out
    have LW6 : lS w sp a C n f g W6 := ⟨N6.1, N6.2, G0, by have := N5.2.2.2; omega⟩
    refine ⟨_, rfl, KW6, fun hHeld => ?_⟩
    simp only [Act.put, List.setIfInBounds_toArray, List.set_cons_zero, List.set_cons_succ]
    refine wpAnyH_ready (rs := [3]) (by kernel_rfl) (by simp) ?_
    refine all_call (i := 3) (some 27) 9 _ _ rfl rfl rfl (by rfl) #[supV sp a C] rfl Try.func9 (by kernel_rfl) (by kernel_rfl) ?_ AllReadyH.nil
    refine (copy_superN _ sp a C (HA.out _ N6.1) (by omega)).mono ?_
    rintro e W7 ⟨a', C', rfl, HP, _, BW7, HR⟩
    have KW7 := KE N6 BW7
    have N7 := KW7.2.out
    have LW7 := LW6.below BW7
    refine ⟨_, rfl, KW7, fun hHeld => ?_⟩
    simp only [Act.put, List.setIfInBounds_toArray, List.set_cons_zero, List.set_cons_succ]
    refine take_at (i := 5) (v := ?_) (some 5) rfl rfl (by kernel_rfl) (by kernel_rfl) (by kernel_rfl) (fun _ _ _ h => h) (Or.inl ⟨by rfl, ?_⟩) (by assumption) ?_
    rotate_left
    · (intro w hSw; (try dsimp only at hSw); go_simp; try with_reducible rfl)
    simp only [Act.put, List.setIfInBounds_toArray, List.set_cons_zero, List.set_cons_succ]
    refine wpAnyH_ready (rs := [6]) (by kernel_rfl) (by simp) ?_
    refine all_store_rec (i := 6) none 26 (.tmp 6) (.tmp 27) rfl rfl rfl (by rfl) Y (supC sup0 none 0) (supC sp a' C') rfl rfl ((RY.below BW6).below BW7) rfl (by kernel_rfl) (supC_one _ _ _) ?_ AllReadyH.nil
    intro W9 V9 B9
    have YW : w.heap.size < Y := by have := N4.2.2.2; omega
    have LT : Hid (lT w sp a C n f g Y a' C' W9) := ⟨LW7.but B9 YW (by have := RY.2.2; omega), V9, HP.but1 B9 (fun k0 r hr => by obtain ⟨q, e, hq⟩ := HR k0; rw [e] at hr; injection hr with hr; subst hr; have := (RY.below BW6).2.2; show q ≠ Y; omega)⟩
    refine ⟨⟨LT.out.1.2.1.1, LT.out.1.1, LT.out.1.2.1⟩, fun hHeld => ?_⟩
    simp only [Act.put]
    refine wpAnyH_done (by kernel_rfl) ?_ _
    refine NoPanic.normal ?_
    clear hHeld V9 B9 KE N4 N0 N5 N6 N7 KW5 KW6 KW7 LW6 LW7 HP HR RY BW5 BW6 BW7
    as_aux_lemma =>
      obtain ⟨sq, cr, hsq, pr, rr⟩ := read_both g a1 n C1 f HF.out
      have PR : Hid (∀ W : World, IRow W g .u8 (n + 3) (lentF n f 3) → Calls Try.prog 12 #[.slice (some ⟨g, 0, none⟩) n (n + 3)] W (PSup W sq cr)) := pr
      have RR : Hid (∀ W : World, Arg W a1 n f → n ≤ C1 → Calls Try.prog 13 #[.slice a1 n C1] W (PSup W sq cr)) := rr
      have SK : Hid (sq.k ≤ 32) := hsq
      have M1 : Hid True := trivial
      clear pr rr hsq
      go_wp2_with (first
        | (refine wpList_load_rec rfl 26 (.tmp 6) rfl Y 0 (supC sp a' C') rfl _ Try.underlying26 rfl (by kernel_rfl) LT.out.2.1 ?_)
        | (refine wpList_load_rec rfl 26 (.tmp 2) rfl w.heap.size 0 (supC sp a C) rfl _ Try.underlying26 rfl (by kernel_rfl) LT.out.1.2.1 ?_)
        | (go_at_call 10; refine (PB.out _ _ _ LT.out.2.2).mono ?_; rintro e V1 ⟨ax, rfl, hx, hxb, b1⟩
           have XX : Hid (lX w g N F ax V1) := ⟨hx.base LT.out.1.1.size, fun p hp => ⟨Nat.lt_of_lt_of_le LT.out.1.2.2.1.2.2 (hxb p hp).1, (hxb p hp).2⟩⟩
           replace LT : Hid (lT w sp a C n f g Y a' C' V1) := LT.out.below b1
           clear hx hxb b1)
        | (go_at_call 11; refine (RB.out _ _ _ (HA.out _ LT.out.1.1)).mono ?_; rintro e V2 ⟨ay, cy, rfl, hy, b2⟩
           have YY : Hid (Arg V2 ay N F) := hy
           replace XX : Hid (lX w g N F ax V2) := XX.out.below b2
           replace LT : Hid (lT w sp a C n f g Y a' C' V2) := LT.out.below b2
           clear hy b2)
        | (go_at_call 12; refine (PR.out _ LT.out.1.2.2.1).mono ?_; rintro e V3 ⟨ap, Cp, rfl, hp, b3⟩
           have HP3 : Hid (HArg V3 ap sq.k sq.h) := hp
           replace YY : Hid (Arg V3 ay N F) := YY.out.below b3
           replace XX : Hid (lX w g N F ax V3) := XX.out.below b3
           replace LT : Hid (lT w sp a C n f g Y a' C' V3) := LT.out.below b3
           clear hp b3)
        | (have _q := M1; clear M1 _q; refine wpList_alloc_X rfl 26 rfl (supC sup0 none 0) zero_super ?_; intro P V4 hP R4 B4 z4)
        | (refine wpList_store_rec rfl 26 (.tmp 11) (.tmp 41) rfl P 0 _ (supC sq ap Cp) rfl rfl R4 rfl (by kernel_rfl) (supC_one _ _ _) ?_; intro V5 R5 B5
           have b5 : Below V3.heap.size V3 V5 := by
             rw [← hP] at B4 B5
             exact B4.trans (B5.below (Nat.le_refl _) B4.size)
           have PP : Hid (lP V5 P sq ap Cp) := ⟨R5, HP3.out.below b5⟩
           replace YY : Hid (Arg V5 ay N F) := YY.out.below b5
           replace XX : Hid (lX w g N F ax V5) := XX.out.below b5
           replace LT : Hid (lT w sp a C n f g Y a' C' V5) := LT.out.below b5
           clear b5 R4 B4 z4 R5 B5 HP3 hP)
        | (go_at_call 13; refine (RR.out _ (H1.out _ LT.out.1.1) HC.out).mono ?_; rintro e V6 ⟨aq, Cq, rfl, hq, b6⟩
           have HQ6 : Hid (HArg V6 aq sq.k sq.h) := hq
           replace PP : Hid (lP V6 P sq ap Cp) := PP.out.below b6
           replace YY : Hid (Arg V6 ay N F) := YY.out.below b6
           replace XX : Hid (lX w g N F ax V6) := XX.out.below b6
           replace LT : Hid (lT w sp a C n f g Y a' C' V6) := LT.out.below b6
           clear hq b6)
        | (refine wpList_alloc_X rfl 26 rfl (supC sup0 none 0) zero_super ?_; intro Q V7 hQ R7 B7 z7)
        | (refine wpList_store_rec rfl 26 (.tmp 13) (.tmp 46) rfl Q 0 _ (supC sq aq Cq) rfl rfl R7 rfl (by kernel_rfl) (supC_one _ _ _) ?_; intro V8 R8 B8
           have b8 : Below V6.heap.size V6 V8 := by
             rw [← hQ] at B7 B8
             exact B7.trans (B8.below (Nat.le_refl _) B7.size)
           have QQ : Hid (lP V8 Q sq aq Cq) := ⟨R8, HQ6.out.below b8⟩
           replace PP : Hid (lP V8 P sq ap Cp) := PP.out.below b8
           replace YY : Hid (Arg V8 ay N F) := YY.out.below b8
           replace XX : Hid (lX w g N F ax V8) := XX.out.below b8
           replace LT : Hid (lT w sp a C n f g Y a' C' V8) := LT.out.below b8
           clear b8 R7 B7 z7 R8 B8 HQ6 hQ))
      have KA : ∀ {u : World}, (lT w sp a C n f g Y a' C' u ∧ lX w g N F ax u ∧ Arg u ay N F ∧ lP u P sq ap Cp ∧ lP u Q sq aq Cq) → u.rangeAt P 0 (supC sq ap Cp) ∧ u.rangeAt Q 0 (supC sq aq Cq) ∧ u.rangeAt Y 0 (supC sp a' C') ∧ u.rangeAt w.heap.size 0 (supC sp a C) ∧ Hid (lT w sp a C n f g Y a' C' u ∧ lX w g N F ax u ∧ Arg u ay N F ∧ lP u P sq ap Cp ∧ lP u Q sq aq Cq) := fun h => ⟨h.2.2.2.1.1.1, h.2.2.2.2.1.1, h.1.2.1.1, h.1.1.2.1.1, h⟩
      have KB : ∀ {u u' : World}, (lT w sp a C n f g Y a' C' u ∧ lX w g N F ax u ∧ Arg u ay N F ∧ lP u P sq ap Cp ∧ lP u Q sq aq Cq) → Below u.heap.size u u' → (lT w sp a C n f g Y a' C' u' ∧ lX w g N F ax u' ∧ Arg u' ay N F ∧ lP u' P sq ap Cp ∧ lP u' Q sq aq Cq) := fun h hB => ⟨h.1.below hB, h.2.1.below hB, h.2.2.1.below hB, h.2.2.2.1.below hB, h.2.2.2.2.below hB⟩
      refine wp_region_noPanic ?_
      refine wp_region_held_drew (S := fun W => W.rangeAt P 0 (supC sq ap Cp) ∧ W.rangeAt Q 0 (supC sq aq Cq) ∧ W.rangeAt Y 0 (supC sp a' C') ∧ W.rangeAt w.heap.size 0 (supC sp a C) ∧ Hid (lT w sp a C n f g Y a' C' W ∧ lX w g N F ax W ∧ Arg W ay N F ∧ lP W P sq ap Cp ∧ lP W Q sq aq Cq)) (by kernel_rfl) ?_ (fun hHeld => ?_)
      · exact KA (KB ⟨LT.out, XX.out, YY.out, PP.out, QQ.out⟩ (Below.refl _ _).drew)
      refine take_at (i := 0) (v := ?_) (some 48) rfl rfl (by kernel_rfl) (by kernel_rfl) (by kernel_rfl) (fun _ _ _ h => h) (Or.inl ⟨by rfl, ?_⟩) (by assumption) ?_
      rotate_left
      · (intro w hSw; (try dsimp only at hSw); go_simp; try with_reducible rfl)
      simp only [Act.put, List.setIfInBounds_toArray, List.set_cons_zero, List.set_cons_succ]
      refine take_at (i := 1) (v := ?_) (some 49) rfl rfl (by kernel_rfl) (by kernel_rfl) (by kernel_rfl) (fun _ _ _ h => h) (Or.inl ⟨by rfl, ?_⟩) (by assumption) ?_
      rotate_left
      · (intro w hSw; (try dsimp only at hSw); go_simp; try with_reducible rfl)
      simp only [Act.put, List.setIfInBounds_toArray, List.set_cons_zero, List.set_cons_succ]
      refine call_at (i := 2) (some 50) 14 _ _ rfl rfl rfl (by rfl) (by kernel_rfl) #[.slice ax N N, .slice ay N cy] rfl Try.func14 (by kernel_rfl) (by kernel_rfl) ?_
      refine (same_any ax ay N N N cy F F _ hHeld.2.2.2.2.out.2.1.arg hHeld.2.2.2.2.out.2.2.1).mono ?_; rintro e w' ⟨rfl, rfl⟩
      refine ⟨_, rfl, hHeld, fun hHeld => ?_⟩
      simp only [Act.put, List.setIfInBounds_toArray, List.set_cons_zero, List.set_cons_succ]
      refine take_at (i := 3) (v := ?_) (some 51) rfl rfl (by kernel_rfl) (by kernel_rfl) (by kernel_rfl) (fun _ _ _ h => h) (Or.inl ⟨by rfl, ?_⟩) (by assumption) ?_
      rotate_left
      · (intro w hSw; (try dsimp only at hSw); go_simp; try with_reducible rfl)
      simp only [Act.put, List.setIfInBounds_toArray, List.set_cons_zero, List.set_cons_succ]
      refine take_at (i := 4) (v := ?_) (some 52) rfl rfl (by kernel_rfl) (by kernel_rfl) (by kernel_rfl) (fun _ _ _ h => h) (Or.inl ⟨by rfl, ?_⟩) (by assumption) ?_
      rotate_left
      · (intro w hSw; (try dsimp only at hSw); go_simp; try with_reducible rfl)
      simp only [Act.put, List.setIfInBounds_toArray, List.set_cons_zero, List.set_cons_succ]
      refine take_at (i := 5) (v := ?_) (some 53) rfl rfl (by kernel_rfl) (by kernel_rfl) (by kernel_rfl) (fun _ _ _ h => h) (Or.inl ⟨by rfl, ?_⟩) (by assumption) ?_
      rotate_left
      · (intro w hSw; (try dsimp only at hSw); go_simp; try with_reducible rfl)
      simp only [Act.put, List.setIfInBounds_toArray, List.set_cons_zero, List.set_cons_succ]
      refine take_at (i := 6) (v := ?_) (some 54) rfl rfl (by kernel_rfl) (by kernel_rfl) (by kernel_rfl) (fun _ _ _ h => h) (Or.inl ⟨by rfl, ?_⟩) (by assumption) ?_
      rotate_left
      · (intro w hSw; (try dsimp only at hSw); go_simp; try with_reducible rfl)
      simp only [Act.put, List.setIfInBounds_toArray, List.set_cons_zero, List.set_cons_succ]
      refine take_at (i := 7) (v := ?_) (some 55) rfl rfl (by kernel_rfl) (by kernel_rfl) (by kernel_rfl) (fun _ _ _ h => h) (Or.inl ⟨by rfl, ?_⟩) (by assumption) ?_
      rotate_left
      · (intro w hSw; (try dsimp only at hSw); go_simp; try with_reducible rfl)
      simp only [Act.put, List.setIfInBounds_toArray, List.set_cons_zero, List.set_cons_succ]
      refine take_at (i := 8) (v := ?_) (some 56) rfl rfl (by kernel_rfl) (by kernel_rfl) (by kernel_rfl) (fun _ _ _ h => h) (Or.inl ⟨by rfl, ?_⟩) (by assumption) ?_
      rotate_left
      · (intro w hSw; (try dsimp only at hSw); go_simp; try with_reducible rfl)
      simp only [Act.put, List.setIfInBounds_toArray, List.set_cons_zero, List.set_cons_succ]
      refine take_at (i := 9) (v := ?_) (some 57) rfl rfl (by kernel_rfl) (by kernel_rfl) (by kernel_rfl) (fun _ _ _ h => h) (Or.inl ⟨by rfl, ?_⟩) (by assumption) ?_
      rotate_left
      · (intro w hSw; (try dsimp only at hSw); go_simp; try with_reducible rfl)
      simp only [Act.put, List.setIfInBounds_toArray, List.set_cons_zero, List.set_cons_succ]
      refine take_at (i := 10) (v := _) (some 58) rfl rfl (by kernel_rfl) (by kernel_rfl) (by kernel_rfl) (fun _ _ _ h => h) (yieldsIf_load_mid (by rfl) 26 (.tmp 11) rfl P 0 rfl (supC sq ap Cp) _ (fun _ h => h.1) Try.underlying26 rfl (by kernel_rfl)) (by assumption) ?_
      simp only [Act.put, List.setIfInBounds_toArray, List.set_cons_zero, List.set_cons_succ]
      refine take_at (i := 11) (v := _) (some 59) rfl rfl (by kernel_rfl) (by kernel_rfl) (by kernel_rfl) (fun _ _ _ h => h) (yieldsIf_load_mid (by rfl) 26 (.tmp 13) rfl Q 0 rfl (supC sq aq Cq) _ (fun _ h => h.2.1) Try.underlying26 rfl (by kernel_rfl)) (by assumption) ?_
      simp only [Act.put, List.setIfInBounds_toArray, List.set_cons_zero, List.set_cons_succ]
      refine call_at (i := 12) (some 60) 15 _ _ rfl rfl rfl (by rfl) (by kernel_rfl) #[supV sq ap Cp, supV sq aq Cq] rfl Try.func15 (by kernel_rfl) (by kernel_rfl) ?_
      refine (same_self sq ap aq Cp Cq _ hHeld.2.2.2.2.out.2.2.2.1.2 hHeld.2.2.2.2.out.2.2.2.2.2 (by have := SK.out; omega)).mono ?_; rintro e w' ⟨rfl, hB⟩
      refine ⟨_, rfl, KA (KB hHeld.2.2.2.2.out hB), fun hHeld => ?_⟩
      simp only [Act.put, List.setIfInBounds_toArray, List.set_cons_zero, List.set_cons_succ]
      refine take_at (i := 13) (v := ?_) (some 61) rfl rfl (by kernel_rfl) (by kernel_rfl) (by kernel_rfl) (fun _ _ _ h => h) (Or.inl ⟨by rfl, ?_⟩) (by assumption) ?_
      rotate_left
      · (intro w hSw; (try dsimp only at hSw); go_simp; try with_reducible rfl)
      simp only [Act.put, List.setIfInBounds_toArray, List.set_cons_zero, List.set_cons_succ]
      refine take_at (i := 14) (v := ?_) (some 62) rfl rfl (by kernel_rfl) (by kernel_rfl) (by kernel_rfl) (fun _ _ _ h => h) (Or.inl ⟨by rfl, ?_⟩) (by assumption) ?_
      rotate_left
      · (intro w hSw; (try dsimp only at hSw); go_simp; try with_reducible rfl)
      simp only [Act.put, List.setIfInBounds_toArray, List.set_cons_zero, List.set_cons_succ]
      refine take_at (i := 15) (v := ?_) (some 63) rfl rfl (by kernel_rfl) (by kernel_rfl) (by kernel_rfl) (fun _ _ _ h => h) (Or.inl ⟨by rfl, ?_⟩) (by assumption) ?_
      rotate_left
      · (intro w hSw; (try dsimp only at hSw); go_simp; try with_reducible rfl)
      simp only [Act.put, List.setIfInBounds_toArray, List.set_cons_zero, List.set_cons_succ]
      refine take_at (i := 16) (v := ?_) (some 64) rfl rfl (by kernel_rfl) (by kernel_rfl) (by kernel_rfl) (fun _ _ _ h => h) (Or.inl ⟨by rfl, ?_⟩) (by assumption) ?_
      rotate_left
      · (intro w hSw; (try dsimp only at hSw); go_simp; try with_reducible rfl)
      simp only [Act.put, List.setIfInBounds_toArray, List.set_cons_zero, List.set_cons_succ]
      refine take_at (i := 17) (v := ?_) (some 65) rfl rfl (by kernel_rfl) (by kernel_rfl) (by kernel_rfl) (fun _ _ _ h => h) (Or.inl ⟨by rfl, ?_⟩) (by assumption) ?_
      rotate_left
      · (intro w hSw; (try dsimp only at hSw); go_simp; try with_reducible rfl)
      simp only [Act.put, List.setIfInBounds_toArray, List.set_cons_zero, List.set_cons_succ]
      refine take_at (i := 18) (v := ?_) (some 66) rfl rfl (by kernel_rfl) (by kernel_rfl) (by kernel_rfl) (fun _ _ _ h => h) (Or.inl ⟨by rfl, ?_⟩) (by assumption) ?_
      rotate_left
      · (intro w hSw; (try dsimp only at hSw); go_simp; try with_reducible rfl)
      simp only [Act.put, List.setIfInBounds_toArray, List.set_cons_zero, List.set_cons_succ]
      refine take_at (i := 19) (v := ?_) (some 67) rfl rfl (by kernel_rfl) (by kernel_rfl) (by kernel_rfl) (fun _ _ _ h => h) (Or.inl ⟨by rfl, ?_⟩) (by assumption) ?_
      rotate_left
      · (intro w hSw; (try dsimp only at hSw); go_simp; try with_reducible rfl)
      simp only [Act.put, List.setIfInBounds_toArray, List.set_cons_zero, List.set_cons_succ]
      refine take_at (i := 20) (v := ?_) (some 68) rfl rfl (by kernel_rfl) (by kernel_rfl) (by kernel_rfl) (fun _ _ _ h => h) (Or.inl ⟨by rfl, ?_⟩) (by assumption) ?_
      rotate_left
      · (intro w hSw; (try dsimp only at hSw); go_simp; try with_reducible rfl)
      simp only [Act.put, List.setIfInBounds_toArray, List.set_cons_zero, List.set_cons_succ]
      refine take_at (i := 21) (v := _) (some 69) rfl rfl (by kernel_rfl) (by kernel_rfl) (by kernel_rfl) (fun _ _ _ h => h) (yieldsIf_load_mid (by rfl) 26 (.tmp 6) rfl Y 0 rfl (supC sp a' C') _ (fun _ h => h.2.2.1) Try.underlying26 rfl (by kernel_rfl)) (by assumption) ?_
      simp only [Act.put, List.setIfInBounds_toArray, List.set_cons_zero, List.set_cons_succ]
      refine take_at (i := 23) (v := _) (some 71) rfl rfl (by kernel_rfl) (by kernel_rfl) (by kernel_rfl) (fun _ _ _ h => h) (yieldsIf_load_mid (by rfl) 26 (.tmp 2) rfl w.heap.size 0 rfl (supC sp a C) _ (fun _ h => h.2.2.2.1) Try.underlying26 rfl (by kernel_rfl)) (by assumption) ?_
      simp only [Act.put, List.setIfInBounds_toArray, List.set_cons_zero, List.set_cons_succ]
      refine call_at (i := 22) (some 70) 16 _ _ rfl rfl rfl (by rfl) (by kernel_rfl) #[supV sp a' C'] rfl Try.func16 (by kernel_rfl) (by kernel_rfl) ?_
      refine (check_any sp a' C' _ hHeld.2.2.2.2.out.1.2.2).mono ?_; rintro e w' ⟨rfl, hB⟩
      refine ⟨_, rfl, KA (KB hHeld.2.2.2.2.out hB), fun hHeld => ?_⟩
      simp only [Act.put, List.setIfInBounds_toArray, List.set_cons_zero, List.set_cons_succ]
      refine call_at (i := 24) (some 72) 17 _ _ rfl rfl rfl (by rfl) (by kernel_rfl) #[supV sp a C] rfl Try.func17 (by kernel_rfl) (by kernel_rfl) ?_
      refine (scheck_any sp a C _ (HA.out _ hHeld.2.2.2.2.out.1.1.1) (by omega)).mono ?_; rintro e w' ⟨rfl, hB⟩
      refine ⟨_, rfl, KA (KB hHeld.2.2.2.2.out hB), fun hHeld => ?_⟩
      simp only [Act.put, List.setIfInBounds_toArray, List.set_cons_zero, List.set_cons_succ]
      refine take_at (i := 25) (v := ?_) (some 73) rfl rfl (by kernel_rfl) (by kernel_rfl) (by kernel_rfl) (fun _ _ _ h => h) (Or.inl ⟨by rfl, ?_⟩) (by assumption) ?_
      rotate_left
      · (intro w hSw; (try dsimp only at hSw); go_simp; try with_reducible rfl)
      simp only [Act.put, List.setIfInBounds_toArray, List.set_cons_zero, List.set_cons_succ]
      refine take_at (i := 26) (v := ?_) (some 74) rfl rfl (by kernel_rfl) (by kernel_rfl) (by kernel_rfl) (fun _ _ _ h => h) (Or.inl ⟨by rfl, ?_⟩) (by assumption) ?_
      rotate_left
      · (intro w hSw; (try dsimp only at hSw); go_simp; try with_reducible rfl)
      simp only [Act.put, List.setIfInBounds_toArray, List.set_cons_zero, List.set_cons_succ]
      refine wpAnyH_done (by kernel_rfl) ?_ _
      refine NoPanic.normal ?_
      have LL := hHeld.2.2.2.2.out
      clear hHeld KA KB LT XX YY PP QQ
      have LA : Hid (lT w sp a C n f g Y a' C' _ ∧ lX w g N F ax _ ∧ Arg _ ay N F ∧ lP _ P sq ap Cp ∧ lP _ Q sq aq Cq) := LL
      clear LL
      go_wp2_with (first
        | (refine wpList_load_rec rfl 26 (.tmp 6) rfl Y 0 (supC sp a' C') rfl _ Try.underlying26 rfl (by kernel_rfl) LA.out.1.2.1 ?_)
        | (refine wpList_load_rec rfl 26 (.tmp 2) rfl w.heap.size 0 (supC sp a C) rfl _ Try.underlying26 rfl (by kernel_rfl) LA.out.1.1.2.1 ?_)
        | (go_at_call 15; refine (same_self sp a' a C' C _ LA.out.1.2.2 (HA.out _ LA.out.1.1.1) (by omega)).mono ?_; rintro e U1 ⟨rfl, b1⟩
           have LB : Hid (lS w sp a C n f g U1 ∧ lX w g N F ax U1) := ⟨LA.out.1.1.below b1, LA.out.2.1.below b1⟩
           clear LA b1)
        | (go_at_call 18; refine (kept_any g a1 n C1 f _ (H1.out _ LB.out.1.1) (by omega) LB.out.1.2.2.1).mono ?_; rintro e U2 ⟨rfl, b2⟩
           replace LB : Hid (lS w sp a C n f g U2 ∧ lX w g N F ax U2) := ⟨LB.out.1.below b2, LB.out.2.below b2⟩
           clear b2)
        | (go_at_call 19; refine (apart_all HF.out hn LB.out.1 LB.out.2).mono ?_; rintro e U3 ⟨rfl, b3⟩
           have E3 : Hid (Below w.heap.size w U3) := LB.out.1.1.trans b3
           clear b3)
        | (go_at_call 20; refine (awake_ok _).mono ?_; rintro e U4 ⟨rfl, b4⟩
           have E4 : Hid (Below w.heap.size w U4) := E3.out.trans (b4.mono E3.out.size)
           clear b4))
      go_ret
      exact ⟨rfl, E4.out⟩
end Go.Proofs.Ytfapmogjmjlokaa
namespace Go.Proofs.Ytfapmogjmjlokaa
open Go.ChangeShapes Go.WideShapes Go.ChangeAt Go.RowKit Go.Joins
variable {H : Type} {enc : TypeId × Value → H}
theorem sfirst_of {L : List Value} {o n : Nat} {v : Value} (h : (L.drop o).take n = [v]) : L[o]? = some v := by
  have := congrArg (·[0]?) h
  simp only [List.getElem?_take, List.getElem?_drop] at this
  split at this
  · simpa using this
  · simp at this
theorem sint_at {W : World} {L : List Value} {n : Nat} {t : TypeId} {k : IntKind} {y : DataW H × List MemPlace} (o : Nat) (ht : Try.prog.underlying t = some (.int k))
    (h : DataW.trod enc Try.prog W 0 (fun _ => true) true n t ((L.drop o).take (Try.prog.cellsOf t)) = some y) : ∃ x : Int, L[o]? = some (.int k x) := by
  obtain ⟨x, e, _, wf⟩ := DataW.trod_int ht h
  exact ⟨x, sfirst_of e⟩
/-- Two numbers in a row. -/
theorem two_at {W : World} {L : List Value} {n : Nat} {t : TypeId} {f0 f1 : Field} {y : DataW H × List MemPlace} (ht : Try.prog.underlying t = some (.struct #[f0, f1])) (h0 : Try.prog.underlying f0.type = some (.int .i64)) (h1 : Try.prog.underlying f1.type = some (.int .i64)) (o0 : f0.offset = 0) (o1 : f1.offset = 1)
    (h : DataW.trod enc Try.prog W 0 (fun _ => true) true n t L = some y) : ∃ p q : Int, L[0]? = some (.int .i64 p) ∧ L[1]? = some (.int .i64 q) := by
  obtain ⟨y0, y1, k, _, _, t0, t1⟩ := trod_struct2 ht h
  rw [o0] at t0
  rw [o1] at t1
  obtain ⟨p, e0⟩ := sint_at 0 h0 t0
  obtain ⟨q, e1⟩ := sint_at 1 h1 t1
  exact ⟨p, q, e0, e1⟩
/-- Heads that came in. -/
theorem open_heads {W : World} {L : List Value} {n : Nat} {y : DataW H × List MemPlace} (h : DataW.trod enc Try.prog W 0 (fun _ => true) true n 24 L = some y) : ∃ (a : Option Addr) (k C : Nat) (hd : Nat → Int), L = [.slice a k C] ∧ HArg W a k hd ∧ k ≤ C := by
  rcases DataW.trod_slice Try.underlying24 h with ⟨hcs, _⟩ | ⟨x, l, c, elems, rest, m, _, hcs, _, _, hl, _, hlen, hel, _, _⟩
  · exact ⟨none, 0, 0, fun _ => 0, hcs, .inl rfl, Nat.le_refl _⟩
  · have hc : Try.prog.cellsOf 75 = 2 := by kernel_rfl
    have key : ∀ i, i < l → ∃ p q : Int, W.cell? ((x.add (i * 2)).add 0) = some (.int .i64 p) ∧ W.cell? ((x.add (i * 2)).add 1) = some (.int .i64 q) := by
      intro i hi
      have e := hel i hi
      rw [hc, List.getElem?_eq_getElem (by omega)] at e
      obtain ⟨cs, hcs, htr⟩ := Option.bind_eq_some_iff.1 e
      obtain ⟨_, hlen2, hcell⟩ := World.cells?_some hcs
      obtain ⟨p, q, e0, e1⟩ := two_at Try.underlying75 Try.underlying3 Try.underlying3 rfl rfl htr
      exact ⟨p, q, (hcell 0 (by omega)).trans e0, (hcell 1 (by omega)).trans e1⟩
    by_cases h0 : l = 0
    · exact ⟨some x, l, c, fun _ => 0, hcs, .inl h0, hl⟩
    obtain ⟨b, off, spot⟩ := x
    obtain ⟨p0, q0, c0, _⟩ := key 0 (by omega)
    have hspot : spot = none := by simpa [Addr.add] using World.cell?_spot c0
    subst hspot
    have key' : ∀ j, j < 2 * l → ∃ v : Int, W.cell? ⟨b, off + j, none⟩ = some (.int .i64 v) := fun j hj => by
      obtain ⟨p, q, e0, e1⟩ := key (j / 2) (by omega)
      rw [Addr.add_mid, Addr.add_mid] at e0 e1
      by_cases g : j % 2 = 0
      · exact ⟨p, by rw [show off + j = off + j / 2 * 2 + 0 by omega]; exact e0⟩
      · exact ⟨q, by rw [show off + j = off + j / 2 * 2 + 1 by omega]; exact e1⟩
    refine ⟨some ⟨b, off, none⟩, l, c, fun j => if g : j < 2 * l then Classical.choose (key' j g) else 0, hcs, .inr ⟨b, off, rfl, fun j hj => ?_, ?_⟩, hl⟩
    · have s := Classical.choose_spec (key' j hj)
      simp only [dif_pos hj]
      exact s
    · rw [Addr.add_mid, Addr.add_mid] at c0
      exact World.block_lt_of_cell? W _ c0
set_option maxRecDepth 10000 in
/-- A superblock that came in, opened. -/
theorem open_suparg {W : World} {base : Nat} {v : Value} {d : DataW H} {p : List MemPlace} (hv : Value.okWide Try.prog W .any base 26 v) (h : DataW.Trod enc Try.prog W 0 (fun _ => true) true 26 v d p) :
    ∃ (s : Sup) (a : Option Addr) (C : Nat), v = supV s a C ∧ HArg W a s.k s.h ∧ s.k ≤ C := by
  obtain ⟨cs, rfl, hsz⟩ := okWide_struct Try.underlying26 hv
  have h11 : Try.prog.cellsOf 26 = 11 := by kernel_rfl
  rw [h11] at hsz
  obtain ⟨fuel, hf⟩ := h
  have hL : (Value.agg cs).cells.toList = cs.toList := rfl
  rw [hL] at hf
  obtain ⟨xs, m, _, _, hl, hxl, hel⟩ := DataW.trod_struct Try.underlying26 hf
  rw [h11] at hl
  have hx : xs.length = 10 := hxl
  have g := fun (i : Nat) (f : Field) hfi (hi : i < 10) => (hel i f hfi).trans (List.getElem?_eq_getElem (l := xs) (i := i) (by omega))
  obtain ⟨x0, c0⟩ := sint_at 0 Try.underlying3 (g 0 _ rfl (by omega))
  obtain ⟨x1, c1⟩ := sint_at 1 Try.underlying3 (g 1 _ rfl (by omega))
  obtain ⟨x2, c2⟩ := sint_at 2 Try.underlying3 (g 2 _ rfl (by omega))
  obtain ⟨x3, c3⟩ := sint_at 3 Try.underlying3 (g 3 _ rfl (by omega))
  obtain ⟨x4, c4⟩ := sint_at 4 Try.underlying3 (g 4 _ rfl (by omega))
  obtain ⟨x5, c5⟩ := sint_at 5 Try.underlying3 (g 5 _ rfl (by omega))
  obtain ⟨x6, c6⟩ := sint_at 6 Try.underlying3 (g 6 _ rfl (by omega))
  have g7 := g 7 _ rfl (by omega)
  obtain ⟨x7, x8, e7, e8⟩ := two_at Try.underlying23 Try.underlying3 Try.underlying3 rfl rfl g7
  have c7 : cs.toList[7]? = some (.int .i64 x7) := by
    have e := e7
    simp only [List.getElem?_take, List.getElem?_drop] at e
    simp at e
    simpa using e.2
  have c8 : cs.toList[8]? = some (.int .i64 x8) := by
    have e := e8
    simp only [List.getElem?_take, List.getElem?_drop] at e
    simp at e
    simpa using e.2
  obtain ⟨b, e9, _⟩ := DataW.trod_bool Try.underlying4 (g 8 _ rfl (by omega))
  have c9 : cs.toList[9]? = some (.bool b) := sfirst_of e9
  obtain ⟨a, k, C, hd, e10, hA, hk⟩ := open_heads (g 9 _ rfl (by omega))
  have c10 : cs.toList[10]? = some (.slice a k C) := sfirst_of e10
  refine ⟨⟨fun i => [x0, x1, x2, x3, x4, x5, x6, x7, x8].getD i 0, b, k, hd⟩, a, C, ?_, hA, hk⟩
  have key : cs.toList = supC ⟨fun i => [x0, x1, x2, x3, x4, x5, x6, x7, x8].getD i 0, b, k, hd⟩ a C := by
    refine List.ext_getElem? fun j => ?_
    match j with
    | 0 => exact c0
    | 1 => exact c1
    | 2 => exact c2
    | 3 => exact c3
    | 4 => exact c4
    | 5 => exact c5
    | 6 => exact c6
    | 7 => exact c7
    | 8 => exact c8
    | 9 => exact c9
    | 10 => exact c10
    | j + 11 => rw [List.getElem?_eq_none (by omega), List.getElem?_eq_none (by rw [supC_len]; omega)]
  unfold supV
  rw [← key]
end Go.Proofs.Ytfapmogjmjlokaa
namespace Go.Proofs.Ytfapmogjmjlokaa
open Go.ChangeShapes Go.WideShapes Go.ChangeAt Go.RowKit Go.Joins
/-- The zero superblock. -/
def zsupB : Value := .agg #[.int .i64 0, .int .i64 0, .int .i64 0, .int .i64 0, .int .i64 0, .int .i64 0, .int .i64 0, .int .i64 0, .int .i64 0, .bool false, .slice none 0 0]
theorem law_any (sp : Sup) (a a1 : Option Addr) (C n C1 : Nat) (f : Nat → Int) (w : World) (hA : HArg w a sp.k sp.h) (h1 : Arg w a1 n f) (hC1 : n ≤ C1) : Calls Try.prog 3 #[supV sp a C, .slice a1 n C1] w fun e w' => e = .returned (.bool true) ∧ Below w.heap.size w w' := by
  by_cases h : 100 < sp.k ∨ 2000 < n
  · exact law_far sp a a1 C n C1 w h
  · exact law_near sp a a1 C n C1 f w hA h1 hC1 (by omega) (by omega)
set_option maxRecDepth 100000 in
theorem bytes_lifted (os : Os) (started : os.Started) (H : Type) (enc : TypeId × Value → H) :
    ReturnsInHanded {} Try.checked os 3 .any (Rows.superblockBytesSpec.pre6 enc Try.prog Try.f3 Rows.superblockBytesRow.domain false) (Rows.superblockBytesSpec.post enc Try.prog Try.f3 false true false false) := by
  refine returnsInHanded_of_change (C := Try.checked) own_knob started (by kernel_rfl) Try.func3
    (ChangeSpec.witness6 (enc := enc) (C := Try.checked) false ⟨#[], #[zsupB, .slice none 0 0], []⟩ 8 (by kernel_rfl) (by kernel_rfl) (by kernel_rfl) (by kernel_rfl)) ?_
  intro W base args ds gs before hval0 hW hcnd _
  have hval : ∀ (j : Nat) t v, Try.f3.params[j]? = some t → args[j]? = some v → Value.okWide Try.prog W .any base t v := hval0
  have hW' := hW
  obtain ⟨p, q, hA0, hV, rfl, hfz, hnd⟩ := hW
  have hA : DataW.TrodAll enc Try.prog W 0 (fun _ => true) true Try.f3.params.toList args.toList ds p := hA0
  rw [Try.params3] at hA hval
  obtain ⟨v0, v1, d0, d1, p0, p1, rfl, rfl, rfl, h0, h1⟩ := trodAll_two hA
  obtain ⟨rfl, rfl⟩ := trodVars_none hV
  obtain ⟨a1, len1, cap1, rfl⟩ := okWide_slice Try.underlying27 (hval 1 27 v1 rfl rfl)
  have k0 := h0
  have k1 := h1
  have lt0 : ∀ x ∈ p0, x.block < W.heap.size := by obtain ⟨m, hm⟩ := k0; exact DataW.trod_lt m _ _ _ hm
  have lt1 : ∀ x ∈ p1, x.block < W.heap.size := by obtain ⟨m, hm⟩ := k1; exact DataW.trod_lt m _ _ _ hm
  obtain ⟨s, a0, C0, rfl, hs, _⟩ := open_suparg (hval 0 26 v0 rfl rfl) h0
  obtain ⟨z1, r1⟩ := open_row h1
  clear hA0 hval0
  refine (law_any s a0 a1 C0 len1 cap1 _ W hs r1.arg r1.cap).mono fun e W' ⟨he, bel⟩ => ?_
  subst he
  exact ⟨_, rfl, _, _, _, [], _, [], hW', trodAll_mk1 (shut_bool Try.underlying4 _), trodAll_mk2 (Below.trod laid_out (by kernel_rfl) (of_decide_eq_true (by kernel_rfl)) k0 bel lt0) (Below.trod laid_out (by kernel_rfl) (of_decide_eq_true (by kernel_rfl)) k1 bel lt1), rfl, bel.frame _, fun h => by cases h⟩

theorem bytes_holds : Rows.SuperblockBytesSaid :=
  OpenClaim.holds_of_wide 3 Try.f3 rfl rfl rfl rfl rfl rfl rfl ⟨rfl, rfl, rfl, rfl, rfl⟩ rfl rfl rfl rfl rfl (by kernel_rfl) Try.func3 (by kernel_rfl)
    (of_decide_eq_true (by kernel_rfl)) (by unfold Func.isWrapper; first | (rw [if_pos (by decide +kernel)]; kernel_rfl) | (rw [if_neg (by decide +kernel)]; exact ⟨rfl, rfl⟩))
    (fun os started H enc _ => bytes_lifted os started H enc)
#print axioms bytes_holds
end Go.Proofs.Ytfapmogjmjlokaa
