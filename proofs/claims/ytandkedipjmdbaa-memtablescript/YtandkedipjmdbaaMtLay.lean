/-
  Walks, not a claim by itself: a pair is laid. By the verifier.
-/
import Derived.Test.YtandkedipjmdbaaMtTab
namespace Go.Proofs.Ytandkedipjmdbaa
open Go.RowKit
section
variable {ops : Array Oper} {Q : Exit → Act → World → Prop} {md : Region.Mode} {S : World → Prop}
/-- A call and another operation may come up, the other ahead of it in the text. -/
theorem duo2_at {i j : Nat} {oi o : Oper} {fuel : Nat} {listed : Array Bool} {a : Act} {w : World} (d di : Option Tmp) (f : FuncId) (xs : Array Operand) (tys : Array TypeId) (hi : ops[i]? = some o) (hd : o.dst = d) (hii : ops[j]? = some oi) (hdi : oi.dst = di)
    (hop : o.op = .call { callee := .value (.func f), args := xs, argTypes := tys }) (hw : Region.wanted o (yielded ops a.tmps) = true) (hwi : Region.wanted oi (yielded ops a.tmps) = true) (hr : Region.ready md ops listed = [j, i])
    (vi : Value) (w1 : World) (h1 : (execOp a.eval oi).run Try.prog w = .ok (.value vi) w1) (hS1 : S w1) (k1 : S w1 → wpAnyH Try.prog md ops Q S fuel (listed.setIfInBounds j true) (a.put di vi) w1)
    (vs : Array Value) (hv : xs.toList.map a.eval = vs.toList) {fn : Func} (hf : Try.prog.funcs[f]? = some fn) (hg : (fn.name == "runtime.NumGoroutine") = false) (hb : fn.body.isNone = false)
    (hc : Calls Try.prog f vs w fun e w' => ∃ v, e = .returned v ∧ S w' ∧ (S w' → wpAnyH Try.prog md ops Q S fuel (listed.setIfInBounds i true) (a.put d v) w')) : wpAnyH Try.prog md ops Q S (fuel + 1) listed a w := by
  have hv' : xs.map a.eval = vs := Array.toList_inj.1 (by simpa using hv)
  subst hdi hd hv'
  clear hv
  refine wpAnyH_all hr (by simp) (fun k hk => ?_)
  have hk' : k = i ∨ k = j := (show k = j ∨ k = i by simpa using hk).symm
  rcases hk' with rfl | rfl
  · unfold wpOp
    simp only [hi, hw, if_true]
    refine .inl ?_
    unfold Oper.wp
    have hx : (execOp a.eval o).run Try.prog w = .ok (.enter f (xs.map a.eval)) w := by
      have hg' : ¬ fn.name = "runtime.NumGoroutine" := by simpa using hg
      have hb' : ¬ fn.body = none := fun e => by rw [e] at hb; cases hb
      simp [execOp, hop, resolve, Act.eval, Deferred.ofValue, invoke, callFunc, run_program, hf, hg', hb']
    rw [hx]
    refine hc.mono ?_
    rintro e w' ⟨v, rfl, hS, hn⟩
    exact ⟨hS, hn hS⟩
  · unfold wpOp
    simp only [hii, hwi, if_true]
    refine .inl ?_
    unfold Oper.wp
    rw [h1]
    exact ⟨hS1, k1 hS1⟩
end
/-- What Put and Remove answer. -/
def layC (l : List Pr) (p : Pr) : Int := if may p then (if has l p.k then 0 else if l.length = 64 then 8 else 0) else 2
/-- What there is then. -/
def layR (l : List Pr) (p : Pr) : List Pr := if may p then (if has l p.k then layL l p else if l.length = 64 then l else layL l p) else l
/-- What laying a pair does. -/
def LayPost (W : World) (t : Nat) (v : Value) (ps : List PV) (p : Pr) (e : Ending) (w' : World) : Prop := ∃ v' ps', e = .returned (.int .i64 (layC (ps.map PV.p) p)) ∧ Tab w' t v' ps' ∧ ps'.map PV.p = layR (ps.map PV.p) p ∧ Off (t :: v.ownBlock.toList) W w' ∧ (∀ g, v'.ownBlock = some g → v.ownBlock = some g ∨ W.heap.size ≤ g) ∧ ∀ y ∈ ps', y ∈ ps ∨ ∀ M : List Nat, (∀ b, b ∈ M → b < W.heap.size) → PVOk w' M y
theorem PVOk.both {W W' : World} {N M : List Nat} {x : PV} (h : PVOk W M x) (k : PVOk W N x) (hO : Off N W W') : PVOk W' M x := ⟨h.1.both k.1 hO, h.2.both k.2 hO⟩
theorem map_ins (ps : List PV) (x : PV) (i j : Nat) : (ps.take i ++ x :: ps.drop j).map PV.p = (ps.map PV.p).take i ++ x.p :: (ps.map PV.p).drop j := by simp [List.map_take, List.map_drop]
theorem may_small {p : Pr} (h : may p) : p.k.size ≤ 1000000 ∧ p.v.size ≤ 1000000 := by
  obtain ⟨_, h2, h3⟩ := h
  refine ⟨by omega, ?_⟩
  split at h3 <;> omega
theorem store_one {W : World} {t o : Nat} {u : Value} {a : Option Addr} {n C : Nat} (h : W.cell? ⟨t, o, none⟩ = some u) (hf : W.frozen? ⟨t, o, none⟩ = false) : (Instr.storeAt 27 (.pointer (some ⟨t, o, none⟩)) (.slice a n C)).run Try.prog W = .ok () (W.setCell ⟨t, o, none⟩ (.slice a n C)) := by
  have st := run_storeCells_cells (P := Try.prog) t o [.slice a n C] 0 W (fun j hj => by simp at hj; subst hj; simp [h]) (fun j hj => by simp at hj; subst hj; simpa using hf) (by simp [Value.oneCell'])
  have hi : (Try.prog.info? 27).map (·.size) = some 1 := by kernel_rfl
  cases hq : Try.prog.info? 27 with
  | none => simp [hq] at hi
  | some i =>
    have hs : i.size = 1 := by simpa [hq] using hi
    simp only [Nat.add_zero] at st
    simp only [Instr.storeAt, Instr.sureAddr, Sem.run_bind, Sem.run_pure, Result.andThen_ok]
    simp [storeVar, sizeOf, typeInfo, hq, hs, Value.cells]
    exact st
/-- What there is in memory, a pair having been put in its place. -/
theorem tab_put {W W4 W5 : World} {t g cap : Nat} {ps : List PV} {x : PV} (h : Tab W t (.slice (some ⟨g, 0, none⟩) ps.length cap) ps) (E3 : Below W.heap.size W W4) (hx : PVOk W4 [t, g] x) (hF : ∀ M : List Nat, (∀ b, b ∈ M → b < W.heap.size) → PVOk W4 M x) (hm : may x.p) (hh : has (ps.map PV.p) x.p.k = true)
    (hO : OwnP W5 0 (.slice (some ⟨g, 0, none⟩) ps.length cap) (ps.take (pos (ps.map PV.p) x.p.k) ++ x :: ps.drop (pos (ps.map PV.p) x.p.k + 1))) (hB : But g W4 W5) :
    LayPost W t (.slice (some ⟨g, 0, none⟩) ps.length cap) ps x.p (.returned (.int .i64 0)) W5 := by
  have hl : layL (ps.map PV.p) x.p = (ps.take (pos (ps.map PV.p) x.p.k) ++ x :: ps.drop (pos (ps.map PV.p) x.p.k + 1)).map PV.p := by
    rw [map_ins]
    unfold layL
    rw [hh, if_pos rfl]
  have hp := has_len _ _ hh
  have hs := srt_layL (ps.map PV.p) x.p h.srt
  have T4 := h.below E3
  refine ⟨.slice (some ⟨g, 0, none⟩) ps.length cap, ps.take (pos (ps.map PV.p) x.p.k) ++ x :: ps.drop (pos (ps.map PV.p) x.p.k + 1), ?_, ⟨hO, T4.rc.but hB (fun q => h.apart g rfl q.symm), h.apart, fun y hy => ?_, fun y hy => ?_, by rw [← hl]; exact hs, ?_⟩, ?_, (Off.of E3).trans (Off.but hB (by simp [Value.ownBlock])), fun _ q => .inl q, fun y hy => ?_⟩
  · unfold layC; rw [if_pos hm, if_pos hh]
  · have O5 : Off [t, g] W4 W5 := Off.but hB (by simp)
    rcases List.mem_append.1 hy with hy | hy
    · exact (T4.ok y (List.mem_of_mem_take hy)).off O5
    · rcases List.mem_cons.1 hy with rfl | hy
      · exact hx.off O5
      · exact (T4.ok y (List.mem_of_mem_drop hy)).off O5
  · rcases List.mem_append.1 hy with hy | hy
    · exact h.mays y (List.mem_of_mem_take hy)
    · rcases List.mem_cons.1 hy with rfl | hy
      · exact hm
      · exact h.mays y (List.mem_of_mem_drop hy)
  · have := h.few
    simp at hp ⊢
    omega
  · rw [← hl]; unfold layR; rw [if_pos hm, if_pos hh]
  · have O5 : Off [t, g] W4 W5 := Off.but hB (by simp)
    rcases List.mem_append.1 hy with hy | hy
    · exact .inl (List.mem_of_mem_take hy)
    · rcases List.mem_cons.1 hy with rfl | hy
      · exact .inr (fun M hM => (hF M hM).both hx O5)
      · exact .inl (List.mem_of_mem_drop hy)
/-- What there is in memory, a pair having been put in. -/
theorem tab_ins {W W5 W6 W7 : World} {t : Nat} {v v' : Value} {ps : List PV} {x : PV} (h : Tab W t v ps) (E5 : Below W.heap.size W W5) (hx : PVOk W5 (t :: v.ownBlock.toList) x) (hF : ∀ M : List Nat, (∀ b, b ∈ M → b < W.heap.size) → PVOk W5 M x) (hm : may x.p) (hh : has (ps.map PV.p) x.p.k = false) (hn : (ps.map PV.p).length ≠ 64)
    (hI : Insd W5 v (ps.take (pos (ps.map PV.p) x.p.k) ++ x :: ps.drop (pos (ps.map PV.p) x.p.k)) v' W6) (hR : Rec19 W7 t 0 [.pointer (some ⟨t, 0, none⟩), v']) (hB : But t W6 W7) :
    LayPost W t v ps x.p (.returned (.int .i64 0)) W7 := by
  have hl : layL (ps.map PV.p) x.p = (ps.take (pos (ps.map PV.p) x.p.k) ++ x :: ps.drop (pos (ps.map PV.p) x.p.k)).map PV.p := by
    rw [map_ins]
    unfold layL
    rw [hh]
    rfl
  have hs := srt_layL (ps.map PV.p) x.p h.srt
  have T5 := h.below E5
  have ht := T5.rc.2.2
  have O7 : Off (t :: v.ownBlock.toList) W5 W7 := (hI.off.mono (fun b hb => List.mem_cons_of_mem _ hb)).trans (Off.but hB (by simp))
  have ap : ∀ g, v'.ownBlock = some g → g ≠ t := fun g hg => by
    rcases hI.blk g hg with q | q
    · exact h.apart g q
    · omega
  have key : ∀ y, PVOk W5 (t :: v.ownBlock.toList) y → PVOk W7 (t :: v'.ownBlock.toList) y := fun y hy => by
    refine (hy.mono (M := t :: v'.ownBlock.toList) (fun b hb => ?_)).both hy O7
    rcases List.mem_cons.1 hb with rfl | hb
    · exact .inl (by simp)
    · cases e : v'.ownBlock with
      | none => rw [e] at hb; cases hb
      | some g =>
        rw [e] at hb
        simp at hb
        subst hb
        rcases hI.blk _ e with q | q
        · exact .inl (by rw [q]; simp)
        · exact .inr q
  refine ⟨v', ps.take (pos (ps.map PV.p) x.p.k) ++ x :: ps.drop (pos (ps.map PV.p) x.p.k), ?_, ⟨hI.own.off (Off.but (bs := [t]) hB (by simp)) (fun g hg q => ap g hg (by simpa using q)), hR, ap, fun y hy => ?_, fun y hy => ?_, by rw [← hl]; exact hs, ?_⟩, ?_, (Off.of E5).trans O7, fun g hg => ?_, fun y hy => ?_⟩
  · unfold layC; rw [if_pos hm, if_neg (by rw [hh]; simp), if_neg hn]
  · rcases List.mem_append.1 hy with hy | hy
    · exact key y (T5.ok y (List.mem_of_mem_take hy))
    · rcases List.mem_cons.1 hy with rfl | hy
      · exact key _ hx
      · exact key y (T5.ok y (List.mem_of_mem_drop hy))
  · rcases List.mem_append.1 hy with hy | hy
    · exact h.mays y (List.mem_of_mem_take hy)
    · rcases List.mem_cons.1 hy with rfl | hy
      · exact hm
      · exact h.mays y (List.mem_of_mem_drop hy)
  · have a := h.few
    have b := pos_le (ps.map PV.p) x.p.k
    simp at hn b ⊢
    omega
  · rw [← hl]; unfold layR; rw [if_pos hm, if_neg (by rw [hh]; simp), if_neg hn]
  · rcases hI.blk g hg with q | q
    · exact .inl q
    · exact .inr (Nat.le_trans E5.size q)
  · rcases List.mem_append.1 hy with hy | hy
    · exact .inl (List.mem_of_mem_take hy)
    · rcases List.mem_cons.1 hy with rfl | hy
      · exact .inr (fun M hM => (hF M hM).both hx O7)
      · exact .inl (List.mem_of_mem_drop hy)
theorem tab_same {W W' : World} {t : Nat} {v : Value} {ps : List PV} {p : Pr} {c : Int} (h : Tab W t v ps) (hB : Below W.heap.size W W') (hc : layC (ps.map PV.p) p = c) (hr : layR (ps.map PV.p) p = ps.map PV.p) : LayPost W t v ps p (.returned (.int .i64 c)) W' :=
  ⟨v, ps, by rw [hc], h.below hB, hr.symm, Off.of hB, fun _ q => .inl q, fun _ q => .inl q⟩
set_option maxRecDepth 100000 in
set_option maxHeartbeats 1000000 in
theorem lay_not {W : World} {N : List Nat} {t : Nat} {v : Value} {ps : List PV} {x : PV} (hT : Tab W t v ps) (hx : PVOk W N x) (hm : ¬ may x.p) : Calls Try.prog 44 #[.pointer (some ⟨t, 0, none⟩), .agg x.cs.toArray] W (LayPost W t v ps x.p) := by
  have HT := hidIt hT
  have HX := hidIt hx
  have HM := hidIt (mayE_not hm)
  have HC : Hid (layC (ps.map PV.p) x.p = 2 ∧ layR (ps.map PV.p) x.p = ps.map PV.p) := hidIt ⟨if_neg hm, if_neg hm⟩
  have HH : Hid True := trivial
  clear hT hx hm
  go_enter Try.func44, Try.ntmps44
  go_wp2_with (first
    | (refine wpList_box_rec rfl 47 (.tmp 1) rfl x.cs rfl W.heap.size rfl ?_; intro W1 R1 B1 z1; have E1 := hidIt (And.intro B1 z1); have P1 := hidIt R1; have T1 := hidIt (HT.out.below B1); have X1 := hidIt (HX.out.below B1); have c0 := (R1.cel 0 x.k rfl).1; have c1 := (R1.cel 1 x.v rfl).1; have c2 := (R1.cel 2 (.bool x.p.g) rfl).1; clear R1 B1 z1)
    | (go_at_call 38; refine (tmade_ok T1.out).mono ?_; rintro e w1 ⟨rfl, hw⟩; rw [hw]; clear hw w1)
    | (go_at_call 18; refine (check_any X1.out).mono ?_; rintro e W2 ⟨rfl, hb⟩; rw [HM.out]; clear c0 c1 c2; have E2 := hidIt (And.intro (E1.out.1.trans (hb.mono (by have := E1.out.2; omega))) (show W.heap.size + 1 ≤ W2.heap.size by have := hb.size; have := E1.out.2; omega)); have P2 := hidIt (P1.out.below hb); have T2 := hidIt (T1.out.below hb); have X2 := hidIt (X1.out.below hb); have d0 := (P2.out.cel 0 x.k rfl).1; clear hb)
    | (go_at_call 42; refine (seek_any T2.out X2.out.1).mono ?_; rintro e W3 ⟨rfl, hb⟩; rw [HH.out]; clear d0; have E3 := hidIt (And.intro (E2.out.1.trans (hb.mono (by have := E2.out.2; omega))) (show W.heap.size + 1 ≤ W3.heap.size by have := hb.size; have := E2.out.2; omega)); have P3 := hidIt (P2.out.below hb); have T3 := hidIt (T2.out.below hb); have X3 := hidIt (X2.out.below hb); have q1 := (T3.out.rc.cel 1 _ rfl).1; clear hb))
  exact bodyPost_ret (v := .int .i64 2) (by simp [results, Try.results44, go_sem]) rfl (tab_same HT.out E2.out.1 HC.out.1 HC.out.2)
set_option maxRecDepth 100000 in
set_option maxHeartbeats 1000000 in
theorem lay_full {W : World} {N : List Nat} {t : Nat} {v : Value} {ps : List PV} {x : PV} (hT : Tab W t v ps) (hx : PVOk W N x) (hm : may x.p) (hh : has (ps.map PV.p) x.p.k = false) (hn : ps.length = 64) : Calls Try.prog 44 #[.pointer (some ⟨t, 0, none⟩), .agg x.cs.toArray] W (LayPost W t v ps x.p) := by
  have HT := hidIt hT
  have HX := hidIt hx
  have HM := hidIt (mayE_yes hm)
  have hn' : (ps.map PV.p).length = 64 := by simpa using hn
  have HC : Hid (layC (ps.map PV.p) x.p = 8 ∧ layR (ps.map PV.p) x.p = ps.map PV.p) := hidIt ⟨by unfold layC; rw [if_pos hm, if_neg (by rw [hh]; simp), if_pos hn'], by unfold layR; rw [if_pos hm, if_neg (by rw [hh]; simp), if_pos hn']⟩
  have HH := hidIt hh
  obtain ⟨a, cap, rfl, _⟩ := hT.lst
  have VV := hidIt hn
  rw [hn] at *
  clear hT hx hm hh hn hn'
  go_enter Try.func44, Try.ntmps44
  go_wp2_with (first
    | (refine wpList_box_rec rfl 47 (.tmp 1) rfl x.cs rfl W.heap.size rfl ?_; intro W1 R1 B1 z1; have E1 := hidIt (And.intro B1 z1); have P1 := hidIt R1; have T1 := hidIt (HT.out.below B1); have X1 := hidIt (HX.out.below B1); have c0 := (R1.cel 0 x.k rfl).1; have c1 := (R1.cel 1 x.v rfl).1; have c2 := (R1.cel 2 (.bool x.p.g) rfl).1; clear R1 B1 z1)
    | (go_at_call 38; refine (tmade_ok T1.out).mono ?_; rintro e w1 ⟨rfl, hw⟩; rw [hw]; clear hw w1)
    | (go_at_call 18; refine (check_any X1.out).mono ?_; rintro e W2 ⟨rfl, hb⟩; rw [HM.out]; clear c0 c1 c2; have E2 := hidIt (And.intro (E1.out.1.trans (hb.mono (by have := E1.out.2; omega))) (show W.heap.size + 1 ≤ W2.heap.size by have := hb.size; have := E1.out.2; omega)); have P2 := hidIt (P1.out.below hb); have T2 := hidIt (T1.out.below hb); have X2 := hidIt (X1.out.below hb); have d0 := (P2.out.cel 0 x.k rfl).1; clear hb)
    | (go_at_call 42; refine (seek_any T2.out X2.out.1).mono ?_; rintro e W3 ⟨rfl, hb⟩; rw [HH.out]; clear d0; have E3 := hidIt (And.intro (E2.out.1.trans (hb.mono (by have := E2.out.2; omega))) (show W.heap.size + 1 ≤ W3.heap.size by have := hb.size; have := E2.out.2; omega)); have P3 := hidIt (P2.out.below hb); have T3 := hidIt (T2.out.below hb); have X3 := hidIt (X2.out.below hb); have q1 := (T3.out.rc.cel 1 _ rfl).1; clear hb))
  exact bodyPost_ret (v := .int .i64 8) (by simp [results, Try.results44, go_sem]) rfl (tab_same HT.out E3.out.1 HC.out.1 HC.out.2)
set_option maxRecDepth 100000 in
set_option maxHeartbeats 1000000 in
theorem lay_put {W : World} {N : List Nat} {t : Nat} {v : Value} {ps : List PV} {x : PV} (hT : Tab W t v ps) (hx : PVOk W N x) (hm : may x.p) (hh : has (ps.map PV.p) x.p.k = true) : Calls Try.prog 44 #[.pointer (some ⟨t, 0, none⟩), .agg x.cs.toArray] W (LayPost W t v ps x.p) := by
  have HT := hidIt hT
  have HX := hidIt hx
  have HM := hidIt (mayE_yes hm)
  have HMM := hidIt hm
  have HH := hidIt hh
  have hpl := has_len _ _ hh
  obtain ⟨g, cap, rfl, _, hcap, _⟩ := (hT.own.form).resolve_left (fun q => by rw [q.2] at hpl; simp at hpl)
  obtain ⟨i, hi⟩ : ∃ i, i = pos (ps.map PV.p) x.p.k := ⟨_, rfl⟩
  have HI := hidIt hi
  rw [← hi] at hpl
  have i1 : (i : Int) < (ps.length : Int) := by simp at hpl; omega
  have i2 : (0 : Int) ≤ (i : Int) := by omega
  have i3 := hidIt (show i < ps.length by simpa using hpl)
  clear hT hx hm hh hpl hi hcap
  go_enter Try.func44, Try.ntmps44
  go_wp2_with (first
    | (refine wpList_box_rec rfl 47 (.tmp 1) rfl x.cs rfl W.heap.size rfl ?_; intro W1 R1 B1 z1; have E1 := hidIt (And.intro B1 z1); have P1 := hidIt R1; have T1 := hidIt (HT.out.below B1); have X1 := hidIt (HX.out.below B1); have c0 := (R1.cel 0 x.k rfl).1; have c1 := (R1.cel 1 x.v rfl).1; have c2 := (R1.cel 2 (.bool x.p.g) rfl).1; clear R1 B1 z1)
    | (go_at_call 38; refine (tmade_ok T1.out).mono ?_; rintro e w1 ⟨rfl, hw⟩; rw [hw]; clear hw w1)
    | (go_at_call 18; refine (check_any X1.out).mono ?_; rintro e W2 ⟨rfl, hb⟩; rw [HM.out]; clear c0 c1 c2; have E2 := hidIt (And.intro (E1.out.1.trans (hb.mono (by have := E1.out.2; omega))) (show W.heap.size + 1 ≤ W2.heap.size by have := hb.size; have := E1.out.2; omega)); have P2 := hidIt (P1.out.below hb); have T2 := hidIt (T1.out.below hb); have X2 := hidIt (X1.out.below hb); have d0 := (P2.out.cel 0 x.k rfl).1; clear hb)
    | (go_at_call 42; refine (seek_any T2.out X2.out.1).mono ?_; rintro e W3 ⟨rfl, hb⟩; rw [HH.out, ← HI.out]; clear d0; have E3 := hidIt (And.intro (E2.out.1.trans (hb.mono (by have := E2.out.2; omega))) (show W.heap.size + 1 ≤ W3.heap.size by have := hb.size; have := E2.out.2; omega)); have P3 := hidIt (P2.out.below hb); have T3 := hidIt (T2.out.below hb); have X3 := hidIt (X2.out.below hb); have q1 := (T3.out.rc.cel 1 _ rfl).1; clear hb))
  refine wp_region_noPanic ?_
  refine wp_region_held_drew (S := fun w' => w'.cell? ⟨t, 1, none⟩ = some (.slice (some ⟨g, 0, none⟩) ps.length cap) ∧ w'.rangeAt W.heap.size 0 x.cs) (by kernel_rfl) ?_ (fun hHeld => ?_)
  · exact ⟨q1, P3.out.1⟩
  refine take_at (i := 0) (v := ?_) (some 37) rfl rfl (by kernel_rfl) (by kernel_rfl) (by kernel_rfl) (fun _ _ _ h => h) (Or.inl ⟨by rfl, ?_⟩) (by assumption) ?_
  rotate_left
  · (intro w hSw; (try dsimp only at hSw); go_simp; try with_reducible rfl)
  simp only [Act.put, List.setIfInBounds_toArray, List.set_cons_zero, List.set_cons_succ]
  refine take_at (i := 1) (v := ?_) (some 38) rfl rfl (by kernel_rfl) (by kernel_rfl) (by kernel_rfl) (fun _ _ _ h => h) (Or.inl ⟨by rfl, ?_⟩) (by assumption) ?_
  rotate_left
  · (intro w hSw; (try dsimp only at hSw); go_simp; try with_reducible rfl)
  simp only [Act.put, List.setIfInBounds_toArray, List.set_cons_zero, List.set_cons_succ]
  refine take_at (i := 2) (v := ?_) (some 39) rfl rfl (by kernel_rfl) (by kernel_rfl) (by kernel_rfl) (fun _ _ _ h => h) (Or.inl ⟨by rfl, ?_⟩) (by assumption) ?_
  rotate_left
  · (intro w hSw; (try dsimp only at hSw); go_simp; try with_reducible rfl)
  simp only [Act.put, List.setIfInBounds_toArray, List.set_cons_zero, List.set_cons_succ]
  refine take_at (i := 3) (v := ?_) (some 40) rfl rfl (by kernel_rfl) (by kernel_rfl) (by kernel_rfl) (fun _ _ _ h => h) (Or.inl ⟨by rfl, ?_⟩) (by assumption) ?_
  rotate_left
  · (intro w hSw; (try dsimp only at hSw); go_simp; try with_reducible rfl)
  simp only [Act.put, List.setIfInBounds_toArray, List.set_cons_zero, List.set_cons_succ]
  refine take_at (i := 4) (v := ?_) (some 41) rfl rfl (by kernel_rfl) (by kernel_rfl) (by kernel_rfl) (fun _ _ _ h => h) (Or.inl ⟨by rfl, ?_⟩) (by assumption) ?_
  rotate_left
  · (intro w hSw; (try dsimp only at hSw); go_simp; try with_reducible rfl)
  simp only [Act.put, List.setIfInBounds_toArray, List.set_cons_zero, List.set_cons_succ]
  refine take_at (i := 5) (v := _) (some 42) rfl rfl (by kernel_rfl) (by kernel_rfl) (by kernel_rfl) (fun _ _ _ h => h) (yieldsIf_load_mid (by rfl) _ _ rfl _ _ rfl _ _ (fun w h => h.2) Try.underlying47 rfl pair_size) (by assumption) ?_
  simp only [Act.put, List.setIfInBounds_toArray, List.set_cons_zero, List.set_cons_succ]
  have T3' := hidIt (T3.out.below (Below.refl _ _).drew)
  have E3' := hidIt (E3.out.1.drew)
  refine call_at (i := 6) (some 43) 43 _ _ rfl rfl rfl (by rfl) (by kernel_rfl) #[.agg x.cs.toArray] rfl Try.func43 (by kernel_rfl) (by kernel_rfl) ?_
  refine (copied_any (X3.out.below (Below.refl _ _).drew) (may_small HMM.out).1 (may_small HMM.out).2).mono ?_
  rintro e W4 ⟨k', v', rfl, Fk, Fv, B4⟩
  obtain ⟨ka, kn, kC, rfl⟩ := Fk.sl
  obtain ⟨va, vn, vC, rfl⟩ := Fv.sl
  have T4 := hidIt (T3'.out.below B4)
  have E4 := hidIt (E3'.out.trans (B4.mono E3'.out.size))
  have lt3 : ∀ b, b ∈ [t, g] → b < W3.drew.heap.size := fun b hb => T3'.out.lt b hb
  have XO : PVOk W4 [t, g] (PV.mk (.slice ka kn kC) (.slice va vn vC) x.p) := ⟨Fk.txt lt3, Fv.txt lt3⟩
  have X4 := hidIt XO
  have XF : Hid (∀ M : List Nat, (∀ b, b ∈ M → b < W.heap.size) → PVOk W4 M (PV.mk (.slice ka kn kC) (.slice va vn vC) x.p)) := hidIt (fun M hM => ⟨Fk.txt (fun b hb => Nat.lt_of_lt_of_le (hM b hb) E3'.out.size), Fv.txt (fun b hb => Nat.lt_of_lt_of_le (hM b hb) E3'.out.size)⟩)
  have P4 := hidIt ((P3.out.below (Below.refl _ _).drew).below B4)
  clear Fk Fv B4 lt3 XO
  refine ⟨_, rfl, ⟨(T4.out.rc.cel 1 _ rfl).1, P4.out.1⟩, fun hHeld => ?_⟩
  simp only [Act.put, List.setIfInBounds_toArray, List.set_cons_zero, List.set_cons_succ]
  refine step_at (i := 7) (some 44) rfl rfl (by rfl) (by kernel_rfl) (.pointer (some ⟨g, i * 3, none⟩)) W4 (by go_simp; try with_reducible rfl) hHeld (fun hHeld => ?_)
  simp only [Act.put, List.setIfInBounds_toArray, List.set_cons_zero, List.set_cons_succ]
  obtain ⟨W5, hr5, O5, B5⟩ := T4.out.own.put rfl i i3.out (PV.mk (.slice ka kn kC) (.slice va vn vC) x.p) X4.out.one
  have ne1 : t ≠ g := fun q => HT.out.apart g rfl q.symm
  have ne2 : W.heap.size ≠ g := fun q => by have := HT.out.lt g (by simp [Value.ownBlock]); omega
  rw [HI.out] at O5
  have FIN := hidIt (tab_put HT.out E4.out X4.out XF.out HMM.out HH.out O5 B5)
  refine mute_at (i := 8) none rfl rfl (by rfl) (by kernel_rfl) W5 (put_mute 47 (.tmp 44) (.tmp 43) rfl _ _ rfl rfl hr5) ⟨((T4.out.rc.but B5 ne1).cel 1 _ rfl).1, (P4.out.but B5 ne2).1⟩ (fun hHeld => ?_)
  simp only [Act.put]
  refine wpAnyH_done (by kernel_rfl) ?_ _
  refine NoPanic.normal ?_
  clear hHeld hr5 O5 B5 T4 X4 P4 E4 T3' E3' q1 ne1 ne2
  go_wp2_with fail
  exact bodyPost_ret (v := .int .i64 0) (by simp [results, Try.results44, go_sem]) rfl FIN.out
set_option maxRecDepth 100000 in
set_option maxHeartbeats 1000000 in
theorem lay_ins {W : World} {N : List Nat} {t : Nat} {v : Value} {ps : List PV} {x : PV} (hT : Tab W t v ps) (hx : PVOk W N x) (hm : may x.p) (hh : has (ps.map PV.p) x.p.k = false) (hn : ps.length ≠ 64) : Calls Try.prog 44 #[.pointer (some ⟨t, 0, none⟩), .agg x.cs.toArray] W (LayPost W t v ps x.p) := by
  have HT := hidIt hT
  have HX := hidIt hx
  have HM := hidIt (mayE_yes hm)
  have HMM := hidIt hm
  have HH := hidIt hh
  have HN := hidIt (And.intro hn hT.few)
  obtain ⟨a, cap, rfl, _⟩ := hT.lst
  obtain ⟨i, hi⟩ : ∃ i, i = pos (ps.map PV.p) x.p.k := ⟨_, rfl⟩
  have HI := hidIt hi
  have HP := hidIt (show i ≤ ps.length by rw [hi]; simpa using pos_le (ps.map PV.p) x.p.k)
  have n64 : ((ps.length : Int) == 64) = false := by rw [beq_eq_false_iff_ne]; omega
  clear hT hx hm hh hi hn
  go_enter Try.func44, Try.ntmps44
  go_wp2_with (first
    | (refine wpList_box_rec rfl 47 (.tmp 1) rfl x.cs rfl W.heap.size rfl ?_; intro W1 R1 B1 z1; have E1 := hidIt (And.intro B1 z1); have P1 := hidIt R1; have T1 := hidIt (HT.out.below B1); have X1 := hidIt (HX.out.below B1); have c0 := (R1.cel 0 x.k rfl).1; have c1 := (R1.cel 1 x.v rfl).1; have c2 := (R1.cel 2 (.bool x.p.g) rfl).1; clear R1 B1 z1)
    | (go_at_call 38; refine (tmade_ok T1.out).mono ?_; rintro e w1 ⟨rfl, hw⟩; rw [hw]; clear hw w1)
    | (go_at_call 18; refine (check_any X1.out).mono ?_; rintro e W2 ⟨rfl, hb⟩; rw [HM.out]; clear c0 c1 c2; have E2 := hidIt (And.intro (E1.out.1.trans (hb.mono (by have := E1.out.2; omega))) (show W.heap.size + 1 ≤ W2.heap.size by have := hb.size; have := E1.out.2; omega)); have P2 := hidIt (P1.out.below hb); have T2 := hidIt (T1.out.below hb); have X2 := hidIt (X1.out.below hb); have d0 := (P2.out.cel 0 x.k rfl).1; clear hb)
    | (go_at_call 42; refine (seek_any T2.out X2.out.1).mono ?_; rintro e W3 ⟨rfl, hb⟩; rw [HH.out, ← HI.out]; clear d0; have E3 := hidIt (And.intro (E2.out.1.trans (hb.mono (by have := E2.out.2; omega))) (show W.heap.size + 1 ≤ W3.heap.size by have := hb.size; have := E2.out.2; omega)); have P3 := hidIt (P2.out.below hb); have T3 := hidIt (T2.out.below hb); have X3 := hidIt (X2.out.below hb); have q1 := (T3.out.rc.cel 1 _ rfl).1; clear hb))
  refine wp_region_noPanic ?_
  refine wp_region_held_drew (S := fun w' => w'.rangeAt W.heap.size 0 x.cs) (by kernel_rfl) ?_ (fun hHeld => ?_)
  · exact P3.out.1
  refine take_at (i := 0) (v := ?_) (some 23) rfl rfl (by kernel_rfl) (by kernel_rfl) (by kernel_rfl) (fun _ _ _ h => h) (Or.inl ⟨by rfl, ?_⟩) (by assumption) ?_
  rotate_left
  · (intro w hSw; (try dsimp only at hSw); go_simp; try with_reducible rfl)
  simp only [Act.put, List.setIfInBounds_toArray, List.set_cons_zero, List.set_cons_succ]
  refine take_at (i := 1) (v := ?_) (some 24) rfl rfl (by kernel_rfl) (by kernel_rfl) (by kernel_rfl) (fun _ _ _ h => h) (Or.inl ⟨by rfl, ?_⟩) (by assumption) ?_
  rotate_left
  · (intro w hSw; (try dsimp only at hSw); go_simp; try with_reducible rfl)
  simp only [Act.put, List.setIfInBounds_toArray, List.set_cons_zero, List.set_cons_succ]
  refine take_at (i := 2) (v := ?_) (some 25) rfl rfl (by kernel_rfl) (by kernel_rfl) (by kernel_rfl) (fun _ _ _ h => h) (Or.inl ⟨by rfl, ?_⟩) (by assumption) ?_
  rotate_left
  · (intro w hSw; (try dsimp only at hSw); go_simp; try with_reducible rfl)
  simp only [Act.put, List.setIfInBounds_toArray, List.set_cons_zero, List.set_cons_succ]
  refine take_at (i := 3) (v := ?_) (some 26) rfl rfl (by kernel_rfl) (by kernel_rfl) (by kernel_rfl) (fun _ _ _ h => h) (Or.inl ⟨by rfl, ?_⟩) (by assumption) ?_
  rotate_left
  · (intro w hSw; (try dsimp only at hSw); go_simp; try with_reducible rfl)
  simp only [Act.put, List.setIfInBounds_toArray, List.set_cons_zero, List.set_cons_succ]
  refine take_at (i := 5) (v := ?_) (some 28) rfl rfl (by kernel_rfl) (by kernel_rfl) (by kernel_rfl) (fun _ _ _ h => h) (Or.inl ⟨by rfl, ?_⟩) (by assumption) ?_
  rotate_left
  · (intro w hSw; (try dsimp only at hSw); go_simp; try with_reducible rfl)
  simp only [Act.put, List.setIfInBounds_toArray, List.set_cons_zero, List.set_cons_succ]
  refine take_at (i := 6) (v := _) (some 29) rfl rfl (by kernel_rfl) (by kernel_rfl) (by kernel_rfl) (fun _ _ _ h => h) (yieldsIf_load_mid (by rfl) _ _ rfl _ _ rfl _ _ (fun w h => h) Try.underlying47 rfl pair_size) (by assumption) ?_
  simp only [Act.put, List.setIfInBounds_toArray, List.set_cons_zero, List.set_cons_succ]
  have T3' := hidIt (T3.out.below (Below.refl _ _).drew)
  have E3' := hidIt (E3.out.1.drew)
  have q3 := (T3'.out.rc.cel 1 _ rfl).1
  clear q1
  refine duo2_at (i := 7) (j := 4) (some 30) (some 27) 43 #[.tmp 29] _ rfl rfl rfl rfl rfl (by rfl) (by rfl) (by kernel_rfl) (.slice a ps.length cap) W3.drew (by go_simp) hHeld (fun hHeld => ?_) #[.agg x.cs.toArray] rfl Try.func43 (by kernel_rfl) (by kernel_rfl) ?_
  · simp only [Act.put, List.setIfInBounds_toArray, List.set_cons_zero, List.set_cons_succ]
    refine call_at (i := 7) (some 30) 43 _ _ rfl rfl rfl (by rfl) (by kernel_rfl) #[.agg x.cs.toArray] rfl Try.func43 (by kernel_rfl) (by kernel_rfl) ?_
    refine (copied_any (X3.out.below (Below.refl _ _).drew) (may_small HMM.out).1 (may_small HMM.out).2).mono ?_
    rintro e W4 ⟨k', v', rfl, Fk, Fv, B4⟩
    obtain ⟨ka, kn, kC, rfl⟩ := Fk.sl
    obtain ⟨va, vn, vC, rfl⟩ := Fv.sl
    have T4 := hidIt (T3'.out.below B4)
    have E4 := hidIt (E3'.out.trans (B4.mono E3'.out.size))
    have lt3 : ∀ b, b ∈ t :: (Value.slice a ps.length cap).ownBlock.toList → b < W3.drew.heap.size := fun b hb => T3'.out.lt b hb
    have XO : PVOk W4 (t :: (Value.slice a ps.length cap).ownBlock.toList) (PV.mk (.slice ka kn kC) (.slice va vn vC) x.p) := ⟨Fk.txt lt3, Fv.txt lt3⟩
    have X4 := hidIt XO
    have XF : Hid (∀ M : List Nat, (∀ b, b ∈ M → b < W.heap.size) → PVOk W4 M (PV.mk (.slice ka kn kC) (.slice va vn vC) x.p)) := hidIt (fun M hM => ⟨Fk.txt (fun b hb => Nat.lt_of_lt_of_le (hM b hb) E3'.out.size), Fv.txt (fun b hb => Nat.lt_of_lt_of_le (hM b hb) E3'.out.size)⟩)
    have P4 := hidIt ((P3.out.below (Below.refl _ _).drew).below B4)
    have q4 := (T4.out.rc.cel 1 _ rfl).1
    clear Fk Fv B4 lt3 XO
    have A5 : Below W4.heap.size W4 (W4.alloc (.cells (PV.mk (.slice ka kn kC) (.slice va vn vC) x.p).cs.toArray 47)) := (Below.refl _ _).alloc (Nat.le_refl _) _
    have L5 : Lone (W4.alloc (.cells (PV.mk (.slice ka kn kC) (.slice va vn vC) x.p).cs.toArray 47)) W4.heap.size (PV.mk (.slice ka kn kC) (.slice va vn vC) x.p) := ⟨heap_alloc_new W4 _, X4.out.one⟩
    obtain ⟨W5, hW5⟩ : ∃ W5, W5 = W4.alloc (.cells (PV.mk (.slice ka kn kC) (.slice va vn vC) x.p).cs.toArray 47) := ⟨_, rfl⟩
    rw [← hW5] at A5 L5
    have T5 := hidIt (T4.out.below A5)
    have P5 := hidIt (P4.out.below A5)
    have X5 := hidIt (X4.out.below A5)
    have XG : Hid (∀ M : List Nat, (∀ b, b ∈ M → b < W.heap.size) → PVOk W5 M (PV.mk (.slice ka kn kC) (.slice va vn vC) x.p)) := hidIt (fun M hM => (XF.out M hM).below A5)
    have E5 := hidIt (E4.out.trans (A5.mono E4.out.size))
    have q5 := (T5.out.rc.cel 1 _ rfl).1
    have LL := hidIt L5
    have vlt : Hid (∀ g, (Value.slice a ps.length cap).ownBlock = some g → W4.heap.size ≠ g) := hidIt (fun g hg q => by have := T4.out.lt g (by simp [hg]); omega)
    clear A5 L5
    refine ⟨_, rfl, P4.out.1, fun hHeld => ?_⟩
    simp only [Act.put, List.setIfInBounds_toArray, List.set_cons_zero, List.set_cons_succ]
    refine step_at (i := 8) (some 31) rfl rfl (by rfl) (by kernel_rfl) (.slice (some ⟨W4.heap.size, 0, none⟩) 1 1) W5 (by rw [hW5]; exact bsl_run 27 47 1 _ rfl 3 56 _ _ _ under_pairs info_pair (by decide) (by decide) rfl (by kernel_rfl)) P5.out.1 (fun hHeld => ?_)
    simp only [Act.put, List.setIfInBounds_toArray, List.set_cons_zero, List.set_cons_succ]
    refine call_at (i := 9) (some 32) 55 _ _ rfl rfl rfl (by rfl) (by kernel_rfl) #[.slice a ps.length cap, .int .i64 (i : Int), .slice (some ⟨W4.heap.size, 0, none⟩) 1 1] rfl Try.func55 (by kernel_rfl) (by kernel_rfl) ?_
    refine (insert_any W5 (.slice a ps.length cap) ps (PV.mk (.slice ka kn kC) (.slice va vn vC) x.p) W4.heap.size i T5.out.own (pcs_one T5.out.ok) LL.out vlt.out (by have := HN.out.1; have := HN.out.2; omega) HP.out).mono ?_
    rintro e W6 ⟨v6, rfl, I6⟩
    obtain ⟨a6, cap6, hv6, _⟩ := I6.own.slice
    have J6 := hidIt I6
    have Of : Off (Value.slice a ps.length cap).ownBlock.toList W5 W6 := I6.off
    have tno : t ∉ (Value.slice a ps.length cap).ownBlock.toList := fun q => by
      cases e : (Value.slice a ps.length cap).ownBlock with
      | none => rw [e] at q; cases q
      | some g => rw [e] at q; simp at q; exact HT.out.apart g e q.symm
    have R6 := hidIt (T5.out.rc.off Of tno)
    have Hno : W.heap.size ∉ (Value.slice a ps.length cap).ownBlock.toList := fun q => by have := HT.out.lt W.heap.size (List.mem_cons_of_mem _ q); omega
    have P6 := hidIt (P5.out.off Of Hno)
    clear I6 Of tno Hno
    refine ⟨_, rfl, P6.out.1, fun hHeld => ?_⟩
    simp only [Act.put, List.setIfInBounds_toArray, List.set_cons_zero, List.set_cons_succ]
    refine step_at (i := 10) (some 33) rfl rfl (by rfl) (by kernel_rfl) (.pointer (some ⟨t, 0, none⟩)) W6 (by go_simp; try with_reducible rfl) hHeld (fun hHeld => ?_)
    simp only [Act.put, List.setIfInBounds_toArray, List.set_cons_zero, List.set_cons_succ]
    refine step_at (i := 11) (some 34) rfl rfl (by rfl) (by kernel_rfl) (.pointer (some ⟨t, 1, none⟩)) W6 (by go_simp; try with_reducible rfl) hHeld (fun hHeld => ?_)
    simp only [Act.put, List.setIfInBounds_toArray, List.set_cons_zero, List.set_cons_succ]
    have nt : W.heap.size ≠ t := fun q => by have := HT.out.lt t (by simp); omega
    have hr7 := store_one (a := a6) (n := (ps.take i ++ (PV.mk (.slice ka kn kC) (.slice va vn vC) x.p) :: ps.drop i).length) (C := cap6) (R6.out.cel 1 _ rfl).1 (R6.out.cel 1 _ rfl).2
    rw [← hv6] at hr7
    have R7 := R6.out.put 1 v6
    have B7 : But t W6 (W6.setCell ⟨t, 1, none⟩ v6) := But.set _ _ _
    rw [HI.out] at J6
    have FIN := hidIt (tab_ins HT.out E5.out X5.out XG.out HMM.out HH.out (by simpa using HN.out.1) J6.out R7 B7)
    have CP := hidIt (P6.out.but B7 nt).1
    clear R7 B7
    generalize W6.setCell ⟨t, 1, none⟩ v6 = W7 at *
    refine mute_at (i := 12) none rfl rfl (by rfl) (by kernel_rfl) W7 (put_mute 27 (.tmp 34) (.tmp 32) rfl _ _ rfl rfl hr7) CP.out (fun hHeld => ?_)
    simp only [Act.put]
    refine wpAnyH_done (by kernel_rfl) ?_ _
    refine NoPanic.normal ?_
    clear hr7 CP R6 P6 J6 hv6 T5 P5 X5 E5 q5 LL vlt T4 X4 P4 q4 E4
    go_wp2_with fail
    exact bodyPost_ret (v := .int .i64 0) (by simp [results, Try.results44, go_sem]) rfl FIN.out
  · as_aux_lemma =>
    refine (copied_any (X3.out.below (Below.refl _ _).drew) (may_small HMM.out).1 (may_small HMM.out).2).mono ?_
    rintro e W4 ⟨k', v', rfl, Fk, Fv, B4⟩
    obtain ⟨ka, kn, kC, rfl⟩ := Fk.sl
    obtain ⟨va, vn, vC, rfl⟩ := Fv.sl
    have T4 := hidIt (T3'.out.below B4)
    have E4 := hidIt (E3'.out.trans (B4.mono E3'.out.size))
    have lt3 : ∀ b, b ∈ t :: (Value.slice a ps.length cap).ownBlock.toList → b < W3.drew.heap.size := fun b hb => T3'.out.lt b hb
    have XO : PVOk W4 (t :: (Value.slice a ps.length cap).ownBlock.toList) (PV.mk (.slice ka kn kC) (.slice va vn vC) x.p) := ⟨Fk.txt lt3, Fv.txt lt3⟩
    have X4 := hidIt XO
    have XF : Hid (∀ M : List Nat, (∀ b, b ∈ M → b < W.heap.size) → PVOk W4 M (PV.mk (.slice ka kn kC) (.slice va vn vC) x.p)) := hidIt (fun M hM => ⟨Fk.txt (fun b hb => Nat.lt_of_lt_of_le (hM b hb) E3'.out.size), Fv.txt (fun b hb => Nat.lt_of_lt_of_le (hM b hb) E3'.out.size)⟩)
    have P4 := hidIt ((P3.out.below (Below.refl _ _).drew).below B4)
    have q4 := (T4.out.rc.cel 1 _ rfl).1
    clear Fk Fv B4 lt3 XO
    have A5 : Below W4.heap.size W4 (W4.alloc (.cells (PV.mk (.slice ka kn kC) (.slice va vn vC) x.p).cs.toArray 47)) := (Below.refl _ _).alloc (Nat.le_refl _) _
    have L5 : Lone (W4.alloc (.cells (PV.mk (.slice ka kn kC) (.slice va vn vC) x.p).cs.toArray 47)) W4.heap.size (PV.mk (.slice ka kn kC) (.slice va vn vC) x.p) := ⟨heap_alloc_new W4 _, X4.out.one⟩
    obtain ⟨W5, hW5⟩ : ∃ W5, W5 = W4.alloc (.cells (PV.mk (.slice ka kn kC) (.slice va vn vC) x.p).cs.toArray 47) := ⟨_, rfl⟩
    rw [← hW5] at A5 L5
    have T5 := hidIt (T4.out.below A5)
    have P5 := hidIt (P4.out.below A5)
    have X5 := hidIt (X4.out.below A5)
    have XG : Hid (∀ M : List Nat, (∀ b, b ∈ M → b < W.heap.size) → PVOk W5 M (PV.mk (.slice ka kn kC) (.slice va vn vC) x.p)) := hidIt (fun M hM => (XF.out M hM).below A5)
    have E5 := hidIt (E4.out.trans (A5.mono E4.out.size))
    have q5 := (T5.out.rc.cel 1 _ rfl).1
    have LL := hidIt L5
    have vlt : Hid (∀ g, (Value.slice a ps.length cap).ownBlock = some g → W4.heap.size ≠ g) := hidIt (fun g hg q => by have := T4.out.lt g (by simp [hg]); omega)
    clear A5 L5
    refine ⟨_, rfl, P4.out.1, fun hHeld => ?_⟩
    simp only [Act.put, List.setIfInBounds_toArray, List.set_cons_zero, List.set_cons_succ]
    refine pair_at (i := 4) (j := 8) (some 27) (some 31) rfl rfl rfl rfl (by kernel_rfl) (by rfl) (by rfl) (.slice a ps.length cap) (.slice (some ⟨W4.heap.size, 0, none⟩) 1 1) W4 W5 (by go_simp) (by rw [hW5]; exact bsl_run 27 47 1 _ rfl 3 56 _ _ _ under_pairs info_pair (by decide) (by decide) rfl (by kernel_rfl)) ⟨P4.out.1, P5.out.1⟩ (fun hHeld => ?_) (fun hHeld => ?_)
    · simp only [Act.put, List.setIfInBounds_toArray, List.set_cons_zero, List.set_cons_succ]
      refine step_at (i := 8) (some 31) rfl rfl (by rfl) (by kernel_rfl) (.slice (some ⟨W4.heap.size, 0, none⟩) 1 1) W5 (by rw [hW5]; exact bsl_run 27 47 1 _ rfl 3 56 _ _ _ under_pairs info_pair (by decide) (by decide) rfl (by kernel_rfl)) P5.out.1 (fun hHeld => ?_)
      simp only [Act.put, List.setIfInBounds_toArray, List.set_cons_zero, List.set_cons_succ]
      refine call_at (i := 9) (some 32) 55 _ _ rfl rfl rfl (by rfl) (by kernel_rfl) #[.slice a ps.length cap, .int .i64 (i : Int), .slice (some ⟨W4.heap.size, 0, none⟩) 1 1] rfl Try.func55 (by kernel_rfl) (by kernel_rfl) ?_
      refine (insert_any W5 (.slice a ps.length cap) ps (PV.mk (.slice ka kn kC) (.slice va vn vC) x.p) W4.heap.size i T5.out.own (pcs_one T5.out.ok) LL.out vlt.out (by have := HN.out.1; have := HN.out.2; omega) HP.out).mono ?_
      rintro e W6 ⟨v6, rfl, I6⟩
      obtain ⟨a6, cap6, hv6, _⟩ := I6.own.slice
      have J6 := hidIt I6
      have Of : Off (Value.slice a ps.length cap).ownBlock.toList W5 W6 := I6.off
      have tno : t ∉ (Value.slice a ps.length cap).ownBlock.toList := fun q => by
        cases e : (Value.slice a ps.length cap).ownBlock with
        | none => rw [e] at q; cases q
        | some g => rw [e] at q; simp at q; exact HT.out.apart g e q.symm
      have R6 := hidIt (T5.out.rc.off Of tno)
      have Hno : W.heap.size ∉ (Value.slice a ps.length cap).ownBlock.toList := fun q => by have := HT.out.lt W.heap.size (List.mem_cons_of_mem _ q); omega
      have P6 := hidIt (P5.out.off Of Hno)
      clear I6 Of tno Hno
      refine ⟨_, rfl, P6.out.1, fun hHeld => ?_⟩
      simp only [Act.put, List.setIfInBounds_toArray, List.set_cons_zero, List.set_cons_succ]
      refine step_at (i := 10) (some 33) rfl rfl (by rfl) (by kernel_rfl) (.pointer (some ⟨t, 0, none⟩)) W6 (by go_simp; try with_reducible rfl) hHeld (fun hHeld => ?_)
      simp only [Act.put, List.setIfInBounds_toArray, List.set_cons_zero, List.set_cons_succ]
      refine step_at (i := 11) (some 34) rfl rfl (by rfl) (by kernel_rfl) (.pointer (some ⟨t, 1, none⟩)) W6 (by go_simp; try with_reducible rfl) hHeld (fun hHeld => ?_)
      simp only [Act.put, List.setIfInBounds_toArray, List.set_cons_zero, List.set_cons_succ]
      have nt : W.heap.size ≠ t := fun q => by have := HT.out.lt t (by simp); omega
      have hr7 := store_one (a := a6) (n := (ps.take i ++ (PV.mk (.slice ka kn kC) (.slice va vn vC) x.p) :: ps.drop i).length) (C := cap6) (R6.out.cel 1 _ rfl).1 (R6.out.cel 1 _ rfl).2
      rw [← hv6] at hr7
      have R7 := R6.out.put 1 v6
      have B7 : But t W6 (W6.setCell ⟨t, 1, none⟩ v6) := But.set _ _ _
      rw [HI.out] at J6
      have FIN := hidIt (tab_ins HT.out E5.out X5.out XG.out HMM.out HH.out (by simpa using HN.out.1) J6.out R7 B7)
      have CP := hidIt (P6.out.but B7 nt).1
      clear R7 B7
      generalize W6.setCell ⟨t, 1, none⟩ v6 = W7 at *
      refine mute_at (i := 12) none rfl rfl (by rfl) (by kernel_rfl) W7 (put_mute 27 (.tmp 34) (.tmp 32) rfl _ _ rfl rfl hr7) CP.out (fun hHeld => ?_)
      simp only [Act.put]
      refine wpAnyH_done (by kernel_rfl) ?_ _
      refine NoPanic.normal ?_
      clear hr7 CP R6 P6 J6 hv6 T5 P5 X5 E5 q5 LL vlt T4 X4 P4 q4 E4
      go_wp2_with fail
      exact bodyPost_ret (v := .int .i64 0) (by simp [results, Try.results44, go_sem]) rfl FIN.out
    · simp only [Act.put, List.setIfInBounds_toArray, List.set_cons_zero, List.set_cons_succ]
      refine step_at (i := 4) (some 27) rfl rfl (by rfl) (by kernel_rfl) (.slice a ps.length cap) W5 (by clear hW5; go_simp) hHeld (fun hHeld => ?_)
      simp only [Act.put, List.setIfInBounds_toArray, List.set_cons_zero, List.set_cons_succ]
      refine call_at (i := 9) (some 32) 55 _ _ rfl rfl rfl (by rfl) (by kernel_rfl) #[.slice a ps.length cap, .int .i64 (i : Int), .slice (some ⟨W4.heap.size, 0, none⟩) 1 1] rfl Try.func55 (by kernel_rfl) (by kernel_rfl) ?_
      refine (insert_any W5 (.slice a ps.length cap) ps (PV.mk (.slice ka kn kC) (.slice va vn vC) x.p) W4.heap.size i T5.out.own (pcs_one T5.out.ok) LL.out vlt.out (by have := HN.out.1; have := HN.out.2; omega) HP.out).mono ?_
      rintro e W6 ⟨v6, rfl, I6⟩
      obtain ⟨a6, cap6, hv6, _⟩ := I6.own.slice
      have J6 := hidIt I6
      have Of : Off (Value.slice a ps.length cap).ownBlock.toList W5 W6 := I6.off
      have tno : t ∉ (Value.slice a ps.length cap).ownBlock.toList := fun q => by
        cases e : (Value.slice a ps.length cap).ownBlock with
        | none => rw [e] at q; cases q
        | some g => rw [e] at q; simp at q; exact HT.out.apart g e q.symm
      have R6 := hidIt (T5.out.rc.off Of tno)
      have Hno : W.heap.size ∉ (Value.slice a ps.length cap).ownBlock.toList := fun q => by have := HT.out.lt W.heap.size (List.mem_cons_of_mem _ q); omega
      have P6 := hidIt (P5.out.off Of Hno)
      clear I6 Of tno Hno
      refine ⟨_, rfl, P6.out.1, fun hHeld => ?_⟩
      simp only [Act.put, List.setIfInBounds_toArray, List.set_cons_zero, List.set_cons_succ]
      refine step_at (i := 10) (some 33) rfl rfl (by rfl) (by kernel_rfl) (.pointer (some ⟨t, 0, none⟩)) W6 (by go_simp; try with_reducible rfl) hHeld (fun hHeld => ?_)
      simp only [Act.put, List.setIfInBounds_toArray, List.set_cons_zero, List.set_cons_succ]
      refine step_at (i := 11) (some 34) rfl rfl (by rfl) (by kernel_rfl) (.pointer (some ⟨t, 1, none⟩)) W6 (by go_simp; try with_reducible rfl) hHeld (fun hHeld => ?_)
      simp only [Act.put, List.setIfInBounds_toArray, List.set_cons_zero, List.set_cons_succ]
      have nt : W.heap.size ≠ t := fun q => by have := HT.out.lt t (by simp); omega
      have hr7 := store_one (a := a6) (n := (ps.take i ++ (PV.mk (.slice ka kn kC) (.slice va vn vC) x.p) :: ps.drop i).length) (C := cap6) (R6.out.cel 1 _ rfl).1 (R6.out.cel 1 _ rfl).2
      rw [← hv6] at hr7
      have R7 := R6.out.put 1 v6
      have B7 : But t W6 (W6.setCell ⟨t, 1, none⟩ v6) := But.set _ _ _
      rw [HI.out] at J6
      have FIN := hidIt (tab_ins HT.out E5.out X5.out XG.out HMM.out HH.out (by simpa using HN.out.1) J6.out R7 B7)
      have CP := hidIt (P6.out.but B7 nt).1
      clear R7 B7
      generalize W6.setCell ⟨t, 1, none⟩ v6 = W7 at *
      refine mute_at (i := 12) none rfl rfl (by rfl) (by kernel_rfl) W7 (put_mute 27 (.tmp 34) (.tmp 32) rfl _ _ rfl rfl hr7) CP.out (fun hHeld => ?_)
      simp only [Act.put]
      refine wpAnyH_done (by kernel_rfl) ?_ _
      refine NoPanic.normal ?_
      clear hr7 CP R6 P6 J6 hv6 T5 P5 X5 E5 q5 LL vlt T4 X4 P4 q4 E4
      go_wp2_with fail
      exact bodyPost_ret (v := .int .i64 0) (by simp [results, Try.results44, go_sem]) rfl FIN.out
theorem lay_ok {W : World} {N : List Nat} {t : Nat} {v : Value} {ps : List PV} {x : PV} (hT : Tab W t v ps) (hx : PVOk W N x) : Calls Try.prog 44 #[.pointer (some ⟨t, 0, none⟩), .agg x.cs.toArray] W (LayPost W t v ps x.p) := by
  by_cases hm : may x.p
  · cases hh : has (ps.map PV.p) x.p.k with
    | true => exact lay_put hT hx hm hh
    | false =>
      by_cases hn : ps.length = 64
      · exact lay_full hT hx hm hh hn
      · exact lay_ins hT hx hm hh hn
  · exact lay_not hT hx hm
end Go.Proofs.Ytandkedipjmdbaa
