/-
  Proved: LevelChooses: for every levels, every number, every plan and every tables, in whatever memory, on every schedule, the statement's function returns true: Choose and Replace answer what the document says, or its error; what is handed in stays, and what is told is new memory. No condition.
-/
import Derived.Test.YtelcijfcgflagaaLwG
import Derived.Test.YtelcijfcgflagaaBFrame
import Derived.LaidMore
import Derived.Stop.Joined
import Derived.Test.YtelcijfcgflagaaRows
import Derived.ProofKit
import Derived.OpenShut
import Derived.ShutString
import Derived.ChangeOld
import Derived.Below
namespace Go.Proofs.Ytelcijfcgflagaa
open Go.ChangeShapes Go.WideShapes Go.ChangeAt Go.WideMaps Go.WideElems Go.RowKit Go.Joins
theorem range_rcs {W : World} {b off : Nat} {ps : List RV} (h : ∀ i x, ps[i]? = some x → W.rangeAt b (off + i * 5) x.cs) : W.rangeAt b off (rcs ps) := fun j v hj => by
  have hl := (List.getElem?_eq_some_iff.1 hj).1
  rw [rcs_len] at hl
  have hi : j / 5 < ps.length := by omega
  have e := rcs_at ps (j / 5) (j % 5) _ (List.getElem?_eq_getElem hi) (by omega)
  rw [show j / 5 * 5 + j % 5 = j by omega, hj] at e
  have := h (j / 5) _ (List.getElem?_eq_getElem hi) (j % 5) v e.symm
  rwa [show off + j / 5 * 5 + j % 5 = off + j by omega] at this
section
variable {H : Type} {enc : TypeId × Value → H}
set_option maxRecDepth 100000 in
/-- Bytes within what came in. -/
theorem open_txt {W : World} {fuel : Nat} {cs : List Value} {y : DataW H × List MemPlace} (h : DataW.trod enc Try.prog W 0 (fun _ => true) true fuel 43 cs = some y) : ∃ v t, cs = [v] ∧ Txt W [] v t := by
  rcases open_ints Try.underlying43 Try.underlying5 (by kernel_rfl) h with ⟨hcs, _⟩ | ⟨x, l, c, zs, hcs, _, hl, hm, hz, _, hcell, hwz⟩
  · exact ⟨_, _, hcs, Txt.nil W [] 0⟩
  · have R : IsRow W (some x) l c zs := .inr ⟨_, rfl, hl, by simpa using hz, hcell, hwz⟩
    exact ⟨_, _, hcs, Txt.of R.arg⟩
theorem i64_wf {n : Int} (h : (Lit.int .i64 n).wf = true) : I64 n := by
  have a : IntKind.i64.min = -9223372036854775808 := by decide
  have b : IntKind.i64.max = 9223372036854775807 := by decide
  simp [Lit.wf] at h
  unfold I64
  omega
theorem struct4 {t : TypeId} {f0 f1 f2 f3 : Field} {w : World} {fuel : Nat} {cs : List Value} {x : DataW H × List MemPlace} (ht : Try.prog.underlying t = some (.struct #[f0, f1, f2, f3])) (h : DataW.trod enc Try.prog w 0 (fun _ => true) true fuel t cs = some x) :
    ∃ y0 y1 y2 y3 n, DataW.trod enc Try.prog w 0 (fun _ => true) true n f0.type ((cs.drop f0.offset).take (Try.prog.cellsOf f0.type)) = some y0 ∧ DataW.trod enc Try.prog w 0 (fun _ => true) true n f1.type ((cs.drop f1.offset).take (Try.prog.cellsOf f1.type)) = some y1 ∧ DataW.trod enc Try.prog w 0 (fun _ => true) true n f2.type ((cs.drop f2.offset).take (Try.prog.cellsOf f2.type)) = some y2 ∧ DataW.trod enc Try.prog w 0 (fun _ => true) true n f3.type ((cs.drop f3.offset).take (Try.prog.cellsOf f3.type)) = some y3 := by
  obtain ⟨xs, n, _, rfl, hl, hlen, hf⟩ := DataW.trod_struct ht h
  match xs, hlen with
  | [y0, y1, y2, y3], _ => exact ⟨y0, y1, y2, y3, n, by simpa using hf 0 f0 rfl, by simpa using hf 1 f1 rfl, by simpa using hf 2 f2 rfl, by simpa using hf 3 f3 rfl⟩
set_option maxRecDepth 100000 in
/-- A table that came in, opened. -/
theorem open_cells {W : World} {fuel : Nat} {cs : List Value} {y : DataW H × List MemPlace} (hl : cs.length = 5) (h : DataW.trod enc Try.prog W 0 (fun _ => true) true fuel 45 cs = some y) : ∃ x : RV, (RVOk W [] x ∧ Rf x.r) ∧ cs = x.cs := by
  have h1 : Try.prog.cellsOf 42 = 2 := by kernel_rfl
  have h2 : Try.prog.cellsOf 3 = 1 := by kernel_rfl
  have h3 : Try.prog.cellsOf 43 = 1 := by kernel_rfl
  obtain ⟨y0, y1, y2, y3, k, t0, t1, t2, t3⟩ := struct4 Try.underlying45 h
  match cs, hl with
  | [c0, c1, c2, c3, c4], _ =>
    obtain ⟨z0, z1, k2, _, _, s0, s1⟩ := trod_struct2 Try.underlying42 t0
    obtain ⟨n0, e0, _, w0⟩ := DataW.trod_int Try.underlying3 s0
    obtain ⟨n1, e1, _, w1⟩ := DataW.trod_int Try.underlying3 s1
    obtain ⟨n2, e2, _⟩ := DataW.trod_int Try.underlying3 t1
    obtain ⟨v3, u3, e3, T3⟩ := open_txt t2
    obtain ⟨v4, u4, e4, T4⟩ := open_txt t3
    simp [h1, h2] at e0
    simp [h1, h2] at e1
    simp [h2] at e2
    simp [h3] at e3
    simp [h3] at e4
    subst e0 e1 e2 e3 e4
    exact ⟨⟨c3, c4, ⟨n0, n1, n2, u3, u4⟩⟩, ⟨⟨T3, T4⟩, i64_wf w0, i64_wf w1⟩, rfl⟩
set_option maxRecDepth 100000 in
/-- Tables that came in, opened. -/
theorem open_runs {W : World} {a : Option Addr} {len cap : Nat} {d : DataW H} {p : List MemPlace} (h : DataW.Trod enc Try.prog W 0 (fun _ => true) true 23 (.slice a len cap) d p) : ∃ ps : List RV, ps.length = len ∧ LsR W a ps ∧ ∀ x ∈ ps, Rf x.r := by
  obtain ⟨fuel, hf⟩ := h
  rcases DataW.trod_slice Try.underlying23 hf with ⟨hcs, _⟩ | ⟨x, l, c, elems, rest, m, _, hcs, _, _, hl, _, hlen, hel, _, _⟩
  · simp [Value.cells] at hcs
    obtain ⟨rfl, rfl, rfl⟩ := hcs
    exact ⟨[], rfl, ⟨fun x hx => (by cases hx), fun h => absurd rfl h⟩, fun x hx => (by cases hx)⟩
  · simp [Value.cells] at hcs
    obtain ⟨rfl, rfl, rfl⟩ := hcs
    have hc : Try.prog.cellsOf 45 = 5 := by kernel_rfl
    have key : ∀ i, i < len → ∃ y : RV, (RVOk W [] y ∧ Rf y.r) ∧ ∀ j v, y.cs[j]? = some v → W.cell? ((x.add (i * 5)).add j) = some v := by
      intro i hi
      have e := hel i hi
      rw [hc, List.getElem?_eq_getElem (by omega)] at e
      obtain ⟨cs, hcs, htr⟩ := Option.bind_eq_some_iff.1 e
      obtain ⟨_, hlen2, hcell⟩ := World.cells?_some hcs
      obtain ⟨x0, hx0, hcs0⟩ := open_cells (by omega) htr
      refine ⟨x0, hx0, fun j v hj => ?_⟩
      have hj5 : j < 5 := (List.getElem?_eq_some_iff.1 hj).1
      have := hcell j (by omega)
      rw [this, hcs0]
      exact hj
    by_cases h0 : len = 0
    · exact ⟨[], h0.symm, ⟨fun x hx => (by cases hx), fun h => absurd rfl h⟩, fun x hx => (by cases hx)⟩
    obtain ⟨b, off, spot⟩ := x
    have hspot : spot = none := by
      obtain ⟨y, _, h1⟩ := key 0 (by omega)
      have := h1 0 _ rfl
      simpa [Addr.add] using World.cell?_spot this
    subst hspot
    have key2 : ∀ i, i < len → ∃ y : RV, (RVOk W [] y ∧ Rf y.r) ∧ W.rangeAt b (off + i * 5) y.cs := fun i hi => by
      obtain ⟨y, h1, h2⟩ := key i hi
      refine ⟨y, h1, fun j v hj => ?_⟩
      have := h2 j v hj
      rwa [Addr.add_mid, Addr.add_mid] at this
    let f : Nat → RV := fun i => if hi : i < len then Classical.choose (key2 i hi) else ⟨undef, undef, ⟨0, 0, 0, .empty, .empty⟩⟩
    have hf' : ∀ i, i < len → (RVOk W [] (f i) ∧ Rf (f i).r) ∧ W.rangeAt b (off + i * 5) (f i).cs := fun i hi => by
      have := Classical.choose_spec (key2 i hi)
      simp only [f, dif_pos hi]
      exact this
    refine ⟨(List.range len).map f, by simp, ⟨fun y hy => ?_, fun _ => ⟨b, off, rfl, range_rcs (fun i y hi => ?_), ?_⟩⟩, fun y hy => ?_⟩
    · obtain ⟨i, hi, rfl⟩ := List.mem_map.1 hy
      exact (hf' i (List.mem_range.1 hi)).1.1
    · have hl2 : i < len := by simpa using (List.getElem?_eq_some_iff.1 hi).1
      rw [List.getElem?_map, List.getElem?_range hl2] at hi
      injection hi with hi
      rw [← hi]
      exact (hf' i hl2).2
    · have := (hf' 0 (by omega)).2 0 _ rfl
      exact World.block_lt_of_cell? W _ this
    · obtain ⟨i, hi, rfl⟩ := List.mem_map.1 hy
      exact (hf' i (List.mem_range.1 hi)).1.2
set_option maxRecDepth 100000 in
/-- How long a slice that came in may be. -/
theorem trod_cap {W : World} {a : Option Addr} {len cap : Nat} {d : DataW H} {p : List MemPlace} (h : DataW.Trod enc Try.prog W 0 (fun _ => true) true 23 (.slice a len cap) d p) : len ≤ cap := by
  obtain ⟨fuel, hf⟩ := h
  rcases DataW.trod_slice Try.underlying23 hf with ⟨hcs, _⟩ | ⟨x, l, c, elems, rest, m, _, hcs, _, _, hl, _⟩
  · simp [Value.cells] at hcs
    omega
  · simp [Value.cells] at hcs
    omega
set_option maxRecDepth 100000 in
/-- Levels that came in, opened. -/
theorem open_levels {W : World} {a : Option Addr} {len cap : Nat} {d : DataW H} {p : List MemPlace} (h : DataW.Trod enc Try.prog W 0 (fun _ => true) true 22 (.slice a len cap) d p) : ∃ ls : List LR, ls.length = len ∧ Lvs W a ls ∧ ∀ x ∈ ls, ∀ y ∈ x.rs, Rf y.r := by
  obtain ⟨fuel, hf⟩ := h
  rcases DataW.trod_slice Try.underlying22 hf with ⟨hcs, _⟩ | ⟨x, l, c, elems, rest, m, _, hcs, _, _, hl, _, hlen, hel, _, _⟩
  · simp [Value.cells] at hcs
    obtain ⟨rfl, rfl, rfl⟩ := hcs
    exact ⟨[], rfl, ⟨fun x hx => (by cases hx), fun h => absurd rfl h⟩, fun x hx => (by cases hx)⟩
  · simp [Value.cells] at hcs
    obtain ⟨rfl, rfl, rfl⟩ := hcs
    have hc : Try.prog.cellsOf 23 = 1 := by kernel_rfl
    have key : ∀ i, i < len → ∃ y : LR, (LROk W y ∧ ∀ z ∈ y.rs, Rf z.r) ∧ W.cell? (x.add i) = some y.v := by
      intro i hi
      have e := hel i hi
      rw [hc, List.getElem?_eq_getElem (by omega)] at e
      obtain ⟨cs, hcs, htr⟩ := Option.bind_eq_some_iff.1 e
      obtain ⟨_, hlen2, hcell⟩ := World.cells?_some hcs
      match cs, hlen2 with
      | [c0], _ =>
        have hc0 := hcell 0 (by omega)
        rcases DataW.trod_slice Try.underlying23 htr with ⟨q, _⟩ | ⟨y, l, c, es, rs, n, _, q, _⟩
        · injection q with q
          subst q
          refine ⟨⟨none, 0, []⟩, ⟨⟨⟨fun z hz => (by cases hz), fun z => absurd rfl z⟩, Nat.le_refl _⟩, fun z hz => (by cases hz)⟩, ?_⟩
          show W.cell? (x.add i) = some (.slice none 0 0)
          simpa [Addr.add] using hc0
        · injection q with q
          subst q
          have T : DataW.Trod enc Try.prog W 0 (fun _ => true) true 23 (.slice (some y) l c) _ _ := ⟨m, htr⟩
          obtain ⟨ps, hpl, hps, hrf⟩ := open_runs T
          have hcap := trod_cap T
          refine ⟨⟨some y, c, ps⟩, ⟨⟨hps, by show ps.length ≤ c; omega⟩, hrf⟩, ?_⟩
          unfold LR.v
          simp only [hpl]
          simpa [Addr.add] using hc0
    by_cases h0 : len = 0
    · exact ⟨[], h0.symm, ⟨fun x hx => (by cases hx), fun h => absurd rfl h⟩, fun x hx => (by cases hx)⟩
    obtain ⟨b, off, spot⟩ := x
    have hspot : spot = none := by
      obtain ⟨y, _, h1⟩ := key 0 (by omega)
      simpa [Addr.add] using World.cell?_spot h1
    subst hspot
    have key2 : ∀ i, i < len → ∃ y : LR, (LROk W y ∧ ∀ z ∈ y.rs, Rf z.r) ∧ W.cell? ⟨b, off + i, none⟩ = some y.v := fun i hi => by
      obtain ⟨y, h1, h2⟩ := key i hi
      exact ⟨y, h1, by rwa [Addr.add_mid] at h2⟩
    let f : Nat → LR := fun i => if hi : i < len then Classical.choose (key2 i hi) else ⟨none, 0, []⟩
    have hf' : ∀ i, i < len → (LROk W (f i) ∧ ∀ z ∈ (f i).rs, Rf z.r) ∧ W.cell? ⟨b, off + i, none⟩ = some (f i).v := fun i hi => by
      have := Classical.choose_spec (key2 i hi)
      simp only [f, dif_pos hi]
      exact this
    refine ⟨(List.range len).map f, by simp, ⟨fun y hy => ?_, fun _ => ⟨b, off, rfl, fun j v hj => ?_, ?_⟩⟩, fun y hy => ?_⟩
    · obtain ⟨i, hi, rfl⟩ := List.mem_map.1 hy
      exact (hf' i (List.mem_range.1 hi)).1.1
    · rw [List.map_map, List.getElem?_map] at hj
      by_cases hl2 : j < len
      · rw [List.getElem?_range hl2] at hj
        injection hj with hj
        rw [← hj]
        exact (hf' j hl2).2
      · rw [List.getElem?_eq_none (by simpa using hl2)] at hj
        cases hj
    · exact World.block_lt_of_cell? W _ (hf' 0 (by omega)).2
    · obtain ⟨i, hi, rfl⟩ := List.mem_map.1 hy
      exact (hf' i (List.mem_range.1 hi)).1.2
set_option maxRecDepth 100000 in
/-- A slice within what came in. -/
theorem open_part {W : World} {fuel : Nat} {cs : List Value} {y : DataW H × List MemPlace} (h : DataW.trod enc Try.prog W 0 (fun _ => true) true fuel 23 cs = some y) : ∃ (a : Option Addr) (ps : List RV) (c : Nat), cs = [.slice a ps.length c] ∧ LsR W a ps ∧ ∀ x ∈ ps, Rf x.r := by
  rcases DataW.trod_slice Try.underlying23 h with ⟨q, _⟩ | ⟨x, l, c, es, rs, n, _, q, _⟩
  · exact ⟨none, [], 0, q, ⟨fun x hx => (by cases hx), fun h => absurd rfl h⟩, fun x hx => (by cases hx)⟩
  · subst q
    have T : DataW.Trod enc Try.prog W 0 (fun _ => true) true 23 (.slice (some x) l c) _ _ := ⟨fuel, h⟩
    obtain ⟨ps, hpl, hps, hrf⟩ := open_runs T
    exact ⟨some x, ps, c, by rw [hpl], hps, hrf⟩
set_option maxRecDepth 100000 in
/-- A plan that came in, opened. -/
theorem open_plan {W : World} {base : Nat} {v : Value} {d : DataW H} {p : List MemPlace} (hv : Value.okWide Try.prog W .any base 25 v) (h : DataW.Trod enc Try.prog W 0 (fun _ => true) true 25 v d p) : ∃ (z : Int) (fa ta : Option Addr) (fs ts : List RV) (fc tc : Nat) (b : Bool), v = .agg (plC z (.slice fa fs.length fc) (.slice ta ts.length tc) b).toArray ∧ (LsR W fa fs ∧ ∀ x ∈ fs, Rf x.r) ∧ LsR W ta ts ∧ ∀ x ∈ ts, Rf x.r := by
  obtain ⟨cs, rfl, hsz⟩ := okWide_struct Try.underlying25 hv
  have h4 : Try.prog.cellsOf 25 = 4 := by kernel_rfl
  have h1 : Try.prog.cellsOf 3 = 1 := by kernel_rfl
  have h2 : Try.prog.cellsOf 23 = 1 := by kernel_rfl
  have h3 : Try.prog.cellsOf 4 = 1 := by kernel_rfl
  rw [h4] at hsz
  obtain ⟨fuel, hf⟩ := h
  have hL : (Value.agg cs).cells.toList = cs.toList := rfl
  rw [hL] at hf
  obtain ⟨y0, y1, y2, y3, k, t0, t1, t2, t3⟩ := struct4 Try.underlying25 hf
  have e : cs = cs.toList.toArray := by simp
  have hl : cs.toList.length = 4 := by simpa using hsz
  match q : cs.toList, hl with
  | [c0, c1, c2, c3], _ =>
    rw [q] at t0 t1 t2 t3 e
    obtain ⟨n0, e0, _⟩ := DataW.trod_int Try.underlying3 t0
    obtain ⟨fa, fs, fc, e1, lf, rf⟩ := open_part t1
    obtain ⟨ta, ts, tc, e2, lt, rt⟩ := open_part t2
    obtain ⟨b, e3, _⟩ := DataW.trod_bool Try.underlying4 t3
    simp [h1] at e0
    simp [h2] at e1
    simp [h2] at e2
    simp [h3] at e3
    subst e0 e1 e2 e3
    exact ⟨n0, fa, ta, fs, ts, fc, tc, b, by rw [e]; rfl, ⟨lf, rf⟩, lt, rt⟩
end
end Go.Proofs.Ytelcijfcgflagaa
namespace Go.Proofs.Ytelcijfcgflagaa
open Go.ChangeShapes Go.WideShapes Go.ChangeAt Go.RowKit Go.Joins

theorem lchooses_own : ownKnob Try.prog.godebug = none := by kernel_rfl
set_option maxRecDepth 100000 in
theorem lchooses_lifted (os : Os) (started : os.Started) (H : Type) (enc : TypeId × Value → H) :
    ReturnsInHanded {} Try.checked os 3 .any (Rows.levelChoosesSpec.pre6 enc Try.prog Try.f3 Rows.levelChoosesRow.domain false) (Rows.levelChoosesSpec.post enc Try.prog Try.f3 false true false false) := by
  refine returnsInHanded_of_change (C := Try.checked) lchooses_own started (by kernel_rfl) Try.func3
    (ChangeSpec.witness6 (enc := enc) (C := Try.checked) false ⟨#[], #[.slice none 0 0, .int .i64 0, .agg #[.int .i64 0, .slice none 0 0, .slice none 0 0, .bool false], .slice none 0 0], []⟩ 8 (by kernel_rfl) (by kernel_rfl) (by kernel_rfl) (by kernel_rfl)) ?_
  intro W base args ds gs before hval0 hW hcnd _
  have hval : ∀ (j : Nat) t v, Try.f3.params[j]? = some t → args[j]? = some v → Value.okWide Try.prog W .any base t v := hval0
  have hW' := hW
  obtain ⟨p, q, hA0, hV, rfl, hfz, hnd⟩ := hW
  have hA : DataW.TrodAll enc Try.prog W 0 (fun _ => true) true Try.f3.params.toList args.toList ds p := hA0
  rw [Try.params3] at hA hval
  obtain ⟨v0, v1, v2, v3, d0, d1, d2, d3, p0, p1, p2, p3, rfl, rfl, rfl, h0, h1, h2, h3⟩ := trodAll_four hA
  obtain ⟨rfl, rfl⟩ := trodVars_none hV
  have k0 := h0
  have k1 := h1
  have k2 := h2
  have k3 := h3
  have lt0 : ∀ x ∈ p0, x.block < W.heap.size := by obtain ⟨m, hm⟩ := k0; exact DataW.trod_lt m _ _ _ hm
  have lt1 : ∀ x ∈ p1, x.block < W.heap.size := by obtain ⟨m, hm⟩ := k1; exact DataW.trod_lt m _ _ _ hm
  have lt2 : ∀ x ∈ p2, x.block < W.heap.size := by obtain ⟨m, hm⟩ := k2; exact DataW.trod_lt m _ _ _ hm
  have lt3 : ∀ x ∈ p3, x.block < W.heap.size := by obtain ⟨m, hm⟩ := k3; exact DataW.trod_lt m _ _ _ hm
  obtain ⟨a0, len0, cap0, rfl⟩ := okWide_slice Try.underlying22 (hval 0 22 v0 rfl rfl)
  obtain ⟨n1, rfl⟩ := okWide_int Try.underlying3 (hval 1 3 v1 rfl rfl)
  obtain ⟨zl, fa, ta, fs, ts, fc, tc, d, rfl, ⟨lf, rf⟩, lt, rt⟩ := open_plan (hval 2 25 v2 rfl rfl) h2
  obtain ⟨a3, len3, cap3, rfl⟩ := okWide_slice Try.underlying23 (hval 3 23 v3 rfl rfl)
  obtain ⟨ls, hl, hls, hrl⟩ := open_levels h0
  obtain ⟨rs, hrn, hrs, hrr⟩ := open_runs h3
  subst hrn
  clear hA0 hval0
  refine (lchooses_any len0 cap0 fc tc cap3 n1 zl d hl hls lf lt hrs ⟨hrl, rf, rt, hrr⟩).mono fun e W' ⟨he, bel⟩ => ?_
  subst he
  exact ⟨_, rfl, _, _, _, [], _, [], hW', trodAll_mk1 (shut_bool Try.underlying4 _), trodAll_mk4 (Below.trod laid_out (by kernel_rfl) (of_decide_eq_true (by kernel_rfl)) k0 bel lt0) (Below.trod laid_out (by kernel_rfl) (of_decide_eq_true (by kernel_rfl)) k1 bel lt1) (Below.trod laid_out (by kernel_rfl) (of_decide_eq_true (by kernel_rfl)) k2 bel lt2) (Below.trod laid_out (by kernel_rfl) (of_decide_eq_true (by kernel_rfl)) k3 bel lt3), rfl, bel.frame _, fun h => by cases h⟩

theorem lchooses_holds : Rows.LevelChoosesSaid :=
  OpenClaim.holds_of_wide 3 Try.f3 rfl rfl rfl rfl rfl rfl rfl ⟨rfl, rfl, rfl, rfl, rfl⟩ rfl rfl rfl rfl rfl (by kernel_rfl) Try.func3 (by kernel_rfl)
    (of_decide_eq_true (by kernel_rfl)) (by unfold Func.isWrapper; first | (rw [if_pos (by decide +kernel)]; kernel_rfl) | (rw [if_neg (by decide +kernel)]; exact ⟨rfl, rfl⟩))
    (fun os started H enc _ => lchooses_lifted os started H enc)
#print axioms lchooses_holds
end Go.Proofs.Ytelcijfcgflagaa
