/-
  Proved: LevelTells: for every levels, every table and every two keys, in whatever memory in which the program's own table level.room is as its text lays it, on every schedule, the statement's function returns true. The table is tied to the program's text (the card).
-/
import Derived.Test.YtcjapldhfolpnaaDoorLvTl
import Derived.Test.YtcjapldhfolpnaaDoorBFrame
import Derived.LaidMore
import Derived.Stop.Joined
import Derived.Test.YtcjapldhfolpnaaDoorRows
import Derived.ProofKit
import Derived.OpenShut
import Derived.ShutString
import Derived.ChangeOld
import Derived.Below
import Derived.Carry
import Derived.Lib.SmallJoins
import Derived.Test.YtcjapldhfolpnaaDoorTie
import Derived.Test.YtcjapldhfolpnaaDoorCards
namespace Go.Proofs.YtcjapldhfolpnaaDoor
open Go.ChangeShapes Go.WideShapes Go.ChangeAt Go.WideMaps Go.WideElems Go.RowKit Go.Joins
theorem range_rcs {W : World} {b off : Nat} {ps : List RV} (h : ∀ i x, ps[i]? = some x → W.rangeAt b (off + i * 5) x.cs) : W.rangeAt b off (rcs ps) := fun j v hj => by
  have hl := (List.getElem?_eq_some_iff.1 hj).1
  rw [rcs_len] at hl
  have hi : j / 5 < ps.length := by omega
  have e := rcs_at ps (j / 5) (j % 5) _ (List.getElem?_eq_getElem hi) (by omega)
  rw [show j / 5 * 5 + j % 5 = j by omega, hj] at e
  have := h (j / 5) _ (List.getElem?_eq_getElem hi) (j % 5) v e.symm
  rwa [show off + j / 5 * 5 + j % 5 = off + j by omega] at this
section
variable {H : Type} {enc : TypeId × Value → H}
set_option maxRecDepth 100000 in
/-- Bytes within what came in. -/
theorem open_txt {W : World} {fuel : Nat} {cs : List Value} {y : DataW H × List MemPlace} (h : DataW.trod enc Tryd.prog W 0 (fun _ => true) true fuel 25 cs = some y) : ∃ v t, cs = [v] ∧ Txt W [] v t := by
  rcases open_ints Tryd.underlying25 Tryd.underlying5 (by kernel_rfl) h with ⟨hcs, _⟩ | ⟨x, l, c, zs, hcs, _, hl, hm, hz, _, hcell, hwz⟩
  · exact ⟨_, _, hcs, Txt.nil W [] 0⟩
  · have R : IsRow W (some x) l c zs := .inr ⟨_, rfl, hl, by simpa using hz, hcell, hwz⟩
    exact ⟨_, _, hcs, Txt.of R.arg⟩
theorem struct4 {t : TypeId} {f0 f1 f2 f3 : Field} {w : World} {fuel : Nat} {cs : List Value} {x : DataW H × List MemPlace} (ht : Tryd.prog.underlying t = some (.struct #[f0, f1, f2, f3])) (h : DataW.trod enc Tryd.prog w 0 (fun _ => true) true fuel t cs = some x) :
    ∃ y0 y1 y2 y3 n, DataW.trod enc Tryd.prog w 0 (fun _ => true) true n f0.type ((cs.drop f0.offset).take (Tryd.prog.cellsOf f0.type)) = some y0 ∧ DataW.trod enc Tryd.prog w 0 (fun _ => true) true n f1.type ((cs.drop f1.offset).take (Tryd.prog.cellsOf f1.type)) = some y1 ∧ DataW.trod enc Tryd.prog w 0 (fun _ => true) true n f2.type ((cs.drop f2.offset).take (Tryd.prog.cellsOf f2.type)) = some y2 ∧ DataW.trod enc Tryd.prog w 0 (fun _ => true) true n f3.type ((cs.drop f3.offset).take (Tryd.prog.cellsOf f3.type)) = some y3 := by
  obtain ⟨xs, n, _, rfl, hl, hlen, hf⟩ := DataW.trod_struct ht h
  match xs, hlen with
  | [y0, y1, y2, y3], _ => exact ⟨y0, y1, y2, y3, n, by simpa using hf 0 f0 rfl, by simpa using hf 1 f1 rfl, by simpa using hf 2 f2 rfl, by simpa using hf 3 f3 rfl⟩
set_option maxRecDepth 100000 in
/-- A table that came in, opened. -/
theorem open_cells {W : World} {fuel : Nat} {cs : List Value} {y : DataW H × List MemPlace} (hl : cs.length = 5) (h : DataW.trod enc Tryd.prog W 0 (fun _ => true) true fuel 27 cs = some y) : ∃ x : RV, RVOk W [] x ∧ cs = x.cs := by
  have h1 : Tryd.prog.cellsOf 24 = 2 := by kernel_rfl
  have h2 : Tryd.prog.cellsOf 3 = 1 := by kernel_rfl
  have h3 : Tryd.prog.cellsOf 25 = 1 := by kernel_rfl
  obtain ⟨y0, y1, y2, y3, k, t0, t1, t2, t3⟩ := struct4 Tryd.underlying27 h
  match cs, hl with
  | [c0, c1, c2, c3, c4], _ =>
    obtain ⟨z0, z1, k2, _, _, s0, s1⟩ := trod_struct2 Tryd.underlying24 t0
    obtain ⟨n0, e0, _⟩ := DataW.trod_int Tryd.underlying3 s0
    obtain ⟨n1, e1, _⟩ := DataW.trod_int Tryd.underlying3 s1
    obtain ⟨n2, e2, _⟩ := DataW.trod_int Tryd.underlying3 t1
    obtain ⟨v3, u3, e3, T3⟩ := open_txt t2
    obtain ⟨v4, u4, e4, T4⟩ := open_txt t3
    simp [h1, h2] at e0
    simp [h1, h2] at e1
    simp [h2] at e2
    simp [h3] at e3
    simp [h3] at e4
    subst e0 e1 e2 e3 e4
    exact ⟨⟨c3, c4, ⟨n0, n1, n2, u3, u4⟩⟩, ⟨T3, T4⟩, rfl⟩
set_option maxRecDepth 100000 in
theorem open_run {W : World} {base : Nat} {v : Value} {d : DataW H} {p : List MemPlace} (hv : Value.okWide Tryd.prog W .any base 27 v) (h : DataW.Trod enc Tryd.prog W 0 (fun _ => true) true 27 v d p) : ∃ x : RV, RVOk W [] x ∧ v = .agg x.cs.toArray := by
  obtain ⟨cs, rfl, hsz⟩ := okWide_struct Tryd.underlying27 hv
  have h5 : Tryd.prog.cellsOf 27 = 5 := by kernel_rfl
  rw [h5] at hsz
  obtain ⟨fuel, hf⟩ := h
  have hL : (Value.agg cs).cells.toList = cs.toList := rfl
  rw [hL] at hf
  obtain ⟨x, hx, e⟩ := open_cells (by simpa using hsz) hf
  exact ⟨x, hx, by rw [← e]⟩
set_option maxRecDepth 100000 in
/-- Tables that came in, opened. -/
theorem open_runs {W : World} {a : Option Addr} {len cap : Nat} {d : DataW H} {p : List MemPlace} (h : DataW.Trod enc Tryd.prog W 0 (fun _ => true) true 36 (.slice a len cap) d p) : ∃ ps : List RV, ps.length = len ∧ LsR W a ps := by
  obtain ⟨fuel, hf⟩ := h
  rcases DataW.trod_slice Tryd.underlying36 hf with ⟨hcs, _⟩ | ⟨x, l, c, elems, rest, m, _, hcs, _, _, hl, _, hlen, hel, _, _⟩
  · simp [Value.cells] at hcs
    obtain ⟨rfl, rfl, rfl⟩ := hcs
    exact ⟨[], rfl, fun x hx => (by cases hx), fun h => absurd rfl h⟩
  · simp [Value.cells] at hcs
    obtain ⟨rfl, rfl, rfl⟩ := hcs
    have hc : Tryd.prog.cellsOf 27 = 5 := by kernel_rfl
    have key : ∀ i, i < len → ∃ y : RV, RVOk W [] y ∧ ∀ j v, y.cs[j]? = some v → W.cell? ((x.add (i * 5)).add j) = some v := by
      intro i hi
      have e := hel i hi
      rw [hc, List.getElem?_eq_getElem (by omega)] at e
      obtain ⟨cs, hcs, htr⟩ := Option.bind_eq_some_iff.1 e
      obtain ⟨_, hlen2, hcell⟩ := World.cells?_some hcs
      obtain ⟨x0, hx0, hcs0⟩ := open_cells (by omega) htr
      refine ⟨x0, hx0, fun j v hj => ?_⟩
      have hj5 : j < 5 := (List.getElem?_eq_some_iff.1 hj).1
      have := hcell j (by omega)
      rw [this, hcs0]
      exact hj
    by_cases h0 : len = 0
    · exact ⟨[], h0.symm, fun x hx => (by cases hx), fun h => absurd rfl h⟩
    obtain ⟨b, off, spot⟩ := x
    have hspot : spot = none := by
      obtain ⟨y, _, h1⟩ := key 0 (by omega)
      have := h1 0 _ rfl
      simpa [Addr.add] using World.cell?_spot this
    subst hspot
    have key2 : ∀ i, i < len → ∃ y : RV, RVOk W [] y ∧ W.rangeAt b (off + i * 5) y.cs := fun i hi => by
      obtain ⟨y, h1, h2⟩ := key i hi
      refine ⟨y, h1, fun j v hj => ?_⟩
      have := h2 j v hj
      rwa [Addr.add_mid, Addr.add_mid] at this
    let f : Nat → RV := fun i => if hi : i < len then Classical.choose (key2 i hi) else ⟨undef, undef, ⟨0, 0, 0, .empty, .empty⟩⟩
    have hf' : ∀ i, i < len → RVOk W [] (f i) ∧ W.rangeAt b (off + i * 5) (f i).cs := fun i hi => by
      have := Classical.choose_spec (key2 i hi)
      simp only [f, dif_pos hi]
      exact this
    refine ⟨(List.range len).map f, by simp, fun y hy => ?_, fun _ => ⟨b, off, rfl, range_rcs (fun i y hi => ?_), ?_⟩⟩
    · obtain ⟨i, hi, rfl⟩ := List.mem_map.1 hy
      exact (hf' i (List.mem_range.1 hi)).1
    · have hl2 : i < len := by simpa using (List.getElem?_eq_some_iff.1 hi).1
      rw [List.getElem?_map, List.getElem?_range hl2] at hi
      injection hi with hi
      rw [← hi]
      exact (hf' i hl2).2
    · have := (hf' 0 (by omega)).2 0 _ rfl
      exact World.block_lt_of_cell? W _ this
set_option maxRecDepth 100000 in
/-- How long a slice that came in may be. -/
theorem trod_cap {W : World} {a : Option Addr} {len cap : Nat} {d : DataW H} {p : List MemPlace} (h : DataW.Trod enc Tryd.prog W 0 (fun _ => true) true 36 (.slice a len cap) d p) : len ≤ cap := by
  obtain ⟨fuel, hf⟩ := h
  rcases DataW.trod_slice Tryd.underlying36 hf with ⟨hcs, _⟩ | ⟨x, l, c, elems, rest, m, _, hcs, _, _, hl, _⟩
  · simp [Value.cells] at hcs
    omega
  · simp [Value.cells] at hcs
    omega
set_option maxRecDepth 100000 in
/-- Levels that came in, opened. -/
theorem open_levels {W : World} {a : Option Addr} {len cap : Nat} {d : DataW H} {p : List MemPlace} (h : DataW.Trod enc Tryd.prog W 0 (fun _ => true) true 22 (.slice a len cap) d p) : ∃ ls : List LR, ls.length = len ∧ Lvs W a ls := by
  obtain ⟨fuel, hf⟩ := h
  rcases DataW.trod_slice Tryd.underlying22 hf with ⟨hcs, _⟩ | ⟨x, l, c, elems, rest, m, _, hcs, _, _, hl, _, hlen, hel, _, _⟩
  · simp [Value.cells] at hcs
    obtain ⟨rfl, rfl, rfl⟩ := hcs
    exact ⟨[], rfl, fun x hx => (by cases hx), fun h => absurd rfl h⟩
  · simp [Value.cells] at hcs
    obtain ⟨rfl, rfl, rfl⟩ := hcs
    have hc : Tryd.prog.cellsOf 36 = 1 := by kernel_rfl
    have key : ∀ i, i < len → ∃ y : LR, LROk W y ∧ W.cell? (x.add i) = some y.v := by
      intro i hi
      have e := hel i hi
      rw [hc, List.getElem?_eq_getElem (by omega)] at e
      obtain ⟨cs, hcs, htr⟩ := Option.bind_eq_some_iff.1 e
      obtain ⟨_, hlen2, hcell⟩ := World.cells?_some hcs
      match cs, hlen2 with
      | [c0], _ =>
        have hc0 := hcell 0 (by omega)
        rcases DataW.trod_slice Tryd.underlying36 htr with ⟨q, _⟩ | ⟨y, l, c, es, rs, n, _, q, _⟩
        · injection q with q
          subst q
          refine ⟨⟨none, 0, []⟩, ⟨⟨fun z hz => (by cases hz), fun z => absurd rfl z⟩, Nat.le_refl _⟩, ?_⟩
          show W.cell? (x.add i) = some (.slice none 0 0)
          simpa [Addr.add] using hc0
        · injection q with q
          subst q
          have T : DataW.Trod enc Tryd.prog W 0 (fun _ => true) true 36 (.slice (some y) l c) _ _ := ⟨m, htr⟩
          obtain ⟨ps, hpl, hps⟩ := open_runs T
          have hcap := trod_cap T
          refine ⟨⟨some y, c, ps⟩, ⟨hps, by show ps.length ≤ c; omega⟩, ?_⟩
          unfold LR.v
          simp only [hpl]
          simpa [Addr.add] using hc0
    by_cases h0 : len = 0
    · exact ⟨[], h0.symm, fun x hx => (by cases hx), fun h => absurd rfl h⟩
    obtain ⟨b, off, spot⟩ := x
    have hspot : spot = none := by
      obtain ⟨y, _, h1⟩ := key 0 (by omega)
      simpa [Addr.add] using World.cell?_spot h1
    subst hspot
    have key2 : ∀ i, i < len → ∃ y : LR, LROk W y ∧ W.cell? ⟨b, off + i, none⟩ = some y.v := fun i hi => by
      obtain ⟨y, h1, h2⟩ := key i hi
      exact ⟨y, h1, by rwa [Addr.add_mid] at h2⟩
    let f : Nat → LR := fun i => if hi : i < len then Classical.choose (key2 i hi) else ⟨none, 0, []⟩
    have hf' : ∀ i, i < len → LROk W (f i) ∧ W.cell? ⟨b, off + i, none⟩ = some (f i).v := fun i hi => by
      have := Classical.choose_spec (key2 i hi)
      simp only [f, dif_pos hi]
      exact this
    refine ⟨(List.range len).map f, by simp, fun y hy => ?_, fun _ => ⟨b, off, rfl, fun j v hj => ?_, ?_⟩⟩
    · obtain ⟨i, hi, rfl⟩ := List.mem_map.1 hy
      exact (hf' i (List.mem_range.1 hi)).1
    · rw [List.map_map, List.getElem?_map] at hj
      by_cases hl2 : j < len
      · rw [List.getElem?_range hl2] at hj
        injection hj with hj
        rw [← hj]
        exact (hf' j hl2).2
      · rw [List.getElem?_eq_none (by simpa using hl2)] at hj
        cases hj
    · exact World.block_lt_of_cell? W _ (hf' 0 (by omega)).2
end
theorem gRoom : Tryd.prog.globalNamed "exchequer/level.room" = some 0 := by kernel_rfl
theorem tRoom : (Tryd.prog.globals[0]?).map (·.type) = some 56 := by kernel_rfl
/-- What the rows list. -/
abbrev flaidL : List (String × DataW Unit) := [("exchequer/level.room", Rows.laid_exchequer_level_room)]
/-- The door's own heap meets the condition. -/
theorem door_met (os : Os) (args : Array Value) : laidMetH Tryd.prog flaidL ((World.doorLaid Tryd.prog 400 os).forCall (fun _ _ => 0) ⟨#[], args, []⟩).memory :=
  laidMetH_of_parts3 (fuel := 8) (laidMet_of_run' 8 (by kernel_rfl) (by kernel_rfl)) (by kernel_rfl) (by kernel_rfl)
theorem one_of {L : List Value} {o n : Nat} {v : Value} (h : (L.drop o).take n = [v]) : L[o]? = some v := by
  have := congrArg (·[0]?) h
  simp only [List.getElem?_take, List.getElem?_drop] at this
  split at this
  · simpa using this
  · simp at this
set_option maxRecDepth 100000 in
/-- What the condition gives the walks. -/
theorem of_laid {W : World} (h : laidMetH Tryd.prog flaidL W) : Room W := by
  rw [MakeChecks.laidMetH_plain _ _ _ (by kernel_rfl)] at h
  obtain ⟨ps, ⟨g0, t0, cs0, f0, p0, q0, hg0, ht0, hv0, hd0, _, _⟩, _⟩ := h
  obtain rfl := Option.some.inj (gRoom.symm.trans hg0)
  obtain rfl := Option.some.inj (tRoom.symm.trans ht0)
  obtain ⟨xs, m1, _, hx1, _, hn3, hel⟩ := DataW.trod_array Tryd.underlying56 hd0
  have c1 : Tryd.prog.cellsOf 3 = 1 := by kernel_rfl
  simp only [Prod.mk.injEq] at hx1
  have hd : Rows.laid_exchequer_level_room = (.agg (xs.map (·.1)) : DataW Unit) := hx1.1
  have key : ∀ k (v : Int), ([4, 8, 16] : List Int)[k]? = some v → W.cell? ⟨0, k, none⟩ = some (.int .i64 v) := by
    intro k v hv
    have hk : k < 3 := (List.getElem?_eq_some_iff.1 hv).1
    have hk' := hel k hk
    rw [c1, Nat.mul_one, List.getElem?_eq_getElem (by omega)] at hk'
    obtain ⟨x, e, r, _⟩ := DataW.trod_int Tryd.underlying3 hk'
    have hd2 : ([.lit (.int .i64 4), .lit (.int .i64 8), .lit (.int .i64 16)] : List (DataW Unit)) = xs.map (·.1) := by
      have := hd
      unfold Rows.laid_exchequer_level_room at this
      injection this
    have hd' := congrArg (·[k]?) hd2
    have hx : k < xs.length := by omega
    rw [List.getElem?_map, List.getElem?_eq_getElem hx] at hd'
    simp only [Option.map_some] at hd'
    rw [r] at hd'
    have q : W.cell? ⟨0, k, none⟩ = cs0.toList[k]? := by rw [World.var?_cell hg0 hv0 k]; simp
    rw [q, one_of e]
    rcases (show k = 0 ∨ k = 1 ∨ k = 2 by omega) with rfl | rfl | rfl <;> simp_all
  refine ⟨fun j v hj => ?_, World.block_lt_of_cell? W ⟨0, 0, none⟩ (key 0 4 rfl)⟩
  rw [Nat.zero_add]
  have hj3 : j < 3 := (List.getElem?_eq_some_iff.1 hj).1
  rcases (show j = 0 ∨ j = 1 ∨ j = 2 by omega) with rfl | rfl | rfl
  · rw [key 0 4 rfl]; exact hj
  · rw [key 1 8 rfl]; exact hj
  · rw [key 2 16 rfl]; exact hj
end Go.Proofs.YtcjapldhfolpnaaDoor
namespace Go.Proofs.YtcjapldhfolpnaaDoor
open Go.ChangeShapes Go.WideShapes Go.ChangeAt Go.WideMaps Go.WideElems Go.RowKit Go.Joins
set_option maxRecDepth 100000 in
theorem levelTells_lifted (os : Os) (started : os.Started) (H : Type) (enc : TypeId × Value → H) :
    ReturnsInHanded {} Tryd.checked os 3 .any (fun w args => (Rows.levelTellsSpec.pre enc Tryd.prog Tryd.f3 [] false w args ∧ laidMetH Tryd.prog flaidL w) ∧ sizedMet enc Tryd.prog Tryd.f3 (OpenSpec.ofChange Rows.levelTellsSpec) false w args)
      (Rows.levelTellsSpec.post enc Tryd.prog Tryd.f3 false true false false) := by
  refine returnsInHanded_of_change_and (C := Tryd.checked) (X := fun w _ => laidMetH Tryd.prog flaidL w) (fun _ _ _ hh h => h.of_heap hh) own_knob started (by kernel_rfl) Tryd.func3
    (ChangeSpec.witness_shaped (enc := enc) (C := Tryd.checked) (os := os) (X := fun w _ => laidMetH Tryd.prog flaidL w) false (World.doorLaid Tryd.prog 400 os) #[.slice none 0 0, .agg #[.int .i64 0, .int .i64 0, .int .i64 0, .slice none 0 0, .slice none 0 0], .slice none 0 0, .slice none 0 0] 8 rfl (World.shaped_of_RefB (by kernel_rfl) (by kernel_rfl)) (by kernel_rfl) (by kernel_rfl) (by kernel_rfl) (door_met os _)) ?_
  intro W base args ds gs before hval0 hW _ _ hL _
  have hval : ∀ (j : Nat) t v, Tryd.f3.params[j]? = some t → args[j]? = some v → Value.okWide Tryd.prog W .any base t v := hval0
  have hW' := hW
  obtain ⟨p, q, hA0, hV, rfl, hfz, hnd⟩ := hW
  have hA : DataW.TrodAll enc Tryd.prog W 0 (fun _ => true) true Tryd.f3.params.toList args.toList ds p := hA0
  rw [Tryd.params3] at hA hval
  obtain ⟨v0, v1, v2, v3, d0, d1, d2, d3, p0, p1, p2, p3, rfl, rfl, rfl, h0, h1, h2, h3⟩ := trodAll_four hA
  obtain ⟨rfl, rfl⟩ := trodVars_none hV
  have k0 := h0
  have k1 := h1
  have k2 := h2
  have k3 := h3
  have lt0 : ∀ x ∈ p0, x.block < W.heap.size := by obtain ⟨m, hm⟩ := k0; exact DataW.trod_lt m _ _ _ hm
  have lt1 : ∀ x ∈ p1, x.block < W.heap.size := by obtain ⟨m, hm⟩ := k1; exact DataW.trod_lt m _ _ _ hm
  have lt2 : ∀ x ∈ p2, x.block < W.heap.size := by obtain ⟨m, hm⟩ := k2; exact DataW.trod_lt m _ _ _ hm
  have lt3 : ∀ x ∈ p3, x.block < W.heap.size := by obtain ⟨m, hm⟩ := k3; exact DataW.trod_lt m _ _ _ hm
  obtain ⟨a0, len0, cap0, rfl⟩ := okWide_slice Tryd.underlying22 (hval 0 22 v0 rfl rfl)
  obtain ⟨y, hy, rfl⟩ := open_run (hval 1 27 v1 rfl rfl) h1
  obtain ⟨a2, len2, cap2, rfl⟩ := okWide_slice Tryd.underlying25 (hval 2 25 v2 rfl rfl)
  obtain ⟨a3, len3, cap3, rfl⟩ := okWide_slice Tryd.underlying25 (hval 3 25 v3 rfl rfl)
  obtain ⟨ls, hl, hls⟩ := open_levels h0
  obtain ⟨z2, r2⟩ := open_row h2
  obtain ⟨z3, r3⟩ := open_row h3
  clear hA0 hval0
  refine (ltells_any len0 cap0 hl hls hy (Txt.of r2.arg) (Txt.of r3.arg) (of_laid hL)).mono fun e W' ⟨he, bel⟩ => ?_
  subst he
  exact ⟨_, rfl, _, _, _, [], _, [], hW', trodAll_mk1 (shut_bool Tryd.underlying4 _), trodAll_mk4 (Below.trod laid_out (by kernel_rfl) (of_decide_eq_true (by kernel_rfl)) k0 bel lt0) (Below.trod laid_out (by kernel_rfl) (of_decide_eq_true (by kernel_rfl)) k1 bel lt1) (Below.trod laid_out (by kernel_rfl) (of_decide_eq_true (by kernel_rfl)) k2 bel lt2) (Below.trod laid_out (by kernel_rfl) (of_decide_eq_true (by kernel_rfl)) k3 bel lt3), rfl, bel.frame _, fun h => by cases h⟩
theorem levelTells_holds : Rows.LevelTellsSaid :=
  OpenClaim.holds_of_wide 3 Tryd.f3 rfl rfl rfl rfl rfl rfl rfl ⟨rfl, rfl, rfl, rfl, rfl⟩ rfl rfl rfl rfl rfl (by kernel_rfl) Tryd.func3 (by kernel_rfl)
    (of_decide_eq_true (by kernel_rfl)) (by unfold Func.isWrapper; first | (rw [if_pos (by decide +kernel)]; kernel_rfl) | (rw [if_neg (by decide +kernel)]; exact ⟨rfl, rfl⟩))
    (fun os started H enc _ => levelTells_lifted os started H enc)
theorem levelTells_card : Rows.LevelTellsCardSaid :=
  Claim7.holds_tied_plain_at .later [] [.data] true (true, "eef40a6bcdf71fc3c94c0f78d7a078071b0ffa80f01849bb1a6d833281dbfd2f") false
    levelTells_holds (fun _ h => by cases h) (by kernel_rfl) (fun _ h => by cases h) levelTells_row_tie rfl ⟨rfl, rfl⟩ (by kernel_rfl) rfl
    (fun f fn hf hfn => by
      obtain rfl : f = 3 := Option.some.inj ((show Tryd.prog.funcNamed "exchequer/exchequerlaw15.LevelTells" = some 3 by kernel_rfl).symm.trans hf) |>.symm
      obtain rfl : fn = Tryd.f3 := (Option.some.inj (Tryd.func3.symm.trans hfn)).symm
      exact ⟨by kernel_rfl, fun j t ht => by
        rw [Tryd.params3] at ht
        have hm : t ∈ [22, 27, 25, 25] := by simpa using Array.mem_of_getElem? ht
        have hall : ([22, 27, 25, 25].all fun u => !Tryd.prog.wantsStandIn u) = true := by kernel_rfl
        exact (show Tryd.prog.wantsStandIn t = false by simpa using List.all_eq_true.1 hall t hm)⟩)
    (by kernel_rfl)
#print axioms levelTells_card
end Go.Proofs.YtcjapldhfolpnaaDoor
