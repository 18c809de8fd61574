/-
  Walks, not a claim by itself: the cursor's lay128. By the verifier.
-/
import Derived.Test.YtlcnhmlcmedonaaLayW
namespace Go.Proofs.Ytlcnhmlcmedonaa
open Go.RowKit
/-- u128.Bytes, its bytes under letters. -/
theorem bytes_let (h l : Int) (w : World) (h1 : Word h) (h2 : Word l) :
    Calls Try.prog 45 #[U h l] w fun e w' => ∃ b0 b1 b2 b3 b4 b5 b6 b7 b8 b9 b10 b11 b12 b13 b14 b15 : Int, e = .returned (.agg #[.int .u8 b0, .int .u8 b1, .int .u8 b2, .int .u8 b3, .int .u8 b4, .int .u8 b5, .int .u8 b6, .int .u8 b7, .int .u8 b8, .int .u8 b9, .int .u8 b10, .int .u8 b11, .int .u8 b12, .int .u8 b13, .int .u8 b14, .int .u8 b15]) ∧ Hid ([.int .u8 b0, .int .u8 b1, .int .u8 b2, .int .u8 b3, .int .u8 b4, .int .u8 b5, .int .u8 b6, .int .u8 b7, .int .u8 b8, .int .u8 b9, .int .u8 b10, .int .u8 b11, .int .u8 b12, .int .u8 b13, .int .u8 b14, .int .u8 b15] = cells16 h l) ∧ Below w.heap.size w w' := by
  refine (bytes_any h l w h1 h2).mono ?_
  rintro e w' ⟨rfl, hb⟩
  refine ⟨_, _, _, _, _, _, _, _, _, _, _, _, _, _, _, _, rfl, ?_, hb⟩
  have := cells16_eq h l h1 h2
  rw [BytesOf] at this
  injection this with this
  have := congrArg Array.toList this
  exact this
theorem fresh16 (u : World) (T : TypeId) (cs : List Value) (j : Nat) (v : Value) (hj : cs[j]? = some v) : (u.alloc (.cells cs.toArray T)).cell? ⟨u.heap.size, j, none⟩ = some v := by
  rw [World.cell?_alloc_at _ _ _ _ rfl]
  simpa using hj
theorem one16 (h l : Int) : ∀ v ∈ cells16 h l, v.oneCell' = true := by
  intro v hv
  unfold cells16 at hv
  rw [List.mem_map] at hv
  obtain ⟨j, _, rfl⟩ := hv
  rfl
theorem len16 (h l : Int) : (cells16 h l).length = 16 := by simp [cells16]
theorem Row.wide {u : World} {b N off : Nat} {f : Nat → Int} (r : Row u b N f) (h l : Int) (ho : off + 16 ≤ N) : Row (u.setCells b off (cells16 h l)) b N (lay f off 16 (wide h l)) := by
  refine ⟨fun j hj => ?_, fun j => by rw [World.frozen?_setCells]; exact r.2.1 j, by exact Nat.lt_of_lt_of_le r.2.2 (But.cells _ _ _).size⟩
  unfold lay
  by_cases h1 : j < off
  · rw [if_pos h1, World.cell?_setCells_out b _ _ _ _ (fun _ _ => .inl h1)]
    exact r.1 j hj
  · rw [if_neg h1]
    by_cases h2 : j < off + 16
    · rw [if_pos h2]
      have := World.cell?_setCells_in b (cells16 h l) off u (fun i hi => by rw [r.1 (off + i) (by rw [len16] at hi; omega)]; rfl) (j - off) (by rw [len16]; omega)
      rw [show off + (j - off) = j by omega] at this
      rw [this]
      have e := cells16_at h l (j - off) _ (List.getElem?_eq_getElem (by rw [len16]; omega))
      rw [e]
    · rw [if_neg h2, World.cell?_setCells_out b _ _ _ _ (fun _ _ => .inr (by rw [len16]; show off + 16 ≤ j; omega))]
      exact r.1 j hj

theorem copy16 (W : World) (b N off L n : Nat) (f : Nat → Int) (h l : Int) (RW : Row W b N f) (NN : off + L = N) (ho : 16 < L) (src : ∀ j v, (cells16 h l)[j]? = some v → W.cell? ⟨n, j, none⟩ = some v) :
    ∀ ty, (Builtin.copy_ #[31, 31] ty #[.slice (some ⟨b, off, none⟩) L L, .slice (some ⟨n, 0, none⟩) 16 16]).run Try.prog W.drew = .ok (goInt 16) (W.drew.setCells b off (cells16 h l)) := by
  intro ty
  have := run_copy_cells (P := Try.prog) W.drew 31 31 ty 5 b off L L ⟨n, 0, none⟩ 16 16 (cells16 h l) Try.underlying31 (by kernel_rfl) (by rw [len16]; exact (Nat.min_eq_left (by omega)).symm)
    (fun j v hj => by show W.cell? (Addr.add ⟨n, 0, none⟩ j) = _; rw [show Addr.add ⟨n, 0, none⟩ j = ⟨n, j, none⟩ from by simp [Addr.add]; intro e; exact e.symm]; exact src j v hj)
    (fun j hj => by rw [len16] at hj; rw [show W.drew.cell? ⟨b, off + j, none⟩ = _ from RW.1 (off + j) (by omega)]; rfl) (fun j _ => RW.2.1 _) (one16 h l)
  rw [len16] at this
  exact this

/-- A copy as one step of a region that draws, its run known. -/
theorem step_copy {P : Program} {ops : Array Oper} {o : Oper} {a : Act} {w : World} {K : Act → World → Prop} {Q : Exit → Act → World → Prop} {E : Prop}
    (hg : o.guard = none) (d x : Operand) (dT sT : TypeId) (hop : o.op = Op.call { callee := Callee.builtin Builtin.copy, args := #[d, x], argTypes := #[dT, sT] })
    (v u : Value) (hd : a.eval d = v) (hx : a.eval x = u) {v' : Value} {w' : World} (hr : (Builtin.copy_ #[dT, sT] o.type #[v, u]).run P w = .ok v' w') (hK : K (a.put o.dst v') w') :
    if Region.wanted o (yielded ops a.tmps) = true then Oper.wp P o a w K Q else E := by
  have hw : Region.wanted o (yielded ops a.tmps) = true := by simp [Region.wanted, hg]
  rw [if_pos hw]
  unfold Oper.wp
  simp [execOp, hop, resolve, invoke, builtin, hd, hx, hr, Result.andThen]
  exact hK

set_option maxRecDepth 100000 in
set_option maxHeartbeats 1000000 in
theorem lay128_mid (b N off L : Nat) (f : Nat → Int) (h l : Int) (w : World) (h1 : Word h) (h2 : Word l) (hr : Row w b N f) (hN : off + L = N) (ho : 16 < L) :
    Calls Try.prog 28 #[.agg #[.slice (some ⟨b, off, none⟩) L L], U h l] w fun e w' => e = .returned (.agg #[.slice (some ⟨b, off + 16, none⟩) (L - 16) (L - 16)]) ∧ Row w' b N (lay f off 16 (wide h l)) ∧ But b w w' := by
  have RR : Hid (Row w b N f) := hr
  have hb := hr.2.2
  have NN : Hid (off + L = N) := hN
  clear hr hN
  have nl : (16 : Int) ≤ L := by omega
  have nl' : ¬ L = 16 := by omega
  go_enter Try.func28, Try.ntmps28
  go_wp2_with fail
  refine (bytes_let h l _ h1 h2).mono ?_
  rintro e w1 ⟨b0, b1, b2, b3, b4, b5, b6, b7, b8, b9, b10, b11, b12, b13, b14, b15, rfl, hs, hB⟩
  go_wp2_with fail
  obtain ⟨W, hW⟩ : ∃ W, w1.alloc (.cells #[.int .u8 b0, .int .u8 b1, .int .u8 b2, .int .u8 b3, .int .u8 b4, .int .u8 b5, .int .u8 b6, .int .u8 b7, .int .u8 b8, .int .u8 b9, .int .u8 b10, .int .u8 b11, .int .u8 b12, .int .u8 b13, .int .u8 b14, .int .u8 b15] 74) = W := ⟨_, rfl⟩
  rw [hW]
  have B0 : But b w w1 := ((((But.refl _ _).alloc _).alloc _).alloc _).trans (But.of hB)
  have BW : Hid (But b w W) := by rw [← hW]; exact B0.alloc _
  have RW : Row W b N f := by
    rw [← hW]
    exact ((((RR.out.alloc _).alloc _).alloc _).below hB).alloc _
  have z1 : w.heap.size + 3 ≤ w1.heap.size := by have := hB.size; simp at this; omega
  have hA : Below w1.heap.size w1 W := by rw [← hW]; exact (Below.refl _ _).alloc (Nat.le_refl _) _
  have c0 : W.cell? ⟨w.heap.size, 0, none⟩ = some (.slice (some ⟨b, off, none⟩) L L) := ((hA.cell (p := ⟨w.heap.size, 0, none⟩) (by show w.heap.size < _; omega)).trans (hB.cell (p := ⟨w.heap.size, 0, none⟩) (by simp; omega))).trans (by simp [go_sem])
  have c2 : W.cell? ⟨w.heap.size + 2, 0, none⟩ = some (.slice none 0 0) := ((hA.cell (p := ⟨w.heap.size + 2, 0, none⟩) (by show w.heap.size + 2 < _; omega)).trans (hB.cell (p := ⟨w.heap.size + 2, 0, none⟩) (by simp))).trans (by simp [go_sem])
  have f2 : W.frozen? ⟨w.heap.size + 2, 0, none⟩ = false := ((hA.frozen (p := ⟨w.heap.size + 2, 0, none⟩) (by show w.heap.size + 2 < _; omega)).trans (hB.frozen (p := ⟨w.heap.size + 2, 0, none⟩) (by simp))).trans (by simp [go_sem])
  have src : ∀ j v, (cells16 h l)[j]? = some v → W.cell? ⟨w1.heap.size, j, none⟩ = some v := by
    intro j v hj
    rw [← hs.out] at hj
    rw [← hW]
    exact fresh16 w1 _ _ j v hj
  have hcopy := copy16 W b N off L w1.heap.size f h l RW NN.out ho src
  have R2 : Hid (Row (W.drew.setCells b off (cells16 h l)) b N (lay f off 16 (wide h l))) := RW.drew.wide h l (by have := NN.out; omega)
  have B2 : Hid (But b W (W.drew.setCells b off (cells16 h l))) := (But.refl b W).drew.trans (But.cells _ _ _)
  have zW : w.heap.size + 3 ≤ W.heap.size := by have := hA.size; omega
  obtain ⟨W2, hW2⟩ : ∃ W2, W.drew.setCells b off (cells16 h l) = W2 := ⟨_, rfl⟩
  rw [hW2] at hcopy R2 B2
  have d0 : W2.cell? ⟨w.heap.size, 0, none⟩ = some (.slice (some ⟨b, off, none⟩) L L) := (B2.out.cell (p := ⟨w.heap.size, 0, none⟩) (by show w.heap.size < _; omega) (by show w.heap.size ≠ b; omega)).trans c0
  have d2 : W2.cell? ⟨w.heap.size + 2, 0, none⟩ = some (.slice none 0 0) := (B2.out.cell (p := ⟨w.heap.size + 2, 0, none⟩) (by show w.heap.size + 2 < _; omega) (by show w.heap.size + 2 ≠ b; omega)).trans c2
  have g2 : W2.frozen? ⟨w.heap.size + 2, 0, none⟩ = false := (B2.out.frozen (p := ⟨w.heap.size + 2, 0, none⟩) (by show w.heap.size + 2 < _; omega) (by show w.heap.size + 2 ≠ b; omega)).trans f2
  clear src RW hA hW hB B0 hs hW2 c2 f2
  go_region_held3 (fun w' => w'.cell? ⟨w.heap.size, 0, none⟩ = some (.slice (some ⟨b, off, none⟩) L L)) (first | exact d0 | exact c0) (refine step_copy rfl (.tmp 9) (.tmp 10) 31 31 rfl _ _ rfl rfl (hcopy _) ?_)
  go_wp2_with fail
  refine bodyPost_ret (v := .agg #[.slice (some ⟨b, off + 16, none⟩) (L - 16) (L - 16)]) (by simp [results, Try.results28, go_sem, d2]) rfl ⟨rfl, ?_, ?_⟩
  · exact R2.out.but (But.set _ 0 _) (by omega)
  · exact (BW.out.trans B2.out).put (.inr (by show w.heap.size ≤ w.heap.size + 2; omega)) _
end Go.Proofs.Ytlcnhmlcmedonaa
