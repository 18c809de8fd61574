/-
  Walks, not a claim by itself: superblock's find. By the verifier.
-/
import Derived.Test.YtigpnngjfgbaeaaSFnd0
import Derived.Test.YtigpnngjfgbaeaaDWr1
namespace Go.Proofs.Ytigpnngjfgbaeaa
open Go.RowKit Go.Maps Go.Shelf
set_option maxRecDepth 100000 in
set_option maxHeartbeats 400000 in
theorem find_er (W : World) (p : Option Addr) (c : Int) (hc : c ≠ 0) (h : ∀ u, Below W.heap.size W u → Calls Try.prog 31 #[.pointer p, .int .i64 0, .int .i64 8] u fun e w' => e = .returned (.tuple #[.slice none 0 0, .int .i64 c]) ∧ w' = u) :
    Calls Try.prog 46 #[.pointer p] W fun e w' => e = .returned (.tuple #[.agg fnd0.toArray, .int .i64 c]) ∧ Below W.heap.size W w' := by
  have RC : Hid (∀ u, Below W.heap.size W u → Calls Try.prog 50 #[.pointer p] u fun e w' => e = .returned (.tuple #[.slice none 0 0, .int .i64 c]) ∧ w' = u) := fun u hu => rc_er u p c (h u hu)
  have c1 : (c != 0) = true := by simpa using hc
  clear h hc
  go_enter Try.func46, Try.ntmps46
  go_wp2_with (first
    | (refine wpList_alloc_rec rfl 87 rfl fnd0 W.heap.size rfl zero_found ?_; intro W0 R0 B0 z0)
    | (go_at_call 50; refine (RC.out _ B0).mono ?_; rintro e w1 ⟨rfl, rfl⟩)
    | (refine wpList_build_to rfl 87 _ rfl fnd0.toArray (by kernel_rfl) ?_)
    | (refine wpList_store_rec rfl 87 (.tmp 2) (.tmp 21) rfl W.heap.size 0 _ fnd0 rfl rfl R0 rfl (by rw [show fnd0.length = 524 from fndC_len _ _ _ _ _]; exact info_found) (fndC_one _ _ _ _ _ rfl) ?_; intro W9 R9 B9))
  have hl := R9.run_load 87 _ Try.underlying87 rfl (by rw [show fnd0.length = 524 from fndC_len _ _ _ _ _]; exact info_found)
  refine bodyPost_ret (v := .tuple #[.agg fnd0.toArray, .int .i64 c]) (by simp [results, Try.results46, asAddr, hl]) rfl ⟨rfl, ?_⟩
  exact B0.trans (B9.below (Nat.le_refl _) (by omega))
theorem lookup_run {a : Act} {w : World} {o : Oper} (t : TypeId) (m x : Operand) (hop : o.op = .lookup t m x false) (M X : Value) (hm : a.eval m = M) (hx : a.eval x = X) {v : Value} (hr : (Instr.lookup t M X false).run Try.prog w = .ok v w) : (execOp a.eval o).run Try.prog w = .ok (.value v) w := by
  simp [execOp, hop, hm, hx, hr, Result.andThen]
theorem entry_run {a : Act} {w w' : World} {o : Oper} (t : TypeId) (m x : Operand) (hop : o.op = .mapEntry t m x) (M X : Value) (hm : a.eval m = M) (hx : a.eval x = X) {v : Value} (hr : (Instr.mapEntry t M X).run Try.prog w = .ok v w') : (execOp a.eval o).run Try.prog w = .ok (.value v) w' := by
  simp [execOp, hop, hm, hx, hr, Result.andThen]
theorem estore_run {a : Act} {w w' : World} {o : Oper} (t : TypeId) (m x y : Operand) (hop : o.op = .entryStore t m x y) (M X Y : Value) (hm : a.eval m = M) (hx : a.eval x = X) (hy : a.eval y = Y) (hr : (Instr.entryStore t M X Y).run Try.prog w = .ok () w') : (execOp a.eval o).run Try.prog w = .ok .skip w' := by
  simp [execOp, hop, hm, hx, hy, hr, Result.andThen]
/-- While votes are counted. -/
def vI (V0 : World) (mv : Nat) (G : Nat → Int) (k : Nat) (X : World) : Prop := Off [mv] V0 X ∧ VotesOk X mv G k
theorem row_off {B : Nat} {X Y : World} {row : Option Nat} (hg : X.grownBy Y row) (hr : ∀ r, row = some r → B ≤ r ∧ ∃ o : Obj, X.heap[r]? = some o ∧ o.isCells = false) : Off row.toList X Y ∧ ∀ b, b ∈ row.toList → B ≤ b :=
  ⟨Off.grown hg (fun r e => by rw [e]; simp), fun b hb => (hr b (fz_mem hb)).1⟩
theorem vI_own (V0 : World) (mv : Nat) (G : Nat → Int) (hm : mv < V0.heap.size) : OwnFrom V0.heap.size (vI V0 mv G) := by
  rintro k X Y row ⟨h1, h2⟩ hg hr
  obtain ⟨O, hb⟩ := row_off hg hr
  exact ⟨h1.far O (fun b q => .inr (hb b q)), h2.off O (fun q => by have := hb _ q; omega)⟩
def cntS (mv c : Nat) (f : Nat → Int) (X : World) : Prop := X.cell? ⟨mv + 1, 0, none⟩ = some (.map (some mv)) ∧ X.rangeAt c 0 (cl .u8 512 f)
/-- What a round of counting has. -/
theorem vote_round (V0 X X2 X3 : World) (mv k l : Nat) (G : Nat → Int) (hk : k < 4) (hc6 : V0.cell? ⟨mv + 1, 0, none⟩ = some (.map (some mv))) (hz : mv + 1 < V0.heap.size) (hG : ∀ j, j < 2048 → 0 ≤ G j ∧ G j < 256) (hI : vI V0 mv G k X) (hl : V0.heap.size ≤ l) (hlX : l < X.heap.size)
    (R2 : Rec19 X2 X.heap.size 0 (cl .u8 512 (cp G k))) (B2 : Below X.heap.size X X2) (hB3 : But l X2 X3) :
    ∃ (v0 : Value) (st : Nat) (w1 w3 : World), (Instr.lookup 113 (.map (some mv)) (imgV (cp G k)) false).run Try.prog X3.drew = .ok (.int .i64 ((cnt G (cp G k) k : Nat) : Int)) X3.drew ∧
      (Instr.mapEntry 113 (.map (some mv)) (imgV (cp G k))).run Try.prog X3.drew = .ok (.tuple #[v0, goInt st]) w1 ∧
      (Instr.lookup 113 (.map (some mv)) (imgV (cp G k)) false).run Try.prog w1 = .ok (.int .i64 ((cnt G (cp G k) k : Nat) : Int)) w1 ∧
      (Instr.entryStore 113 (.map (some mv)) (goInt st) (.int .i64 ((cnt G (cp G k) k : Nat) + 1 : Int))).run Try.prog w1 = .ok () w3 ∧
      cntS mv X.heap.size (cp G k) X3.drew ∧ cntS mv X.heap.size (cp G k) w1 ∧ cntS mv X.heap.size (cp G k) w3 ∧ KeepsFrom V0.heap.size X3 w3 ∧ vI V0 mv G (k + 1) w3 := by
  obtain ⟨h1, h2⟩ := hI
  have o2 : Off [mv] V0 X2 := h1.trans (Off.of B2)
  have o3 : Off [mv] V0 X3 := o2.far (Off.but hB3 (List.mem_singleton.2 rfl)) (fun b q => by rw [List.mem_singleton] at q; exact .inr (by omega))
  have v3 : VotesOk X3.drew mv G k := ((h2.off (Off.of (bs := []) B2) (by simp)).off (bs := [l]) (Off.but hB3 (by simp)) (by have := hz; simp; omega)).off (bs := []) (Off.of (Below.refl _ _).drew) (by simp)
  obtain ⟨v0, st, w1, w3, e1, e2, e3, e4, g1, g3⟩ := v3.bump (fun j hj => hG _ (by omega)) hk
  have ow1 : Off [mv] X3.drew w1 := Off.grown g1 (fun r e => by injection e with e; simp [e])
  have ow3 : Off [mv] X3.drew w3 := Off.grown g3 (fun r e => by injection e with e; simp [e])
  have c3 : X3.drew.cell? ⟨mv + 1, 0, none⟩ = some (.map (some mv)) := (o3.cell (p := ⟨mv + 1, 0, none⟩) hz (by simp)).trans hc6
  have sz3 : mv + 1 < X3.drew.heap.size := Nat.lt_of_lt_of_le hz o3.size
  have r3 : Rec19 X3.drew X.heap.size 0 (cl .u8 512 (cp G k)) := (R2.but hB3 (by omega)).below (Below.refl _ _).drew
  have nmv : X.heap.size ≠ mv := by have := h2.lt; omega
  refine ⟨v0, st, w1, w3, v3.look (fun j hj => hG _ (by omega)), e1, e2, e3, ⟨c3, r3.1⟩, ⟨(ow1.cell (p := ⟨mv + 1, 0, none⟩) sz3 (by simp)).trans c3, (r3.off ow1 (by simpa using nmv)).1⟩, ⟨(ow3.cell (p := ⟨mv + 1, 0, none⟩) sz3 (by simp)).trans c3, (r3.off ow3 (by simpa using nmv)).1⟩, ?_, (o3.trans (Off.of (Below.refl _ _).drew)).trans ow3, e4⟩
  have := keeps_off (B := V0.heap.size) ow3 (by simp; omega)
  exact ⟨this.size, this.same⟩
theorem build_run1 {a : Act} {w : World} {o : Oper} (t : TypeId) (parts : Array (Nat × Operand)) (ho : o.op = .build t parts) (cells : Array Value) (hf : Try.prog.built t (parts.map fun (i, x) => (i, a.eval x)).toList = some cells) :
    (execOp a.eval o).run Try.prog w = .ok (.value (.agg cells)) w := by
  unfold execOp
  simp only [ho, Sem.run_bind, run_build w t _ cells hf, Result.andThen_ok]
  rfl
theorem keeps_below {B : Nat} {W W' : World} (h : Below W.heap.size W W') : KeepsFrom B W W' := ⟨h.size, fun k _ _ ho _ => (h.block k (Array.getElem?_eq_some_iff.1 ho).1).trans ho⟩
theorem keeps_but {B b : Nat} {W W' : World} (h : But b W W') (hb : b < B) : KeepsFrom B W W' := ⟨h.size, fun k _ hk ho _ => (h.block k (Array.getElem?_eq_some_iff.1 ho).1 (by omega)).trans ho⟩
/-- While the open copy is looked for. -/
def pI (V2 : World) (f9 : Nat) (v : Value) (G : Nat → Int) (k : Nat) (X : World) : Prop := Off [f9] V2 X ∧ FndAt X f9 v G (best G k) V2.heap.size
theorem pI_own (V2 : World) (f9 : Nat) (v : Value) (G : Nat → Int) (hf : f9 < V2.heap.size) : OwnFrom V2.heap.size (pI V2 f9 v G) := by
  rintro k X Y row ⟨h1, a, C, h2, h3, h4, h5⟩ hg hr
  obtain ⟨O, hb⟩ := row_off hg hr
  refine ⟨h1.far O (fun b q => .inr (hb b q)), a, C, h2.off O (fun q => by have := hb _ q; omega), ?_, h4, h5⟩
  rcases h3 with e | ⟨x, off, rfl, hc, hx⟩
  · exact .inl e
  · exact .inr ⟨x, off, rfl, fun j hj => cell_kept (hc j hj) hg (fun r e => (hr r e).2), Nat.lt_of_lt_of_le hx O.size⟩
/-- What a round of looking has. -/
structure PickS (V2 X3 : World) (f9 mv c k : Nat) (v : Value) (G : Nat → Int) : Prop where
  map : X3.cell? ⟨mv + 1, 0, none⟩ = some (.map (some mv))
  rng : X3.rangeAt c 0 (cl .u8 512 (cp G k))
  lies : Lies X3 c 0 512 (cp G k)
  look : (Instr.lookup 113 (.map (some mv)) (.agg (cl .u8 512 (cp G k)).toArray) false).run Try.prog X3 = .ok (.int .i64 ((votes G k : Nat) : Int)) X3
  inv : Off [f9] V2 X3 ∧ FndAt X3 f9 v G (best G k) V2.heap.size
  nc : c ≠ f9
  lc : c < X3.heap.size
theorem pick_round (V2 X X2 X3 : World) (f9 mv k l : Nat) (v : Value) (G : Nat → Int) (hk : k < 4) (hf : f9 < V2.heap.size) (hm : mv + 1 < f9) (hc6 : V2.cell? ⟨mv + 1, 0, none⟩ = some (.map (some mv))) (hv : VotesOk V2 mv G 4) (hG : ∀ j, j < 2048 → 0 ≤ G j ∧ G j < 256) (hI : pI V2 f9 v G k X) (hl : V2.heap.size ≤ l) (hlX : l < X.heap.size) (hlo : ∃ r, X.heap[l]? = some (.loop r))
    (R2 : Rec19 X2 X.heap.size 0 (cl .u8 512 (cp G k))) (B2 : Below X.heap.size X X2) (hB3 : But l X2 X3) : PickS V2 X3 f9 mv X.heap.size k v G := by
  obtain ⟨h1, a, C, h2, h3, h4, h5⟩ := hI
  have o2 : Off [f9] V2 X2 := h1.trans (Off.of B2)
  have o3 : Off [f9] V2 X3 := o2.far (Off.but hB3 (List.mem_singleton.2 rfl)) (fun b q => by rw [List.mem_singleton] at q; exact .inr (by omega))
  have r3 : Rec19 X3 X.heap.size 0 (cl .u8 512 (cp G k)) := R2.but hB3 (by omega)
  have bb : ∀ j, j < 512 → 0 ≤ cp G k j ∧ cp G k j < 256 := fun j hj => hG _ (by omega)
  refine ⟨(o3.cell (p := ⟨mv + 1, 0, none⟩) (by show mv + 1 < V2.heap.size; omega) (by simp; omega)).trans hc6, r3.1, ⟨fun j hj => ?_, bb, r3.2.2⟩, (hv.off o3 (by simp; omega)).look bb, ⟨o3, a, C, (h2.below B2).but hB3 (by omega), ?_, h4, h5⟩, by have := h2.2.2; omega, r3.2.2⟩
  · have := r3.1 j _ (cl_at .u8 512 (cp G k) j hj)
    exact this
  · rcases h3 with e | ⟨x, off, rfl, hc, hx⟩
    · exact .inl e
    · by_cases k0 : (sB G (best G k)).k = 0
      · exact .inl k0
      · have xl : x ≠ l := fun e => by
          obtain ⟨r, hr⟩ := hlo
          obtain ⟨o, ho, hoc⟩ := cells_of_cell (hc 0 (by omega))
          have ho' : X.heap[x]? = some o := ho
          rw [e, hr] at ho'
          injection ho' with ho'
          rw [← ho'] at hoc
          cases hoc
        exact .inr ⟨x, off, rfl, fun j hj => (hB3.cell (p := ⟨x, off + j, none⟩) (Nat.lt_of_lt_of_le hx B2.size) xl).trans ((B2.cell (p := ⟨x, off + j, none⟩) hx).trans (hc j hj)), Nat.lt_of_lt_of_le (Nat.lt_of_lt_of_le hx B2.size) hB3.size⟩
theorem best_same {G : Nat → Int} {k : Nat} (h : ¬ (2 ≤ votes G k ∧ Whole (cp G k) ∧ seqB G (best G k) < seqO G k)) : best G (k + 1) = best G k := by rw [best_succ, if_neg h]
theorem best_new {G : Nat → Int} {k : Nat} (h : 2 ≤ votes G k ∧ Whole (cp G k) ∧ seqB G (best G k) < seqO G k) : best G (k + 1) = some k := by rw [best_succ, if_pos h]
/-- What stays, stays. -/
theorem PickS.stay {V2 X3 Y : World} {f9 mv c k : Nat} {v : Value} {G : Nat → Int} (h : PickS V2 X3 f9 mv c k v G) (hB : Below X3.heap.size X3 Y) (hb : ¬ (2 ≤ votes G k ∧ Whole (cp G k) ∧ seqB G (best G k) < seqO G k)) : KeepsFrom V2.heap.size X3 Y ∧ pI V2 f9 v G (k + 1) Y := by
  refine ⟨keeps_below hB, h.inv.1.trans (Off.of hB), ?_⟩
  rw [best_same hb]
  exact h.inv.2.off (bs := []) (Off.of hB) (by simp) (by simp)
/-- Two stores into what is found. -/
theorem pick_store {W : World} {f9 : Nat} {v : Value} {f f' : Nat → Int} {s s' : Sup} {a a' : Option Addr} {C C' : Nat} (h : Rec19 W f9 0 (fndC v f s a C)) :
    Rec19 W f9 1 (cl .u8 512 f) ∧ Rec19 (W.setCells f9 1 (cl .u8 512 f')) f9 513 (supC s a C) ∧ Rec19 ((W.setCells f9 1 (cl .u8 512 f')).setCells f9 513 (supC s' a' C')) f9 0 (fndC v f' s' a' C') ∧ But f9 W ((W.setCells f9 1 (cl .u8 512 f')).setCells f9 513 (supC s' a' C')) := by
  have l1 : ([v] ++ cl .u8 512 f').length = 513 := by rw [List.length_append, cl_len]; rfl
  have h0 : Rec19 W f9 0 ([v] ++ cl .u8 512 f ++ supC s a C) := h
  have h1 : Rec19 (W.setCells f9 1 (cl .u8 512 f')) f9 0 ([v] ++ cl .u8 512 f' ++ supC s a C) := h0.subStore (cl .u8 512 f') (by rw [cl_len, cl_len])
  have h1' : Rec19 (W.setCells f9 1 (cl .u8 512 f')) f9 0 (([v] ++ cl .u8 512 f') ++ supC s a C ++ []) := by rw [List.append_nil]; exact h1
  have h2 := h1'.sub
  have h3 := h1'.subStore (supC s' a' C') rfl
  rw [l1] at h2 h3
  rw [List.append_nil] at h3
  exact ⟨h0.sub, h2, h3, (But.cells _ _ _).trans (But.cells _ _ _)⟩
/-- The copy is open from then on. -/
theorem PickS.take {V2 X3 Y : World} {f9 mv c k : Nat} {v : Value} {G : Nat → Int} (h : PickS V2 X3 f9 mv c k v G) (hB : Below X3.heap.size X3 Y) (hb : 2 ≤ votes G k ∧ Whole (cp G k) ∧ seqB G (best G k) < seqO G k) (a' : Option Addr) (C' : Nat) (hA : HArg Y a' (supOf (behO (cp G k))).k (supOf (behO (cp G k))).h) (hC : (supOf (behO (cp G k))).k ≤ C') (hr : ∀ r, a' = some r → X3.heap.size ≤ r.block) (hf : f9 < V2.heap.size) :
    KeepsFrom V2.heap.size X3 ((Y.setCells f9 1 (cl .u8 512 (cp G k))).setCells f9 513 (supC (supOf (behO (cp G k))) a' C')) ∧ pI V2 f9 v G (k + 1) ((Y.setCells f9 1 (cl .u8 512 (cp G k))).setCells f9 513 (supC (supOf (behO (cp G k))) a' C')) := by
  obtain ⟨o3, a, C, h2, _, _, _⟩ := h.inv
  obtain ⟨_, _, q3, q4⟩ := pick_store (f' := cp G k) (s' := supOf (behO (cp G k))) (a' := a') (C' := C') (h2.below hB)
  have fl : f9 < X3.heap.size := h2.2.2
  refine ⟨(keeps_below hB).trans (keeps_but q4 hf), (o3.trans (Off.of hB)).trans (Off.but q4 (by simp)), ?_⟩
  rw [best_new hb]
  refine ⟨a', C', q3, hA.off (Off.but (bs := [f9]) q4 (by simp)) (fun r e => by have := hr r e; simp; omega), hC, fun r e => ?_⟩
  have := hr r e
  have := o3.size
  omega
theorem FndAt.seq {W : World} {f9 : Nat} {v : Value} {G : Nat → Int} {b : Option Nat} {w0 : Nat} (h : FndAt W f9 v G b w0) : W.cell? ⟨f9, 513, none⟩ = some (.int .i64 (seqB G b)) := by
  obtain ⟨a, C, h1, _⟩ := h
  have h1' : Rec19 W f9 0 (([v] ++ cl .u8 512 (oF G b)) ++ supC (sB G b) a C ++ []) := by rw [List.append_nil]; exact h1
  have h2 := h1'.sub
  rw [show ([v] ++ cl .u8 512 (oF G b)).length = 513 by rw [List.length_append, cl_len]; rfl] at h2
  have := h2.1 0 (.int .i64 ((sB G b).x 0)) rfl
  rw [sB_seq] at this
  exact this
theorem range_but {W W' : World} {b c off : Nat} {cs : List Value} (h : W.rangeAt b off cs) (hB : But c W W') (hb : b < W.heap.size) (hn : b ≠ c) : W'.rangeAt b off cs := fun j v hj => (hB.cell (p := ⟨b, off + j, none⟩) hb hn).trans (h j v hj)
theorem range_below {W W' : World} {b off : Nat} {cs : List Value} (h : W.rangeAt b off cs) (hB : Below W.heap.size W W') (hb : b < W.heap.size) : W'.rangeAt b off cs := fun j v hj => (hB.cell (p := ⟨b, off + j, none⟩) hb).trans (h j v hj)
theorem HArg.put {W : World} {a : Option Addr} {k : Nat} {h : Nat → Int} (hA : HArg W a k h) {l : Nat} {o : Obj} (o' : Obj) (hl : W.heap[l]? = some o) (ho : o.isCells = false) : HArg (W.putObj l o') a k h := by
  rcases hA with e | ⟨x, off, rfl, hc, hx⟩
  · exact .inl e
  · exact .inr ⟨x, off, rfl, fun j hj => cell_kept (hc j hj) (grownBy_putObj' W l o') (fun r e => by injection e with e; subst e; exact ⟨o, hl, ho⟩), by simp [World.putObj]; exact hx⟩
def pickS (c sb : Nat) (f : Nat → Int) (s : Sup) (a : Option Addr) (C : Nat) (X : World) : Prop := X.rangeAt c 0 (cl .u8 512 f) ∧ X.rangeAt sb 0 (supC s a C)
attribute [local go_sem] Oper.semAt_some
set_option maxRecDepth 100000 in
set_option maxHeartbeats 1000000 in
theorem find_go (W : World) (d s m : Nat) (D : Dsk) (l : Int) (o : Bool) (h : DiskAt W d s m D) (hf : FuseIs W D.fz l o) (hu : D.up o = true) (hn : 8 ≤ D.N) : Calls Try.prog 46 #[.pointer (some ⟨d, 0, none⟩)] W (FindPost W D.sec) := by
  have RC : Hid (∀ u, Below W.heap.size W u → Calls Try.prog 50 #[.pointer (some ⟨d, 0, none⟩)] u (RcPost u D.sec)) := fun u hB => rc_ok u d s m D l o (h.below hB) (hf.below hB) hu hn
  have GB : Hid (∀ j, j < 2048 → 0 ≤ D.sec j ∧ D.sec j < 256) := fun j hj => h.sb j (by omega)
  obtain ⟨G, hG⟩ : ∃ G, D.sec = G := ⟨_, rfl⟩
  rw [hG] at RC GB ⊢
  clear h hf hu hG
  refine (callsIn_wide (n := 5)).1 ?_
  refine callsIn_of_wp_marks Try.func46 rfl trivial ?_ rfl
  simp only [Try.ntmps46, List.size_toArray, List.length_cons, List.length_nil, Nat.reduceAdd, Nat.reduceSub, Array.replicate_succ, Array.replicate_zero, List.push_toArray, List.append_toArray, List.nil_append, List.cons_append]
  have hmm := fun w => run_makeMap (P := Try.prog) 113 w
  gi_wp2_with (refine wpListIn_alloc_rec rfl 87 rfl fnd0 zero_found ?_; intro W0 R0 B0 z0 _)
  refine ⟨trivial, ?_⟩
  refine CallsIn.mono ((callsIn_wide (n := _)).2 (RC.out _ B0)) ?_
  rintro e w1 ⟨g, rfl, hg, R1, B1⟩
  gi_wp2
  refine ⟨trivial, ?_⟩
  refine CallsIn.mono (copies_in _ _ trivial rfl _ _ _ _) ?_
  rintro e w2 ⟨rfl, hw2⟩
  gi_wp2
  have F1 : (((w1.alloc (.map #[] 0)).alloc (.cells #[.map (some w1.heap.size)] 113)).alloc (.cells #[.slice (some ⟨g, 0, none⟩) 2048 2048] 27)).cell? ⟨w1.heap.size + 1, 0, none⟩ = some (.map (some w1.heap.size)) := by simp [go_sem]
  have F2 : CopMem (w1.heap.size + 1 + 1) g G (((w1.alloc (.map #[] 0)).alloc (.cells #[.map (some w1.heap.size)] 113)).alloc (.cells #[.slice (some ⟨g, 0, none⟩) 2048 2048] 27)) := ⟨by simp [go_sem], (((R1.lies GB.out).alloc _).alloc _).alloc _⟩
  have F3 : VotesOk (((w1.alloc (.map #[] 0)).alloc (.cells #[.map (some w1.heap.size)] 113)).alloc (.cells #[.slice (some ⟨g, 0, none⟩) 2048 2048] 27)) w1.heap.size G 0 := ((VotesOk.new w1 G).off (bs := []) (Off.of ((Below.refl _ _).alloc (Nat.le_refl _) _)) (by simp)).off (bs := []) (Off.of ((Below.refl _ _).alloc (Nat.le_refl _) _)) (by simp)
  have F4 : Below w1.heap.size w1 (((w1.alloc (.map #[] 0)).alloc (.cells #[.map (some w1.heap.size)] 113)).alloc (.cells #[.slice (some ⟨g, 0, none⟩) 2048 2048] 27)) := (((Below.refl _ _).alloc (Nat.le_refl _) _).alloc (by simp) _).alloc (by simp; omega) _
  have F5 : (((w1.alloc (.map #[] 0)).alloc (.cells #[.map (some w1.heap.size)] 113)).alloc (.cells #[.slice (some ⟨g, 0, none⟩) 2048 2048] 27)).heap.size = w1.heap.size + 3 := by simp
  generalize (((w1.alloc (.map #[] 0)).alloc (.cells #[.map (some w1.heap.size)] 113)).alloc (.cells #[.slice (some ⟨g, 0, none⟩) 2048 2048] 27)) = V0 at hw2 F1 F2 F3 F4 F5 ⊢
  clear hw2 hmm RC
  have gl := R1.2.2
  obtain ⟨mv, hmv⟩ : ∃ mv, w1.heap.size = mv := ⟨_, rfl⟩
  rw [hmv] at F1 F2 F3 F4 F5 gl ⊢
  have hM : ∀ k X, vI V0 mv G k X → CopMem (mv + 1 + 1) g G X := fun k X hX => ⟨(hX.1.cell (p := ⟨mv + 1 + 1, 0, none⟩) (by show mv + 1 + 1 < V0.heap.size; omega) (by simp; omega)).trans F2.1, F2.2.off hX.1 (by simp; omega)⟩
  refine range_copies (m := 5) 26 27 (by omega) (mv + 1 + 1) g G rfl (vI V0 mv G) (fun _ _ => False) (vI_own V0 mv G (by omega)) (fun _ _ _ _ h _ _ => h) hM ⟨Off.refl _ _, F3⟩ ?_ ?_ (fun _ _ _ _ h _ => h.elim)
  · intro l k X hk hI hl1 hl2 _
    unfold imgV
    simp only [List.setIfInBounds_toArray, List.set_cons_zero, List.set_cons_succ]
    gi_wp2_with (first
      | (refine wpListIn_alloc_row rfl 85 rfl .u8 512 zero_image ?_; intro X1 R1 B1 z1 k1)
      | (refine wpListIn_store_rec rfl 85 (.tmp 8) (.tmp 27) rfl X.heap.size 0 _ (cl .u8 512 (cp G k)) rfl rfl R1.rec (by rw [cl_len, cl_len]) (by rw [cl_len]; exact info_image) (cl_one _ _ _) ?_; intro X2 R2 B2 z2 k2))
    refine ⟨(k1.trans k2).from _, fun X3 hB3 hz3 => ?_⟩
    obtain ⟨v0, st, w1', w3, e1, e2, e3, e4, s0, s1, s3, kf, iN⟩ := vote_round V0 X X2 X3 mv k l G hk F1 (by omega) GB.out hI hl1 hl2 R2 (B1.trans (B2.below (Nat.le_refl _) (by omega))) hB3
    have PP : Hid (KeepsFrom V0.heap.size X3 w3 ∧ vI V0 mv G (k + 1) w3) := ⟨kf, iN⟩
    have hc0 := cnt_le G (cp G k) k
    generalize cnt G (cp G k) k = c0 at e1 e3 e4 hc0
    have cw : IntKind.i64.wrap ((c0 : Int) + 1) = (c0 : Int) + 1 := by rw [IntKind.wrap_i64]; omega
    clear kf iN R1 B1 z1 k1 R2 B2 z2 k2 hB3 hz3 hI
    gi_wp2
    refine region_in (S := cntS mv X.heap.size (cp G k)) (by kernel_rfl) (by kernel_rfl) s0 (fun hHeld => ?_)
    refine take_at (i := 0) (v := ?_) (some 28) rfl rfl (by kernel_rfl) (by kernel_rfl) (by kernel_rfl) (fun _ _ _ h => by cases h.1) (Or.inl ⟨by rfl, ?_⟩) (by assumption) ?_
    rotate_left
    · (intro w hSw; obtain ⟨q1, q2⟩ := hSw; clear q2; go_simp; try with_reducible rfl)
    simp only [Act.put, List.setIfInBounds_toArray, List.set_cons_zero, List.set_cons_succ]
    refine take_at (i := 1) (v := _) (some 29) rfl rfl (by kernel_rfl) (by kernel_rfl) (by kernel_rfl) (fun _ _ _ h => by cases h.1) (yieldsIf_load_mid (by rfl) 85 (.tmp 8) rfl X.heap.size 0 rfl (cl .u8 512 (cp G k)) _ (fun _ h => h.2) Try.underlying85 rfl (by rw [cl_len]; kernel_rfl)) (by assumption) ?_
    simp only [Act.put, List.setIfInBounds_toArray, List.set_cons_zero, List.set_cons_succ]
    refine fork_at (i := 2) (j := 4) (by kernel_rfl) ?_ ?_
    · refine wpOp_value (i := 2) (some 30) rfl rfl (by rfl) (.int .i64 (c0 : Int)) X3.drew (lookup_run 113 (.tmp 28) (.tmp 29) rfl _ _ rfl rfl e1) ⟨s0, ?_⟩
      simp only [Act.put, List.setIfInBounds_toArray, List.set_cons_zero, List.set_cons_succ]
      refine take_at (i := 3) (v := ?_) (some 31) rfl rfl (by kernel_rfl) (by kernel_rfl) (by kernel_rfl) (fun _ _ _ h => by cases h.1) (Or.inl ⟨by rfl, ?_⟩) (by assumption) ?_
      rotate_left
      · (intro w hSw; obtain ⟨q1, q2⟩ := hSw; clear q2; go_simp; try with_reducible rfl)
      simp only [Act.put, List.setIfInBounds_toArray, List.set_cons_zero, List.set_cons_succ]
      refine step_at (i := 4) (some 32) rfl rfl (by rfl) (by kernel_rfl) (.tuple #[v0, goInt st]) w1' (entry_run 113 (.tmp 28) (.tmp 29) rfl _ _ rfl rfl e2) s1 (fun hHeld => ?_)
      simp only [Act.put, List.setIfInBounds_toArray, List.set_cons_zero, List.set_cons_succ]
      refine take_at (i := 5) (v := ?_) (some 33) rfl rfl (by kernel_rfl) (by kernel_rfl) (by kernel_rfl) (fun _ _ _ h => by cases h.1) (Or.inl ⟨by rfl, ?_⟩) (by assumption) ?_
      rotate_left
      · (intro w hSw; obtain ⟨q1, q2⟩ := hSw; clear q2; go_simp; try with_reducible rfl)
      simp only [Act.put, List.setIfInBounds_toArray, List.set_cons_zero, List.set_cons_succ]
      refine skip_at (i := 6) none rfl rfl (by rfl) (by kernel_rfl) w3 (estore_run 113 (.tmp 28) (.tmp 33) (.tmp 31) rfl _ _ _ rfl rfl rfl e4) s3 (fun hHeld => ?_)
      simp only [Act.put]
      refine wpAnyH_done (by kernel_rfl) ?_ _
      refine ⟨rfl, ?_⟩
      gi_wp2
      exact ⟨PP.out.1, PP.out.2⟩
    · refine wpOp_value (i := 4) (some 32) rfl rfl (by rfl) (.tuple #[v0, goInt st]) w1' (entry_run 113 (.tmp 28) (.tmp 29) rfl _ _ rfl rfl e2) ⟨s1, ?_⟩
      simp only [Act.put, List.setIfInBounds_toArray, List.set_cons_zero, List.set_cons_succ]
      have s1h := s1
      refine take_at (i := 5) (v := ?_) (some 33) rfl rfl (by kernel_rfl) (by kernel_rfl) (by kernel_rfl) (fun _ _ _ h => by cases h.1) (Or.inl ⟨by rfl, ?_⟩) (by assumption) ?_
      rotate_left
      · (intro w hSw; obtain ⟨q1, q2⟩ := hSw; clear q2; go_simp; try with_reducible rfl)
      simp only [Act.put, List.setIfInBounds_toArray, List.set_cons_zero, List.set_cons_succ]
      refine step_at (i := 2) (some 30) rfl rfl (by rfl) (by kernel_rfl) (.int .i64 (c0 : Int)) w1' (lookup_run 113 (.tmp 28) (.tmp 29) rfl _ _ rfl rfl e3) s1 (fun hHeld => ?_)
      simp only [Act.put, List.setIfInBounds_toArray, List.set_cons_zero, List.set_cons_succ]
      refine take_at (i := 3) (v := ?_) (some 31) rfl rfl (by kernel_rfl) (by kernel_rfl) (by kernel_rfl) (fun _ _ _ h => by cases h.1) (Or.inl ⟨by rfl, ?_⟩) (by assumption) ?_
      rotate_left
      · (intro w hSw; obtain ⟨q1, q2⟩ := hSw; clear q2; go_simp; try with_reducible rfl)
      simp only [Act.put, List.setIfInBounds_toArray, List.set_cons_zero, List.set_cons_succ]
      refine skip_at (i := 6) none rfl rfl (by rfl) (by kernel_rfl) w3 (estore_run 113 (.tmp 28) (.tmp 33) (.tmp 31) rfl _ _ _ rfl rfl rfl e4) s3 (fun hHeld => ?_)
      simp only [Act.put]
      refine wpAnyH_done (by kernel_rfl) ?_ _
      refine ⟨rfl, ?_⟩
      gi_wp2
      exact ⟨PP.out.1, PP.out.2⟩
  · intro D1 X1 hD1 hI1 hd1
    gi_wp2_with (first
      | (refine wpListIn_run rfl (by intro c hc; cases hc) (by rfl) _ (build_run1 87 _ rfl (fndC (.slice (some ⟨g, 0, none⟩) 2048 2048) (fun _ => 0) sup0 none 0).toArray (by kernel_rfl)) ?_)
      | (refine wpListIn_alloc_rec rfl 87 rfl fnd0 zero_found ?_; intro X2 R2 B2 z2 _)
      | (refine wpListIn_store_rec rfl 87 (.tmp 9) (.tmp 35) rfl X1.heap.size 0 _ (fndC (.slice (some ⟨g, 0, none⟩) 2048 2048) (fun _ => 0) sup0 none 0) rfl rfl R2 (by rw [fndC_len]; exact fndC_len _ _ _ _ _) (by rw [fndC_len]; exact info_found) (fndC_one _ _ _ _ _ rfl) ?_; intro X3 R3 B3 z3 _))
    refine ⟨trivial, ?_⟩
    refine CallsIn.mono (copies_in _ _ trivial rfl _ _ _ _) ?_
    rintro e w4 ⟨rfl, hw4⟩
    gi_wp2
    have E0 : Below X1.heap.size X1 (X3.alloc (.cells #[.slice (some ⟨g, 0, none⟩) 2048 2048] 27)) := (B2.trans (B3.below (Nat.le_refl _) (by omega))).alloc (by omega) _
    have A3a : (X3.alloc (.cells #[.slice (some ⟨g, 0, none⟩) 2048 2048] 27)).cell? ⟨X1.heap.size + 1, 0, none⟩ = some (.slice (some ⟨g, 0, none⟩) 2048 2048) := by
      have e : X1.heap.size + 1 = X3.heap.size := by omega
      rw [e]
      simp [go_sem]
    have A4 : Rec19 (X3.alloc (.cells #[.slice (some ⟨g, 0, none⟩) 2048 2048] 27)) X1.heap.size 0 (fndC (.slice (some ⟨g, 0, none⟩) 2048 2048) (fun _ => 0) sup0 none 0) := R3.below ((Below.refl _ _).alloc (Nat.le_refl _) _)
    have A5 : (X3.alloc (.cells #[.slice (some ⟨g, 0, none⟩) 2048 2048] 27)).heap.size = X1.heap.size + 2 := by simp; omega
    generalize X3.alloc (.cells #[.slice (some ⟨g, 0, none⟩) 2048 2048] 27) = V2 at hw4 E0 A3a A4 A5 ⊢
    have D1l : D1 < X1.heap.size := (Array.getElem?_eq_some_iff.1 hd1).1
    have A8 : V2.heap[D1]? = some (.deferred (some [])) := (E0.block D1 D1l).trans hd1
    have A1 : V2.cell? ⟨mv + 1, 0, none⟩ = some (.map (some mv)) := (E0.cell (p := ⟨mv + 1, 0, none⟩) (by have := hI1.1.size; show mv + 1 < X1.heap.size; omega)).trans ((hI1.1.cell (p := ⟨mv + 1, 0, none⟩) (by show mv + 1 < V0.heap.size; omega) (by simp)).trans F1)
    have A2 : VotesOk V2 mv G 4 := hI1.2.off (bs := []) (Off.of E0) (by simp)
    have A3 : CopMem (X1.heap.size + 1) g G V2 := ⟨A3a, (hM 4 X1 hI1).2.below E0⟩
    have E1 : Below W.heap.size W V0 := (B0.trans (B1.mono (by omega))).trans (F4.mono (by have := B1.size; omega))
    have E2 : Below W.heap.size W V2 := (E1.trans (hI1.1.below (by simp; have := B1.size; omega) E1.size)).trans (E0.mono (by have := hI1.1.size; have := E1.size; omega))
    have A6 : Rec19 V2 W.heap.size 0 fnd0 := ((((R0.below B1).under (F4.mono (Nat.le_refl _)) (by have := B1.size; omega)).off hI1.1 (by have := B1.size; simp; omega)).below E0)
    have fl : mv + 1 < X1.heap.size := by have := hI1.1.size; omega
    have gl2 : W.heap.size < g := by omega
    have glV : g < V0.heap.size := by omega
    have wlV : W.heap.size < V0.heap.size := by have := B1.size; omega
    clear hw4 A3a R2 B2 z2 R3 B3 z3 E0 hd1 hI1 E1 F1 F2 F3 F4 F5 hM R1 B1 R0 B0 z0 hg hmv
    obtain ⟨f9, hf9⟩ : ∃ n, X1.heap.size = n := ⟨_, rfl⟩
    rw [hf9] at A3 A4 A5 fl D1l ⊢
    clear hf9
    have hM2 : ∀ k X, pI V2 f9 (.slice (some ⟨g, 0, none⟩) 2048 2048) G k X → CopMem (f9 + 1) g G X := fun k X hX => ⟨(hX.1.cell (p := ⟨f9 + 1, 0, none⟩) (by show f9 + 1 < V2.heap.size; omega) (by simp)).trans A3.1, A3.2.off hX.1 (by simp; omega)⟩
    refine range_copies (m := 5) 38 39 (by omega) (f9 + 1) g G rfl (pI V2 f9 (.slice (some ⟨g, 0, none⟩) 2048 2048) G) (fun _ _ => False) (pI_own V2 f9 _ G (by omega)) (fun _ _ _ _ h _ _ => h) hM2 ⟨Off.refl _ _, none, 0, A4, .inl rfl, Nat.le_refl _, fun r e => (by cases e)⟩ ?_ ?_ (fun _ _ _ _ h _ => h.elim)
    · intro l k X hk hI hl1 hl2 hlo
      unfold imgV
      simp only [List.setIfInBounds_toArray, List.set_cons_zero, List.set_cons_succ]
      gi_wp2_with (first
        | (refine wpListIn_alloc_row rfl 85 rfl .u8 512 zero_image ?_; intro Y1 S1 C1 y1 k1)
        | (refine wpListIn_store_rec rfl 85 (.tmp 11) (.tmp 39) rfl X.heap.size 0 _ (cl .u8 512 (cp G k)) rfl rfl S1.rec (by rw [cl_len, cl_len]) (by rw [cl_len]; exact info_image) (cl_one _ _ _) ?_; intro Y2 S2 C2 y2 k2))
      refine ⟨(k1.trans k2).from _, fun Y3 hB3 hz3 => ?_⟩
      have PS : Hid (PickS V2 Y3 f9 mv X.heap.size k (.slice (some ⟨g, 0, none⟩) 2048 2048) G) := pick_round V2 X Y2 Y3 f9 mv k l _ G hk (by omega) (by omega) A1 A2 GB.out hI hl1 hl2 hlo S2 (C1.trans (C2.below (Nat.le_refl _) (by omega))) hB3
      have hmc := PS.out.map
      have hlk := PS.out.look
      obtain ⟨vt, hvt⟩ : ∃ n, votes G k = n := ⟨_, rfl⟩
      have VT : Hid (votes G k = vt) := hvt
      rw [hvt] at hlk
      clear S1 C1 y1 k1 S2 C2 y2 k2 hB3 hz3 hI hlo hvt
      by_cases few : vt < 2
      · have f1 : (vt : Int) < 2 := by omega
        have PP : Hid (KeepsFrom V2.heap.size Y3 Y3 ∧ pI V2 f9 (.slice (some ⟨g, 0, none⟩) 2048 2048) G (k + 1) Y3) := PS.out.stay (Below.refl _ _) (fun q => by have := q.1; rw [VT.out] at this; omega)
        gi_wp2_with (first
          | (refine wpListIn_load_at rfl 85 (.tmp 11) rfl X.heap.size 0 (cl .u8 512 (cp G k)) rfl _ PS.out.rng Try.underlying85 rfl (by rw [cl_len]; exact info_image) ?_)
          | (refine wpListIn_run rfl (by intro c hc; cases hc) (by rfl) _ (lookup_run 113 (.tmp 40) (.tmp 41) rfl _ _ rfl rfl hlk) ?_))
        exact PP.out
      · have f1 : ¬ (vt : Int) < 2 := by omega
        have TW : Hid (2 ≤ votes G k) := by show 2 ≤ votes G k; rw [VT.out]; omega
        by_cases wh : Whole (cp G k)
        · have RD : Hid (Calls Try.prog 12 #[.slice (some ⟨X.heap.size, 0, none⟩) 512 512] Y3 (RdOk Y3 (cp G k))) := read_ok512 X.heap.size 0 512 (cp G k) Y3 PS.out.lies (Nat.le_refl _) wh
          have WH : Hid (Whole (cp G k)) := wh
          clear wh
          gi_wp2_with (first
            | (refine wpListIn_load_at rfl 85 (.tmp 11) rfl X.heap.size 0 (cl .u8 512 (cp G k)) rfl _ PS.out.rng Try.underlying85 rfl (by rw [cl_len]; exact info_image) ?_)
            | (refine wpListIn_run rfl (by intro c hc; cases hc) (by rfl) _ (lookup_run 113 (.tmp 40) (.tmp 41) rfl _ _ rfl rfl hlk) ?_))
          refine ⟨trivial, ?_⟩
          refine (CallsIn.inRound l ((callsIn_wide (n := _)).2 RD.out)).mono ?_
          rintro e Y4 ⟨a', C', rfl, hA', hC', hr', B4⟩
          unfold supV
          have SX : Hid ((supOf (behO (cp G k))).x 0 = seqO G k) := rfl
          obtain ⟨sq, hsq⟩ : ∃ n, seqO G k = n := ⟨_, rfl⟩
          obtain ⟨sb, hsb⟩ : ∃ n, seqB G (best G k) = n := ⟨_, rfl⟩
          have SQ : Hid (seqO G k = sq) := hsq
          have SB : Hid (seqB G (best G k) = sb) := hsb
          clear hsq hsb
          have HA' : Hid (HArg Y4 a' (supOf (behO (cp G k))).k (supOf (behO (cp G k))).h) := hA'
          have HR' : Hid ((supOf (behO (cp G k))).k ≤ C' ∧ ∀ r, a' = some r → Y3.heap.size ≤ r.block) := ⟨hC', hr'⟩
          clear hA' hC' hr'
          by_cases gt : sb < sq
          · have GT : Hid (2 ≤ votes G k ∧ Whole (cp G k) ∧ seqB G (best G k) < seqO G k) := ⟨TW.out, WH.out, by rw [SQ.out, SB.out]; exact gt⟩
            gi_wp2_with (first
              | (refine wpListIn_alloc_rec rfl 26 rfl (supC sup0 none 0) zero_super ?_; intro Y5 R5 B5 z5 _)
              | (refine wpListIn_store_rec rfl 26 (.tmp 12) (.tmp 47) rfl Y4.heap.size 0 _ (supC (supOf (behO (cp G k))) a' C') rfl rfl R5 rfl info_super (supC_one _ _ _) ?_; intro Y6 R6 B6 z6 _
                 obtain ⟨q0, _⟩ := R6.cel 0 _ rfl
                 rw [SX.out, SQ.out] at q0
                 have E6 : Below Y3.heap.size Y3 Y6 := B4.trans ((B5.mono B4.size).trans (B6.below B4.size (by have := B4.size; omega)))
                 have c513 := (PS.out.inv.2.off (bs := []) (Off.of E6) (by simp) (by simp)).seq
                 rw [SB.out] at c513
                 have H6 : Hid (HArg Y6 a' (supOf (behO (cp G k))).k (supOf (behO (cp G k))).h) := HA'.out.below (B5.trans (B6.below (Nat.le_refl _) (by omega)))
                 clear R5 B5 z5 B6 HA'))
            obtain ⟨ao, Co, rec0, _⟩ := PS.out.inv.2
            have rec6 := (rec0.below E6).below (Below.refl Y6.heap.size Y6).drew
            obtain ⟨p1, p2, p3, p4⟩ := pick_store (f' := cp G k) (s' := supOf (behO (cp G k))) (a' := a') (C' := C') rec6
            have nsb : Y4.heap.size ≠ f9 := by have := rec0.2.2; have := B4.size; omega
            have lc6 : X.heap.size < Y6.drew.heap.size := Nat.lt_of_lt_of_le PS.out.lc E6.size
            have sS : pickS X.heap.size Y4.heap.size (cp G k) (supOf (behO (cp G k))) a' C' Y6.drew := ⟨range_below PS.out.rng E6.drew PS.out.lc, R6.1⟩
            have sS1 : pickS X.heap.size Y4.heap.size (cp G k) (supOf (behO (cp G k))) a' C' (Y6.drew.setCells f9 1 (cl .u8 512 (cp G k))) := ⟨range_but sS.1 (But.cells _ _ _) lc6 PS.out.nc, range_but sS.2 (But.cells _ _ _) R6.2.2 nsb⟩
            have sS2 : pickS X.heap.size Y4.heap.size (cp G k) (supOf (behO (cp G k))) a' C' ((Y6.drew.setCells f9 1 (cl .u8 512 (cp G k))).setCells f9 513 (supC (supOf (behO (cp G k))) a' C')) := ⟨range_but sS1.1 (But.cells _ _ _) (by rw [size_cells]; exact lc6) PS.out.nc, range_but sS1.2 (But.cells _ _ _) (by rw [size_cells]; exact R6.2.2) nsb⟩
            have PP : Hid (KeepsFrom V2.heap.size Y3 ((Y6.drew.setCells f9 1 (cl .u8 512 (cp G k))).setCells f9 513 (supC (supOf (behO (cp G k))) a' C')) ∧ pI V2 f9 (.slice (some ⟨g, 0, none⟩) 2048 2048) G (k + 1) ((Y6.drew.setCells f9 1 (cl .u8 512 (cp G k))).setCells f9 513 (supC (supOf (behO (cp G k))) a' C'))) := PS.out.take E6.drew GT.out a' C' (H6.out.below (Below.refl _ _).drew) HR'.out.1 HR'.out.2 (by omega)
            clear rec6 p3 p4 E6 q0 c513 rec0
            refine region_in (S := pickS X.heap.size Y4.heap.size (cp G k) (supOf (behO (cp G k))) a' C') (by kernel_rfl) (by kernel_rfl) sS (fun hHeld => ?_)
            refine take_at (i := 0) (v := _) (some 59) rfl rfl (by kernel_rfl) (by kernel_rfl) (by kernel_rfl) (fun _ _ _ h => by cases h.1) (yieldsIf_load_mid (by rfl) 85 (.tmp 11) rfl X.heap.size 0 rfl (cl .u8 512 (cp G k)) _ (fun _ h => h.1) Try.underlying85 rfl (by rw [cl_len]; exact info_image)) (by assumption) ?_
            simp only [Act.put, List.setIfInBounds_toArray, List.set_cons_zero, List.set_cons_succ]
            refine take_at (i := 1) (v := _) (some 60) rfl rfl (by kernel_rfl) (by kernel_rfl) (by kernel_rfl) (fun _ _ _ h => by cases h.1) (yieldsIf_load_mid (by rfl) 26 (.tmp 12) rfl Y4.heap.size 0 rfl (supC (supOf (behO (cp G k))) a' C') _ (fun _ h => h.2) Try.underlying26 rfl info_super) (by assumption) ?_
            simp only [Act.put, List.setIfInBounds_toArray, List.set_cons_zero, List.set_cons_succ]
            refine take_at (i := 2) (v := ?_) (some 61) rfl rfl (by kernel_rfl) (by kernel_rfl) (by kernel_rfl) (fun _ _ _ h => by cases h.1) (Or.inl ⟨by rfl, ?_⟩) (by assumption) ?_
            rotate_left
            · (intro w hSw; clear hSw; go_simp; try with_reducible rfl)
            simp only [Act.put, List.setIfInBounds_toArray, List.set_cons_zero, List.set_cons_succ]
            refine skip_at (i := 3) none rfl rfl (by rfl) (by kernel_rfl) _ (store_run 85 (.tmp 61) (.tmp 59) rfl f9 1 _ (cl .u8 512 (cp G k)) rfl rfl p1 (by rw [cl_len, cl_len]) (by rw [cl_len]; exact info_image) (cl_one _ _ _)) sS1 (fun hHeld => ?_)
            simp only [Act.put]
            refine take_at (i := 4) (v := ?_) (some 62) rfl rfl (by kernel_rfl) (by kernel_rfl) (by kernel_rfl) (fun _ _ _ h => by cases h.1) (Or.inl ⟨by rfl, ?_⟩) (by assumption) ?_
            rotate_left
            · (intro w hSw; clear hSw; go_simp; try with_reducible rfl)
            simp only [Act.put, List.setIfInBounds_toArray, List.set_cons_zero, List.set_cons_succ]
            refine skip_at (i := 5) none rfl rfl (by rfl) (by kernel_rfl) _ (store_run 26 (.tmp 62) (.tmp 60) rfl f9 513 _ (supC (supOf (behO (cp G k))) a' C') rfl rfl p2 rfl info_super (supC_one _ _ _)) sS2 (fun hHeld => ?_)
            simp only [Act.put]
            refine wpAnyH_done (by kernel_rfl) ?_ _
            refine ⟨rfl, ?_⟩
            gi_wp2
            exact PP.out
          · have NG : Hid (∀ Y, Below Y3.heap.size Y3 Y → KeepsFrom V2.heap.size Y3 Y ∧ pI V2 f9 (.slice (some ⟨g, 0, none⟩) 2048 2048) G (k + 1) Y) := fun Y hY => PS.out.stay hY (fun q => gt (by have := q.2.2; rwa [SQ.out, SB.out] at this))
            gi_wp2_with (first
              | (refine wpListIn_alloc_rec rfl 26 rfl (supC sup0 none 0) zero_super ?_; intro Y5 R5 B5 z5 _)
              | (refine wpListIn_store_rec rfl 26 (.tmp 12) (.tmp 47) rfl Y4.heap.size 0 _ (supC (supOf (behO (cp G k))) a' C') rfl rfl R5 rfl info_super (supC_one _ _ _) ?_; intro Y6 R6 B6 z6 _
                 obtain ⟨q0, _⟩ := R6.cel 0 _ rfl
                 rw [SX.out, SQ.out] at q0
                 have E6 : Below Y3.heap.size Y3 Y6 := B4.trans ((B5.mono B4.size).trans (B6.below B4.size (by have := B4.size; omega)))
                 have c513 := (PS.out.inv.2.off (bs := []) (Off.of E6) (by simp) (by simp)).seq
                 rw [SB.out] at c513
                 clear R5 B5 z5 B6))
            exact NG.out _ E6
        · have RD : Hid (Calls Try.prog 12 #[.slice (some ⟨X.heap.size, 0, none⟩) 512 512] Y3 fun e w' => e = .returned (.tuple #[supV sup0 none 0, .int .i64 (rdE (cp G k))]) ∧ Below Y3.heap.size Y3 w') := read_no512 X.heap.size 0 512 (cp G k) Y3 PS.out.lies (Nat.le_refl _) wh
          have NE : Hid (rdE (cp G k) = 4 ∨ rdE (cp G k) = 12) := rdE_ne wh
          have PP : Hid (∀ Y, Below Y3.heap.size Y3 Y → KeepsFrom V2.heap.size Y3 Y ∧ pI V2 f9 (.slice (some ⟨g, 0, none⟩) 2048 2048) G (k + 1) Y) := fun Y hY => PS.out.stay hY (fun q => wh q.2.1)
          obtain ⟨ec, hec⟩ : ∃ c, rdE (cp G k) = c := ⟨_, rfl⟩
          rw [hec] at RD NE
          have e0 : (ec == 0) = false := by have := NE.out; simp; omega
          clear wh hec
          gi_wp2_with (first
            | (refine wpListIn_load_at rfl 85 (.tmp 11) rfl X.heap.size 0 (cl .u8 512 (cp G k)) rfl _ PS.out.rng Try.underlying85 rfl (by rw [cl_len]; exact info_image) ?_)
            | (refine wpListIn_run rfl (by intro c hc; cases hc) (by rfl) _ (lookup_run 113 (.tmp 40) (.tmp 41) rfl _ _ rfl rfl hlk) ?_))
          refine ⟨trivial, ?_⟩
          refine (CallsIn.inRound l ((callsIn_wide (n := _)).2 RD.out)).mono ?_
          rintro e Y4 ⟨rfl, B4⟩
          unfold supV
          gi_wp2_with (first
            | (refine wpListIn_alloc_rec rfl 26 rfl (supC sup0 none 0) zero_super ?_; intro Y5 R5 B5 z5 _)
            | (refine wpListIn_store_rec rfl 26 (.tmp 12) (.tmp 47) rfl Y4.heap.size 0 _ (supC sup0 none 0) rfl rfl R5 rfl info_super (supC_one _ _ _) ?_; intro Y6 R6 B6 z6 _))
          exact PP.out _ (B4.trans ((B5.mono B4.size).trans (B6.below B4.size (by have := B4.size; omega))))
    · intro D2 X4 hD2 hI2 hd2
      have D1k : X4.heap[D1]? = some (.deferred (some [])) := (hI2.1.block D1 (by omega) (by simp; omega)).trans A8
      have c513 := hI2.2.seq
      have R4 : Hid (Rec19 X4 W.heap.size 0 fnd0) := A6.off hI2.1 (by have := E2.size; simp; omega)
      have E4 : Hid (Below W.heap.size W X4) := E2.trans (hI2.1.below (by have := A6.2.2; simp; omega) E2.size)
      have FA : Hid (FndAt X4 f9 (.slice (some ⟨g, 0, none⟩) 2048 2048) G (best G 4) V2.heap.size) := hI2.2
      have L4 : Hid (Lies X4 g 0 2048 G) := (hM2 4 X4 hI2).2
      cases bq : best G 4 with
      | none =>
        rw [bq] at c513
        have c513' : X4.cell? ⟨f9, 513, none⟩ = some (.int .i64 0) := c513
        have BQ : Hid (best G 4 = none) := bq
        clear bq c513 hI2
        gi_wp2_with (first
          | (refine wpListIn_run rfl (by intro c hc; cases hc) (by rfl) _ (build_run1 87 _ rfl fnd0.toArray (by kernel_rfl)) ?_)
          | (refine wpListIn_store_rec rfl 87 (.tmp 2) (.tmp 67) rfl W.heap.size 0 _ fnd0 rfl rfl R4.out rfl (by rw [show fnd0.length = 524 from fndC_len _ _ _ _ _]; exact info_found) (fndC_one _ _ _ _ _ rfl) ?_; intro X9 R9 B9 z9 k9))
        have d2 : X9.heap[D2]? = some (.deferred (some [])) := k9.same _ _ hd2 rfl
        have d1 : (X9.putObj D2 (.deferred none)).heap[D1]? = some (.deferred (some [])) := (World.putObj_heap_other (by omega)).trans (k9.same _ _ D1k rfl)
        have R9' := (R9.but (But.putObj X9 D2 (.deferred none)) (by omega)).but (But.putObj _ D1 (.deferred none)) (by omega)
        have hl := R9'.run_load 87 _ Try.underlying87 rfl (by rw [show fnd0.length = 524 from fndC_len _ _ _ _ _]; exact info_found)
        refine And.intro (by simp) (Or.inl ⟨_, _, rfl, run_takeDeferred d2, And.intro (by simp) (Or.inl ⟨_, _, rfl, run_takeDeferred d1, ?_⟩)⟩)
        refine ⟨.tuple #[.agg fnd0.toArray, .int .i64 10], by simp [results, Try.results46, asAddr, hl], .inl ⟨BQ.out, rfl, ?_⟩⟩
        exact ((E4.out.trans (B9.below (Nat.le_refl _) E4.out.size)).trans ((But.putObj X9 D2 (.deferred none)).below (by omega) (by have := E4.out.size; omega))).trans ((But.putObj _ D1 (.deferred none)).below (by omega) (by have := E4.out.size; simp [World.putObj]; omega))
      | some q =>
        rw [bq] at c513 FA
        obtain ⟨_, _, qw⟩ := best_some 4 q bq
        have qs := (whole_seq qw).1
        have c513' : X4.cell? ⟨f9, 513, none⟩ = some (.int .i64 (seqO G q)) := c513
        have ne : (seqO G q == 0) = false := by simp; omega
        have BQ : Hid (best G 4 = some q) := bq
        obtain ⟨a, C, rcF, hA, hC, hr⟩ := FA.out
        have RCF : Hid (Rec19 X4 f9 0 (fndC (.slice (some ⟨g, 0, none⟩) 2048 2048) (cp G q) (supOf (behO (cp G q))) a C)) := rcF
        have HA : Hid (HArg X4 a (supOf (behO (cp G q))).k (supOf (behO (cp G q))).h ∧ (supOf (behO (cp G q))).k ≤ C ∧ ∀ r, a = some r → V2.heap.size ≤ r.block ∧ r.block ≠ f9) := ⟨hA, hC, hr⟩
        clear bq c513 hI2 rcF hA hC hr FA qs qw
        generalize seqO G q = sq at c513' ne
        gi_wp2_with (first
          | (refine wpListIn_load_at rfl 87 (.tmp 9) rfl f9 0 (fndC (.slice (some ⟨g, 0, none⟩) 2048 2048) (cp G q) (supOf (behO (cp G q))) a C) rfl _ RCF.out.1 Try.underlying87 rfl (by rw [fndC_len]; exact info_found) ?_)
          | (refine wpListIn_store_rec rfl 87 (.tmp 2) (.tmp 68) rfl W.heap.size 0 _ (fndC (.slice (some ⟨g, 0, none⟩) 2048 2048) (cp G q) (supOf (behO (cp G q))) a C) rfl rfl R4.out (by rw [fndC_len]; exact fndC_len _ _ _ _ _) (by rw [fndC_len]; exact info_found) (fndC_one _ _ _ _ _ rfl) ?_; intro X9 R9 B9 z9 k9))
        have d2 : X9.heap[D2]? = some (.deferred (some [])) := k9.same _ _ hd2 rfl
        have d1 : (X9.putObj D2 (.deferred none)).heap[D1]? = some (.deferred (some [])) := (World.putObj_heap_other (by omega)).trans (k9.same _ _ D1k rfl)
        have R9' := (R9.but (But.putObj X9 D2 (.deferred none)) (by omega)).but (But.putObj _ D1 (.deferred none)) (by omega)
        have hl := R9'.run_load 87 _ Try.underlying87 rfl (by rw [fndC_len]; exact info_found)
        refine And.intro (by simp) (Or.inl ⟨_, _, rfl, run_takeDeferred d2, And.intro (by simp) (Or.inl ⟨_, _, rfl, run_takeDeferred d1, ?_⟩)⟩)
        refine ⟨.tuple #[.agg (fndC (.slice (some ⟨g, 0, none⟩) 2048 2048) (cp G q) (supOf (behO (cp G q))) a C).toArray, .int .i64 0], by simp [results, Try.results46, asAddr, hl], .inr ⟨q, a, C, g, BQ.out, rfl, Nat.le_of_lt gl2, ?_, ?_, HA.out.2.1, ?_, ?_⟩⟩
        · exact ((L4.out.but B9 (by omega)).but (But.putObj X9 D2 (.deferred none)) (by omega)).but (But.putObj _ D1 (.deferred none)) (by omega)
        · exact ((HA.out.1.off (Off.but (bs := [W.heap.size]) B9 (by simp)) (fun r e => by have := (HA.out.2.2 r e).1; simp; omega)).put _ d2 rfl).put _ d1 rfl
        · intro r e
          have := (HA.out.2.2 r e).1
          omega
        · exact ((E4.out.trans (B9.below (Nat.le_refl _) E4.out.size)).trans ((But.putObj X9 D2 (.deferred none)).below (by omega) (by have := E4.out.size; omega))).trans ((But.putObj _ D1 (.deferred none)).below (by omega) (by have := E4.out.size; simp [World.putObj]; omega))
end Go.Proofs.Ytigpnngjfgbaeaa
