/-
  Walks, not a claim by itself: JournalNone. By the verifier.
-/
import Derived.Test.YtijpoipcadhchaaDoorJNA
import Derived.Test.YtijpoipcadhchaaDoorMSame
import Derived.Laws.IdiomStrings
import Derived.Test.YtijpoipcadhchaaDoorOJd2
namespace Go.Proofs.YtijpoipcadhchaaDoor
open Go.RowKit Go.Maps
set_option maxRecDepth 100000 in
theorem jmade_ok (W : World) (j d : Nat) (C : Nat → Value) (h : JAt W j d C) : Calls Tryd.prog 27 #[.pointer (some ⟨j, 0, none⟩)] W fun e w' => e = .returned (.bool true) ∧ w' = W := by
  have c0 := h.self
  have hp := eqlj_ptr ⟨j, 0, none⟩
  clear h
  go_enter Tryd.func27, Tryd.ntmps27
  go_wp2_with fail
  go_ret
  exact ⟨rfl, rfl⟩
theorem jready_ok (w0 W : World) (j d s m : Nat) (C : Nat → Value) (D : Dsk) (h : JAt W j d C) (hS : St w0 W d s m D) (hf : D.free) : Calls Tryd.prog 20 #[.pointer (some ⟨j, 0, none⟩)] W fun e w' => e = .returned (.int .i64 0) ∧ w' = W := by
  have MD : Hid (Calls Tryd.prog 27 #[.pointer (some ⟨j, 0, none⟩)] W fun e w' => e = .returned (.bool true) ∧ w' = W) := jmade_ok W j d C h
  have UP : Hid (Calls Tryd.prog 41 #[.pointer (some ⟨d, 0, none⟩)] W fun e w' => e = .returned (.bool true) ∧ w' = W) := by
    have := up_ok W d s m D 0 false hS.at' (hf.fuse W 0)
    rw [hf.up] at this
    exact this
  have c1 := h.dsk
  clear h hS hf
  go_enter Tryd.func20, Tryd.ntmps20
  go_wp2_with (first
    | (go_at_call 27; refine MD.out.mono ?_; rintro e w1 ⟨rfl, hw⟩; subst hw)
    | (go_at_call 41; refine UP.out.mono ?_; rintro e w1 ⟨rfl, hw⟩; subst hw))
  go_ret
  exact ⟨rfl, rfl⟩
end Go.Proofs.YtijpoipcadhchaaDoor
namespace Go.Proofs.YtijpoipcadhchaaDoor
open Go.RowKit Go.Maps
/-- The cells of all states. -/
def stL (K : Nat → Value) : List Value := (List.range 64).map K
theorem stL_len (K : Nat → Value) : (stL K).length = 64 := by simp [stL]
theorem stL_at (K : Nat → Value) (i : Nat) (h : i < 64) : (stL K)[i]? = some (K i) := by
  unfold stL
  rw [List.getElem?_map, List.getElem?_range h]
  rfl
theorem stL_one {K : Nat → Value} (h : ∀ i, i < 64 → (K i).oneCell' = true) : ∀ v ∈ stL K, v.oneCell' = true := by
  intro v hv
  obtain ⟨i, hi, rfl⟩ := List.mem_map.1 hv
  exact h i (List.mem_range.1 hi)
theorem JAt.row {W : World} {j d : Nat} {C : Nat → Value} (h : JAt W j d C) : Rec19 W j 2 (stL C) := by
  refine ⟨fun q v hq => ?_, fun q hq => ?_, h.l⟩
  · have l : q < 64 := by
      rcases Nat.lt_or_ge q 64 with r | r
      · exact r
      · rw [List.getElem?_eq_none (by rw [stL_len]; exact r)] at hq
        cases hq
    rw [stL_at C q l] at hq
    injection hq with hq
    rw [← hq]
    exact h.c q l
  · rw [stL_len] at hq
    exact ⟨by rw [h.c q hq]; rfl, h.f _ (by omega)⟩
theorem JAt.store {W : World} {j d : Nat} {C : Nat → Value} (h : JAt W j d C) (K : Nat → Value) : JAt (W.setCells j 2 (stL K)) j d K := by
  have out : ∀ i, i < 2 → (W.setCells j 2 (stL K)).cell? ⟨j, i, none⟩ = W.cell? ⟨j, i, none⟩ := fun i hi => World.cell?_setCells_out j (stL K) 2 W ⟨j, i, none⟩ (fun _ _ => .inl hi)
  refine ⟨(out 0 (by omega)).trans h.self, (out 1 (by omega)).trans h.dsk, fun i hi => ?_, fun i hi => by rw [World.frozen?_setCells]; exact h.f i hi, ?_⟩
  · have := World.cell?_setCells_in j (stL K) 2 W (fun q hq => by rw [stL_len] at hq; rw [h.c q hq]; rfl) i (by rw [stL_len]; exact hi)
    rw [this]
    have e := stL_at K i hi
    rw [List.getElem?_eq_getElem (by rw [stL_len]; exact hi)] at e
    exact e
  · exact Nat.lt_of_lt_of_le h.l (But.cells (b := j) (stL K) 2 W).size
theorem wpList_store_j {ops : Array Oper} {rest : List Oper} {op : Oper} {a : Act} {w : World} {Q : Exit → Act → World → Prop} (hgd : op.guard = none) (x y : Operand) (ho : op.op = .store 36 x y)
    (j d : Nat) (C K : Nat → Value) (hx : a.eval x = .pointer (some ⟨j, 2, none⟩)) (hy : a.eval y = .agg (stL K).toArray) (h : JAt w j d C) (h1 : ∀ i, i < 64 → (K i).oneCell' = true)
    (hK : ∀ W2, JAt W2 j d K → But j w W2 → wpList Tryd.prog ops Q rest (a.put op.dst undef) W2) : wpList Tryd.prog ops Q (op :: rest) a w := by
  refine wpList_store_mid (P := Tryd.prog) hgd _ x y ho j 2 (stL K).toArray hx hy ?_ ?_ (all_oneCell_toArray (stL_one h1)) (hK _ (h.store K) (But.cells _ _ _))
  · have := h.row.2.1
    rw [stL_len] at this
    simpa [stL_len] using this
  · simp only [List.size_toArray, stL_len]
    kernel_rfl
set_option maxRecDepth 100000 in
set_option maxHeartbeats 1000000 in
/-- Deeds that are all done, and what is known then. -/
theorem jlearn_ok (W : World) (j d : Nat) (C K : Nat → Value) (B N Cc : Nat) (bs : List Nat) (Q : World → Prop) (hj : JAt W j d C) (h1 : ∀ i, i < 64 → (K i).oneCell' = true) (hjb : j ∉ bs) (hwb : W.heap.size ∉ bs) (hQ : ∀ u u', Q u → But j u u' → Q u')
    (hdo : ∀ u, Below W.heap.size W u → u.heap.size = W.heap.size + 1 → Calls Tryd.prog 39 #[.slice (some ⟨B, 0, none⟩) N Cc] u fun e w' => e = .returned (.int .i64 0) ∧ Off bs u w' ∧ Q w') :
    Calls Tryd.prog 29 #[.pointer (some ⟨j, 0, none⟩), .agg (stL K).toArray, .slice (some ⟨B, 0, none⟩) N Cc] W fun e w' => e = .returned (.int .i64 0) ∧ JAt w' j d K ∧ Q w' ∧ Off (j :: bs) W w' := by
  have HJ : Hid (JAt W j d C) := hj
  have H1 : Hid (∀ i, i < 64 → (K i).oneCell' = true) := h1
  have HB : Hid (j ∉ bs ∧ W.heap.size ∉ bs) := ⟨hjb, hwb⟩
  have HQ : Hid (∀ u u', Q u → But j u u' → Q u') := hQ
  have DO : Hid (∀ u, Below W.heap.size W u → u.heap.size = W.heap.size + 1 → Calls Tryd.prog 39 #[.slice (some ⟨B, 0, none⟩) N Cc] u fun e w' => e = .returned (.int .i64 0) ∧ Off bs u w' ∧ Q w') := hdo
  clear hj h1 hjb hwb hQ hdo
  go_enter Tryd.func29, Tryd.ntmps29
  go_wp2_with (first
    | (refine wpList_box_rec rfl 36 (.tmp 1) rfl (stL K) rfl W.heap.size rfl ?_; intro W0 R0 B0 z0)
    | (go_at_call 39; refine (DO.out _ B0 z0).mono ?_; rintro e W1 ⟨rfl, O1, q1⟩
       have S1 : Hid (JAt W1 j d C ∧ Q W1 ∧ Off bs W W1) := ⟨(HJ.out.below B0).off O1 HB.out.1, q1, (Off.of B0).trans O1⟩
       have R1 := R0.off O1 HB.out.2
       clear R0 B0 z0 O1 q1)
    | (refine wpList_load_rec rfl 36 (.tmp 4) rfl W.heap.size 0 (stL K) rfl _ Tryd.underlying36 rfl (by rw [stL_len]; kernel_rfl) R1 ?_)
    | (refine wpList_store_j rfl (.tmp 16) (.tmp 14) rfl j d C K rfl rfl S1.out.1 H1.out ?_; intro W2 J2 B2))
  go_ret
  exact ⟨rfl, J2, HQ.out _ _ S1.out.2.1 B2, (S1.out.2.2.mono (fun b q => List.mem_cons_of_mem _ q)).trans (Off.but B2 (by simp))⟩
end Go.Proofs.YtijpoipcadhchaaDoor
namespace Go.Proofs.YtijpoipcadhchaaDoor
open Go.RowKit Go.Maps
/-- The disk behind i of Put's deeds, into the slot k, of these bytes. -/
noncomputable def ptD (D : Dsk) (k : Nat) (F : Nat → Int) : Nat → Dsk
  | 0 => D
  | 1 => (D.wrote (24 + k * 5) F 5).more
  | 2 => ((D.wrote (24 + k * 5) F 5).more).safe.more
  | 3 => ((((D.wrote (24 + k * 5) F 5).more).safe.more).wrote (8 + k) F 1).more
  | _ => (((((D.wrote (24 + k * 5) F 5).more).safe.more).wrote (8 + k) F 1).more).safe.more
theorem ptD_few {D : Dsk} {n : Int} (h : D.few n) (k : Nat) (F : Nat → Int) : ∀ i, i ≤ 4 → (ptD D k F i).few (n + 4)
  | 0, _ => h.mono (by omega)
  | 1, _ => (h.wrote _ F 5).mono (by omega)
  | 2, _ => ((h.wrote _ F 5).safe).mono (by omega)
  | 3, _ => (((h.wrote _ F 5).safe).wrote _ F 1).mono (by omega)
  | 4, _ => ((((h.wrote _ F 5).safe).wrote _ F 1).safe).mono (by omega)
  | i + 5, hi => absurd hi (by omega)
def ptV (px hx d : Nat) : Nat → DeedV
  | 0 => .prep px (px + 1) (px + 2)
  | 1 => .flush (some ⟨d, 0, none⟩)
  | 2 => .head hx (hx + 1) (hx + 2)
  | _ => .flush (some ⟨d, 0, none⟩)
structure ptS (w0 u : World) (d s m0 : Nat) (D : Dsk) (k : Nat) (F : Nat → Int) (g px hx B i m : Nat) (V : World) : Prop where
  st : St w0 V d s m (ptD D k F i)
  hp : HBox V px (px + 1) (px + 2) (some ⟨d, 0, none⟩) (k : Int) (.slice (some ⟨g, 0, none⟩) 1280 1280)
  hh : HBox V hx (hx + 1) (hx + 2) (some ⟨d, 0, none⟩) (k : Int) (.slice (some ⟨g, 0, none⟩) 256 1280)
  lg : Lies V g 0 (5 * 256) F
  c : ∀ q, q < 4 → V.cell? ⟨B, q, none⟩ = some (ptV px hx d q).val
  og : Out3 V d s m g
  ob : Out3 V d s m B
  op : Out3 V d s m px ∧ Out3 V d s m (px + 1) ∧ Out3 V d s m (px + 2)
  ox : Out3 V d s m hx ∧ Out3 V d s m (hx + 1) ∧ Out3 V d s m (hx + 2)
  off : Off [d, s, m0] u V
  mm : m = m0 ∨ u.heap.size ≤ m
theorem ptS.step {w0 u : World} {d s m0 : Nat} {D : Dsk} {k : Nat} {F : Nat → Int} {g px hx B i i' m m' : Nat} {V V' : World} (h : ptS w0 u d s m0 D k F g px hx B i m V) (hs : St w0 V' d s m' (ptD D k F i')) (hO : Off [d, s, m] V V') (hm : m' ∈ [d, s, m] ∨ V.heap.size ≤ m') : ptS w0 u d s m0 D k F g px hx B i' m' V' where
  st := hs
  hp := h.hp.off hO h.op.1.mem h.op.2.1.mem h.op.2.2.mem
  hh := h.hh.off hO h.ox.1.mem h.ox.2.1.mem h.ox.2.2.mem
  lg := ⟨fun j hj => (hO.cell (p := ⟨g, 0 + j, none⟩) h.og.1 h.og.mem).trans (h.lg.1 j hj), h.lg.2.1, Nat.lt_of_lt_of_le h.og.1 hO.size⟩
  c := fun q hq => (hO.cell (p := ⟨B, q, none⟩) h.ob.1 h.ob.mem).trans (h.c q hq)
  og := h.og.step hO hm
  ob := h.ob.step hO hm
  op := ⟨h.op.1.step hO hm, h.op.2.1.step hO hm, h.op.2.2.step hO hm⟩
  ox := ⟨h.ox.1.step hO hm, h.ox.2.1.step hO hm, h.ox.2.2.step hO hm⟩
  off := h.off.far hO (fun b q => by
    simp at q ⊢
    rcases h.mm with r | r
    · rcases q with q | q | q
      · exact .inl (.inl q)
      · exact .inl (.inr (.inl q))
      · exact .inl (.inr (.inr (by omega)))
    · rcases q with q | q | q
      · exact .inl (.inl q)
      · exact .inl (.inr (.inl q))
      · exact .inr (by omega))
  mm := by
    have z := h.off.size
    rcases hm with q | q
    · simp at q
      rcases q with q | q | q
      · exact absurd q.symm hs.at'.dm
      · exact absurd q.symm hs.at'.sm
      · rw [q]; exact h.mm
    · exact .inr (by omega)
/-- What Put's deeds leave. -/
def PtPost (w0 u : World) (d s m0 : Nat) (D : Dsk) (k : Nat) (F : Nat → Int) (w' : World) : Prop := ∃ m, St w0 w' d s m (ptD D k F 4) ∧ (m = m0 ∨ u.heap.size ≤ m)
theorem pt_do (w0 u : World) (d s m0 : Nat) (D : Dsk) (k : Nat) (F : Nat → Int) (g px hx B C : Nat) (hk : k < 16) (hf : D.few 1000) (hN : 104 ≤ D.N) (h0 : ptS w0 u d s m0 D k F g px hx B 0 m0 u) :
    Calls Tryd.prog 39 #[.slice (some ⟨B, 0, none⟩) 4 C] u fun e w' => e = .returned (.int .i64 0) ∧ Off [d, s, m0] u w' ∧ PtPost w0 u d s m0 D k F w' := by
  have few := ptD_few hf k F
  have e1 : (ptD D k F 1).N = D.N := D.wrote_N _ F 5
  have e2 : (ptD D k F 2).N = D.N := D.wrote_N _ F 5
  refine do_gen B 4 4 C (ptV px hx d) (fun i V => ∃ m, ptS w0 u d s m0 D k F g px hx B i m V) _ u (Nat.le_refl _) (by omega) ⟨m0, h0⟩ (fun q hq V hI => ?_) (fun q hq V hI => ?_) (fun q => absurd q (by omega)) (fun _ V hI => ?_)
  · obtain ⟨m, h⟩ := hI
    exact h.c q hq
  · obtain ⟨m, h⟩ := hI
    match q, hq with
    | 0, _ =>
      refine prep1_any V px (px + 1) (px + 2) _ (k : Int) (24 + (k : Int) * 5) 0 _ 1280 1280 _ h.hp (by omega) (by omega) rfl ?_
      refine (st_write w0 V d s m (24 + k * 5) g 0 5 1280 1280 (24 + (k : Int) * 5) D F h.st (hf.free (by decide)) (by omega) rfl h.lg (by omega) (by omega) (by omega) (by omega) ⟨h.og.2.2.1, h.og.2.2.2⟩).mono ?_
      rintro e w' ⟨rfl, m', h1, h2, h3⟩
      exact ⟨rfl, m', h.step h1 h3 h2⟩
    | 1, _ =>
      refine (st_flush w0 V d s m _ h.st ((few 1 (by omega)).free (by decide))).mono ?_
      rintro e w' ⟨rfl, m', h1, h2, h3⟩
      exact ⟨rfl, m', h.step h1 (h3.mono (fun b q => by simp at q ⊢; omega)) (h2.imp (fun q => by simp at q ⊢; omega) id)⟩
    | 2, _ =>
      have lh : Lies V g 0 (1 * 256) F := ⟨fun j hj => h.lg.1 j (by omega), fun j hj => h.lg.2.1 j (by omega), h.lg.2.2⟩
      refine head1_any V hx (hx + 1) (hx + 2) _ (k : Int) (8 + (k : Int)) 0 _ 256 1280 _ h.hh (by omega) (by omega) rfl ?_
      refine (st_write w0 V d s m (8 + k) g 0 1 256 1280 (8 + (k : Int)) _ F h.st ((few 2 (by omega)).free (by decide)) (by omega) rfl lh (by omega) (by omega) (by omega) (by rw [e2]; omega) ⟨h.og.2.2.1, h.og.2.2.2⟩).mono ?_
      rintro e w' ⟨rfl, m', h1, h2, h3⟩
      exact ⟨rfl, m', h.step h1 h3 h2⟩
    | 3, _ =>
      refine (st_flush w0 V d s m _ h.st ((few 3 (by omega)).free (by decide))).mono ?_
      rintro e w' ⟨rfl, m', h1, h2, h3⟩
      exact ⟨rfl, m', h.step h1 (h3.mono (fun b q => by simp at q ⊢; omega)) (h2.imp (fun q => by simp at q ⊢; omega) id)⟩
  · obtain ⟨m, h⟩ := hI
    exact ⟨rfl, h.off, m, h.st, h.mm⟩
end Go.Proofs.YtijpoipcadhchaaDoor
namespace Go.Proofs.YtijpoipcadhchaaDoor
open Go.RowKit Go.Maps
/-- What is known behind a Put. -/
def putC (C : Nat → Value) (k : Nat) (op vw : Int) (i : Nat) : Value := if i / 4 = k then (ss 1 op vw false).getD (i % 4) undef else C i
theorem putC_one {C : Nat → Value} {k : Nat} {op vw : Int} (h : ∀ i, i < 64 → (C i).oneCell' = true) (i : Nat) (hi : i < 64) : (putC C k op vw i).oneCell' = true := by
  unfold putC
  by_cases a : i / 4 = k
  · rw [if_pos a]
    have r : i % 4 = 0 ∨ i % 4 = 1 ∨ i % 4 = 2 ∨ i % 4 = 3 := by omega
    rcases r with r | r | r | r <;> rw [r] <;> rfl
  · rw [if_neg a]
    exact h i hi
def zC (i : Nat) : Value := (ss 0 0 0 false).getD (i % 4) undef
theorem zero_states : (Tryd.prog.info? 36).bind (·.zero) = some (.agg (stL zC).toArray) := by kernel_rfl
theorem stL_put {W : World} {Y : Nat} {C : Nat → Value} (h : Rec19 W Y 0 (stL C)) (k : Nat) (hk : k < 16) (op vw : Int) : Rec19 (W.setCells Y (k * 4) (ss 1 op vw false)) Y 0 (stL (putC C k op vw)) := by
  have c : ∀ i, i < 64 → W.cell? ⟨Y, i, none⟩ = some (C i) := fun i hi => by have := h.1 i _ (stL_at C i hi); rwa [Nat.zero_add] at this
  have cc : ∀ i, i < 64 → (W.setCells Y (k * 4) (ss 1 op vw false)).cell? ⟨Y, i, none⟩ = some (putC C k op vw i) := fun i hi => by
    unfold putC
    by_cases a : i / 4 = k
    · rw [if_pos a]
      have := World.cell?_setCells_in Y (ss 1 op vw false) (k * 4) W (fun q hq => by have l : q < 4 := hq; rw [c (k * 4 + q) (by omega)]; rfl) (i % 4) (by show i % 4 < 4; omega)
      rw [show k * 4 + i % 4 = i by omega] at this
      rw [this, List.getD_eq_getElem?_getD, List.getElem?_eq_getElem (by show i % 4 < 4; omega)]
      rfl
    · rw [if_neg a, World.cell?_setCells_out Y (ss 1 op vw false) (k * 4) W ⟨Y, i, none⟩ (fun _ _ => by show i < k * 4 ∨ k * 4 + 4 ≤ i; omega)]
      exact c i hi
  refine ⟨fun q v hq => ?_, fun q hq => ?_, Nat.lt_of_lt_of_le h.2.2 (But.cells (b := Y) (ss 1 op vw false) (k * 4) W).size⟩
  · have l : q < 64 := by
      rcases Nat.lt_or_ge q 64 with r | r
      · exact r
      · rw [List.getElem?_eq_none (by rw [stL_len]; exact r)] at hq
        cases hq
    rw [stL_at _ q l] at hq
    injection hq with hq
    rw [← hq, Nat.zero_add]
    exact cc q l
  · rw [stL_len] at hq
    have f := (h.2.1 q (by rw [stL_len]; exact hq)).2
    rw [Nat.zero_add] at f ⊢
    exact ⟨by rw [cc q hq]; rfl, by rw [World.frozen?_setCells]; exact f⟩
theorem wpList_store_st {ops : Array Oper} {rest : List Oper} {op' : Oper} {a : Act} {w : World} {Q : Exit → Act → World → Prop} (hgd : op'.guard = none) (x y : Operand) (ho : op'.op = .store 34 x y)
    (Y k : Nat) (C : Nat → Value) (op vw : Int) (hk : k < 16) (hx : a.eval x = .pointer (some ⟨Y, k * 4, none⟩)) (hy : a.eval y = .agg (ss 1 op vw false).toArray) (h : Rec19 w Y 0 (stL C))
    (hK : ∀ W2, Rec19 W2 Y 0 (stL (putC C k op vw)) → But Y w W2 → wpList Tryd.prog ops Q rest (a.put op'.dst undef) W2) : wpList Tryd.prog ops Q (op' :: rest) a w := by
  refine wpList_store_mid (P := Tryd.prog) hgd _ x y ho Y (k * 4) (ss 1 op vw false).toArray hx hy ?_ (by kernel_rfl) (all_oneCell_toArray (ss_one 1 op vw false)) (hK _ (stL_put h k hk op vw) (But.cells _ _ _))
  intro q hq
  have l : q < 4 := hq
  have f := h.2.1 (k * 4 + q) (by rw [stL_len]; omega)
  rw [Nat.zero_add] at f
  exact f
theorem bs_runJ {a : Act} {w : World} {o : Oper} (t e : TypeId) (len : Nat) (parts : Array (Nat × Operand)) (ho : o.op = .buildSlice t len parts) (sz by' : Nat) (z : Value) (cells : Array Value) (vs : List (Nat × Value))
    (hu : Tryd.prog.underlying t = some (.slice e)) (hinfo : (Tryd.prog.info? e).map (fun i => (i.zero, i.size, i.bytes)) = some (some z, sz, by')) (hsmall : ¬ len * sz > 2 ^ 24) (hpos : ¬ len * sz = 0)
    (hv : (parts.map fun (i, x) => (i, a.eval x)).toList = vs) (hf : Instr.fill (fun i => some (i * sz, sz)) ((Array.range (len * sz)).map (z.cells[· % z.cells.size]!)) vs = some cells) :
    (execOp a.eval o).run Tryd.prog w = .ok (.value (.slice (some ⟨w.heap.size, 0, none⟩) len len)) (w.alloc (.cells cells e)) := by
  obtain ⟨ie, hie, hz0, hz1, _⟩ := info_parts hinfo
  unfold execOp
  simp only [ho, Sem.run_bind, run_buildSlice w t e len _ cells ie z hu hie hz0 (by rw [hz1]; exact hsmall) (by rw [hz1]; exact hpos) (by rw [hv, hz1]; exact hf), Result.andThen_ok]
  rfl
set_option maxRecDepth 100000 in
set_option maxHeartbeats 2000000 in
theorem jput_ok (w0 W : World) (j d s m k : Nat) (C : Nat → Value) (D : Dsk) (h : Nat → Int) (a : Option Addr) (n Cm : Nat) (f : Nat → Int) (hJ : JAt W j d C) (hC : ∀ i, i < 64 → (C i).oneCell' = true) (hjd : j ≠ d ∧ j ≠ s ∧ j ≠ m) (hj0 : w0.heap.size ≤ j) (hS : St w0 W d s m D) (hf : D.few 1000) (hN : 104 ≤ D.N) (hT : Tab W)
    (hn : n ≤ 1024) (hA : Arg W a n f) (hCm : n ≤ Cm) (hW : Words h) (hk : okH (upd h 2 (n : Nat)) = true) (hp : isPrep h (ofI (h 5)) = true) (hof : ofI (h 5) = (k : Int)) (hk16 : k < 16) :
    Calls Tryd.prog 9 #[.pointer (some ⟨j, 0, none⟩), .agg (msg h a n Cm).toArray] W fun e w' => e = .returned (.int .i64 0) ∧ JAt w' j d (putC C k (h 5) (h 3)) ∧ (∃ m', St w0 w' d s m' (ptD D k (slotF h n f) 4) ∧ (m' = m ∨ W.heap.size ≤ m')) ∧ Off [j, d, s, m] W w' := by
  have HJ : Hid (JAt W j d C) := hJ
  have HC : Hid (∀ i, i < 64 → (C i).oneCell' = true) := hC
  have HS : Hid (St w0 W d s m D ∧ D.few 1000 ∧ 104 ≤ D.N ∧ j ≠ d ∧ j ≠ s ∧ j ≠ m) := ⟨hS, hf, hN, hjd⟩
  have HJ0 : Hid (w0.heap.size ≤ j) := hj0
  have OB : Hid (∀ u, Below W.heap.size W u → Calls Tryd.prog 28 #[.agg (msg h a n Cm).toArray] u fun e w' => ∃ g, e = .returned (.tuple #[.slice (some ⟨g, 0, none⟩) 1280 1280, .int .i64 0]) ∧ u.heap.size ≤ g ∧ IRow w' g .u8 1280 (slotF h n f) ∧ Below u.heap.size u w') := fun u hB => sbytes_ok h a n Cm f u hn (hT.below hB hT.2) (hA.below hB) hCm hW hk hp
  have OF : Hid (ofI (h 5) = (k : Int)) := hof
  have FB : Hid (∀ q, q < 1280 → 0 ≤ slotF h n f q ∧ slotF h n f q < 256) := fun q _ => slotF_byte h n f hA.bytes q
  have i0 : (k : Int) < 16 := by omega
  have i1 : (0 : Int) ≤ (k : Int) := by omega
  clear hJ hC hS hf hN hT hA hW hk hp hjd hj0
  go_enter Tryd.func9, Tryd.ntmps9
  go_wp2_with (first
    | (refine wpList_box_rec rfl 29 (.tmp 1) rfl (msg h a n Cm) rfl W.heap.size rfl ?_; intro W0 R0 B0 z0)
    | (go_at_call 27; refine (jmade_ok _ j d C (HJ.out.below B0)).mono ?_; rintro e w1 ⟨rfl, hw1⟩; rw [hw1]; clear hw1 w1)
    | (refine wpList_load_rec rfl 29 (.tmp 3) rfl W.heap.size 0 (msg h a n Cm) rfl _ Tryd.underlying29 rfl (by kernel_rfl) R0 ?_)
    | (go_at_call 28; refine (OB.out _ B0).mono ?_; rintro e W1 ⟨g, rfl, hg, hR, B1⟩
       have R1 := R0.below B1
       have c5 := (R1.cel 5 (.int .i64 (h 5)) rfl).1
       have c3 := (R1.cel 3 (.int .i64 (h 3)) rfl).1
       have P1 : Hid (IRow W1 g .u8 1280 (slotF h n f) ∧ W.heap.size < g ∧ Below W.heap.size W W1) := ⟨hR, by omega, B0.trans (B1.mono B0.size)⟩
       have J1 := HJ.out.below (B0.trans (B1.mono B0.size))
       clear hg hR B1 B0 R0 z0)
    | (go_at_call 21; refine (of_any _ _).mono ?_; rintro e w2 ⟨rfl, hw2⟩; rw [hw2, OF.out]; clear hw2 w2)
    | (refine wpList_load_rec rfl 36 (.tmp 26) rfl j 2 (stL C) rfl _ Tryd.underlying36 rfl (by rw [stL_len]; kernel_rfl) J1.row ?_)
    | (refine wpList_alloc_rec rfl 36 rfl (stL zC) W1.heap.size rfl zero_states ?_; intro W3 R3 B3 z3)
    | (refine wpList_store_rec rfl 36 (.tmp 8) (.tmp 27) rfl W1.heap.size 0 _ (stL C) rfl rfl R3 (by rw [stL_len, stL_len]) (by rw [stL_len]; kernel_rfl) (stL_one HC.out) ?_; intro W4 R4 B4
       have b4 : Below W1.heap.size W1 W4 := B3.trans (B4.below (Nat.le_refl _) (by omega))
       have R1' := R1.below b4
       have c5' := (R1'.cel 5 (.int .i64 (h 5)) rfl).1
       have c3' := (R1'.cel 3 (.int .i64 (h 3)) rfl).1
       clear R3 B3 B4)
    | (refine wpList_build_to rfl 34 _ rfl (ss 1 (h 5) (h 3) false).toArray (by kernel_rfl) ?_)
    | (refine wpList_store_st rfl (.tmp 36) (.tmp 35) rfl W1.heap.size k C (h 5) (h 3) hk16 rfl rfl R4 ?_; intro W5 R5 B5
       have b5 : Below W1.heap.size W1 W5 := b4.trans (B5.below (Nat.le_refl _) (by have := b4.size; omega))
       clear R4 B5 b4 c5 c3 c5' c3' R1 R1'))
  have N5 : Below W.heap.size W W5 := P1.out.2.2.trans (b5.mono P1.out.2.2.size)
  have J5 := HJ.out.below N5
  have L5 : Lies W5 g 0 (5 * 256) (slotF h n f) := (P1.out.1.lies FB.out).below b5
  have gW : W.heap.size < g ∧ g < W1.heap.size ∧ W1.heap.size < W5.heap.size := ⟨P1.out.2.1, P1.out.1.2.2, R5.2.2⟩
  have c1 := J5.dsk
  refine wp_region_noPanic ?_
  refine wp_region_held_drew (S := fun W' => W'.cell? ⟨j, 1, none⟩ = some (.pointer (some ⟨d, 0, none⟩)) ∧ W'.rangeAt W1.heap.size 0 (stL (putC C k (h 5) (h 3)))) (by kernel_rfl) ?_ (fun hHeld => ?_)
  · exact ⟨c1, R5.1⟩
  refine take_at (i := 0) (v := ?_) (some 37) rfl rfl (by kernel_rfl) (by kernel_rfl) (by kernel_rfl) (fun _ _ _ h => h) (Or.inl ⟨by rfl, ?_⟩) (by assumption) ?_
  rotate_left
  · (intro w hSw; (try dsimp only at hSw); go_simp; try with_reducible rfl)
  simp only [Act.put, List.setIfInBounds_toArray, List.set_cons_zero, List.set_cons_succ]
  refine take_at (i := 1) (v := _) (some 38) rfl rfl (by kernel_rfl) (by kernel_rfl) (by kernel_rfl) (fun _ _ _ h => h) (yieldsIf_load_mid (by rfl) 36 (.tmp 8) rfl W1.heap.size 0 rfl (stL (putC C k (h 5) (h 3))) _ (fun _ h => h.2) Tryd.underlying36 rfl (by rw [stL_len]; kernel_rfl)) (by assumption) ?_
  simp only [Act.put, List.setIfInBounds_toArray, List.set_cons_zero, List.set_cons_succ]
  refine take_at (i := 2) (v := ?_) (some 39) rfl rfl (by kernel_rfl) (by kernel_rfl) (by kernel_rfl) (fun _ _ _ h => h) (Or.inl ⟨by rfl, ?_⟩) (by assumption) ?_
  rotate_left
  · (intro w hSw; (try dsimp only at hSw); go_simp; try with_reducible rfl)
  simp only [Act.put, List.setIfInBounds_toArray, List.set_cons_zero, List.set_cons_succ]
  refine take_at (i := 3) (v := ?_) (some 40) rfl rfl (by kernel_rfl) (by kernel_rfl) (by kernel_rfl) (fun _ _ _ h => h) (Or.inl ⟨by rfl, ?_⟩) (by assumption) ?_
  rotate_left
  · (intro w hSw; (try dsimp only at hSw); go_simp; try with_reducible rfl)
  simp only [Act.put, List.setIfInBounds_toArray, List.set_cons_zero, List.set_cons_succ]
  refine take_at (i := 4) (v := ?_) (some 41) rfl rfl (by kernel_rfl) (by kernel_rfl) (by kernel_rfl) (fun _ _ _ h => h) (Or.inl ⟨by rfl, ?_⟩) (by assumption) ?_
  rotate_left
  · (intro w hSw; (try dsimp only at hSw); go_simp; try with_reducible rfl)
  simp only [Act.put, List.setIfInBounds_toArray, List.set_cons_zero, List.set_cons_succ]
  refine take_at (i := 5) (v := ?_) (some 42) rfl rfl (by kernel_rfl) (by kernel_rfl) (by kernel_rfl) (fun _ _ _ h => h) (Or.inl ⟨by rfl, ?_⟩) (by assumption) ?_
  rotate_left
  · (intro w hSw; (try dsimp only at hSw); go_simp; try with_reducible rfl)
  simp only [Act.put, List.setIfInBounds_toArray, List.set_cons_zero, List.set_cons_succ]
  refine take_at (i := 6) (v := ?_) (some 43) rfl rfl (by kernel_rfl) (by kernel_rfl) (by kernel_rfl) (fun _ _ _ h => h) (Or.inl ⟨by rfl, ?_⟩) (by assumption) ?_
  rotate_left
  · (intro w hSw; (try dsimp only at hSw); go_simp; try with_reducible rfl)
  simp only [Act.put, List.setIfInBounds_toArray, List.set_cons_zero, List.set_cons_succ]
  refine take_at (i := 7) (v := ?_) (some 44) rfl rfl (by kernel_rfl) (by kernel_rfl) (by kernel_rfl) (fun _ _ _ h => h) (Or.inl ⟨by rfl, ?_⟩) (by assumption) ?_
  rotate_left
  · (intro w hSw; (try dsimp only at hSw); go_simp; try with_reducible rfl)
  simp only [Act.put, List.setIfInBounds_toArray, List.set_cons_zero, List.set_cons_succ]
  refine take_at (i := 9) (v := ?_) (some 46) rfl rfl (by kernel_rfl) (by kernel_rfl) (by kernel_rfl) (fun _ _ _ h => h) (Or.inl ⟨by rfl, ?_⟩) (by assumption) ?_
  rotate_left
  · (intro w hSw; (try dsimp only at hSw); go_simp; try with_reducible rfl)
  simp only [Act.put, List.setIfInBounds_toArray, List.set_cons_zero, List.set_cons_succ]
  refine take_at (i := 10) (v := ?_) (some 47) rfl rfl (by kernel_rfl) (by kernel_rfl) (by kernel_rfl) (fun _ _ _ h => h) (Or.inl ⟨by rfl, ?_⟩) (by assumption) ?_
  rotate_left
  · (intro w hSw; (try dsimp only at hSw); go_simp; try with_reducible rfl)
  simp only [Act.put, List.setIfInBounds_toArray, List.set_cons_zero, List.set_cons_succ]
  refine take_at (i := 11) (v := ?_) (some 48) rfl rfl (by kernel_rfl) (by kernel_rfl) (by kernel_rfl) (fun _ _ _ h => h) (Or.inl ⟨by rfl, ?_⟩) (by assumption) ?_
  rotate_left
  · (intro w hSw; (try dsimp only at hSw); go_simp; try with_reducible rfl)
  simp only [Act.put, List.setIfInBounds_toArray, List.set_cons_zero, List.set_cons_succ]
  refine take_at (i := 12) (v := ?_) (some 49) rfl rfl (by kernel_rfl) (by kernel_rfl) (by kernel_rfl) (fun _ _ _ h => h) (Or.inl ⟨by rfl, ?_⟩) (by assumption) ?_
  rotate_left
  · (intro w hSw; (try dsimp only at hSw); go_simp; try with_reducible rfl)
  simp only [Act.put, List.setIfInBounds_toArray, List.set_cons_zero, List.set_cons_succ]
  refine take_at (i := 13) (v := ?_) (some 50) rfl rfl (by kernel_rfl) (by kernel_rfl) (by kernel_rfl) (fun _ _ _ h => h) (Or.inl ⟨by rfl, ?_⟩) (by assumption) ?_
  rotate_left
  · (intro w hSw; (try dsimp only at hSw); go_simp; try with_reducible rfl)
  simp only [Act.put, List.setIfInBounds_toArray, List.set_cons_zero, List.set_cons_succ]
  refine take_at (i := 14) (v := ?_) (some 51) rfl rfl (by kernel_rfl) (by kernel_rfl) (by kernel_rfl) (fun _ _ _ h => h) (Or.inl ⟨by rfl, ?_⟩) (by assumption) ?_
  rotate_left
  · (intro w hSw; (try dsimp only at hSw); go_simp; try with_reducible rfl)
  simp only [Act.put, List.setIfInBounds_toArray, List.set_cons_zero, List.set_cons_succ]
  refine take_at (i := 15) (v := ?_) (some 52) rfl rfl (by kernel_rfl) (by kernel_rfl) (by kernel_rfl) (fun _ _ _ h => h) (Or.inl ⟨by rfl, ?_⟩) (by assumption) ?_
  rotate_left
  · (intro w hSw; (try dsimp only at hSw); go_simp; try with_reducible rfl)
  simp only [Act.put, List.setIfInBounds_toArray, List.set_cons_zero, List.set_cons_succ]
  refine take_at (i := 16) (v := ?_) (some 53) rfl rfl (by kernel_rfl) (by kernel_rfl) (by kernel_rfl) (fun _ _ _ h => h) (Or.inl ⟨by rfl, ?_⟩) (by assumption) ?_
  rotate_left
  · (intro w hSw; (try dsimp only at hSw); go_simp; try with_reducible rfl)
  simp only [Act.put, List.setIfInBounds_toArray, List.set_cons_zero, List.set_cons_succ]
  refine take_at (i := 17) (v := ?_) (some 54) rfl rfl (by kernel_rfl) (by kernel_rfl) (by kernel_rfl) (fun _ _ _ h => h) (Or.inl ⟨by rfl, ?_⟩) (by assumption) ?_
  rotate_left
  · (intro w hSw; (try dsimp only at hSw); go_simp; try with_reducible rfl)
  simp only [Act.put, List.setIfInBounds_toArray, List.set_cons_zero, List.set_cons_succ]
  refine take_at (i := 18) (v := ?_) (some 55) rfl rfl (by kernel_rfl) (by kernel_rfl) (by kernel_rfl) (fun _ _ _ h => h) (Or.inl ⟨by rfl, ?_⟩) (by assumption) ?_
  rotate_left
  · (intro w hSw; (try dsimp only at hSw); go_simp; try with_reducible rfl)
  simp only [Act.put, List.setIfInBounds_toArray, List.set_cons_zero, List.set_cons_succ]
  refine take_at (i := 19) (v := ?_) (some 56) rfl rfl (by kernel_rfl) (by kernel_rfl) (by kernel_rfl) (fun _ _ _ h => h) (Or.inl ⟨by rfl, ?_⟩) (by assumption) ?_
  rotate_left
  · (intro w hSw; (try dsimp only at hSw); go_simp; try with_reducible rfl)
  simp only [Act.put, List.setIfInBounds_toArray, List.set_cons_zero, List.set_cons_succ]
  refine take_at (i := 20) (v := ?_) (some 57) rfl rfl (by kernel_rfl) (by kernel_rfl) (by kernel_rfl) (fun _ _ _ h => h) (Or.inl ⟨by rfl, ?_⟩) (by assumption) ?_
  rotate_left
  · (intro w hSw; (try dsimp only at hSw); go_simp; try with_reducible rfl)
  simp only [Act.put, List.setIfInBounds_toArray, List.set_cons_zero, List.set_cons_succ]
  refine take_at (i := 22) (v := ?_) (some 59) rfl rfl (by kernel_rfl) (by kernel_rfl) (by kernel_rfl) (fun _ _ _ h => h) (Or.inl ⟨by rfl, ?_⟩) (by assumption) ?_
  rotate_left
  · (intro w hSw; (try dsimp only at hSw); go_simp; try with_reducible rfl)
  simp only [Act.put, List.setIfInBounds_toArray, List.set_cons_zero, List.set_cons_succ]
  refine take_at (i := 23) (v := ?_) (some 60) rfl rfl (by kernel_rfl) (by kernel_rfl) (by kernel_rfl) (fun _ _ _ h => h) (Or.inl ⟨by rfl, ?_⟩) (by assumption) ?_
  rotate_left
  · (intro w hSw; (try dsimp only at hSw); go_simp; try with_reducible rfl)
  simp only [Act.put, List.setIfInBounds_toArray, List.set_cons_zero, List.set_cons_succ]
  refine take_at (i := 24) (v := ?_) (some 61) rfl rfl (by kernel_rfl) (by kernel_rfl) (by kernel_rfl) (fun _ _ _ h => h) (Or.inl ⟨by rfl, ?_⟩) (by assumption) ?_
  rotate_left
  · (intro w hSw; (try dsimp only at hSw); go_simp; try with_reducible rfl)
  simp only [Act.put, List.setIfInBounds_toArray, List.set_cons_zero, List.set_cons_succ]
  refine take_at (i := 25) (v := ?_) (some 62) rfl rfl (by kernel_rfl) (by kernel_rfl) (by kernel_rfl) (fun _ _ _ h => h) (Or.inl ⟨by rfl, ?_⟩) (by assumption) ?_
  rotate_left
  · (intro w hSw; (try dsimp only at hSw); go_simp; try with_reducible rfl)
  simp only [Act.put, List.setIfInBounds_toArray, List.set_cons_zero, List.set_cons_succ]
  refine take_at (i := 26) (v := ?_) (some 63) rfl rfl (by kernel_rfl) (by kernel_rfl) (by kernel_rfl) (fun _ _ _ h => h) (Or.inl ⟨by rfl, ?_⟩) (by assumption) ?_
  rotate_left
  · (intro w hSw; (try dsimp only at hSw); go_simp; try with_reducible rfl)
  simp only [Act.put, List.setIfInBounds_toArray, List.set_cons_zero, List.set_cons_succ]
  refine call_at (i := 8) (some 45) 30 _ _ rfl rfl rfl (by rfl) (by kernel_rfl) #[.pointer (some ⟨d, 0, none⟩), .int .i64 (k : Int), .slice (some ⟨g, 0, none⟩) 1280 1280] rfl Tryd.func30 (by kernel_rfl) (by kernel_rfl) ?_
  refine (wprep_any _ _ (k : Int) _ 1280 1280).mono ?_; rintro e W6 ⟨rfl, hp6, B6⟩
  have B6' : Below W5.heap.size W5 W6 := (Below.refl _ _).drew.trans B6
  refine ⟨_, rfl, ⟨(J5.below B6').dsk, (R5.below B6').1⟩, fun hHeld => ?_⟩
  simp only [Act.put, List.setIfInBounds_toArray, List.set_cons_zero, List.set_cons_succ]
  refine call_at (i := 21) (some 58) 32 _ _ rfl rfl rfl (by rfl) (by kernel_rfl) #[.pointer (some ⟨d, 0, none⟩), .int .i64 (k : Int), .slice (some ⟨g, 0, none⟩) 256 1280] rfl Tryd.func32 (by kernel_rfl) (by kernel_rfl) ?_
  refine (whead_any _ _ (k : Int) _ 256 1280).mono ?_; rintro e W7 ⟨rfl, hp7, B7⟩
  have B7' : Below W5.heap.size W5 W7 := B6'.trans (B7.mono B6'.size)
  refine ⟨_, rfl, ⟨(J5.below B7').dsk, (R5.below B7').1⟩, fun hHeld => ?_⟩
  simp only [Act.put, List.setIfInBounds_toArray, List.set_cons_zero, List.set_cons_succ]
  have B8 : Below W7.heap.size W7 (W7.alloc (.cells #[(ptV W5.heap.size W6.heap.size d 0).val, (ptV W5.heap.size W6.heap.size d 1).val, (ptV W5.heap.size W6.heap.size d 2).val, (ptV W5.heap.size W6.heap.size d 3).val] 80)) := (Below.refl _ _).alloc (Nat.le_refl _) _
  have B8' : Below W5.heap.size W5 (W7.alloc (.cells #[(ptV W5.heap.size W6.heap.size d 0).val, (ptV W5.heap.size W6.heap.size d 1).val, (ptV W5.heap.size W6.heap.size d 2).val, (ptV W5.heap.size W6.heap.size d 3).val] 80)) := B7'.trans (B8.mono B7'.size)
  refine step_at (i := 27) (some 64) rfl rfl (by rfl) (by kernel_rfl) (.slice (some ⟨W7.heap.size, 0, none⟩) 4 4) (W7.alloc (.cells #[(ptV W5.heap.size W6.heap.size d 0).val, (ptV W5.heap.size W6.heap.size d 1).val, (ptV W5.heap.size W6.heap.size d 2).val, (ptV W5.heap.size W6.heap.size d 3).val] 80)) (bs_runJ 82 80 4 _ rfl 1 8 .nilFunc #[(ptV W5.heap.size W6.heap.size d 0).val, (ptV W5.heap.size W6.heap.size d 1).val, (ptV W5.heap.size W6.heap.size d 2).val, (ptV W5.heap.size W6.heap.size d 3).val] [(0, (ptV W5.heap.size W6.heap.size d 0).val), (1, (ptV W5.heap.size W6.heap.size d 1).val), (2, (ptV W5.heap.size W6.heap.size d 2).val), (3, (ptV W5.heap.size W6.heap.size d 3).val)] Tryd.underlying82 info_deed (by decide) (by decide) (by kernel_rfl) (by kernel_rfl)) ⟨(J5.below B8').dsk, (R5.below B8').1⟩ (fun hHeld => ?_)
  simp only [Act.put, List.setIfInBounds_toArray, List.set_cons_zero, List.set_cons_succ]
  obtain ⟨V8, hV8⟩ : ∃ V8, (W7.alloc (.cells #[(ptV W5.heap.size W6.heap.size d 0).val, (ptV W5.heap.size W6.heap.size d 1).val, (ptV W5.heap.size W6.heap.size d 2).val, (ptV W5.heap.size W6.heap.size d 3).val] 80)) = V8 := ⟨_, rfl⟩
  have cB : ∀ q, q < 4 → V8.cell? ⟨W7.heap.size, q, none⟩ = some (ptV W5.heap.size W6.heap.size d q).val := fun q hq => by
    rw [← hV8, cell_of_row _ _ _ _ _ _ (heap_alloc_new _ _)]
    match q, hq with
    | 0, _ => rfl
    | 1, _ => rfl
    | 2, _ => rfl
    | 3, _ => rfl
  have z8 : V8.heap.size = W7.heap.size + 1 := by rw [← hV8]; exact World.size_alloc _ _
  rw [hV8] at B8 B8' hHeld ⊢
  have PS : Hid (∀ u, Below V8.heap.size V8 u → ptS w0 u d s m D k (slotF h n f) g W5.heap.size W6.heap.size W7.heap.size 0 m u) := fun u hu => by
    have hx := hp7.lz
    have hy := hp6.lz
    have z6 := B6'.size
    have z7 := B7.size
    have zu := hu.size
    have z5 := N5.size
    have gd := HS.out.1.at'.dl
    have gs := HS.out.1.at'.sl
    have gm := HS.out.1.at'.ml
    have y6 : W5.heap.size + 2 < W6.heap.size := hy
    exact ⟨((HS.out.1.below N5).below B8').below hu, ((hp6.below B7).below B8).below hu, (hp7.below B8).below hu, (L5.below B8').below hu, fun q hq => (hu.cell (p := ⟨W7.heap.size, q, none⟩) (by show W7.heap.size < V8.heap.size; omega)).trans (cB q hq), Out3.new gd gs gm (by omega) (by omega), Out3.new gd gs gm (by omega) (by omega), ⟨Out3.new gd gs gm (by omega) (by omega), Out3.new gd gs gm (by omega) (by omega), Out3.new gd gs gm (by omega) (by omega)⟩, ⟨Out3.new gd gs gm (by omega) (by omega), Out3.new gd gs gm (by omega) (by omega), Out3.new gd gs gm (by omega) (by omega)⟩, Off.refl _ _, .inl rfl⟩
  refine call_at (i := 28) (some 65) 29 _ _ rfl rfl rfl (by rfl) (by kernel_rfl) #[.pointer (some ⟨j, 0, none⟩), .agg (stL (putC C k (h 5) (h 3))).toArray, .slice (some ⟨W7.heap.size, 0, none⟩) 4 4] rfl Tryd.func29 (by kernel_rfl) (by kernel_rfl) ?_
  refine (jlearn_ok V8 j d C (putC C k (h 5) (h 3)) W7.heap.size 4 4 [d, s, m] (fun w' => ∃ m', St w0 w' d s m' (ptD D k (slotF h n f) 4) ∧ (m' = m ∨ W.heap.size ≤ m') ∧ m' ≠ j) (J5.below B8') (fun i hi => putC_one HC.out i hi) (by have := HS.out.2.2.2; simp; omega) (by have := HS.out.1.at'.dl; have := HS.out.1.at'.sl; have := HS.out.1.at'.ml; have := N5.size; have := B8'.size; simp; omega) ?_ ?_).mono ?_
  · rintro u u' ⟨m', h1, h2, h3⟩ hb
    exact ⟨m', ⟨h1.at'.off (Off.but (bs := [j]) hb (by simp)) (by have := HS.out.2.2.2; simp; omega) (by have := HS.out.2.2.2; simp; omega) (by simp; omega), h1.hd, h1.hs, h1.hm, h1.bel.trans (hb.below HJ0.out h1.bel.size)⟩, h2, h3⟩
  · intro u hu _
    refine (pt_do w0 u d s m D k (slotF h n f) g W5.heap.size W6.heap.size W7.heap.size 4 hk16 HS.out.2.1 HS.out.2.2.1 (PS.out u hu)).mono ?_
    rintro e w' ⟨rfl, h1, m', h2, h3⟩
    have q1 := N5.size
    have q2 := B8'.size
    have q3 := hu.size
    have q4 := J5.l
    have q5 := HS.out.2.2.2.2.2
    exact ⟨rfl, h1, m', h2, by omega, by rcases h3 with r | r <;> omega⟩
  rintro e W9 ⟨rfl, J9, q9, O9⟩
  refine ⟨_, rfl, ⟨J9.dsk, ((R5.below B8').off O9 (by have := HS.out.1.at'.dl; have := HS.out.1.at'.sl; have := HS.out.1.at'.ml; have := HJ.out.l; have := N5.size; simp; omega)).1⟩, fun hHeld => ?_⟩
  simp only [Act.put, List.setIfInBounds_toArray, List.set_cons_zero, List.set_cons_succ]
  refine take_at (i := 29) (v := ?_) (some 4) rfl rfl (by kernel_rfl) (by kernel_rfl) (by kernel_rfl) (fun _ _ _ h => h) (Or.inl ⟨by rfl, ?_⟩) (by assumption) ?_
  rotate_left
  · (intro w hSw; (try dsimp only at hSw); go_simp; try with_reducible rfl)
  simp only [Act.put, List.setIfInBounds_toArray, List.set_cons_zero, List.set_cons_succ]
  refine wpAnyH_done (by kernel_rfl) ?_ _
  refine NoPanic.normal ?_
  have FIN : Hid (JAt W9 j d (putC C k (h 5) (h 3)) ∧ (∃ m', St w0 W9 d s m' (ptD D k (slotF h n f) 4) ∧ (m' = m ∨ W.heap.size ≤ m')) ∧ Off [j, d, s, m] W W9) := ⟨J9, by obtain ⟨m', r1, r2, _⟩ := q9; exact ⟨m', r1, r2⟩, (Off.of (N5.trans (B8'.mono N5.size))).trans O9⟩
  clear hHeld J9 q9 O9
  go_wp2_with fail
  go_ret
  exact ⟨rfl, FIN.out⟩
end Go.Proofs.YtijpoipcadhchaaDoor
namespace Go.Proofs.YtijpoipcadhchaaDoor
open Go.RowKit Go.Maps
/-- What is known of a slot. -/
def Knows (C : Nat → Value) (k : Nat) (st o v : Int) (mm : Bool) : Prop := C (k * 4) = .int .i64 st ∧ C (k * 4 + 1) = .int .i64 o ∧ C (k * 4 + 2) = .int .i64 v ∧ C (k * 4 + 3) = .bool mm
theorem JAt.slot {W : World} {j d k : Nat} {C : Nat → Value} {st o v : Int} {mm : Bool} (h : JAt W j d C) (hk : k < 16) (hs : Knows C k st o v mm) : Rec19 W j (2 + k * 4) (ss st o v mm) := by
  refine ⟨fun q x hq => ?_, fun q hq => ?_, h.l⟩
  · match q, hq with
    | 0, hq => injection hq with hq; rw [← hq, ← hs.1]; exact h.c (k * 4) (by omega)
    | 1, hq => injection hq with hq; rw [← hq, ← hs.2.1]; exact h.c (k * 4 + 1) (by omega)
    | 2, hq => injection hq with hq; rw [← hq, ← hs.2.2.1]; exact h.c (k * 4 + 2) (by omega)
    | 3, hq => injection hq with hq; rw [← hq, ← hs.2.2.2]; exact h.c (k * 4 + 3) (by omega)
    | q + 4, hq => simp [ss] at hq
  · have l : q < 4 := hq
    exact ⟨by rw [Nat.add_assoc, h.c (k * 4 + q) (by omega)]; rfl, h.f _ (by omega)⟩
set_option maxRecDepth 100000 in
theorem jrp_ok (w0 W : World) (d s m k : Nat) (D : Dsk) (h : St w0 W d s m D) (hf : D.free) (hN : 104 ≤ D.N) (hk : k < 16) : Calls Tryd.prog 22 #[.pointer (some ⟨d, 0, none⟩), .int .i64 (k : Int)] W (ReadPost W 5 (fun q => D.sec ((24 + k * 5) * 256 + q))) := by
  have RD : Hid (Calls Tryd.prog 42 #[.pointer (some ⟨d, 0, none⟩), .int .i64 (24 + (k : Int) * 5), .int .i64 5] W (ReadPost W 5 (fun q => D.sec ((24 + k * 5) * 256 + q)))) := by
    have := dread_ok W d s m (24 + k * 5) 5 D 0 false h.at' (hf.fuse W 0) hf.up (by omega)
    rw [show ((24 + k * 5 : Nat) : Int) = 24 + (k : Int) * 5 by omega] at this
    exact this
  have i1 : IntKind.i64.wrap ((k : Int) * 5) = (k : Int) * 5 := by rw [IntKind.wrap_i64]; omega
  have i2 : wrap64 ((k : Int) * 5) = (k : Int) * 5 := by unfold wrap64; omega
  have i3 : IntKind.i64.wrap (24 + (k : Int) * 5) = 24 + (k : Int) * 5 := by rw [IntKind.wrap_i64]; omega
  have i4 : wrap64 (24 + (k : Int) * 5) = 24 + (k : Int) * 5 := by unfold wrap64; omega
  clear h hf hN
  go_enter Tryd.func22, Tryd.ntmps22
  go_wp2_with (go_at_call 42; refine RD.out.mono ?_; rintro e w1 ⟨rfl, h1, h2⟩; have H1 : Hid (IRow w1 W.heap.size .u8 (5 * 256) (fun q => D.sec ((24 + k * 5) * 256 + q)) ∧ Below W.heap.size W w1) := ⟨h1, h2⟩; clear h1 h2)
  exact bodyPost_ret (v := .tuple #[.slice (some ⟨W.heap.size, 0, none⟩) (5 * 256) (5 * 256), .int .i64 0]) (by simp [results, Tryd.results22, go_sem]) rfl ⟨rfl, H1.out.1, H1.out.2⟩
set_option maxRecDepth 100000 in
set_option maxHeartbeats 1000000 in
/-- An op that is not known. -/
theorem jget_miss (w0 W : World) (j d s m k : Nat) (C : Nat → Value) (D : Dsk) (op st o v : Int) (mm : Bool) (hJ : JAt W j d C) (hS : St w0 W d s m D) (hf : D.free) (hof : ofI op = (k : Int)) (hk : k < 16) (hs : Knows C k st o v mm) (h1 : 1 ≤ op) (hne : o ≠ op) :
    Calls Tryd.prog 6 #[.pointer (some ⟨j, 0, none⟩), .int .i64 op] W fun e w' => e = .returned (.tuple #[.agg (msg (fun _ => 0) none 0 0).toArray, .int .i64 6]) ∧ Below W.heap.size W w' := by
  have RY : Hid (∀ u, Below W.heap.size W u → Calls Tryd.prog 20 #[.pointer (some ⟨j, 0, none⟩)] u fun e w' => e = .returned (.int .i64 0) ∧ w' = u) := fun u hB => jready_ok w0 u j d s m C D (hJ.below hB) (hS.below hB) hf
  have SL : Hid (∀ u, Below W.heap.size W u → Rec19 u j (2 + k * 4) (ss st o v mm)) := fun u hB => (hJ.below hB).slot hk hs
  have OF : Hid (ofI op = (k : Int)) := hof
  have i0 : (k : Int) < 16 := by omega
  have i1 : (0 : Int) ≤ (k : Int) := by omega
  have i2 : ¬ op < 1 := by omega
  have i3 : ¬ o = op := hne
  have i4 : (o != op) = true := bne_iff_ne.2 hne
  clear hJ hS hf hs h1 hof hne
  go_enter Tryd.func6, Tryd.ntmps6
  go_wp2_with (first
    | (refine wpList_alloc_rec rfl 29 rfl (msg (fun _ => 0) none 0 0) W.heap.size rfl zeroMsg ?_; intro W0 R0 B0 z0; clear z0)
    | (go_at_call 20; refine (RY.out _ B0).mono ?_; rintro e w1 ⟨rfl, hw1⟩; rw [hw1]; clear hw1 w1)
    | (go_at_call 21; refine (of_any _ _).mono ?_; rintro e w2 ⟨rfl, hw2⟩; rw [hw2, OF.out]; clear hw2 w2)
    | (refine wpList_load_rec rfl 34 (.tmp 25) rfl j (2 + k * 4) (ss st o v mm) rfl _ Tryd.underlying34 rfl (by kernel_rfl) (SL.out _ B0) ?_)
    | (refine wpList_alloc_rec rfl 34 rfl (ss 0 0 0 false) W0.heap.size rfl zeroSs ?_; intro W1 R1 B1 z1)
    | (refine wpList_store_rec rfl 34 (.tmp 8) (.tmp 26) rfl W0.heap.size 0 _ (ss st o v mm) rfl rfl R1 rfl (by kernel_rfl) (ss_one _ _ _ _) ?_; intro W2 R2 B2
       have b2 : Below W0.heap.size W0 W2 := B1.trans (B2.below (Nat.le_refl _) (by omega))
       have RM := R0.below b2
       have y1 := (R2.cel 1 (.int .i64 o) rfl).1
       clear R1 B1 B2 z1)
    | (refine wpList_build_to rfl 29 _ rfl (msg (fun _ => 0) none 0 0).toArray (by kernel_rfl) ?_)
    | (refine wpList_store_rec rfl 29 (.tmp 4) (.tmp 35) rfl W.heap.size 0 _ (msg (fun _ => 0) none 0 0) rfl rfl RM rfl (by kernel_rfl) (msg_one _ _ _ _) ?_; intro W9 R9 B9))
  have hl := R9.run_load 29 _ Tryd.underlying29 rfl (by kernel_rfl)
  exact bodyPost_ret (v := .tuple #[.agg (msg (fun _ => 0) none 0 0).toArray, .int .i64 6]) (by simp [results, Tryd.results6, asAddr, hl]) rfl ⟨rfl, (B0.trans (b2.mono B0.size)).trans (B9.below (Nat.le_refl _) (by have := b2.size; have := B0.size; omega))⟩
end Go.Proofs.YtijpoipcadhchaaDoor
namespace Go.Proofs.YtijpoipcadhchaaDoor
open Go.RowKit Go.Maps
/-- What Get tells of a prepare that is there. -/
def GotP (W : World) (F : Nat → Int) (e : Ending) (w' : World) : Prop := ∃ g c, e = .returned (.tuple #[.agg (msg (hdrF F) (some ⟨g, 0, none⟩) (hdrF F 2).toNat c).toArray, .int .i64 0]) ∧ W.heap.size ≤ g ∧ IRow w' g .u8 (hdrF F 2).toNat (fun q => F (256 + q)) ∧ Below W.heap.size W w'
set_option maxRecDepth 100000 in
set_option maxHeartbeats 1000000 in
/-- A prepare that is there. -/
theorem jget_ok (w0 W : World) (j d s m k : Nat) (C : Nat → Value) (D : Dsk) (op v : Int) (mm : Bool) (F : Nat → Int) (hF : (fun q => D.sec ((24 + k * 5) * 256 + q)) = F) (hb : ∀ q, q < 1280 → 0 ≤ F q ∧ F q < 256) (hJ : JAt W j d C) (hS : St w0 W d s m D) (hf : D.free) (hN : 104 ≤ D.N) (hT : Tab W) (hof : ofI op = (k : Int)) (hk : k < 16) (hs : Knows C k 1 op v mm) (h1 : 1 ≤ op)
    (hp : prepOK 1280 F (k : Int) = true) (h5 : hdrF F 5 = op) (h3 : hdrF F 3 = v) :
    Calls Tryd.prog 6 #[.pointer (some ⟨j, 0, none⟩), .int .i64 op] W (GotP W F) := by
  have RY : Hid (∀ u, Below W.heap.size W u → Calls Tryd.prog 20 #[.pointer (some ⟨j, 0, none⟩)] u fun e w' => e = .returned (.int .i64 0) ∧ w' = u) := fun u hB => jready_ok w0 u j d s m C D (hJ.below hB) (hS.below hB) hf
  have SL : Hid (∀ u, Below W.heap.size W u → Rec19 u j (2 + k * 4) (ss 1 op v mm)) := fun u hB => (hJ.below hB).slot hk hs
  have DK : Hid (∀ u, Below W.heap.size W u → u.cell? ⟨j, 1, none⟩ = some (.pointer (some ⟨d, 0, none⟩))) := fun u hB => (hJ.below hB).dsk
  have RP : Hid (∀ u, Below W.heap.size W u → Calls Tryd.prog 22 #[.pointer (some ⟨d, 0, none⟩), .int .i64 (k : Int)] u (ReadPost u 5 F)) := fun u hB => by
    have := jrp_ok w0 u d s m k D (hS.below hB) hf hN hk
    rw [hF] at this
    exact this
  have PO : Hid (∀ u g, Below W.heap.size W u → IRow u g .u8 1280 F → Calls Tryd.prog 23 #[.slice (some ⟨g, 0, none⟩) 1280 1280, .int .i64 (k : Int)] u fun e w' => ∃ g, e = .returned (MB (hdrF F) (some ⟨g, 0, none⟩) (hdrF F 2).toNat true) ∧ u.heap.size ≤ g ∧ IRow w' g .u8 (hdrF F 2).toNat (fun q => F (256 + q)) ∧ Below u.heap.size u w') := fun u g hB hR => prep_ok (some ⟨g, 0, none⟩) 1280 1280 F (k : Int) u (hT.below hB hT.2) (Arg.of (hR.lies hb)) (by omega) (by omega) hp
  have OF : Hid (ofI op = (k : Int)) := hof
  have H5 : Hid (hdrF F 5 = op ∧ hdrF F 3 = v) := ⟨h5, h3⟩
  have i0 : (k : Int) < 16 := by omega
  have i1 : (0 : Int) ≤ (k : Int) := by omega
  have i2 : ¬ op < 1 := by omega
  clear hJ hS hf hs h1 hof hN hT hp h5 h3 hF hb
  go_enter Tryd.func6, Tryd.ntmps6
  go_wp2_with (first
    | (refine wpList_alloc_rec rfl 29 rfl (msg (fun _ => 0) none 0 0) W.heap.size rfl zeroMsg ?_; intro W0 R0 B0 z0; clear z0)
    | (go_at_call 20; refine (RY.out _ B0).mono ?_; rintro e w1 ⟨rfl, hw1⟩; rw [hw1]; clear hw1 w1)
    | (go_at_call 21; refine (of_any _ _).mono ?_; rintro e w2 ⟨rfl, hw2⟩; rw [hw2, OF.out]; clear hw2 w2)
    | (refine wpList_load_rec rfl 34 (.tmp 25) rfl j (2 + k * 4) (ss 1 op v mm) rfl _ Tryd.underlying34 rfl (by kernel_rfl) (SL.out _ B0) ?_)
    | (refine wpList_alloc_rec rfl 34 rfl (ss 0 0 0 false) W0.heap.size rfl zeroSs ?_; intro W1 R1 B1 z1)
    | (refine wpList_store_rec rfl 34 (.tmp 8) (.tmp 26) rfl W0.heap.size 0 _ (ss 1 op v mm) rfl rfl R1 rfl (by kernel_rfl) (ss_one _ _ _ _) ?_; intro W2 R2 B2
       have b2 : Below W0.heap.size W0 W2 := B1.trans (B2.below (Nat.le_refl _) (by omega))
       have E2 : Below W.heap.size W W2 := B0.trans (b2.mono B0.size)
       have RM := R0.below b2
       have y0 := (R2.cel 0 (.int .i64 1) rfl).1
       have y1 := (R2.cel 1 (.int .i64 op) rfl).1
       have cj := DK.out _ E2
       clear R1 B1 B2 z1 R0 B0 b2)
    | (go_at_call 22; refine (RP.out _ E2).mono ?_; rintro e W3 ⟨rfl, r3, B3⟩
       have E3 : Below W.heap.size W W3 := E2.trans (B3.mono E2.size)
       have Q3 : Hid (IRow W3 W2.heap.size .u8 1280 F) := r3
       have RM3 := RM.below B3
       have R23 := R2.below B3
       clear r3 B3 y0 y1 cj RM R2)
    | (go_at_call 23; refine (PO.out _ _ E3 Q3.out).mono ?_; rintro e W4 ⟨g, rfl, hg, r4, B4⟩
       have E4 : Below W.heap.size W W4 := E3.trans (B4.mono E3.size)
       have P4 : Hid (W.heap.size < g ∧ IRow W4 g .u8 (hdrF F 2).toNat (fun q => F (256 + q))) := ⟨Nat.lt_of_lt_of_le RM3.2.2 hg, r4⟩
       have RM4 := RM3.below B4
       have R24 := R23.below B4
       clear hg r4 B4 RM3 R23
       unfold MB)
    | (refine wpList_alloc_rec rfl 29 rfl (msg (fun _ => 0) none 0 0) W4.heap.size rfl zeroMsg ?_; intro W5 R5 B5 z5)
    | (refine wpList_store_rec rfl 29 (.tmp 11) (.tmp 57) rfl W4.heap.size 0 _ (msg (hdrF F) (some ⟨g, 0, none⟩) (hdrF F 2).toNat (hdrF F 2).toNat) rfl rfl R5 rfl (by kernel_rfl) (msg_one _ _ _ _) ?_; intro W6 R6 B6
       have b6 : Below W4.heap.size W4 W6 := B5.trans (B6.below (Nat.le_refl _) (by omega))
       have RM6 := RM4.below b6
       have R26 := R24.below b6
       have x5 : W6.cell? ⟨W4.heap.size, 5, none⟩ = some (.int .i64 op) := by have := (R6.cel 5 (.int .i64 (hdrF F 5)) rfl).1; rw [H5.out.1] at this; exact this
       have x3 : W6.cell? ⟨W4.heap.size, 3, none⟩ = some (.int .i64 v) := by have := (R6.cel 3 (.int .i64 (hdrF F 3)) rfl).1; rw [H5.out.2] at this; exact this
       have y1 := (R26.cel 1 (.int .i64 op) rfl).1
       have y2 := (R26.cel 2 (.int .i64 v) rfl).1
       clear R5 B5 z5 B6 R24 RM4)
    | (refine wpList_load_rec rfl 29 (.tmp 11) rfl W4.heap.size 0 (msg (hdrF F) (some ⟨g, 0, none⟩) (hdrF F 2).toNat (hdrF F 2).toNat) rfl _ Tryd.underlying29 rfl (by kernel_rfl) R6 ?_)
    | (refine wpList_store_rec rfl 29 (.tmp 4) (.tmp 88) rfl W.heap.size 0 _ (msg (hdrF F) (some ⟨g, 0, none⟩) (hdrF F 2).toNat (hdrF F 2).toNat) rfl rfl RM6 rfl (by kernel_rfl) (msg_one _ _ _ _) ?_; intro W9 R9 B9))
  have hl := R9.run_load 29 _ Tryd.underlying29 rfl (by kernel_rfl)
  have z6 := b6.size
  have z4 := E4.size
  have z3 := E3.size
  exact bodyPost_ret (v := .tuple #[.agg (msg (hdrF F) (some ⟨g, 0, none⟩) (hdrF F 2).toNat (hdrF F 2).toNat).toArray, .int .i64 0]) (by simp [results, Tryd.results6, asAddr, hl]) rfl ⟨g, _, rfl, by have := P4.out.1; omega, (P4.out.2.below b6).but B9 (by have := P4.out.1; omega), (E4.trans (b6.mono z4)).trans (B9.below (Nat.le_refl _) (by omega))⟩
end Go.Proofs.YtijpoipcadhchaaDoor
namespace Go.Proofs.YtijpoipcadhchaaDoor
open Go.RowKit Go.Maps
theorem info_ss : (Tryd.prog.info? 34).map (fun i => (i.zero, i.size, i.bytes)) = some (some (.agg (ss 0 0 0 false).toArray), 4, 32) := by kernel_rfl
/-- A list of all states, of one's own. -/
def SlotsP (W : World) (C : Nat → Value) (e : Ending) (w' : World) : Prop := ∃ g cap, e = .returned (.slice (some ⟨g, 0, none⟩) 16 cap) ∧ W.heap.size ≤ g ∧ (∀ i, i < 64 → w'.cell? ⟨g, i, none⟩ = some (C i)) ∧ g < w'.heap.size ∧ Below W.heap.size W w'
set_option maxRecDepth 100000 in
theorem clone_app (W : World) (j d : Nat) (C : Nat → Value) (h : JAt W j d C) (h1 : ∀ i, i < 64 → (C i).oneCell' = true) :
    ∃ g cap w', (Builtin.append_ #[55, 55] 55 #[.slice (some ⟨W.heap.size, 0, none⟩) 0 0, .slice (some ⟨j, 2, none⟩) 16 16]).run Tryd.prog (W.alloc (.cells #[] 34)) = .ok (.slice (some ⟨g, 0, none⟩) 16 cap) w' ∧ W.heap.size ≤ g ∧ (∀ i, i < 64 → w'.cell? ⟨g, i, none⟩ = some (C i)) ∧ g < w'.heap.size ∧ Below W.heap.size W w' := by
  have BA : Below W.heap.size W (W.alloc (.cells #[] 34)) := (Below.refl _ _).alloc (Nat.le_refl _) _
  have hA := h.below BA
  obtain ⟨i0, hi, hz0, hz1, hz2⟩ := info_parts info_ss
  have own : (W.alloc (.cells #[] 34)).ownsRow W.heap.size 34 4 (.slice (some ⟨W.heap.size, 0, none⟩) 0 0) 0 [] := by
    have := World.ownsRow_lit (e := 34) (size := 4) (base := W.heap.size) W #[] 0 (Nat.le_refl _) (by unfold maxLen; omega) (by simp)
    simpa using this
  obtain ⟨v', w', r, o, gr, _⟩ := run_append_own (P := Tryd.prog) (W.alloc (.cells #[] 34)) W.heap.size 55 55 34 i0 _ 4 32 Tryd.underlying55 hi hz0 hz1 hz2 rfl (by omega) _ 0 [] own ⟨j, 2, none⟩ 16 16 (stL C) (by rw [stL_len]) (fun q u hq => by
    have l : q < 64 := by
      rcases Nat.lt_or_ge q 64 with r | r
      · exact r
      · rw [List.getElem?_eq_none (by rw [stL_len]; exact r)] at hq
        cases hq
    rw [stL_at C q l] at hq
    injection hq with hq
    rw [← hq, Addr.add_mid]
    exact hA.c q l) (stL_one h1) (by unfold maxLen; omega) (by omega) BA.size
  have bel : Below W.heap.size W w' := BA.trans ((Below.refl _ _).grown gr BA.size (fun k hk => (World.ownsRow.lt own k hk).1))
  rw [List.nil_append] at o
  rcases o.2 with ⟨_, h0⟩ | ⟨g, cap, cur, rfl, hbg, hg, hnc, _, hsz, htake⟩
  · omega
  refine ⟨g, cap, w', r, hbg, fun i hi => ?_, (Array.getElem?_eq_some_iff.1 hg).1, bel⟩
  rw [cell_of_row w' g i cur 34 (0, 0) hg]
  have q := stL_at C i hi
  rw [← htake, List.getElem?_take, if_pos (by omega)] at q
  simpa using q
theorem eqst_nil (a : Addr) (n c : Nat) (w : World) : (binOp .eql 55 (.slice (some a) n c) (.slice none 0 0)).run Tryd.prog w = .ok (.bool false) w := by
  have h : (Op.equal 55 (.slice (some a) n c) (.slice none 0 0)).run Tryd.prog w = .ok false w := run_equal_slice_nil w 55 34 (some a) n c Tryd.underlying55
  simp only [binOp]
  simp [h]
set_option maxRecDepth 100000 in
theorem clone_ok (W : World) (j d : Nat) (C : Nat → Value) (h : JAt W j d C) (h1 : ∀ i, i < 64 → (C i).oneCell' = true) : Calls Tryd.prog 38 #[.slice (some ⟨j, 2, none⟩) 16 16] W (SlotsP W C) := by
  obtain ⟨g, cap, w', r, h2, h3, h4, h5⟩ := clone_app W j d C h h1
  have PP : Hid (SlotsP W C (.returned (.slice (some ⟨g, 0, none⟩) 16 cap)) w') := ⟨g, cap, rfl, h2, h3, h4, h5⟩
  clear h h1 h2 h3 h4 h5
  have en := eqst_nil ⟨j, 2, none⟩ 16 16 W
  go_enter Tryd.func38, Tryd.ntmps38
  go_wp2_with (at_builtin; refine wpList_append_go rfl (.tmp 5) (.tmp 6) 55 55 rfl _ _ rfl rfl r ?_)
  go_ret
  exact PP.out
set_option maxRecDepth 100000 in
theorem jslots_ok (W : World) (j d : Nat) (C : Nat → Value) (h : JAt W j d C) (h1 : ∀ i, i < 64 → (C i).oneCell' = true) : Calls Tryd.prog 12 #[.pointer (some ⟨j, 0, none⟩)] W (SlotsP W C) := by
  have MD : Hid (Calls Tryd.prog 27 #[.pointer (some ⟨j, 0, none⟩)] W fun e w' => e = .returned (.bool true) ∧ w' = W) := jmade_ok W j d C h
  have CL : Hid (Calls Tryd.prog 38 #[.slice (some ⟨j, 2, none⟩) 16 16] W (SlotsP W C)) := clone_ok W j d C h h1
  clear h h1
  go_enter Tryd.func12, Tryd.ntmps12
  go_wp2_with (first
    | (go_at_call 27; refine MD.out.mono ?_; rintro e w1 ⟨rfl, hw1⟩; rw [hw1]; clear hw1 w1)
    | (go_at_call 38; refine CL.out.mono ?_; rintro e w2 ⟨g, cap, rfl, h2⟩; have P2 : Hid (SlotsP W C (.returned (.slice (some ⟨g, 0, none⟩) 16 cap)) w2) := ⟨g, cap, rfl, h2⟩; clear h2))
  go_ret
  exact P2.out
end Go.Proofs.YtijpoipcadhchaaDoor
namespace Go.Proofs.YtijpoipcadhchaaDoor
open Go.RowKit
theorem wpList_eql_b {ops : Array Oper} {rest : List Oper} {op : Oper} {a : Act} {w : World} {Q : Exit → Act → World → Prop} (hw : Region.wanted op (yielded ops a.tmps) = true) (t t' : TypeId) (x y : Operand) (ho : op.op = .binOp .eql t x y t')
    (X Y : Array Value) (hx : a.eval x = .agg X) (hy : a.eval y = .agg Y) (b : Bool) (he : ∀ w, (binOp .eql t (.agg X) (.agg Y)).run Tryd.prog w = .ok (.bool b) w) (hg : Tryd.prog.eqGuardType Tryd.prog.depth t = false)
    (hK : wpList Tryd.prog ops Q rest (a.put op.dst (.bool b)) w) : wpList Tryd.prog ops Q (op :: rest) a w := by
  refine wpList_step fun K hK' => ?_
  rw [if_pos hw]
  unfold Oper.wp execOp
  simp only [ho, hx, hy, Sem.run_bind, run_eqGuard_agg _ _ _ _ _ _ _ hg, Result.andThen_ok, he]
  exact hK' _ _ hK
set_option maxRecDepth 100000 in
set_option maxHeartbeats 4000000 in
theorem eql_hdr_no (h g : Nat → Int) (w : World) (hn : ¬ ∀ j, j < 16 → h j = g j) : (binOp .eql 26 (.agg (hcs h).toArray) (.agg (hcs g).toArray)).run Tryd.prog w = .ok (.bool false) w := by
  simp [go_sem, hcs]
  intro h0 h1 h2 h3 h4 h5 h6 h7 h8 h9 h10 h11 h12 h13 h14 h15
  refine hn fun j hj => ?_
  match j, hj with
  | 0, _ => assumption
  | 1, _ => assumption
  | 2, _ => assumption
  | 3, _ => assumption
  | 4, _ => assumption
  | 5, _ => assumption
  | 6, _ => assumption
  | 7, _ => assumption
  | 8, _ => assumption
  | 9, _ => assumption
  | 10, _ => assumption
  | 11, _ => assumption
  | 12, _ => assumption
  | 13, _ => assumption
  | 14, _ => assumption
  | 15, _ => assumption
  | j + 16, hj => omega
set_option maxRecDepth 100000 in
set_option maxHeartbeats 400000 in
theorem sameMsg_eq (h : Nat → Int) (a a' : Option Addr) (n m C C' : Nat) (f g : Nat → Int) (w : World) (hA : Arg w a n f) (hA' : Arg w a' m g) :
    Calls Tryd.prog 8 #[.agg (msg h a n C).toArray, .agg (msg h a' m C').toArray] w fun e w' => e = .returned (.bool (decide (txtN n f = txtN m g))) ∧ Below w.heap.size w w' := by
  have HA : Hid (Arg w a n f) := hA
  have HA' : Hid (Arg w a' m g) := hA'
  obtain ⟨b, hb⟩ : ∃ b, decide (txtN n f = txtN m g) = b := ⟨_, rfl⟩
  have HB : Hid (decide (txtN n f = txtN m g) = b) := hb
  rw [hb]
  clear hA hA' hb
  go_enter Tryd.func8, Tryd.ntmps8
  go_wp2_with (first
    | (refine wpList_box_rec rfl 29 (.tmp 0) rfl (msg h a n C) rfl w.heap.size rfl ?_; intro W0 R0 B0 z0)
    | (refine wpList_box_rec rfl 29 (.tmp 1) rfl (msg h a' m C') rfl (w.heap.size + 1) z0 ?_; intro W1 R1 B1 z1
       have S0 : Hid (Rec19 W1 w.heap.size 0 (msg h a n C)) := R0.below (by rw [z0]; exact B1)
       have S1 : Hid (Rec19 W1 (w.heap.size + 1) 0 (msg h a' m C')) := R1
       have E1 : Hid (Below w.heap.size w W1) := B0.trans (B1.mono (by omega))
       obtain ⟨c0, _⟩ := S0.out.at 16 _ (msg_body h a n C)
       obtain ⟨c1, _⟩ := R1.at 16 _ (msg_body h a' m C')
       clear R0 B0 z0 R1 B1 z1)
    | (refine wpList_load_rec rfl 26 (.tmp 5) rfl w.heap.size 0 (hcs h) rfl _ Tryd.underlying26 rfl (by kernel_rfl) S0.out.head ?_)
    | (refine wpList_load_rec rfl 26 (.tmp 7) rfl (w.heap.size + 1) 0 (hcs h) rfl _ Tryd.underlying26 rfl (by kernel_rfl) S1.out.head ?_)
    | (refine wpList_eql_w (by rfl) 26 26 (.tmp 6) (.tmp 8) rfl (hcs h).toArray rfl rfl (eql_hdr h) guard_hdr ?_)
    | (go_at_call 26; refine (same_any a a' n m C C' f g _ (HA.out.below E1.out) (HA'.out.below E1.out)).mono ?_; rintro e W2 ⟨rfl, hW2⟩; rw [hW2, HB.out]; clear hW2 W2))
  go_ret
  exact ⟨rfl, E1.out⟩
set_option maxRecDepth 100000 in
set_option maxHeartbeats 400000 in
theorem sameMsg_no (h h' : Nat → Int) (a a' : Option Addr) (n m C C' : Nat) (w : World) (hn : ¬ ∀ j, j < 16 → h j = h' j) :
    Calls Tryd.prog 8 #[.agg (msg h a n C).toArray, .agg (msg h' a' m C').toArray] w fun e w' => e = .returned (.bool false) ∧ Below w.heap.size w w' := by
  have HN : Hid (¬ ∀ j, j < 16 → h j = h' j) := hn
  clear hn
  go_enter Tryd.func8, Tryd.ntmps8
  go_wp2_with (first
    | (refine wpList_box_rec rfl 29 (.tmp 0) rfl (msg h a n C) rfl w.heap.size rfl ?_; intro W0 R0 B0 z0)
    | (refine wpList_box_rec rfl 29 (.tmp 1) rfl (msg h' a' m C') rfl (w.heap.size + 1) z0 ?_; intro W1 R1 B1 z1
       have S0 : Hid (Rec19 W1 w.heap.size 0 (msg h a n C)) := R0.below (by rw [z0]; exact B1)
       have S1 : Hid (Rec19 W1 (w.heap.size + 1) 0 (msg h' a' m C')) := R1
       have E1 : Hid (Below w.heap.size w W1) := B0.trans (B1.mono (by omega))
       clear R0 B0 z0 R1 B1 z1)
    | (refine wpList_load_rec rfl 26 (.tmp 5) rfl w.heap.size 0 (hcs h) rfl _ Tryd.underlying26 rfl (by kernel_rfl) S0.out.head ?_)
    | (refine wpList_load_rec rfl 26 (.tmp 7) rfl (w.heap.size + 1) 0 (hcs h') rfl _ Tryd.underlying26 rfl (by kernel_rfl) S1.out.head ?_)
    | (refine wpList_eql_b (by rfl) 26 26 (.tmp 6) (.tmp 8) rfl (hcs h).toArray (hcs h').toArray rfl rfl false (fun w => eql_hdr_no h h' w HN.out) guard_hdr ?_))
  go_ret
  exact ⟨rfl, E1.out⟩
/-- SameMessage, whatever it is handed. -/
theorem sameMsg_gen (h h' : Nat → Int) (a a' : Option Addr) (n m C C' : Nat) (f g : Nat → Int) (w : World) (hA : Arg w a n f) (hA' : Arg w a' m g) : ∃ b : Bool, (b = true → ∀ j, j < 16 → h j = h' j) ∧
    Calls Tryd.prog 8 #[.agg (msg h a n C).toArray, .agg (msg h' a' m C').toArray] w fun e w' => e = .returned (.bool b) ∧ Below w.heap.size w w' := by
  by_cases e : ∀ j, j < 16 → h j = h' j
  · refine ⟨decide (txtN n f = txtN m g), fun _ => e, ?_⟩
    rw [show msg h a n C = msg h' a n C from by unfold msg; rw [hcs_congr h h' e]]
    exact sameMsg_eq h' a a' n m C C' f g w hA hA'
  · exact ⟨false, fun q => (by cases q), sameMsg_no h h' a a' n m C C' w e⟩
end Go.Proofs.YtijpoipcadhchaaDoor
namespace Go.Proofs.YtijpoipcadhchaaDoor
open Go.RowKit Go.Maps
/-- What Get answers. -/
def GetsP (W : World) (h : Nat → Int) (n : Nat) (f : Nat → Int) (er : Int) (e : Ending) (w' : World) : Prop := ∃ a C, e = .returned (.tuple #[.agg (msg h a n C).toArray, .int .i64 er]) ∧ Arg w' a n f ∧ Below W.heap.size W w'
set_option maxRecDepth 100000 in
set_option maxHeartbeats 400000 in
theorem gets_ok0 (W : World) (jp : Value) (op : Int) (h : Nat → Int) (a : Option Addr) (n C : Nat) (f : Nat → Int) (hA : Arg W a n f) (hG : ∀ u, Below W.heap.size W u → Calls Tryd.prog 6 #[jp, .int .i64 op] u (GetsP u h n f 0)) :
    Calls Tryd.prog 18 #[jp, .int .i64 op, .agg (msg h a n C).toArray, .int .i64 0] W fun e w' => e = .returned (.bool true) ∧ Below W.heap.size W w' := by
  have HA : Hid (Arg W a n f) := hA
  have HG : Hid (∀ u, Below W.heap.size W u → Calls Tryd.prog 6 #[jp, .int .i64 op] u (GetsP u h n f 0)) := hG
  clear hA hG
  go_enter Tryd.func18, Tryd.ntmps18
  go_wp2_with (first
    | (refine wpList_box_rec rfl 29 (.tmp 2) rfl (msg h a n C) rfl W.heap.size rfl ?_; intro W0 R0 B0 z0)
    | (go_at_call 6; refine (HG.out _ B0).mono ?_; rintro e W1 ⟨a1, C1, rfl, hA1, hB1⟩
       have A1 : Hid (Arg W1 a1 n f) := hA1
       have E1 : Hid (Below W.heap.size W W1) := B0.trans (hB1.mono B0.size)
       have R1 : Rec19 W1 W.heap.size 0 (msg h a n C) := R0.below (by exact hB1)
       have s1 : W.heap.size < W1.heap.size := by have := hB1.size; omega
       clear hA1 hB1 R0 B0 z0)
    | (refine wpList_alloc_rec rfl 29 rfl (msg (fun _ => 0) none 0 0) W1.heap.size rfl zeroMsg ?_; intro W2 R2 B2 z2)
    | (refine wpList_store_rec rfl 29 (.tmp 9) (.tmp 15) rfl W1.heap.size 0 _ (msg h a1 n C1) rfl rfl R2 rfl (by kernel_rfl) (msg_one _ _ _ _) ?_; intro W3 R3 B3
       have Q3 : Below W1.heap.size W1 W3 := B2.trans (B3.below (Nat.le_refl _) B2.size)
       have E3 : Hid (Below W.heap.size W W3) := E1.out.trans (Q3.mono E1.out.size)
       have A3 : Hid (Arg W3 a1 n f ∧ Arg W3 a n f) := ⟨A1.out.below Q3, HA.out.below E3.out⟩
       have R3' : Rec19 W3 W.heap.size 0 (msg h a n C) := R1.below Q3
       clear Q3 R1 R2 B2 z2 B3)
    | (refine wpList_load_w (by rfl) 29 (.tmp 9) rfl W1.heap.size 0 (msg h a1 n C1) rfl _ Tryd.underlying29 rfl (by kernel_rfl) R3 ?_)
    | (refine wpList_load_w (by rfl) 29 (.tmp 6) rfl W.heap.size 0 (msg h a n C) rfl _ Tryd.underlying29 rfl (by kernel_rfl) R3' ?_)
    | (go_at_call 8; refine (sameMsg_eq h a1 a n n C1 C f f _ A3.out.1 A3.out.2).mono ?_; rintro e W4 ⟨rfl, hB4⟩; rw [decide_eq_true rfl]; have E4 : Hid (Below W.heap.size W W4) := E3.out.trans (hB4.mono E3.out.size); clear hB4))
  go_ret
  exact ⟨rfl, E4.out⟩
set_option maxRecDepth 100000 in
set_option maxHeartbeats 400000 in
theorem gets_ok6 (W : World) (jp : Value) (op : Int) (h : Nat → Int) (a : Option Addr) (n C : Nat) (f : Nat → Int) (hA : Arg W a n f) (hG : ∀ u, Below W.heap.size W u → Calls Tryd.prog 6 #[jp, .int .i64 op] u (GetsP u h n f 6)) :
    Calls Tryd.prog 18 #[jp, .int .i64 op, .agg (msg h a n C).toArray, .int .i64 6] W fun e w' => e = .returned (.bool true) ∧ Below W.heap.size W w' := by
  have HA : Hid (Arg W a n f) := hA
  have HG : Hid (∀ u, Below W.heap.size W u → Calls Tryd.prog 6 #[jp, .int .i64 op] u (GetsP u h n f 6)) := hG
  clear hA hG
  go_enter Tryd.func18, Tryd.ntmps18
  go_wp2_with (first
    | (refine wpList_box_rec rfl 29 (.tmp 2) rfl (msg h a n C) rfl W.heap.size rfl ?_; intro W0 R0 B0 z0)
    | (go_at_call 6; refine (HG.out _ B0).mono ?_; rintro e W1 ⟨a1, C1, rfl, hA1, hB1⟩
       have A1 : Hid (Arg W1 a1 n f) := hA1
       have E1 : Hid (Below W.heap.size W W1) := B0.trans (hB1.mono B0.size)
       have R1 : Rec19 W1 W.heap.size 0 (msg h a n C) := R0.below (by exact hB1)
       have s1 : W.heap.size < W1.heap.size := by have := hB1.size; omega
       clear hA1 hB1 R0 B0 z0)
    | (refine wpList_alloc_rec rfl 29 rfl (msg (fun _ => 0) none 0 0) W1.heap.size rfl zeroMsg ?_; intro W2 R2 B2 z2)
    | (refine wpList_store_rec rfl 29 (.tmp 9) (.tmp 15) rfl W1.heap.size 0 _ (msg h a1 n C1) rfl rfl R2 rfl (by kernel_rfl) (msg_one _ _ _ _) ?_; intro W3 R3 B3
       have Q3 : Below W1.heap.size W1 W3 := B2.trans (B3.below (Nat.le_refl _) B2.size)
       have E3 : Hid (Below W.heap.size W W3) := E1.out.trans (Q3.mono E1.out.size)
       have A3 : Hid (Arg W3 a1 n f ∧ Arg W3 a n f) := ⟨A1.out.below Q3, HA.out.below E3.out⟩
       have R3' : Rec19 W3 W.heap.size 0 (msg h a n C) := R1.below Q3
       clear Q3 R1 R2 B2 z2 B3)
    | (refine wpList_load_w (by rfl) 29 (.tmp 9) rfl W1.heap.size 0 (msg h a1 n C1) rfl _ Tryd.underlying29 rfl (by kernel_rfl) R3 ?_)
    | (refine wpList_load_w (by rfl) 29 (.tmp 6) rfl W.heap.size 0 (msg h a n C) rfl _ Tryd.underlying29 rfl (by kernel_rfl) R3' ?_)
    | (go_at_call 8; refine (sameMsg_eq h a1 a n n C1 C f f _ A3.out.1 A3.out.2).mono ?_; rintro e W4 ⟨rfl, hB4⟩; rw [decide_eq_true rfl]; have E4 : Hid (Below W.heap.size W W4) := E3.out.trans (hB4.mono E3.out.size); clear hB4))
  go_ret
  exact ⟨rfl, E4.out⟩
end Go.Proofs.YtijpoipcadhchaaDoor
namespace Go.Proofs.YtijpoipcadhchaaDoor
open Go.RowKit Go.Maps
/-- The header of a prepare. -/
def pvH (op vw : Int) (j : Nat) : Int := if j = 0 then 2 else if j = 5 then op else if j = 3 then vw else 0
theorem pv_words (op vw : Int) : Words (pvH op vw) := ⟨by unfold Word pvH; simp, by unfold Word pvH; simp, by unfold Word pvH; simp⟩
theorem pv_size (op vw : Int) (j : Nat) : upd (pvH op vw) 2 ((0 : Nat) : Int) j = pvH op vw j := by
  unfold upd
  by_cases e : j = 2
  · subst e; rfl
  · rw [if_neg e]
theorem pv_ok (op vw : Int) (h0 : 0 ≤ op) (h1 : op ≤ 1073741824) (v0 : 0 ≤ vw) (v1 : vw ≤ 1073741824) : okH (upd (pvH op vw) 2 ((0 : Nat) : Int)) = true := by
  rw [okH_iff]
  intro k hk
  unfold within
  rw [Bool.and_eq_true, decide_eq_true_iff, decide_eq_true_iff, pv_size]
  match k, hk with
  | 0, _ | 1, _ | 2, _ | 4, _ | 6, _ | 7, _ | 8, _ | 9, _ | 10, _ | 11, _ | 12, _ => exact ⟨by simp [pvH, pos, fle], by simp [pvH, pos, fmo]⟩
  | 3, _ => exact ⟨v0, v1⟩
  | 5, _ => exact ⟨h0, h1⟩
  | k + 13, hk => omega
/-- The slot's bytes of such a prepare. -/
def pvF (op vw : Int) : Nat → Int := slotF (pvH op vw) 0 (fun _ => 0)
theorem pvF_byte (op vw : Int) (j : Nat) : 0 ≤ pvF op vw j ∧ pvF op vw j < 256 := slotF_byte _ 0 _ (fun j h => by omega) j
theorem eql_ss (a b c : Int) (d : Bool) (w : World) : (binOp .eql 34 (.agg (ss a b c d).toArray) (.agg (ss a b c d).toArray)).run Tryd.prog w = .ok (.bool true) w := by
  simp [go_sem, ss]
theorem guard_ss : Tryd.prog.eqGuardType Tryd.prog.depth 34 = false := by kernel_rfl
theorem conv_no (W : World) : ∃ cap W', (convert 9 27 (.string ⟨#[]⟩)).run Tryd.prog W = .ok (.slice (some ⟨W.heap.size, 0, none⟩) 0 cap) W' ∧ Below W.heap.size W W' :=
  ⟨_, _, run_bytes_of_string (P := Tryd.prog) W 9 27 5 ⟨#[]⟩ Tryd.underlying9 Tryd.underlying27 Tryd.underlying5, (Below.refl _ _).drew.alloc (Nat.le_refl _) _⟩
set_option maxRecDepth 100000 in
set_option maxHeartbeats 400000 in
/-- A prepare without a body. -/
theorem prepare_ok (op vw : Int) (w : World) :
    Calls Tryd.prog 16 #[.int .i64 op, .int .i64 vw, .string ⟨#[]⟩] w fun e w' => ∃ p C, e = .returned (.agg (msg (pvH op vw) (some p) 0 C).toArray) ∧ Below w.heap.size w w' := by
  have T0 : Hid True := trivial
  go_enter Tryd.func16, Tryd.ntmps16
  go_wp2_with (first
    | (have _q := T0; clear _q; refine wpList_alloc_rec rfl 29 rfl (msg (fun _ => 0) none 0 0) w.heap.size rfl zeroMsg ?_; intro W1 R1 B1 z1; clear T0; obtain ⟨cap, W2, hcv, B2⟩ := conv_no W1; have R2 := R1.below B2; rw [z1] at hcv)
    | (have _q := R1; clear _q; refine wpList_build_to rfl 26 _ rfl (hcs (pvH op vw)).toArray (by kernel_rfl) ?_)
    | (have _q := R1; clear _q; refine wpList_build_to rfl 29 _ rfl (msg (pvH op vw) (some ⟨w.heap.size + 1, 0, none⟩) 0 cap).toArray (by kernel_rfl) ?_)
    | (have _q := R1; clear _q; refine wpList_store_rec rfl 29 (.tmp 6) (.tmp 14) rfl w.heap.size 0 _ (msg (pvH op vw) (some ⟨w.heap.size + 1, 0, none⟩) 0 cap) rfl rfl R2 rfl (by kernel_rfl) (msg_one _ _ _ _) ?_; intro W3 R3 B3))
  have hl := R3.run_load 29 _ Tryd.underlying29 rfl (by kernel_rfl)
  have E2 : Below w.heap.size w W2 := B1.trans (B2.mono B1.size)
  refine bodyPost_ret (v := .agg (msg (pvH op vw) (some ⟨w.heap.size + 1, 0, none⟩) 0 cap).toArray) (by simp [results, Tryd.results16, asAddr, Act.put, hl]) rfl ⟨_, cap, rfl, E2.trans (B3.below (Nat.le_refl _) E2.size)⟩
end Go.Proofs.YtijpoipcadhchaaDoor
namespace Go.Proofs.YtijpoipcadhchaaDoor
open Go.RowKit Go.Maps
/-- A new disk, formatted. -/
noncomputable def frD : Dsk := fmD (dsk0 104) 3
noncomputable def frG (j : Nat) : Int := frD.sec (8 * 256 + j)
def FreshP (w : World) (e : Ending) (w' : World) : Prop := ∃ d s m j W1, e = .returned (.tuple #[.pointer (some ⟨d, 0, none⟩), .pointer (some ⟨j, 0, none⟩), .bool true]) ∧ St w W1 d s m frD ∧ W1.heap.size ≤ j ∧ JAt w' j d (stC frG 16) ∧ Below W1.heap.size W1 w'
set_option maxRecDepth 100000 in
set_option maxHeartbeats 400000 in
theorem fresh_ok (w : World) (hT : Tab w) (h1 : (dsk0 104).few 1000) (h2 : frD.free) (h3 : 104 ≤ frD.N) (hb : ∀ j, j < 24576 → 0 ≤ frD.sec (8 * 256 + j) ∧ frD.sec (8 * 256 + j) < 256) (NG : ∀ g k, k < 16 → NgOk (some ⟨g, 4096 + k * 1280, none⟩) 1280 (20480 - k * 1280) (fun j => frD.sec (8 * 256 + (4096 + k * 1280 + j)))) :
    Calls Tryd.prog 14 #[] w (FreshP w) := by
  have NW : Hid (∀ u, Calls Tryd.prog 15 #[.int .i64 104] u (NewPost u 104)) := fun u => new_ok 104 u (by omega) (by omega)
  have HF : Hid (∀ u d s m, St w u d s m (dsk0 104) → Calls Tryd.prog 13 #[.pointer (some ⟨d, 0, none⟩)] u (FmtPost w d s (dsk0 104))) := fun u d s m h => format_st w u d s m _ h h1 (Nat.le_refl _) (hT.below h.bel hT.2)
  have HO : Hid (∀ u d s m, St w u d s m frD → Calls Tryd.prog 7 #[.pointer (some ⟨d, 0, none⟩)] u (OpenP u d frG)) := fun u d s m h => jopen_ok w u d s m _ h h2 h3 (hT.below h.bel hT.2) hb NG
  clear hT h1 h2 h3 hb NG
  go_enter Tryd.func14, Tryd.ntmps14
  go_wp2_with (first
    | (go_at_call 15; refine (NW.out _).mono ?_; rintro e W1 ⟨d, s, m, rfl, hd, hs, hm, hD, hB⟩; have S1 : Hid (St w W1 d s m (dsk0 104)) := ⟨hD, hd, hs, hm, hB⟩; clear hd hs hm hD hB)
    | (go_at_call 13; refine (HF.out _ _ _ _ S1.out).mono ?_; rintro e W2 ⟨rfl, m2, h2⟩; have S2 : Hid (St w W2 d s m2 frD) := h2; clear h2)
    | (go_at_call 7; refine (HO.out _ _ _ _ S2.out).mono ?_; rintro e W3 ⟨j, rfl, hj, hJ, hB⟩; have P3 : Hid (FreshP w (.returned (.tuple #[.pointer (some ⟨d, 0, none⟩), .pointer (some ⟨j, 0, none⟩), .bool true])) W3) := ⟨d, s, m2, j, W2, rfl, S2.out, hj, hJ, hB⟩; clear hj hJ hB))
  refine bodyPost_ret (v := .tuple #[.pointer (some ⟨d, 0, none⟩), .pointer (some ⟨j, 0, none⟩), .bool true]) (by simp [results, Tryd.results14]) rfl P3.out
end Go.Proofs.YtijpoipcadhchaaDoor
namespace Go.Proofs.YtijpoipcadhchaaDoor
open Go.RowKit Go.Maps
theorem wpList_load_s {ops : Array Oper} {rest : List Oper} {op : Oper} {a : Act} {w : World} {Q : Exit → Act → World → Prop} (hw : Region.wanted op (yielded ops a.tmps) = true) (ty : TypeId) (x : Operand) (ho : op.op = .load ty x)
    (b o : Nat) (cs : List Value) (hx : a.eval x = .pointer (some ⟨b, o, none⟩)) (d : TypeDesc) (hu : Tryd.prog.underlying ty = some d) (hd : d.isRow = true) (hi : (Tryd.prog.info? ty).map (·.size) = some cs.length)
    (h : w.rangeAt b o cs) (hK : wpList Tryd.prog ops Q rest (a.put op.dst (.agg cs.toArray)) w) : wpList Tryd.prog ops Q (op :: rest) a w := by
  refine wpList_step fun K hK' => ?_
  rw [if_pos hw]
  unfold Oper.wp execOp
  simp only [ho, hx, Instr.loadAt, Instr.sureAddr, Sem.run_bind, Sem.run_pure, Result.andThen_ok, run_loadVar_mid (P := Tryd.prog) w b o ty cs d h hu hd hi]
  exact hK' _ _ hK
theorem wpList_neq_s {ops : Array Oper} {rest : List Oper} {op : Oper} {a : Act} {w : World} {Q : Exit → Act → World → Prop} (hw : Region.wanted op (yielded ops a.tmps) = true) (t t' : TypeId) (x y : Operand) (ho : op.op = .binOp .neq t x y t')
    (X : Array Value) (hx : a.eval x = .agg X) (hy : a.eval y = .agg X) (he : ∀ w, (binOp .neq t (.agg X) (.agg X)).run Tryd.prog w = .ok (.bool false) w) (hg : Tryd.prog.eqGuardType Tryd.prog.depth t = false)
    (hK : wpList Tryd.prog ops Q rest (a.put op.dst (.bool false)) w) : wpList Tryd.prog ops Q (op :: rest) a w := by
  refine wpList_step fun K hK' => ?_
  rw [if_pos hw]
  unfold Oper.wp execOp
  simp only [ho, hx, hy, Sem.run_bind, run_eqGuard_agg _ _ _ _ _ _ _ hg, Result.andThen_ok, he]
  exact hK' _ _ hK
theorem neq_ss (a b c : Int) (d : Bool) (w : World) : (binOp .neq 34 (.agg (ss a b c d).toArray) (.agg (ss a b c d).toArray)).run Tryd.prog w = .ok (.bool false) w := by
  simp [go_sem, ss]
def emRel (W1 : World) (i : Value) (wr : World) : Prop := ∃ k : Nat, k ≤ 16 ∧ i = .int .i64 (k : Int) ∧ wr = W1
theorem slots_at {w' : World} {g k : Nat} {C : Nat → Value} {st o v : Int} {mm : Bool} (h : ∀ i, i < 64 → w'.cell? ⟨g, i, none⟩ = some (C i)) (hk : k < 16) (hs : Knows C k st o v mm) : w'.rangeAt g (k * 4) (ss st o v mm) := by
  intro q x hq
  match q, hq with
  | 0, hq => injection hq with hq; rw [← hq, ← hs.1]; exact h (k * 4) (by omega)
  | 1, hq => injection hq with hq; rw [← hq, ← hs.2.1]; exact h (k * 4 + 1) (by omega)
  | 2, hq => injection hq with hq; rw [← hq, ← hs.2.2.1]; exact h (k * 4 + 2) (by omega)
  | 3, hq => injection hq with hq; rw [← hq, ← hs.2.2.2]; exact h (k * 4 + 3) (by omega)
  | q + 4, hq => simp [ss] at hq
set_option maxRecDepth 100000 in
set_option maxHeartbeats 400000 in
/-- All slots are empty. -/
theorem empty_ok (W : World) (j d : Nat) (C : Nat → Value) (h : JAt W j d C) (h1 : ∀ i, i < 64 → (C i).oneCell' = true) (hC : ∀ k, k < 16 → Knows C k 4 0 0 false) : Calls Tryd.prog 19 #[.pointer (some ⟨j, 0, none⟩)] W fun e w' => e = .returned (.bool true) ∧ Below W.heap.size W w' := by
  have SL : Hid (Calls Tryd.prog 12 #[.pointer (some ⟨j, 0, none⟩)] W (SlotsP W C)) := jslots_ok W j d C h h1
  have HC : Hid (∀ k, k < 16 → Knows C k 4 0 0 false) := hC
  clear h h1 hC
  go_enter Tryd.func19, Tryd.ntmps19
  go_wp2_with (go_at_call 12; refine SL.out.mono ?_; rintro e W1 ⟨g, cap, rfl, hg, hc, hl, hB⟩; have HR : Hid (∀ k, k < 16 → W1.rangeAt g (k * 4) (ss 4 0 0 false)) := (fun k hk => slots_at hc hk (HC.out k hk)); have HB : Hid (Below W.heap.size W W1) := hB; clear hg hc hl hB)
  go_loopw [4] (fun i wr => emRel W1 i wr) (fun i _ => 17 - (RowKit.intOf i).toNat)
  case atStart => exact ⟨0, by omega, rfl, rfl⟩
  case round =>
    obtain ⟨k, hk, rfl, rfl⟩ := hrel
    have i1 : (0 : Int) ≤ (k : Int) := by omega
    by_cases hlt : k < 16
    · have i0 : (k : Int) < 16 := by omega
      have r0 := HR.out k hlt
      have H2 : Hid (emRel wr (.int .i64 ((k : Int) + 1)) wr) := ⟨k + 1, hlt, by go_num, rfl⟩
      go_wp2_with (first
        | (refine wpList_load_s (by rfl) 34 (.tmp 15) rfl g (k * 4) (ss 4 0 0 false) rfl _ Tryd.underlying34 rfl (by kernel_rfl) r0 ?_)
        | (refine wpList_build_to rfl 34 _ rfl (ss 4 0 0 false).toArray (by kernel_rfl) ?_)
        | (refine wpList_neq_s (by rfl) 34 34 (.tmp 16) (.tmp 17) rfl (ss 4 0 0 false).toArray rfl rfl (neq_ss 4 0 0 false) guard_ss ?_))
      exact ⟨H2.out, by simp [RowKit.intOf]; omega⟩
    · have i0 : ¬ (k : Int) < 16 := by omega
      go_wp2_with fail
      go_ret
      exact ⟨rfl, HB.out⟩
end Go.Proofs.YtijpoipcadhchaaDoor
namespace Go.Proofs.YtijpoipcadhchaaDoor
open Go.RowKit Go.Maps
theorem dsk0_few : (dsk0 104).few 0 := ⟨rfl, rfl, by decide, by decide⟩
theorem frD_few : frD.few 3 := (((dsk0_few.wrote 24 _ 80).wrote 8 _ 16).safe).mono (by omega)
theorem frD_N : frD.N = 104 := by
  show ((((dsk0 104).wrote 24 (fun _ => 0) 80).more).wrote 8 hdsF 16).N = 104
  rw [Dsk.wrote_N]
  show ((dsk0 104).wrote 24 (fun _ => 0) 80).N = 104
  rw [Dsk.wrote_N]
  rfl
/-- What lies on it. -/
theorem frD_at (n j : Nat) (hj : j < 256) : at256 frD.sec n j = if 8 ≤ n ∧ n < 8 + 16 then hdsF ((n - 8) * 256 + j) else 0 := by
  show at256 ((((dsk0 104).wrote 24 (fun _ => 0) 80).more).wrote 8 hdsF 16).sec n j = _
  rw [Dsk.wrote_sec _ _ _ _ _ hj]
  by_cases c : 8 ≤ n ∧ n < 8 + 16
  · rw [if_pos c, if_pos c]
  · rw [if_neg c, if_neg c]
    show at256 ((dsk0 104).wrote 24 (fun _ => 0) 80).sec n j = 0
    rw [Dsk.wrote_sec _ _ _ _ _ hj]
    split <;> rfl
theorem frG_is (j : Nat) : frG j = if j < 4096 then hdsF j else 0 := by
  have h := frD_at (8 + j / 256) (j % 256) (Nat.mod_lt _ (by omega))
  unfold at256 at h
  rw [show (8 + j / 256) * 256 + j % 256 = 8 * 256 + j by omega] at h
  unfold frG
  rw [h]
  by_cases c : j < 4096
  · rw [if_pos (by omega), if_pos c, show (8 + j / 256 - 8) * 256 + j % 256 = j by omega]
  · rw [if_neg (by omega), if_neg c]
theorem frG_byte (j : Nat) : 0 ≤ frG j ∧ frG j < 256 := by
  rw [frG_is]
  by_cases c : j < 4096
  · rw [if_pos c]; exact hdsF_byte j
  · rw [if_neg c]; omega
end Go.Proofs.YtijpoipcadhchaaDoor
namespace Go.Proofs.YtijpoipcadhchaaDoor
open Go.RowKit
theorem ps_head (f g : Nat → Int) (n : Nat) (h : ∀ j, j < 256 → f j = g j) (o c : Nat) (ho : o + c ≤ 256) (hn : n = c) : ps (fun i => f (o + i)) n = ps (fun i => g (o + i)) n := ps_congr _ _ n (fun j hj => h _ (by omega))
theorem hdrF_congr (f g : Nat → Int) (h : ∀ j, j < 256 → f j = g j) (j : Nat) (hj : j < 16) : hdrF f j = hdrF g j := by
  rcases pos_cover j hj with rfl | rfl | rfl | ⟨k, hk, rfl⟩
  · rw [hdrF_9, hdrF_9, ps_head f g 8 h 76 8 (by omega) rfl]
  · rw [hdrF_10, hdrF_10, ps_head f g 8 h 68 8 (by omega) rfl]
  · rw [hdrF_13, hdrF_13, ps_head f g 8 h 92 8 (by omega) rfl]
  · have : fat k + 4 ≤ 256 := by unfold fat; split <;> (try split) <;> omega
    rw [hdrF_num _ k hk, hdrF_num _ k hk, ps_head f g 4 h (fat k) 4 (by omega) rfl]
theorem headCode_congr (f g : Nat → Int) (h : ∀ j, j < 256 → f j = g j) : headCode f = headCode g := by
  have a : headSeal f = headSeal g := by
    unfold headSeal
    rw [sealF_congr 240 (fun j => f (16 + j)) (fun j => g (16 + j)) (fun j hj => h _ (by omega)), Bool.eq_iff_iff, eqN_iff, eqN_iff]
    exact ⟨fun k i hi => (k i hi).trans (h i (by omega)), fun k i hi => (k i hi).trans (h i (by omega)).symm⟩
  have b : headNone f = headNone g := by
    unfold headNone
    rw [Bool.eq_iff_iff, zeroN_iff, zeroN_iff]
    exact ⟨fun k i hi => (h _ (by omega)).symm.trans (k i hi), fun k i hi => (h _ (by omega)).trans (k i hi)⟩
  have c : okH (hdrF f) = okH (hdrF g) := okH_congr _ _ (hdrF_congr f g h)
  unfold headCode
  rw [a, b, c]
theorem bodySeal_congr (n : Nat) (hn : 256 ≤ n) (f g : Nat → Int) (h : ∀ j, j < n → f j = g j) : bodySeal n f = bodySeal n g := by
  unfold bodySeal
  rw [sealF_congr (n - 256) (fun j => f (256 + j)) (fun j => g (256 + j)) (fun j hj => h _ (by omega)), Bool.eq_iff_iff, eqN_iff, eqN_iff]
  exact ⟨fun k i hi => (k i hi).trans (h _ (by omega)), fun k i hi => (k i hi).trans (h _ (by omega)).symm⟩
theorem openCode_congr (n : Nat) (hn : 256 ≤ n) (f g : Nat → Int) (h : ∀ j, j < n → f j = g j) : openCode n f = openCode n g := by
  unfold openCode
  rw [headCode_congr f g (fun j hj => h j (by omega)), hdrF_congr f g (fun j hj => h j (by omega)) 2 (by omega), bodySeal_congr n hn f g h]
theorem isPrep_congr (h g : Nat → Int) (k : Int) (e : ∀ j, j < 16 → h j = g j) : isPrep h k = isPrep g k := by
  unfold isPrep
  rw [e 0 (by omega), e 5 (by omega)]
theorem prepOK_congr (n : Nat) (f g : Nat → Int) (k : Int) (h : ∀ j, j < n → f j = g j) : prepOK n f k = prepOK n g k := by
  by_cases hn : 256 ≤ n
  · have h0 : ∀ j, j < 256 → f j = g j := fun j hj => h j (by omega)
    have hc := headCode_congr f g h0
    have h2 := hdrF_congr f g h0 2 (by omega)
    have hp := isPrep_congr (hdrF f) (hdrF g) k (hdrF_congr f g h0)
    rw [Bool.eq_iff_iff, prepOK_iff, prepOK_iff, hc, h2, hp]
    refine and_congr_right fun a => and_congr_right fun b => and_congr_right fun c => and_congr_right fun d => ?_
    rw [openCode_congr _ (by omega) f g (fun j hj => h j (by have := size_range b; omega))]
  · have e : ∀ F : Nat → Int, prepOK n F k = false := fun F => by rw [Bool.eq_false_iff]; intro q; exact hn (prepOK_iff.1 q).1
    rw [e f, e g]
/-- A prepare's slot's bytes are whole. -/
theorem slot_whole (h f : Nat → Int) (n N : Nat) (k : Int) (hn : 256 + n ≤ N) (hok : okH (upd h 2 (n : Nat)) = true) (hw : Words h) (hp : isPrep h k = true) (F : Nat → Int) (hF : ∀ j, j < 256 + n → F j = msgF (upd h 2 (n : Nat)) n f j) :
    prepOK N F k = true ∧ (∀ j, j < 16 → hdrF F j = upd h 2 (n : Nat) j) ∧ headCode F = 0 := by
  obtain ⟨a, b, c⟩ := open_sealed (upd h 2 (n : Nat)) f n hok (hw.size _) (by unfold upd; rw [if_pos rfl])
  have h0 : ∀ j, j < 256 → F j = msgF (upd h 2 (n : Nat)) n f j := fun j hj => hF j (by omega)
  have hb : ∀ j, j < 16 → hdrF F j = upd h 2 (n : Nat) j := fun j hj => (hdrF_congr _ _ h0 j hj).trans (b j hj)
  have hc : headCode F = 0 := (headCode_congr _ _ h0).trans c
  have h2 : hdrF F 2 = (n : Int) := by rw [hb 2 (by omega)]; unfold upd; rw [if_pos rfl]
  refine ⟨prepOK_iff.2 ⟨by omega, hc, ?_, by rw [h2]; omega, ?_⟩, hb, hc⟩
  · rw [isPrep_congr _ _ k hb]; exact hp
  · rw [h2, Int.toNat_natCast, openCode_congr _ (by omega) _ _ hF, a]
/-- And so is its header. -/
theorem head_whole {n : Nat} {F : Nat → Int} {k : Int} (hn : n = 256) (hc : headCode F = 0) (hp : isPrep (hdrF F) k = true) : fhK n F k = 2 := by
  have e : headC n F = 0 := by unfold headC; rw [if_pos hn, hc]
  unfold fhK
  rw [if_pos e, if_pos hp]
/-- What says that a slot is unwritten is found so. -/
theorem unw_found {k : Int} (hk : isSl k = true) : fhK 256 (unwF k) k = 1 := by
  obtain ⟨_, b, c⟩ := open_sealed (upd (unwH k) 2 ((0 : Nat) : Int)) (fun _ => 0) 0 (unw_ok hk) ((unw_words k).size _) rfl
  have e : headC 256 (unwF k) = 0 := by unfold headC; rw [if_pos rfl]; exact c
  have hp : ¬ isPrep (hdrF (unwF k)) k = true := by
    rw [show isPrep (hdrF (unwF k)) k = _ from isPrep_congr _ _ k b]
    intro h
    unfold isPrep at h
    rw [Bool.and_eq_true, decide_eq_true_iff] at h
    have := h.1
    revert this
    show (1 : Int) = 2 → False
    decide
  have hu : isUnw 256 (unwF k) k = true := by unfold isUnw; rw [hk]; simp
  unfold fhK
  rw [if_pos e, if_neg hp, if_pos hu]
/-- Bytes that are no header are found broken. -/
theorem bad_found {n : Nat} {f : Nat → Int} {k : Int} (h : headC n f ≠ 0) : fhK n f k = 0 := by
  unfold fhK
  rw [if_neg h]
theorem prep_bad {n : Nat} {f : Nat → Int} {k : Int} (h : headCode f ≠ 0) : prepOK n f k = false := by
  rw [Bool.eq_false_iff]
  intro e
  exact h (prepOK_iff.1 e).2.1
theorem zeros_code (f : Nat → Int) (h : ∀ j, j < 256 → f j = 0) : headCode f ≠ 0 := by
  intro e
  have := (okH_iff _).1 (headCode_zero e).2.2 0 (by omega)
  unfold within at this
  rw [Bool.and_eq_true, decide_eq_true_iff] at this
  have h1 := this.1
  rw [hdrF_num f 0 (by omega), ps_congr _ (fun _ => 0) 4 (fun j hj => h _ (by unfold fat; simp; omega))] at h1
  revert h1
  decide
theorem sevens_code (f : Nat → Int) (h : f 108 = 7) : headCode f ≠ 0 := by
  intro e
  have := (zeroN_iff _ _).1 (headCode_zero e).2.1 0 (by omega)
  have h2 : f (108 + 0) = 0 := this
  rw [show 108 + 0 = 108 from rfl, h] at h2
  omega
/-- Headers with other ops are other bytes. -/
theorem txt_op {f g : Nat → Int} (hf : ∀ j, j < 256 → 0 ≤ f j ∧ f j < 256) (hg : ∀ j, j < 256 → 0 ≤ g j ∧ g j < 256) (j : Nat) (hj : j < 16) (h : hdrF f j ≠ hdrF g j) : ¬ txtN 256 f = txtN 256 g :=
  fun e => h (hdrF_congr f g (txtN_inj hf hg e).2 j hj)
end Go.Proofs.YtijpoipcadhchaaDoor
namespace Go.Proofs.YtijpoipcadhchaaDoor
open Go.RowKit Go.Shelf
attribute [local go_sem] Oper.semAt_some
/-- Is a piece all noughts? -/
def pz (f : Nat → Int) (x : Nat) : Bool := decide (txtN 256 (fun j => f (x * 256 + j)) = txtN 256 (fun _ => 0))
theorem pz_iff (f : Nat → Int) (x : Nat) (hf : ∀ j, j < 256 → 0 ≤ f (x * 256 + j) ∧ f (x * 256 + j) < 256) : pz f x = true ↔ ∀ j, j < 256 → f (x * 256 + j) = 0 := by
  unfold pz
  rw [decide_eq_true_iff]
  exact ⟨fun h => (txtN_inj hf (fun j _ => ⟨by omega, by omega⟩) h).2, fun h => txtN_congr _ _ _ h⟩
theorem pz_all {c : Nat} {f : Nat → Int} (hf : ∀ j, j < c * 256 → 0 ≤ f j ∧ f j < 256) : zeroN (c * 256) f = true ↔ ∀ x, x < c → pz f x = true := by
  rw [zeroN_iff]
  refine ⟨fun h x hx => (pz_iff f x (fun j hj => hf _ (by omega))).2 (fun j hj => h _ (by omega)), fun h i hi => ?_⟩
  have := (pz_iff f (i / 256) (fun j hj => hf _ (by omega))).1 (h _ (by omega)) (i % 256) (by omega)
  rwa [show i / 256 * 256 + i % 256 = i by omega] at this
section
variable {P : Program} {F : Fence} {n : Nat} {ops : Array Oper} {rest : List Oper} {o : Oper} {a : Act} {w w' : World} {Q : Exit → Act → World → Prop}
/-- An operation in a fence, its run known. -/
theorem wpListIn_runN (hg : o.guard = none) (hd : ∀ c, o.op ≠ .defer c) (ha : o.about P w a.eval = none) (v : Value) (hx : (execOp a.eval o).run P w = .ok (.value v) w') (hK : wpListIn F n P ops Q rest (a.put o.dst v) w') : wpListIn F n P ops Q (o :: rest) a w := by
  refine wpListIn_plain hg fun K hK' => ?_
  unfold Oper.wpIn
  refine ⟨fun f hf => (by rw [ha] at hf; cases hf), ?_⟩
  rw [Oper.semAt_plain F _ _ hd, hx]
  exact hK' _ _ hK
/-- A new array of numbers, in a fence. -/
theorem wpListIn_alloc_rowN (hg : o.guard = none) (ty : TypeId) (ho : o.op = .alloc ty) (k : IntKind) (N : Nat) (H : Nat) (hH : w.heap.size = H) (hz : (Tryd.prog.info? ty).bind (·.zero) = some (.agg (cl k N fun _ => 0).toArray))
    (hK : ∀ W, IRow W H k N (fun _ => 0) → Below H w W → W.heap.size = H + 1 → wpListIn F n Tryd.prog ops Q rest (a.put o.dst (.pointer (some ⟨H, 0, none⟩))) W) : wpListIn F n Tryd.prog ops Q (o :: rest) a w := by
  subst hH
  refine wpListIn_runN hg (by rw [ho]; intro c hc; cases hc) (by simp [Oper.about, ho]) (.pointer (some ⟨w.heap.size, 0, none⟩)) (w' := w.alloc (.cells (cl k N fun _ => 0).toArray ty)) ?_ (hK _ (IRow.new w ty k N fun _ => 0) ((Below.refl _ _).alloc (Nat.le_refl _) _) (by simp))
  unfold execOp
  cases hi : Tryd.prog.info? ty with
  | none => simp [hi] at hz
  | some i =>
    have hz' : i.zero = some (.agg (cl k N fun _ => 0).toArray) := by simpa [hi] using hz
    simp only [ho]
    simp [Instr.alloc, zeroValue, typeInfo, hi, hz', newVar, newRow, Value.cells, Result.andThen]
end
/-- What holds while the pieces come. -/
def ngI {c : Nat} (W1 : World) (f : Nat → Int) (pre : List (Fin c)) (W : World) : Prop := (∀ x ∈ pre, pz f x.1 = true) ∧ Below W1.heap.size W1 W
theorem keeps_below {W W' : World} (h : Below W.heap.size W W') : KeepsOthers W W' := by
  exact ⟨h.size, fun j o hj _ => (h.block j (Array.getElem?_eq_some_iff.1 hj).1).trans hj⟩
/-- And where one of them is not noughts. -/
def ngX {c : Nat} (w : World) (f : Nat → Int) (k : Code) (_ : List (Fin c)) (W : World) : Prop := k = .ret ∧ (∃ x : Fin c, pz f x.1 = false) ∧ W.cell? ⟨w.heap.size, 0, none⟩ = some (.bool false) ∧ Below w.heap.size w W
theorem ngI_own {c : Nat} (W1 : World) (f : Nat → Int) : OwnFrom (β := List (Fin c)) W1.heap.size (ngI W1 f) := by
  intro pre X Y row hs hg hr
  exact ⟨hs.1, ownFrom_below (β := Unit) (n₀ := W1.heap.size) (B := W1.heap.size) (w₀ := W1) (Nat.le_refl _) (Nat.le_refl _) () X Y row hs.2 hg hr⟩
theorem ngX_own {c : Nat} (w : World) (B : Nat) (hB : w.heap.size ≤ B) (f : Nat → Int) (k : Code) : OwnFrom (β := List (Fin c)) B (ngX w f k) := by
  intro pre X Y row hs hg hr
  exact ⟨hs.1, hs.2.1, cell_kept hs.2.2.1 hg (fun r e => (hr r e).2), ownFrom_below (β := Unit) (n₀ := w.heap.size) (B := B) (w₀ := w) (Nat.le_refl _) hB () X Y row hs.2.2.2 hg hr⟩
set_option maxRecDepth 100000 in
set_option maxHeartbeats 400000 in
theorem noughts_c (b off c C : Nat) (f : Nat → Int) (w : World) (hL : Lies w b off (c * 256) f) (hc : c ≤ 8) (hC : c * 256 ≤ C) :
    Calls Tryd.prog 73 #[.slice (some ⟨b, off, none⟩) (c * 256) C] w fun e w' => e = .returned (.bool (zeroN (c * 256) f)) ∧ Below w.heap.size w w' := by
  refine (callsIn_wide (n := 5)).1 ?_
  have LL : Hid (Lies w b off (c * 256) f) := hL
  clear hL
  obtain ⟨z, hz⟩ : ∃ z, zeroN (c * 256) f = z := ⟨_, rfl⟩
  have HZ : Hid (zeroN (c * 256) f = z) := hz
  rw [hz]
  clear hz
  refine callsIn_of_wp_marks Tryd.func73 rfl trivial ?_ rfl
  simp only [Tryd.ntmps73, List.size_toArray, List.length_cons, List.length_nil, Nat.reduceAdd, Nat.reduceSub, Array.replicate_succ, Array.replicate_zero, List.push_toArray, List.append_toArray, List.nil_append, List.cons_append]
  gi_wp2_with (refine wpListIn_alloc_rowN rfl 90 rfl .u8 256 (w.heap.size + 1) (by simp) zero8_256 ?_; intro V R0 B0 z0)
  have bR : Below w.heap.size w V := ((Below.refl w.heap.size w).alloc (Nat.le_refl _) (.cells #[.bool false] 4)).trans (B0.mono (by omega))
  have cR : V.cell? ⟨w.heap.size, 0, none⟩ = some (.bool false) ∧ V.frozen? ⟨w.heap.size, 0, none⟩ = false := by
    rw [B0.cell (p := ⟨w.heap.size, 0, none⟩) (by show w.heap.size < w.heap.size + 1; omega), B0.frozen (p := ⟨w.heap.size, 0, none⟩) (by show w.heap.size < w.heap.size + 1; omega)]
    simp [go_sem]
  refine ⟨trivial, ?_⟩
  refine (chunk_in Fence.wide 4 trivial rfl _ _ _ _).mono ?_
  rintro e w' ⟨rfl, rfl⟩
  gi_wp2
  have bS : ((V.alloc (.cells #[.slice (some ⟨b, off, none⟩) (c * 256) C] 27)).alloc (.cells #[.int .i64 256] 3)).cell? ⟨V.heap.size, 0, none⟩ = some (.slice (some ⟨b, off, none⟩) (c * 256) C) := by simp [go_sem]
  have bN : ((V.alloc (.cells #[.slice (some ⟨b, off, none⟩) (c * 256) C] 27)).alloc (.cells #[.int .i64 256] 3)).cell? ⟨V.heap.size + 1, 0, none⟩ = some (.int .i64 256) := by simp [go_sem]
  have hz1 : ((V.alloc (.cells #[.slice (some ⟨b, off, none⟩) (c * 256) C] 27)).alloc (.cells #[.int .i64 256] 3)).heap.size = V.heap.size + 1 + 1 := by simp
  have hB1 : Below V.heap.size V ((V.alloc (.cells #[.slice (some ⟨b, off, none⟩) (c * 256) C] 27)).alloc (.cells #[.int .i64 256] 3)) := ((Below.refl _ _).alloc (Nat.le_refl _) _).alloc (by simp) _
  generalize ((V.alloc (.cells #[.slice (some ⟨b, off, none⟩) (c * 256) C] 27)).alloc (.cells #[.int .i64 256] 3)) = W1 at bS bN hz1 hB1 ⊢
  have SQ := chunk_stops Fence.wide 4 trivial rfl (by omega) V.heap.size (V.heap.size + 1) b off c C (Nat.le_trans hc (by omega)) hC W1 (by omega) (by omega) bS bN
  have KB : ∀ (U : World) (l : Nat) (o o' : Obj), W1.heap.size ≤ l → U.heap[l]? = some o → o.isCells = false → o.isWalk = false → Kc V.heap.size (V.heap.size + 1) U (U.putObj l o') := fun U l o o' hl _ _ _ => ⟨World.cell?_of_block (World.putObj_heap_other (by show V.heap.size ≠ l; omega)), World.cell?_of_block (World.putObj_heap_other (by show V.heap.size + 1 ≠ l; omega))⟩
  have bW : Below w.heap.size w W1 := bR.trans (hB1.mono (by omega))
  have H0 : ngI (c := c) W1 f [] W1 := ⟨fun x hx => (by cases hx), Below.refl _ _⟩
  try rw [z0]
  rw [z0] at SQ KB bS bN hz1
  refine wpIn_rangeFunc_ownF rfl (by decide) (gf := 88) (lb := #[.pointer (some ⟨w.heap.size + 1 + 1, 0, none⟩), .pointer (some ⟨w.heap.size + 1 + 1 + 1, 0, none⟩)]) rfl trivial (enters_of Tryd.func88 (by kernel_rfl) rfl)
    SQ Kc.trans KB (Below.refl _ _) (fun _ => rfl) (ngI (c := c) W1 f) (ngX w f) (ngI_own W1 f) (fun k => ngX_own w W1.heap.size (by omega) f k) H0
    (fun x => { tmps := #[.slice (some ⟨b, off, none⟩) (c * 256) C, undef, .pointer (some ⟨w.heap.size, 0, none⟩), .pointer (some ⟨w.heap.size + 1, 0, none⟩), .slice (some ⟨b, off + x.1 * 256, none⟩) 256 256, .slice (some ⟨b, off, none⟩) (c * 256) C, .func (.func 88) #[] #[.pointer (some ⟨w.heap.size + 1 + 1, 0, none⟩), .pointer (some ⟨w.heap.size + 1 + 1 + 1, 0, none⟩)], .slice (some ⟨b, off + x.1 * 256, none⟩) 256 256, undef, undef, undef, undef, undef, undef, undef], defers := [] }) ?assign ?body ?done ?stop
  case assign =>
    intro l x U K hK
    gi_wp2
    exact hK
  case body =>
    rintro l pre x U ⟨hpre, hU⟩ hlt
    have bU : Below w.heap.size w U := bW.trans (hU.mono (by omega))
    have iU : IRow U.drew (w.heap.size + 1) .u8 256 (fun _ => 0) := ((R0.below hB1).below hU).drew
    have lU : Lies U.drew b (off + x.1 * 256) 256 (fun j => f (x.1 * 256 + j)) := (LL.out.below bU.drew).part (x.1 * 256) 256 (by have := x.2; omega)
    have cU : U.cell? ⟨w.heap.size, 0, none⟩ = some (.bool false) ∧ U.frozen? ⟨w.heap.size, 0, none⟩ = false := by
      rw [hU.cell (p := ⟨w.heap.size, 0, none⟩) (by show w.heap.size < W1.heap.size; omega), hU.frozen (p := ⟨w.heap.size, 0, none⟩) (by show w.heap.size < W1.heap.size; omega), hB1.cell (p := ⟨w.heap.size, 0, none⟩) (by show w.heap.size < V.heap.size; omega), hB1.frozen (p := ⟨w.heap.size, 0, none⟩) (by show w.heap.size < V.heap.size; omega)]
      exact cR
    have k1 := conv_arg U.drew (some ⟨b, off + x.1 * 256, none⟩) 256 256 _ (Arg.of lU)
    have k2 := conv_arg U.drew (some ⟨w.heap.size + 1, 0, none⟩) 256 256 _ (Arg.of (iU.lies (fun j _ => ⟨by omega, by omega⟩)))
    have hpz : pz f x.1 = decide (txtN 256 (fun j => f (x.1 * 256 + j)) = txtN 256 (fun _ => 0)) := rfl
    generalize txtN 256 (fun j => f (x.1 * 256 + j)) = p at k1 hpz
    generalize txtN 256 (fun _ => (0 : Int)) = q at k2 hpz
    have E0 : Hid (Below W1.heap.size W1 U.drew ∧ Below w.heap.size w U.drew ∧ KeepsOthers U U.drew) := ⟨hU.drew, bU.drew, keeps_below (Below.refl _ _).drew⟩
    have cD : U.drew.cell? ⟨w.heap.size, 0, none⟩ = some (.bool false) := cU.1
    have fD : U.drew.frozen? ⟨w.heap.size, 0, none⟩ = false := cU.2
    have HP : Hid (∀ y ∈ pre, pz f y.1 = true) := hpre
    clear hpre hU bU iU lU cU SQ KB H0 bS bN hB1 bW cR bR B0 R0
    by_cases e : p = q
    · subst e
      have hx1 : Hid (pz f x.1 = true) := (by rw [hpz]; simp : pz f x.1 = true)
      clear hpz
      gi_wp2
      refine region_in (S := fun W' => (convert 27 9 (.slice (some ⟨b, off + x.1 * 256, none⟩) 256 256)).run Tryd.prog W' = .ok (.string p) W' ∧ (convert 27 9 (.slice (some ⟨w.heap.size + 1, 0, none⟩) 256 256)).run Tryd.prog W' = .ok (.string p) W') (by kernel_rfl) (by kernel_rfl) ⟨k1, k2⟩ (fun hHeld => ?_)
      refine take_at (i := 0) (v := ?_) (some 8) rfl rfl (by kernel_rfl) (by kernel_rfl) (by kernel_rfl) (fun _ _ _ h => by cases h.1) (Or.inl ⟨by rfl, ?_⟩) (by assumption) ?_
      rotate_left
      · (intro w hSw; (try dsimp only at hSw); go_simp; try with_reducible rfl)
      simp only [Act.put, List.setIfInBounds_toArray, List.set_cons_zero, List.set_cons_succ]
      refine take_at (i := 1) (v := ?_) (some 9) rfl rfl (by kernel_rfl) (by kernel_rfl) (by kernel_rfl) (fun _ _ _ h => by cases h.1) (Or.inl ⟨by rfl, ?_⟩) (by assumption) ?_
      rotate_left
      · (intro w hSw; (try dsimp only at hSw); go_simp; try with_reducible rfl)
      simp only [Act.put, List.setIfInBounds_toArray, List.set_cons_zero, List.set_cons_succ]
      refine take_at (i := 2) (v := ?_) (some 10) rfl rfl (by kernel_rfl) (by kernel_rfl) (by kernel_rfl) (fun _ _ _ h => by cases h.1) (Or.inl ⟨by rfl, ?_⟩) (by assumption) ?_
      rotate_left
      · (intro w hSw; (try dsimp only at hSw); go_simp; try with_reducible rfl)
      simp only [Act.put, List.setIfInBounds_toArray, List.set_cons_zero, List.set_cons_succ]
      refine take_at (i := 3) (v := ?_) (some 11) rfl rfl (by kernel_rfl) (by kernel_rfl) (by kernel_rfl) (fun _ _ _ h => by cases h.1) (Or.inl ⟨by rfl, ?_⟩) (by assumption) ?_
      rotate_left
      · (intro w hSw; (try dsimp only at hSw); go_simp; try with_reducible rfl)
      simp only [Act.put, List.setIfInBounds_toArray, List.set_cons_zero, List.set_cons_succ]
      refine take_at (i := 4) (v := ?_) (some 12) rfl rfl (by kernel_rfl) (by kernel_rfl) (by kernel_rfl) (fun _ _ _ h => by cases h.1) (Or.inl ⟨by rfl, ?_⟩) (by assumption) ?_
      rotate_left
      · (intro w hSw; (try dsimp only at hSw); go_simp; try with_reducible rfl)
      simp only [Act.put, List.setIfInBounds_toArray, List.set_cons_zero, List.set_cons_succ]
      refine take_at (i := 5) (v := ?_) (some 13) rfl rfl (by kernel_rfl) (by kernel_rfl) (by kernel_rfl) (fun _ _ _ h => by cases h.1) (Or.inl ⟨by rfl, ?_⟩) (by assumption) ?_
      rotate_left
      · (intro w hSw; (try dsimp only at hSw); go_simp; try with_reducible rfl)
      simp only [Act.put, List.setIfInBounds_toArray, List.set_cons_zero, List.set_cons_succ]
      refine take_at (i := 6) (v := ?_) (some 14) rfl rfl (by kernel_rfl) (by kernel_rfl) (by kernel_rfl) (fun _ _ _ h => by cases h.1) (Or.inl ⟨by rfl, ?_⟩) (by assumption) ?_
      rotate_left
      · (intro w hSw; (try dsimp only at hSw); go_simp; try with_reducible rfl)
      simp only [Act.put, List.setIfInBounds_toArray, List.set_cons_zero, List.set_cons_succ]
      refine wpAnyH_done (by kernel_rfl) ?_ _
      refine ⟨rfl, ?_⟩
      gi_wp2
      exact ⟨E0.out.2.2, Kc.drew _ _ _, fun y hy => (List.mem_append.1 hy).elim (HP.out y) (fun h => by rw [List.mem_singleton.1 h]; exact hx1.out), E0.out.1⟩
    · have e1 : (p.toList == q.toList) = false := by rw [bytes_beq]; simpa using e
      have hx1 : Hid (pz f x.1 = false) := (by rw [hpz]; simpa using e : pz f x.1 = false)
      clear hpz
      gi_wp2
      refine region_in (S := fun W' => (convert 27 9 (.slice (some ⟨b, off + x.1 * 256, none⟩) 256 256)).run Tryd.prog W' = .ok (.string p) W' ∧ (convert 27 9 (.slice (some ⟨w.heap.size + 1, 0, none⟩) 256 256)).run Tryd.prog W' = .ok (.string q) W') (by kernel_rfl) (by kernel_rfl) ⟨k1, k2⟩ (fun hHeld => ?_)
      refine take_at (i := 0) (v := ?_) (some 8) rfl rfl (by kernel_rfl) (by kernel_rfl) (by kernel_rfl) (fun _ _ _ h => by cases h.1) (Or.inl ⟨by rfl, ?_⟩) (by assumption) ?_
      rotate_left
      · (intro w hSw; (try dsimp only at hSw); go_simp; try with_reducible rfl)
      simp only [Act.put, List.setIfInBounds_toArray, List.set_cons_zero, List.set_cons_succ]
      refine take_at (i := 1) (v := ?_) (some 9) rfl rfl (by kernel_rfl) (by kernel_rfl) (by kernel_rfl) (fun _ _ _ h => by cases h.1) (Or.inl ⟨by rfl, ?_⟩) (by assumption) ?_
      rotate_left
      · (intro w hSw; (try dsimp only at hSw); go_simp; try with_reducible rfl)
      simp only [Act.put, List.setIfInBounds_toArray, List.set_cons_zero, List.set_cons_succ]
      refine take_at (i := 2) (v := ?_) (some 10) rfl rfl (by kernel_rfl) (by kernel_rfl) (by kernel_rfl) (fun _ _ _ h => by cases h.1) (Or.inl ⟨by rfl, ?_⟩) (by assumption) ?_
      rotate_left
      · (intro w hSw; (try dsimp only at hSw); go_simp; try with_reducible rfl)
      simp only [Act.put, List.setIfInBounds_toArray, List.set_cons_zero, List.set_cons_succ]
      refine take_at (i := 3) (v := ?_) (some 11) rfl rfl (by kernel_rfl) (by kernel_rfl) (by kernel_rfl) (fun _ _ _ h => by cases h.1) (Or.inl ⟨by rfl, ?_⟩) (by assumption) ?_
      rotate_left
      · (intro w hSw; (try dsimp only at hSw); go_simp; try with_reducible rfl)
      simp only [Act.put, List.setIfInBounds_toArray, List.set_cons_zero, List.set_cons_succ]
      refine take_at (i := 4) (v := ?_) (some 12) rfl rfl (by kernel_rfl) (by kernel_rfl) (by kernel_rfl) (fun _ _ _ h => by cases h.1) (Or.inl ⟨by rfl, ?_⟩) (by assumption) ?_
      rotate_left
      · (intro w hSw; (try dsimp only at hSw); go_simp; try with_reducible rfl)
      simp only [Act.put, List.setIfInBounds_toArray, List.set_cons_zero, List.set_cons_succ]
      refine take_at (i := 5) (v := ?_) (some 13) rfl rfl (by kernel_rfl) (by kernel_rfl) (by kernel_rfl) (fun _ _ _ h => by cases h.1) (Or.inl ⟨by rfl, ?_⟩) (by assumption) ?_
      rotate_left
      · (intro w hSw; (try dsimp only at hSw); go_simp; try with_reducible rfl)
      simp only [Act.put, List.setIfInBounds_toArray, List.set_cons_zero, List.set_cons_succ]
      refine take_at (i := 6) (v := ?_) (some 14) rfl rfl (by kernel_rfl) (by kernel_rfl) (by kernel_rfl) (fun _ _ _ h => by cases h.1) (Or.inl ⟨by rfl, ?_⟩) (by assumption) ?_
      rotate_left
      · (intro w hSw; (try dsimp only at hSw); go_simp; try with_reducible rfl)
      simp only [Act.put, List.setIfInBounds_toArray, List.set_cons_zero, List.set_cons_succ]
      refine wpAnyH_done (by kernel_rfl) ?_ _
      refine ⟨rfl, ?_⟩
      gi_wp2
      exact ⟨E0.out.2.2.trans (KeepsOthers.setCell _ _ _), rfl, ⟨x, hx1.out⟩, World.cell?_setCell_same' _ _ _ (by show (U.drew.cell? _).isSome = true; rw [cD]; rfl), E0.out.2.1.setCell (Nat.le_refl _) _⟩
  case done =>
    rintro D ys U hD rfl ⟨hall, hU⟩ hK
    have bU : Below w.heap.size w U := bW.trans (hU.mono (by omega))
    have cU : U.cell? ⟨w.heap.size, 0, none⟩ = some (.bool false) ∧ U.frozen? ⟨w.heap.size, 0, none⟩ = false := by
      rw [hU.cell (p := ⟨w.heap.size, 0, none⟩) (by show w.heap.size < W1.heap.size; omega), hU.frozen (p := ⟨w.heap.size, 0, none⟩) (by show w.heap.size < W1.heap.size; omega), hB1.cell (p := ⟨w.heap.size, 0, none⟩) (by show w.heap.size < V.heap.size; omega), hB1.frozen (p := ⟨w.heap.size, 0, none⟩) (by show w.heap.size < V.heap.size; omega)]
      exact cR
    obtain ⟨c1, c2⟩ := cU
    have hz : z = true := by
      rw [← HZ.out]
      refine (pz_all LL.out.2.1).2 (fun x hx => hall ⟨x, hx⟩ ?_)
      unfold upTo
      rw [List.take_of_length_le (by simp)]
      exact List.mem_finRange _
    subst hz
    have bZ : Below w.heap.size w (U.setCell ⟨w.heap.size, 0, none⟩ (.bool true)) := bU.setCell (Nat.le_refl _) _
    have cZ : (U.setCell ⟨w.heap.size, 0, none⟩ (.bool true)).cell? ⟨w.heap.size, 0, none⟩ = some (.bool true) := World.cell?_setCell_same' _ _ _ (by rw [c1]; rfl)
    have hK' : (U.setCell ⟨w.heap.size, 0, none⟩ (.bool true)).heap[D]? = some (.deferred (some [])) := (Below.heap_setCell U ⟨w.heap.size, 0, none⟩ _ D (by show D ≠ w.heap.size; omega)).trans hK
    clear SQ KB H0 bS bN hall hU
    gi_wp2
    generalize U.setCell ⟨w.heap.size, 0, none⟩ (.bool true) = Y at bZ cZ hK' ⊢
    have cX : (Y.putObj D (.deferred none)).cell? ⟨w.heap.size, 0, none⟩ = some (.bool true) := (World.cell?_of_block (World.putObj_heap_other (by show w.heap.size ≠ D; omega))).trans cZ
    refine ⟨by simp, .inl ⟨_, _, rfl, run_takeDeferred hK', ?_⟩⟩
    refine ⟨.bool true, by simp [results, Tryd.results73, asAddr, loadVar, go_sem, cX], rfl, ?_⟩
    exact bZ.trans (belowK_b (w := w) (Nat.le_refl _) Y D _ _ (by omega) hK' rfl rfl)
  case stop =>
    rintro D k pre U hD _ ⟨rfl, ⟨x, hx⟩, cU, bU⟩ hK
    have hz : z = false := by
      rw [← HZ.out, ← Bool.not_eq_true, pz_all LL.out.2.1]
      intro h
      rw [h x.1 x.2] at hx
      cases hx
    subst hz
    clear SQ KB H0 bS bN
    gi_wp2
    have cX : (U.putObj D (.deferred none)).cell? ⟨w.heap.size, 0, none⟩ = some (.bool false) := (World.cell?_of_block (World.putObj_heap_other (by show w.heap.size ≠ D; omega))).trans cU
    refine ⟨by simp, .inl ⟨_, _, rfl, run_takeDeferred hK, ?_⟩⟩
    refine ⟨.bool false, by simp [results, Tryd.results73, asAddr, loadVar, go_sem, cX], rfl, ?_⟩
    exact bU.trans (belowK_b (w := w) (Nat.le_refl _) U D _ _ (by omega) hK rfl rfl)
end Go.Proofs.YtijpoipcadhchaaDoor
namespace Go.Proofs.YtijpoipcadhchaaDoor
open Go.RowKit Go.Maps
theorem ng_at (g off C : Nat) (f : Nat → Int) (hC : 1280 ≤ C) : NgOk (some ⟨g, off, none⟩) 1280 C f := fun W hA => by
  rcases hA with ⟨h, _⟩ | ⟨_, b, o, hb, hl⟩
  · omega
  injection hb with hb
  injection hb with h1 h2
  subst h1 h2
  exact noughts_c _ _ 5 C f W hl (by omega) (by omega)
theorem fhK_congr (f g : Nat → Int) (k : Int) (h : ∀ j, j < 256 → f j = g j) : fhK 256 f k = fhK 256 g k := by
  have e1 : headC 256 f = headC 256 g := by unfold headC; rw [headCode_congr f g h]
  have e2 : isUnw 256 f k = isUnw 256 g k := by unfold isUnw; rw [txtN_congr 256 f g h]
  have e3 : isPrep (hdrF f) k = isPrep (hdrF g) k := isPrep_congr _ _ k (fun j hj => hdrF_congr f g h j hj)
  unfold fhK
  rw [e1, e2, e3]
theorem fr_slot (k : Nat) (hk : k < 16) : slotL frG k = ss 4 0 0 false := by
  have s : isSl (k : Int) = true := by unfold isSl; simp; omega
  have a : fhK 256 (fun j => frG (k * 256 + j)) (k : Int) = 1 := by
    rw [fhK_congr _ (unwF (k : Int)) _ (fun j hj => by
      show frG (k * 256 + j) = _
      rw [frG_is, if_pos (by omega)]
      unfold hdsF
      rw [show (k * 256 + j) / 256 = k by omega, show (k * 256 + j) % 256 = j by omega])]
    exact unw_found s
  have z : ∀ j, (fun j => frG (4096 + k * 1280 + j)) j = 0 := fun j => by
    show frG (4096 + k * 1280 + j) = 0
    rw [frG_is, if_neg (by omega)]
  have p : prepOK 1280 (fun j => frG (4096 + k * 1280 + j)) (k : Int) = false := prep_bad (zeros_code _ (fun j _ => z j))
  have n : zeroN 1280 (fun j => frG (4096 + k * 1280 + j)) = true := (zeroN_iff _ _).2 (fun j _ => z j)
  unfold slotL judgeL
  rw [if_neg (by rw [s]; decide), if_neg (by rw [p]; decide), a, if_neg (by decide), if_neg (by decide), if_pos n]
theorem fr_knows (k : Nat) (hk : k < 16) : Knows (stC frG 16) k 4 0 0 false := by
  unfold Knows stC
  rw [show k * 4 / 4 = k by omega, show (k * 4 + 1) / 4 = k by omega, show (k * 4 + 2) / 4 = k by omega, show (k * 4 + 3) / 4 = k by omega, show k * 4 % 4 = 0 by omega, show (k * 4 + 1) % 4 = 1 by omega, show (k * 4 + 2) % 4 = 2 by omega, show (k * 4 + 3) % 4 = 3 by omega, if_pos hk, if_pos hk, if_pos hk, if_pos hk, fr_slot k hk]
  exact ⟨rfl, rfl, rfl, rfl⟩
theorem fresh_any (w : World) (hT : Tab w) : Calls Tryd.prog 14 #[] w (FreshP w) :=
  fresh_ok w hT (dsk0_few.mono (by omega)) (frD_few.free (by omega)) (by rw [frD_N]; exact Nat.le_refl _) (fun j _ => frG_byte j) (fun g k hk => ng_at _ _ _ _ (by omega))
end Go.Proofs.YtijpoipcadhchaaDoor
namespace Go.Proofs.YtijpoipcadhchaaDoor
open Go.RowKit Go.Maps
theorem stC_one (G : Nat → Int) : ∀ i, i < 64 → (stC G 16 i).oneCell' = true := by
  intro i hi
  unfold stC
  rw [if_pos (by omega)]
  obtain ⟨st, op, vw, mm, e⟩ := slotL_ss G (i / 4)
  rw [e]
  have : i % 4 = 0 ∨ i % 4 = 1 ∨ i % 4 = 2 ∨ i % 4 = 3 := by omega
  rcases this with h | h | h | h <;> rw [h] <;> rfl
/-- What a disk has behind Put's four deeds. -/
theorem ptD_sec (D : Dsk) (k : Nat) (F : Nat → Int) (n j : Nat) (hj : j < 256) : at256 (ptD D k F 4).sec n j = if 8 + k ≤ n ∧ n < 8 + k + 1 then F ((n - (8 + k)) * 256 + j) else if 24 + k * 5 ≤ n ∧ n < 24 + k * 5 + 5 then F ((n - (24 + k * 5)) * 256 + j) else at256 D.sec n j := by
  show at256 ((((D.wrote (24 + k * 5) F 5).more).safe.more).wrote (8 + k) F 1).sec n j = _
  rw [Dsk.wrote_sec _ _ _ _ _ hj]
  by_cases c : 8 + k ≤ n ∧ n < 8 + k + 1
  · rw [if_pos c, if_pos c]
  · rw [if_neg c, if_neg c]
    show at256 (D.wrote (24 + k * 5) F 5).sec n j = _
    rw [Dsk.wrote_sec _ _ _ _ _ hj]
theorem ptD_prep (D : Dsk) (k : Nat) (F : Nat → Int) (hk : k < 16) (q : Nat) (hq : q < 1280) : (ptD D k F 4).sec ((24 + k * 5) * 256 + q) = F q := by
  have h := ptD_sec D k F (24 + k * 5 + q / 256) (q % 256) (Nat.mod_lt _ (by omega))
  unfold at256 at h
  rw [show (24 + k * 5 + q / 256) * 256 + q % 256 = (24 + k * 5) * 256 + q by omega] at h
  rw [h, if_neg (by omega), if_pos (by omega), show (24 + k * 5 + q / 256 - (24 + k * 5)) * 256 + q % 256 = q by omega]
theorem ptD_head (D : Dsk) (k : Nat) (F : Nat → Int) (q : Nat) (hq : q < 256) : (ptD D k F 4).sec ((8 + k) * 256 + q) = F q := by
  have h := ptD_sec D k F (8 + k) q hq
  unfold at256 at h
  rw [h, if_pos (by omega), show (8 + k - (8 + k)) * 256 + q = q by omega]
theorem ptD_byte (D : Dsk) (k : Nat) (F : Nat → Int) (hD : ∀ x, 0 ≤ D.sec x ∧ D.sec x < 256) (hF : ∀ x, 0 ≤ F x ∧ F x < 256) (x : Nat) : 0 ≤ (ptD D k F 4).sec x ∧ (ptD D k F 4).sec x < 256 := by
  have h := ptD_sec D k F (x / 256) (x % 256) (Nat.mod_lt _ (by omega))
  unfold at256 at h
  rw [show x / 256 * 256 + x % 256 = x by omega] at h
  rw [h]
  split
  · exact hF _
  · split
    · exact hF _
    · exact hD _
theorem ptD_N (D : Dsk) (k : Nat) (F : Nat → Int) : (ptD D k F 4).N = D.N := by
  show ((((D.wrote (24 + k * 5) F 5).more).safe.more).wrote (8 + k) F 1).N = D.N
  rw [Dsk.wrote_N]
  show (D.wrote (24 + k * 5) F 5).N = D.N
  rw [Dsk.wrote_N]
theorem frD_byte (x : Nat) : 0 ≤ frD.sec x ∧ frD.sec x < 256 := by
  have h := frD_at (x / 256) (x % 256) (Nat.mod_lt _ (by omega))
  unfold at256 at h
  rw [show x / 256 * 256 + x % 256 = x by omega] at h
  rw [h]
  split
  · exact hdsF_byte _
  · omega
/-- A prepare's bytes are whole. -/
theorem pv_whole (op vw k : Int) (hok : okH (upd (pvH op vw) 2 ((0 : Nat) : Int)) = true) (hp : isPrep (pvH op vw) k = true) (F : Nat → Int) (hF : ∀ j, j < 256 → F j = pvF op vw j) :
    prepOK 1280 F k = true ∧ (∀ j, j < 16 → hdrF F j = pvH op vw j) ∧ headCode F = 0 := by
  obtain ⟨a, b, c⟩ := slot_whole (pvH op vw) (fun _ => 0) 0 1280 k (by omega) hok (pv_words op vw) hp F (fun j hj => by rw [hF j (by omega)]; unfold pvF slotF; rw [if_pos hj])
  exact ⟨a, fun j hj => (b j hj).trans (pv_size op vw j), c⟩
theorem ok17 : okH (upd (pvH 17 2) 2 ((0 : Nat) : Int)) = true := pv_ok 17 2 (by omega) (by omega) (by omega) (by omega)
theorem ok1 : okH (upd (pvH 1 0) 2 ((0 : Nat) : Int)) = true := pv_ok 1 0 (by omega) (by omega) (by omega) (by omega)
theorem p17 : isPrep (pvH 17 2) 1 = true := by decide
theorem p1 : isPrep (pvH 1 0) 1 = true := by decide
/-- A slot whose header and prepare are those of one prepare. -/
theorem slot_have (op vw : Int) (k : Nat) (hs : ¬ isSl (k : Int) = false) (hok : okH (upd (pvH op vw) 2 ((0 : Nat) : Int)) = true) (hp : isPrep (pvH op vw) (k : Int) = true) (G : Nat → Int) (h1 : ∀ j, j < 256 → G (k * 256 + j) = pvF op vw j) (h2 : ∀ j, j < 1280 → G (4096 + k * 1280 + j) = pvF op vw j) : slotL G k = ss 1 op vw false := by
  obtain ⟨a, b, c⟩ := pv_whole op vw k hok hp (fun j => G (4096 + k * 1280 + j)) (fun j hj => h2 j (by omega))
  obtain ⟨_, b', c'⟩ := pv_whole op vw k hok hp (fun j => G (k * 256 + j)) h1
  have f2 : fhK 256 (fun j => G (k * 256 + j)) (k : Int) = 2 := head_whole rfl c' (by rw [isPrep_congr _ _ _ b']; exact hp)
  unfold slotL judgeL
  rw [if_neg hs, if_pos a, if_pos f2, if_pos (txtN_congr 256 _ _ fun j hj => (h1 j hj).trans (h2 j (by omega)).symm), b 5 (by omega), b 3 (by omega)]
  rfl
theorem st_knows {G : Nat → Int} {k : Nat} {st op vw : Int} {mm : Bool} (hk : k < 16) (h : slotL G k = ss st op vw mm) : Knows (stC G 16) k st op vw mm := by
  unfold Knows stC
  rw [show k * 4 / 4 = k by omega, show (k * 4 + 1) / 4 = k by omega, show (k * 4 + 2) / 4 = k by omega, show (k * 4 + 3) / 4 = k by omega, show k * 4 % 4 = 0 by omega, show (k * 4 + 1) % 4 = 1 by omega, show (k * 4 + 2) % 4 = 2 by omega, show (k * 4 + 3) % 4 = 3 by omega, if_pos hk, if_pos hk, if_pos hk, if_pos hk, h]
  exact ⟨rfl, rfl, rfl, rfl⟩
theorem put_knows (C : Nat → Value) (k : Nat) (op vw : Int) : Knows (putC C k op vw) k 1 op vw false := by
  unfold Knows putC
  rw [if_pos (by omega), if_pos (by omega), if_pos (by omega), if_pos (by omega), show k * 4 % 4 = 0 by omega, show (k * 4 + 1) % 4 = 1 by omega, show (k * 4 + 2) % 4 = 2 by omega, show (k * 4 + 3) % 4 = 3 by omega]
  exact ⟨rfl, rfl, rfl, rfl⟩
theorem put_other {C : Nat → Value} {k k' : Nat} {op vw st o v : Int} {mm : Bool} (hne : k' ≠ k) (h : Knows C k' st o v mm) : Knows (putC C k op vw) k' st o v mm := by
  unfold Knows putC
  rw [if_neg (by omega), if_neg (by omega), if_neg (by omega), if_neg (by omega)]
  exact h
/-- A Get of what was put. -/
theorem got_gets {W w' : World} {op vw : Int} {F : Nat → Int} {e : Ending} (f : Nat → Int) (hh : ∀ j, j < 16 → hdrF F j = pvH op vw j) (h : GotP W F e w') : GetsP W (pvH op vw) 0 f 0 e w' := by
  obtain ⟨g, c, rfl, _, _, hB⟩ := h
  have e2 : (hdrF F 2).toNat = 0 := by rw [hh 2 (by omega)]; rfl
  refine ⟨some ⟨g, 0, none⟩, c, ?_, .inl ⟨rfl, .inr ⟨_, rfl⟩⟩, hB⟩
  rw [e2]
  unfold msg
  rw [hcs_congr (hdrF F) (pvH op vw) hh]
theorem miss_gets {W w' : World} {e : Ending} (f : Nat → Int) (h : e = .returned (.tuple #[.agg (msg (fun _ => 0) none 0 0).toArray, .int .i64 6]) ∧ Below W.heap.size W w') : GetsP W (fun _ => 0) 0 f 6 e w' := ⟨none, 0, h.1, .inl ⟨rfl, .inl rfl⟩, h.2⟩
end Go.Proofs.YtijpoipcadhchaaDoor
namespace Go.Proofs.YtijpoipcadhchaaDoor
open Go.RowKit Go.Maps
theorem hidJ {p : Prop} (h : p) : Hid p := h
theorem below_j {B : Nat} {u v w : World} (hB : B ≤ u.heap.size) (h : Below B u v) (k : Below v.heap.size v w) : Below B u w := h.trans (k.mono (Nat.le_trans hB h.size))
/-- What stays in awake. -/
structure AwJ (w : World) (d s m j x4 x5 : Nat) (c4 c5 : List Value) (D : Dsk) (C : Nat → Value) (W : World) : Prop where
  st : St w W d s m D
  ja : JAt W j d C
  jd : j ≠ d ∧ j ≠ s ∧ j ≠ m
  wj : w.heap.size ≤ j
  r4 : Rec19 W x4 0 c4
  r5 : Rec19 W x5 0 c5
  n4 : x4 ∉ [j, d, s, m]
  n5 : x5 ∉ [j, d, s, m]
theorem AwJ.below {w : World} {d s m j x4 x5 : Nat} {c4 c5 : List Value} {D : Dsk} {C : Nat → Value} {W W' : World} (h : AwJ w d s m j x4 x5 c4 c5 D C W) (hB : Below W.heap.size W W') : AwJ w d s m j x4 x5 c4 c5 D C W' :=
  ⟨h.st.below hB, h.ja.below hB, h.jd, h.wj, h.r4.below hB, h.r5.below hB, h.n4, h.n5⟩
theorem AwJ.put {w : World} {d s m j x4 x5 : Nat} {c4 c5 : List Value} {D D' : Dsk} {C C' : Nat → Value} {W W' : World} (h : AwJ w d s m j x4 x5 c4 c5 D C W) (hJ : JAt W' j d C') (hm : ∃ m', St w W' d s m' D' ∧ (m' = m ∨ W.heap.size ≤ m')) (hO : Off [j, d, s, m] W W') : ∃ m', AwJ w d s m' j x4 x5 c4 c5 D' C' W' := by
  obtain ⟨m', hS, hm'⟩ := hm
  have lj := h.ja.l
  have l4 := h.r4.2.2
  have l5 := h.r5.2.2
  obtain ⟨a1, a2, a3⟩ := h.jd
  have n4 := h.n4
  have n5 := h.n5
  simp only [List.mem_cons, List.not_mem_nil, or_false, not_or] at n4 n5
  refine ⟨m', hS, hJ, ⟨a1, a2, by omega⟩, h.wj, h.r4.off hO h.n4, h.r5.off hO h.n5, ?_, ?_⟩
  · simp only [List.mem_cons, List.not_mem_nil, or_false, not_or]
    exact ⟨n4.1, n4.2.1, n4.2.2.1, by omega⟩
  · simp only [List.mem_cons, List.not_mem_nil, or_false, not_or]
    exact ⟨n5.1, n5.2.1, n5.2.2.1, by omega⟩
/-- A build behind a guard. -/
theorem wpList_build_w {ops : Array Oper} {rest : List Oper} {op : Oper} {a : Act} {w : World} {Q : Exit → Act → World → Prop} (hw : Region.wanted op (yielded ops a.tmps) = true) (t : TypeId) (parts : Array (Nat × Operand)) (ho : op.op = .build t parts) (cells : Array Value) (hf : Tryd.prog.built t (parts.map fun (i, x) => (i, a.eval x)).toList = some cells)
    (hK : wpList Tryd.prog ops Q rest (a.put op.dst (.agg cells)) w) : wpList Tryd.prog ops Q (op :: rest) a w := by
  refine wpList_step fun K hK' => ?_
  rw [if_pos hw]
  unfold Oper.wp execOp
  simp only [ho, Sem.run_bind, run_build w t _ cells hf, Result.andThen_ok]
  exact hK' _ _ hK
/-- The disks and what is known, behind each Put. -/
noncomputable def d1 : Dsk := ptD frD 1 (pvF 1 0) 4
noncomputable def d2 : Dsk := ptD d1 1 (pvF 17 2) 4
noncomputable def k1 : Nat → Value := putC (stC frG 16) 1 1 0
noncomputable def k2 : Nat → Value := putC k1 1 17 2
noncomputable def g2 (j : Nat) : Int := d2.sec (8 * 256 + j)
theorem d1_few : d1.few 7 := ptD_few frD_few 1 _ 4 (by omega)
theorem d2_few : d2.few 11 := ptD_few d1_few 1 _ 4 (by omega)
theorem d1_N : 104 ≤ d1.N := by unfold d1; rw [ptD_N, frD_N]; omega
theorem d2_N : 104 ≤ d2.N := by unfold d2; rw [ptD_N]; exact d1_N
theorem d1_byte (x : Nat) : 0 ≤ d1.sec x ∧ d1.sec x < 256 := ptD_byte frD 1 _ frD_byte (pvF_byte _ _) x
theorem d2_byte (x : Nat) : 0 ≤ d2.sec x ∧ d2.sec x < 256 := ptD_byte d1 1 _ d1_byte (pvF_byte _ _) x
theorem k1_one : ∀ i, i < 64 → (k1 i).oneCell' = true := putC_one (stC_one _)
theorem k2_one : ∀ i, i < 64 → (k2 i).oneCell' = true := putC_one k1_one
theorem g2_knows : Knows (stC g2 16) 1 1 17 2 false := st_knows (by omega) (slot_have 17 2 1 (by decide) ok17 p17 g2
  (fun j hj => by unfold g2; rw [show 8 * 256 + (1 * 256 + j) = (8 + 1) * 256 + j by omega]; exact ptD_head d1 1 _ j hj)
  (fun j hj => by unfold g2; rw [show 8 * 256 + (4096 + 1 * 1280 + j) = (24 + 1 * 5) * 256 + j by omega]; exact ptD_prep d1 1 _ (by omega) j hj))
theorem get1 {w W : World} {d s m j x4 x5 : Nat} {c4 c5 : List Value} (f : Nat → Int) (hT : Tab w) (h : AwJ w d s m j x4 x5 c4 c5 d1 k1 W) (u : World) (hB : Below W.heap.size W u) : Calls Tryd.prog 6 #[.pointer (some ⟨j, 0, none⟩), .int .i64 1] u (GetsP u (pvH 1 0) 0 f 0) := by
  have hu := h.below hB
  obtain ⟨a, b, _⟩ := pv_whole 1 0 1 ok1 p1 (fun q => d1.sec ((24 + 1 * 5) * 256 + q)) (fun q hq => ptD_prep frD 1 _ (by omega) q (by omega))
  exact (jget_ok w u j d s m 1 k1 d1 1 0 false _ rfl (fun q _ => d1_byte _) hu.ja hu.st (d1_few.free (by omega)) d1_N (hT.below hu.st.bel hT.2) rfl (by omega) (put_knows _ 1 1 0) (by omega) a (b 5 (by omega)) (b 3 (by omega))).mono fun e w' q => got_gets f b q
theorem get2 {w W : World} {d s m j x4 x5 : Nat} {c4 c5 : List Value} (f : Nat → Int) (h : AwJ w d s m j x4 x5 c4 c5 d1 k1 W) (u : World) (hB : Below W.heap.size W u) : Calls Tryd.prog 6 #[.pointer (some ⟨j, 0, none⟩), .int .i64 2] u (GetsP u (fun _ => 0) 0 f 6) := by
  have hu := h.below hB
  exact (jget_miss w u j d s m 2 k1 d1 2 4 0 0 false hu.ja hu.st (d1_few.free (by omega)) rfl (by omega) (put_other (by omega) (fr_knows 2 (by omega))) (by omega) (by omega)).mono fun e w' q => miss_gets f q
theorem get3 {w W : World} {d s m j x4 x5 : Nat} {c4 c5 : List Value} (f : Nat → Int) (h : AwJ w d s m j x4 x5 c4 c5 d2 k2 W) (u : World) (hB : Below W.heap.size W u) : Calls Tryd.prog 6 #[.pointer (some ⟨j, 0, none⟩), .int .i64 1] u (GetsP u (fun _ => 0) 0 f 6) := by
  have hu := h.below hB
  exact (jget_miss w u j d s m 1 k2 d2 1 1 17 2 false hu.ja hu.st (d2_few.free (by omega)) rfl (by omega) (put_knows _ 1 17 2) (by omega) (by omega)).mono fun e w' q => miss_gets f q
theorem get4 {w W : World} {d s m j : Nat} (f : Nat → Int) (hT : Tab w) (hS : St w W d s m d2) (hJ : JAt W j d (stC g2 16)) (u : World) (hB : Below W.heap.size W u) : Calls Tryd.prog 6 #[.pointer (some ⟨j, 0, none⟩), .int .i64 17] u (GetsP u (pvH 17 2) 0 f 0) := by
  have hu := hS.below hB
  obtain ⟨a, b, _⟩ := pv_whole 17 2 1 ok17 p17 (fun q => d2.sec ((24 + 1 * 5) * 256 + q)) (fun q hq => ptD_prep d1 1 _ (by omega) q (by omega))
  exact (jget_ok w u j d s m 1 _ d2 17 2 false _ rfl (fun q _ => d2_byte _) (hJ.below hB) hu (d2_few.free (by omega)) d2_N (hT.below hu.bel hT.2) rfl (by omega) g2_knows (by omega) a (b 5 (by omega)) (b 3 (by omega))).mono fun e w' q => got_gets f b q
def noF (_ : Nat) : Int := 0
theorem st_but {w0 W W' : World} {d s m c : Nat} {D : Dsk} (h : St w0 W d s m D) (hB : But c W W') (hc : d ≠ c ∧ s ≠ c ∧ m ≠ c ∧ w0.heap.size ≤ c) : St w0 W' d s m D :=
  ⟨h.at'.off (Off.but (bs := [c]) hB (by simp)) (by simp; exact hc.1) (by simp; exact hc.2.1) (by simp; exact hc.2.2.1), h.hd, h.hs, h.hm, h.bel.trans (hB.below hc.2.2.2 h.bel.size)⟩
theorem aw_far {w W1 w1 : World} {d s m j : Nat} {D : Dsk} {C : Nat → Value} (hS : St w W1 d s m D) (hj : W1.heap.size ≤ j) (hJ : JAt w1 j d C) (hB : Below W1.heap.size W1 w1) : (j ≠ d ∧ j ≠ s ∧ j ≠ m) ∧ w.heap.size ≤ j ∧ d < w1.heap.size ∧ s < w1.heap.size ∧ m < w1.heap.size ∧ j < w1.heap.size := by
  have h1 := hS.at'.recd.2.2
  have h2 := hS.at'.row.2.2
  have h3 := hS.at'.map.lt
  have h4 := hS.bel.size
  have h5 := hB.size
  have h6 := hJ.l
  omega
theorem noArg (W : World) (a : Option Addr) : Arg W a 0 noF := by
  cases a with
  | none => exact .inl ⟨rfl, .inl rfl⟩
  | some p => exact .inl ⟨rfl, .inr ⟨p, rfl⟩⟩
set_option maxRecDepth 100000 in
set_option maxHeartbeats 2000000 in
theorem awake_ok (w : World) (hT : Tab w) : Calls Tryd.prog 5 #[] w fun e w' => e = .returned (.bool true) ∧ Below w.heap.size w w' := by
  have TT := hidJ hT
  clear hT
  have P1 : Hid True := trivial
  have P2 : Hid True := trivial
  have U1 : Hid True := trivial
  have U2 : Hid True := trivial
  have Q1 : Hid True := trivial
  have Q2 : Hid True := trivial
  have Q3 : Hid True := trivial
  have Q4 : Hid True := trivial
  go_enter Tryd.func5, Tryd.ntmps5
  go_wp2_with (first
    | (go_at_call 14; refine (fresh_any w TT.out).mono ?_; rintro e w1 ⟨d, s, m, j, W1, rfl, hS, hj, hJ, hB⟩
       have S1 := hidJ (hS.below hB)
       have J1 := hidJ hJ
       have N1 : Hid ((j ≠ d ∧ j ≠ s ∧ j ≠ m) ∧ w.heap.size ≤ j ∧ d < w1.heap.size ∧ s < w1.heap.size ∧ m < w1.heap.size ∧ j < w1.heap.size) := aw_far hS hj hJ hB
       clear hS hj hJ hB)
    | (go_at_call 16; have _q := P1; clear P1; refine (prepare_ok 17 2 _).mono ?_; rintro e w2 ⟨pa, Ca, rfl, hB⟩; have S2 := hidJ (S1.out.below hB); have J2 := hidJ (J1.out.below hB); have N2 : Hid (w1.heap.size ≤ w2.heap.size) := hB.size; clear hB S1 J1)
    | (go_at_call 16; have _q := P2; have _p := S2; clear P2 _p; refine (prepare_ok 1 0 _).mono ?_; rintro e w3 ⟨pb, Cb, rfl, hB⟩; have S3 := hidJ (S2.out.below hB); have J3 := hidJ (J2.out.below hB); have N3 : Hid (w1.heap.size ≤ w3.heap.size) := Nat.le_trans N2.out hB.size; clear hB S2 J2 N2)
    | (refine wpList_alloc_rec rfl 29 rfl (msg (fun _ => 0) none 0 0) w3.heap.size rfl zeroMsg ?_; intro W4 R4 B4 z4)
    | (refine wpList_alloc_rec rfl 29 rfl (msg (fun _ => 0) none 0 0) (w3.heap.size + 1) z4 zeroMsg ?_; intro W5 R5 B5 z5
       have R45 := hidJ (R4.below (by rw [z4]; exact B5))
       have R55 := hidJ R5
       have BX : Below w3.heap.size w3 W5 := B4.trans (B5.mono (by omega))
       have S5 := hidJ (S3.out.below BX)
       have J5 := hidJ (J3.out.below BX)
       clear R4 B4 z4 R5 B5 z5 BX S3 J3)
    | (refine wpList_store_rec rfl 29 (.tmp 4) (.tmp 13) rfl w3.heap.size 0 _ (msg (pvH 17 2) (some pa) 0 Ca) rfl rfl R45.out rfl (by kernel_rfl) (msg_one _ _ _ _) ?_; intro W6 R6 B6
       have R46 := hidJ R6
       have R56 := hidJ (R55.out.but B6 (by omega))
       have S6 := hidJ (st_but S5.out B6 (by have := N1.out; have := N3.out; omega))
       have J6 := hidJ (J5.out.off (Off.but (bs := [w3.heap.size]) B6 (by simp)) (by have := N1.out; have := N3.out; simp; omega))
       clear R6 B6 R45 R55 S5 J5)
    | (refine wpList_store_rec rfl 29 (.tmp 5) (.tmp 14) rfl (w3.heap.size + 1) 0 _ (msg (pvH 1 0) (some pb) 0 Cb) rfl rfl R56.out rfl (by kernel_rfl) (msg_one _ _ _ _) ?_; intro W7 R7 B7
       have A7 : Hid (AwJ w d s m j w3.heap.size (w3.heap.size + 1) (msg (pvH 17 2) (some pa) 0 Ca) (msg (pvH 1 0) (some pb) 0 Cb) frD (stC frG 16) W7) := ⟨st_but S6.out B7 (by have := N1.out; have := N3.out; omega), J6.out.off (Off.but (bs := [w3.heap.size + 1]) B7 (by simp)) (by have := N1.out; have := N3.out; simp; omega), N1.out.1, N1.out.2.1, R46.out.but B7 (by omega), R7, by have := N1.out; have := N3.out; simp; omega, by have := N1.out; have := N3.out; simp; omega⟩
       clear R7 B7 R46 R56 S6 J6)
    | (go_at_call 19; refine (empty_ok _ j d _ A7.out.ja (stC_one _) fr_knows).mono ?_; rintro e w8 ⟨rfl, hB⟩; have A8 := hidJ (A7.out.below hB); clear hB A7)
    | (have _q := A8; refine wpList_load_w (by rfl) 29 (.tmp 5) rfl (w3.heap.size + 1) 0 _ rfl _ Tryd.underlying29 rfl (by kernel_rfl) A8.out.r5 ?_; clear _q)
    | (go_at_call 9; have _q := U1; have _p := A8; clear U1 _p; refine (jput_ok w _ j d s m 1 _ frD (pvH 1 0) (some pb) 0 Cb noF A8.out.ja (stC_one _) A8.out.jd A8.out.wj A8.out.st (frD_few.mono (by omega)) (by rw [frD_N]; omega) (TT.out.below A8.out.st.bel TT.out.2) (by omega) (noArg _ _) (by omega) (pv_words 1 0) ok1 p1 rfl (by omega)).mono ?_; rintro e w9 ⟨rfl, hJ, hm, hO⟩
       obtain ⟨m9, hA⟩ := A8.out.put hJ hm hO
       have A9 : Hid (AwJ w d s m9 j w3.heap.size (w3.heap.size + 1) (msg (pvH 17 2) (some pa) 0 Ca) (msg (pvH 1 0) (some pb) 0 Cb) d1 k1 w9) := hA
       clear hJ hm hO hA A8)
    | (have _q := A9; refine wpList_load_w (by rfl) 29 (.tmp 5) rfl (w3.heap.size + 1) 0 _ rfl _ Tryd.underlying29 rfl (by kernel_rfl) A9.out.r5 ?_; clear _q)
    | (go_at_call 18; have _q := Q1; have _p := A9; clear Q1 _p; refine (gets_ok0 _ (.pointer (some ⟨j, 0, none⟩)) 1 (pvH 1 0) (some pb) 0 Cb noF (noArg _ _) (get1 noF TT.out A9.out)).mono ?_; rintro e w10 ⟨rfl, hB⟩; have A10 := hidJ (A9.out.below hB); clear hB A9)
    | (refine wpList_build_w (by rfl) 29 #[] rfl (msg (fun _ => 0) none 0 0).toArray (by kernel_rfl) ?_)
    | (go_at_call 18; have _q := Q2; have _p := A10; clear Q2 _p; refine (gets_ok6 _ (.pointer (some ⟨j, 0, none⟩)) 2 (fun _ => 0) none 0 0 noF (noArg _ _) (get2 noF A10.out)).mono ?_; rintro e w11 ⟨rfl, hB⟩; have A11 := hidJ (A10.out.below hB); clear hB A10)
    | (have _q := A11; refine wpList_load_w (by rfl) 29 (.tmp 4) rfl w3.heap.size 0 _ rfl _ Tryd.underlying29 rfl (by kernel_rfl) A11.out.r4 ?_; clear _q)
    | (go_at_call 9; have _q := U2; have _p := A11; clear U2 _p; refine (jput_ok w _ j d s m9 1 _ d1 (pvH 17 2) (some pa) 0 Ca noF A11.out.ja k1_one A11.out.jd A11.out.wj A11.out.st (d1_few.mono (by omega)) d1_N (TT.out.below A11.out.st.bel TT.out.2) (by omega) (noArg _ _) (by omega) (pv_words 17 2) ok17 p17 rfl (by omega)).mono ?_; rintro e w12 ⟨rfl, hJ, hm, hO⟩
       obtain ⟨m12, hA⟩ := A11.out.put hJ hm hO
       have A12 : Hid (AwJ w d s m12 j w3.heap.size (w3.heap.size + 1) (msg (pvH 17 2) (some pa) 0 Ca) (msg (pvH 1 0) (some pb) 0 Cb) d2 k2 w12) := hA
       clear hJ hm hO hA A11)
    | (go_at_call 18; have _q := Q3; have _p := A12; clear Q3 _p; refine (gets_ok6 _ (.pointer (some ⟨j, 0, none⟩)) 1 (fun _ => 0) none 0 0 noF (noArg _ _) (get3 noF A12.out)).mono ?_; rintro e w13 ⟨rfl, hB⟩; have A13 := hidJ (A12.out.below hB); clear hB A12)
    | (go_at_call 7; refine (jopen_ok w _ d s m12 d2 A13.out.st (d2_few.free (by omega)) d2_N (TT.out.below A13.out.st.bel TT.out.2) (fun q _ => d2_byte _) (fun g k hk => ng_at _ _ _ _ (by omega))).mono ?_; rintro e w14 ⟨j2, rfl, hj2, hJ2, hB⟩; have A14 := hidJ (A13.out.below hB); have J14 : Hid (JAt w14 j2 d (stC g2 16)) := hJ2; clear hj2 hJ2 hB A13)
    | (have _q := A14; refine wpList_load_w (by rfl) 29 (.tmp 4) rfl w3.heap.size 0 _ rfl _ Tryd.underlying29 rfl (by kernel_rfl) A14.out.r4 ?_; clear _q)
    | (go_at_call 18; have _q := Q4; have _p := A14; clear Q4 _p; refine (gets_ok0 _ (.pointer (some ⟨j2, 0, none⟩)) 17 (pvH 17 2) (some pa) 0 Ca noF (noArg _ _) (get4 noF TT.out A14.out.st J14.out)).mono ?_; rintro e w15 ⟨rfl, hB⟩; have E15 := hidJ ((A14.out.below hB).st.bel); clear hB))
  go_ret
  exact ⟨rfl, E15.out⟩
end Go.Proofs.YtijpoipcadhchaaDoor
namespace Go.Proofs.YtijpoipcadhchaaDoor
open Go.RowKit Go.Maps
set_option maxRecDepth 100000 in
set_option maxHeartbeats 1000000 in
/-- Format, of no disk. -/
theorem format_no (W : World) (p : Option Addr) (h : NoD W p) (hT : Tab W) : Calls Tryd.prog 13 #[.pointer p] W fun e w' => e = .returned (.int .i64 1) ∧ Below W.heap.size W w' := by
  have HS : Hid (NoD W p) := h
  have HT : Hid (Tab W) := hT
  have hT0 : 0 < W.heap.size := hT.2
  have hmk : ∀ w, (Instr.makeSlice 27 (.int .i64 20480) (.int .i64 20480)).run Tryd.prog w = .ok (.slice (some ⟨w.heap.size, 0, none⟩) 20480 20480) (w.alloc (.cells (zeros 20480) 5)) := fun w => make_bytes 20480 (by omega) w
  have ST : Hid (fmRel W (.slice none 0 0) (.int .i64 0) W) := ⟨0, by omega, rfl, ⟨none, 0, rfl⟩, Own.nil _ _ _, Below.refl _ _⟩
  clear h hT
  go_enter Tryd.func13, Tryd.ntmps13
  go_wp2_with fail
  go_loopw [3, 5] (fun v i wr => fmRel W v i wr) (fun _ i _ => 16 - (RowKit.intOf i).toNat)
  case atStart => exact ST.out
  case round =>
    obtain ⟨k, hk, rfl, ⟨q, cap, rfl⟩, ho, hB⟩ := hrel
    clear ST
    have i1 : (0 : Int) ≤ (k : Int) := by omega
    by_cases hlt : k < 16
    · have i0 : (k : Int) < 16 := by omega
      have UN : Hid (Calls Tryd.prog 36 #[.int .i64 (k : Int)] wr fun e w' => ∃ g, e = .returned (.slice (some ⟨g, 0, none⟩) 256 256) ∧ wr.heap.size ≤ g ∧ IRow w' g .u8 256 (unwF k) ∧ Below wr.heap.size wr w') := junw_any k hlt wr (HT.out.below hB hT0)
      have HO : Hid (Own wr W.heap.size (.slice q (256 * k) cap) (256 * k) hdsF ∧ Below W.heap.size W wr) := ⟨ho, hB⟩
      clear ho hB
      go_wp2_with (first
        | (go_at_call 36; refine UN.out.mono ?_; rintro e W1 ⟨g, rfl, hg, hR, B1⟩
           obtain ⟨v', W', hr, hrel'⟩ := fm_app W W1 k g _ hlt (HO.out.1.below B1) hR (HO.out.2.trans (B1.mono HO.out.2.size))
           have H2 : Hid (fmRel W v' (.int .i64 ((k : Int) + 1)) W') := hrel'
           clear hrel' hg hR B1)
        | (at_builtin; refine wpList_append_go rfl (.tmp 8) (.tmp 10) 27 27 rfl _ _ rfl rfl hr ?_))
      exact ⟨H2.out, by simp [RowKit.intOf]; omega⟩
    · obtain rfl : k = 16 := by omega
      obtain ⟨bh, Ch, hv, hbh, hCh, hl⟩ := ho.form (by omega) (fun j _ => hdsF_byte j)
      injection hv with hv1 _ hv2
      subst hv1 hv2
      have HL : Hid (Lies wr bh 0 4096 hdsF ∧ W.heap.size ≤ bh ∧ 4096 ≤ cap ∧ Below W.heap.size W wr) := ⟨hl, hbh, hCh, hB⟩
      clear hl ho hB hbh hCh
      go_wp2_with (first
        | (go_at_call 30; refine (wprep_any _ _ 0 _ 20480 20480).mono ?_; rintro e W1 ⟨rfl, hp1, B1⟩
           have H1 : Hid (HBox W1 (wr.heap.size + 1) (wr.heap.size + 1 + 1) (wr.heap.size + 1 + 2) p 0 (.slice (some ⟨wr.heap.size, 0, none⟩) 20480 20480) ∧ Below (wr.heap.size + 1) (wr.alloc (.cells (zeros 20480) 5)) W1) := by
             rw [World.size_alloc] at hp1 B1
             exact ⟨hp1, B1⟩
           clear hp1 B1)
        | (go_at_call 32; refine (whead_any _ _ 0 _ 4096 cap).mono ?_; rintro e W2 ⟨rfl, hp2, B2⟩
           have DO : Hid (∀ t, Calls Tryd.prog 39 #[.slice (some ⟨W2.heap.size, 0, none⟩) 3 3] (W2.alloc (.cells #[(DeedV.prep (wr.heap.size + 1) (wr.heap.size + 1 + 1) (wr.heap.size + 1 + 2)).val, (DeedV.head W1.heap.size (W1.heap.size + 1) (W1.heap.size + 2)).val, (DeedV.flush p).val] t)) fun e w' => e = .returned (.int .i64 1) ∧ Below W.heap.size W w') := fun t => by
             have BA : Below wr.heap.size wr (wr.alloc (.cells (zeros 20480) 5)) := (Below.refl _ _).alloc (Nat.le_refl _) _
             have zA : (wr.alloc (.cells (zeros 20480) 5)).heap.size = wr.heap.size + 1 := World.size_alloc _ _
             have b1 : Below (wr.alloc (.cells (zeros 20480) 5)).heap.size (wr.alloc (.cells (zeros 20480) 5)) W1 := by rw [zA]; exact H1.out.2
             have b3 : Below W2.heap.size W2 (W2.alloc (.cells #[(DeedV.prep (wr.heap.size + 1) (wr.heap.size + 1 + 1) (wr.heap.size + 1 + 2)).val, (DeedV.head W1.heap.size (W1.heap.size + 1) (W1.heap.size + 2)).val, (DeedV.flush p).val] t)) := (Below.refl _ _).alloc (Nat.le_refl _) _
             have zb := HL.out.2.2.2.size
             have za := BA.size
             have z1 := b1.size
             have z2 := B2.size
             have bb : Below W.heap.size W (W2.alloc (.cells #[(DeedV.prep (wr.heap.size + 1) (wr.heap.size + 1 + 1) (wr.heap.size + 1 + 2)).val, (DeedV.head W1.heap.size (W1.heap.size + 1) (W1.heap.size + 2)).val, (DeedV.flush p).val] t)) := (((HL.out.2.2.2.trans (BA.mono zb)).trans (b1.mono (by omega))).trans (B2.mono (by omega))).trans (b3.mono (by omega))
             refine fm_do_no W (W2.alloc (.cells #[(DeedV.prep (wr.heap.size + 1) (wr.heap.size + 1 + 1) (wr.heap.size + 1 + 2)).val, (DeedV.head W1.heap.size (W1.heap.size + 1) (W1.heap.size + 2)).val, (DeedV.flush p).val] t)) p (wr.heap.size + 1) W2.heap.size 3 (.flush p) (HS.out.below bb) ⟨_, (H1.out.1.below B2).below b3⟩ ?_ ⟨.head W1.heap.size (W1.heap.size + 1) (W1.heap.size + 2), ?_⟩ ?_ bb
             · rw [cell_of_row _ _ _ _ _ _ (heap_alloc_new _ _)]; rfl
             · rw [cell_of_row _ _ _ _ _ _ (heap_alloc_new _ _)]; rfl
             · rw [cell_of_row _ _ _ _ _ _ (heap_alloc_new _ _)]; rfl
           clear hp2 B2 H1)
        | (refine wpList_bs rfl 82 80 3 _ rfl 1 8 .nilFunc #[(DeedV.prep (wr.heap.size + 1) (wr.heap.size + 1 + 1) (wr.heap.size + 1 + 2)).val, (DeedV.head W1.heap.size (W1.heap.size + 1) (W1.heap.size + 2)).val, (DeedV.flush p).val] [(0, (DeedV.prep (wr.heap.size + 1) (wr.heap.size + 1 + 1) (wr.heap.size + 1 + 2)).val), (1, (DeedV.head W1.heap.size (W1.heap.size + 1) (W1.heap.size + 2)).val), (2, (DeedV.flush p).val)] Tryd.underlying82 info_deed (by decide) (by decide) (by kernel_rfl) (by kernel_rfl) ?_)
        | (go_at_call 39; refine (DO.out _).mono ?_; rintro e W3 ⟨rfl, h3⟩; have H3 : Hid (Below W.heap.size W W3) := h3; clear h3))
      go_ret
      exact ⟨rfl, H3.out⟩
end Go.Proofs.YtijpoipcadhchaaDoor
namespace Go.Proofs.YtijpoipcadhchaaDoor
open Go.RowKit Go.Maps
/-- A list of two pointers is made: the world behind it is a letter. -/
theorem wpList_two {ops : Array Oper} {rest : List Oper} {o : Oper} {a : Act} {w : World} {Q : Exit → Act → World → Prop} (hg : o.guard = none) (t e : TypeId) (x y : Operand) (ho : o.op = .buildSlice t 2 #[(0, x), (1, y)])
    (hu : Tryd.prog.underlying t = some (.slice e)) (hinfo : (Tryd.prog.info? e).map (fun i => (i.zero, i.size, i.bytes)) = some (some (.pointer none), 1, 8)) (p q : Option Addr) (hx : a.eval x = .pointer p) (hy : a.eval y = .pointer q) (H : Nat) (hH : w.heap.size = H)
    (hK : ∀ W, W.cell? ⟨H, 0, none⟩ = some (.pointer p) → W.cell? ⟨H, 1, none⟩ = some (.pointer q) → H < W.heap.size → Below H w W → W.heap.size = H + 1 → wpList Tryd.prog ops Q rest (a.put o.dst (.slice (some ⟨H, 0, none⟩) 2 2)) W) : wpList Tryd.prog ops Q (o :: rest) a w := by
  subst hH
  refine wpList_bs hg t e 2 #[(0, x), (1, y)] ho 1 8 (.pointer none) #[.pointer p, .pointer q] [(0, .pointer p), (1, .pointer q)] hu hinfo (by decide) (by decide) (by simp [hx, hy]) (by kernel_rfl) (hK _ ?_ ?_ (by simp) ((Below.refl _ _).alloc (Nat.le_refl _) _) (by simp))
  · rw [cell_of_row _ _ _ _ _ _ (heap_alloc_new _ _)]; rfl
  · rw [cell_of_row _ _ _ _ _ _ (heap_alloc_new _ _)]; rfl
/-- The zero journal and the zero disk. -/
def jZ : List Value := .pointer none :: .pointer none :: (List.range 16).flatMap (fun _ => ss 0 0 0 false)
def dZ : List Value := [.pointer none, .slice none 0 0, .map none, .int .i64 0, .pointer none, .bool false]
/-- What stays in JournalNone. -/
structure NnS (w : World) (c : List Value) (bj bd xj xd : Nat) (W : World) : Prop where
  box : Rec19 W w.heap.size 0 c
  j0 : W.cell? ⟨bj, 0, none⟩ = some (.pointer none)
  j1 : W.cell? ⟨bj, 1, none⟩ = some (.pointer (some ⟨xj, 0, none⟩))
  d0 : W.cell? ⟨bd, 0, none⟩ = some (.pointer none)
  d1 : W.cell? ⟨bd, 1, none⟩ = some (.pointer (some ⟨xd, 0, none⟩))
  zj : W.cell? ⟨xj, 0, none⟩ = some (.pointer none)
  zd : W.cell? ⟨xd, 0, none⟩ = some (.pointer none)
  lj : bj < W.heap.size
  ld : bd < W.heap.size
  kj : xj < W.heap.size
  kd : xd < W.heap.size
  bel : Below w.heap.size w W
theorem NnS.below {w : World} {c : List Value} {bj bd xj xd : Nat} {W W' : World} (h : NnS w c bj bd xj xd W) (hB : Below W.heap.size W W') : NnS w c bj bd xj xd W' :=
  ⟨h.box.below hB, (hB.cell (p := ⟨bj, 0, none⟩) h.lj).trans h.j0, (hB.cell (p := ⟨bj, 1, none⟩) h.lj).trans h.j1, (hB.cell (p := ⟨bd, 0, none⟩) h.ld).trans h.d0, (hB.cell (p := ⟨bd, 1, none⟩) h.ld).trans h.d1, (hB.cell (p := ⟨xj, 0, none⟩) h.kj).trans h.zj, (hB.cell (p := ⟨xd, 0, none⟩) h.kd).trans h.zd, Nat.lt_of_lt_of_le h.lj hB.size, Nat.lt_of_lt_of_le h.ld hB.size, Nat.lt_of_lt_of_le h.kj hB.size, Nat.lt_of_lt_of_le h.kd hB.size, below_j (Nat.le_refl _) h.bel hB⟩
/-- The k-th of both lists. -/
def NnK (bj bd k : Nat) (p q : Option Addr) (W : World) : Prop := W.cell? ⟨bj, k, none⟩ = some (.pointer p) ∧ W.cell? ⟨bd, k, none⟩ = some (.pointer q) ∧ NoJ W p ∧ NoD W q
theorem NnS.at_ {w : World} {c : List Value} {bj bd xj xd : Nat} (k : Nat) (hk : k < 2) : ∃ p q, ∀ W, NnS w c bj bd xj xd W → NnK bj bd k p q W := by
  match k, hk with
  | 0, _ => exact ⟨none, none, fun W h => ⟨h.j0, h.d0, .inl rfl, .inl rfl⟩⟩
  | 1, _ => exact ⟨some ⟨xj, 0, none⟩, some ⟨xd, 0, none⟩, fun W h => ⟨h.j1, h.d1, .inr ⟨xj, rfl, h.zj, h.kj⟩, .inr ⟨xd, rfl, h.zd, h.kd⟩⟩⟩
def nnRel (w : World) (c : List Value) (bj bd xj xd : Nat) (i : Value) (wr : World) : Prop := ∃ k : Nat, k ≤ 2 ∧ i = .int .i64 k ∧ NnS w c bj bd xj xd wr
set_option maxRecDepth 100000 in
set_option maxHeartbeats 2000000 in
theorem none_long (h : Nat → Int) (a : Option Addr) (n C : Nat) (op : Int) (w : World) (hT : Tab w) (i1 : (1100 : Int) < (n : Int)) : Calls Tryd.prog 3 #[.agg (msg h a n C).toArray, .int .i64 op] w fun e w' => e = .returned (.bool true) ∧ Below w.heap.size w w' := by
  have TT := hidJ hT
  clear hT
  go_enter Tryd.func3, Tryd.ntmps3
  go_wp2_with (first
    | (refine wpList_box_rec rfl 29 (.tmp 0) rfl (msg h a n C) rfl w.heap.size rfl ?_; intro W0 R0 B0 z0; have c16 := R0.1 16 _ rfl; simp only [Nat.zero_add] at c16; have BB := hidJ B0; clear R0 B0 z0)
    | (go_at_call 5; refine (awake_ok _ (TT.out.below BB.out TT.out.2)).mono ?_; rintro e w1 ⟨rfl, hB⟩; have E1 := hidJ (below_j (Nat.le_refl _) BB.out hB); clear hB))
  go_ret
  exact ⟨rfl, E1.out⟩
set_option maxRecDepth 100000 in
set_option maxHeartbeats 4000000 in
theorem none_main (h : Nat → Int) (a : Option Addr) (n C : Nat) (op : Int) (w : World) (hT : Tab w) (i1 : ¬ (1100 : Int) < (n : Int)) : Calls Tryd.prog 3 #[.agg (msg h a n C).toArray, .int .i64 op] w fun e w' => e = .returned (.bool true) ∧ Below w.heap.size w w' := by
  have TT := hidJ hT
  clear hT
  have T1 : Hid True := trivial
  have T2 : Hid True := trivial
  go_enter Tryd.func3, Tryd.ntmps3
  go_wp2_with (first
    | (refine wpList_box_rec rfl 29 (.tmp 0) rfl (msg h a n C) rfl w.heap.size rfl ?_; intro W0 R0 B0 z0; have c16 := R0.1 16 _ rfl; simp only [Nat.zero_add] at c16; have RB := hidJ R0; have BB := hidJ B0; clear R0 B0)
    | (refine wpList_build_to rfl 38 #[] rfl jZ.toArray (by kernel_rfl) ?_)
    | (refine wpList_box_rec rfl 38 (.tmp 18) rfl jZ rfl (w.heap.size + 1) z0 ?_; intro W1 R1 B1 z1)
    | (refine wpList_two rfl 39 31 (.const (.pointer none)) (.tmp 19) rfl Tryd.underlying39 (by kernel_rfl) none (some ⟨w.heap.size + 1, 0, none⟩) rfl rfl (w.heap.size + 1 + 1) z1 ?_; intro W2 a0 a1 l2 B2 z2)
    | (refine wpList_build_to rfl 44 #[] rfl dZ.toArray (by kernel_rfl) ?_)
    | (refine wpList_box_rec rfl 44 (.tmp 21) rfl dZ rfl (w.heap.size + 1 + 1 + 1) z2 ?_; intro W3 R3 B3 z3)
    | (refine wpList_two rfl 45 32 (.const (.pointer none)) (.tmp 22) rfl Tryd.underlying45 (by kernel_rfl) none (some ⟨w.heap.size + 1 + 1 + 1, 0, none⟩) rfl rfl (w.heap.size + 1 + 1 + 1 + 1) z3 ?_; intro W4 b0 b1 l4 B4 z4
       have ST : Hid (nnRel w (msg h a n C) (w.heap.size + 1 + 1) (w.heap.size + 1 + 1 + 1 + 1) (w.heap.size + 1) (w.heap.size + 1 + 1 + 1) (.int .i64 0) W4) := by
         have q1 : Below W1.heap.size W1 W4 := (B2.mono (by omega)).trans ((B3.mono (by omega)).trans (B4.mono (by omega)))
         have q2 : Below W2.heap.size W2 W4 := (B3.mono (by omega)).trans (B4.mono (by omega))
         have q3 : Below W3.heap.size W3 W4 := B4.mono (by omega)
         have q0 : Below W0.heap.size W0 W4 := (B1.mono (by omega)).trans (q1.mono (by omega))
         have e1 := (R1.below q1).1 0 _ rfl
         have e3 := (R3.below q3).1 0 _ rfl
         exact ⟨0, by omega, rfl, RB.out.below q0, (q2.cell (p := ⟨w.heap.size + 1 + 1, 0, none⟩) l2).trans a0, (q2.cell (p := ⟨w.heap.size + 1 + 1, 1, none⟩) l2).trans a1, b0, b1, e1, e3, Nat.lt_of_lt_of_le l2 q2.size, l4, (R1.below q1).2.2, (R3.below q3).2.2, below_j (Nat.le_refl _) BB.out q0⟩
       clear R1 B1 z1 a0 a1 l2 B2 z2 R3 B3 z3 b0 b1 l4 B4 z4 RB BB z0 c16))
  go_loopw [7] (fun i wr => nnRel w (msg h a n C) (w.heap.size + 1 + 1) (w.heap.size + 1 + 1 + 1 + 1) (w.heap.size + 1) (w.heap.size + 1 + 1 + 1) i wr) (fun i _ => 2 - (RowKit.intOf i).toNat)
  case atStart => exact ST.out
  case round =>
    obtain ⟨k, hk, rfl, hS⟩ := hrel
    clear ST
    have S0 := hidJ hS
    clear hS
    by_cases hlt : k < 2
    · have i0 : (k : Int) < 2 := by omega
      obtain ⟨p, q, hpq⟩ := NnS.at_ (w := w) (c := msg h a n C) (bj := w.heap.size + 1 + 1) (bd := w.heap.size + 1 + 1 + 1 + 1) (xj := w.heap.size + 1) (xd := w.heap.size + 1 + 1 + 1) k hlt
      have PQ := hidJ hpq
      have cj := (hpq _ S0.out).1
      clear hpq
      go_wp2_with (first
        | (go_at_call 6; refine (jget_no _ p op (PQ.out _ S0.out).2.2.1).mono ?_; rintro e w1 ⟨rfl, hB⟩; have S1 := hidJ (S0.out.below hB); clear hB cj)
        | (refine wpList_alloc_rec rfl 29 rfl (msg (fun _ => 0) none 0 0) w1.heap.size rfl zeroMsg ?_; intro W2 R2 B2 z2)
        | (refine wpList_store_rec rfl 29 (.tmp 9) (.tmp 36) rfl w1.heap.size 0 _ (msg (fun _ => 0) none 0 0) rfl rfl R2 rfl (by kernel_rfl) (msg_one _ _ _ _) ?_; intro W3 R3 B3
           have BX : Below w1.heap.size w1 W3 := B2.trans (B3.below (Nat.le_refl _) B2.size)
           have S3 := hidJ (S1.out.below BX)
           have M3 := hidJ R3
           have cd := (PQ.out _ S3.out).2.1
           clear R2 B2 z2 R3 B3 BX S1)
        | (go_at_call 7; refine (jopen_no _ q (PQ.out _ S3.out).2.2.2).mono ?_; rintro e w4 ⟨rfl, hw⟩; subst hw)
        | (refine wpList_load_w (by rfl) 29 (.tmp 9) rfl w1.heap.size 0 _ rfl _ Tryd.underlying29 rfl (by kernel_rfl) M3.out ?_)
        | (refine wpList_build_w (by rfl) 29 #[] rfl (msg (fun _ => 0) none 0 0).toArray (by kernel_rfl) ?_)
        | (go_at_call 8; refine (sameMsg_eq (fun _ => 0) none none 0 0 0 0 noF noF _ (noArg _ _) (noArg _ _)).mono ?_; rintro e w5 ⟨rfl, hB⟩; rw [decide_eq_true rfl]; have S5 := hidJ (S3.out.below hB); clear hB S3 M3 cd)
        | (have _q := S5; refine wpList_load_w (by rfl) 29 (.tmp 2) rfl w.heap.size 0 _ rfl _ Tryd.underlying29 rfl (by kernel_rfl) S5.out.box ?_; clear _q)
        | (go_at_call 9; refine (jput_no _ p h a n C (PQ.out _ S5.out).2.2.1).mono ?_; rintro e w6 ⟨rfl, hB⟩; have S6 := hidJ (S5.out.below hB); clear hB S5)
        | (go_at_call 10; refine (jmend_no _ p (PQ.out _ S6.out).2.2.1).mono ?_; rintro e w7 ⟨rfl, hB⟩; have S7 := hidJ (S6.out.below hB); clear hB S6)
        | (go_at_call 11; refine (jcut_no _ p op (PQ.out _ S7.out).2.2.1).mono ?_; rintro e w8 ⟨rfl, hB⟩; have S8 := hidJ (S7.out.below hB); clear hB S7)
        | (go_at_call 12; refine (jslots_no _ p (PQ.out _ S8.out).2.2.1).mono ?_; rintro e w9 ⟨rfl, hw⟩; subst hw; have cd := (PQ.out _ S8.out).2.1)
        | (go_at_call 13; refine (format_no _ q (PQ.out _ S8.out).2.2.2 (TT.out.below S8.out.bel TT.out.2)).mono ?_; rintro e w10 ⟨rfl, hB⟩; have S10 := hidJ (S8.out.below hB); clear hB S8 cd))
      go_roundw
      case rel => exact ⟨k + 1, by omega, by go_num, S10.out⟩
      case measure => simp [RowKit.intOf]; omega
    · obtain rfl : k = 2 := by omega
      rw [show ((2 : Nat) : Int) = 2 from rfl]
      go_wp2_with (go_at_call 5; refine (awake_ok _ (TT.out.below S0.out.bel TT.out.2)).mono ?_; rintro e w1 ⟨rfl, hB⟩; have E1 := hidJ (below_j (Nat.le_refl _) S0.out.bel hB); clear hB)
      go_ret
      exact ⟨rfl, E1.out⟩
theorem none_any (h : Nat → Int) (a : Option Addr) (n C : Nat) (op : Int) (w : World) (hT : Tab w) : Calls Tryd.prog 3 #[.agg (msg h a n C).toArray, .int .i64 op] w fun e w' => e = .returned (.bool true) ∧ Below w.heap.size w w' := by
  by_cases i : (1100 : Int) < (n : Int)
  · exact none_long h a n C op w hT i
  · exact none_main h a n C op w hT i
end Go.Proofs.YtijpoipcadhchaaDoor
