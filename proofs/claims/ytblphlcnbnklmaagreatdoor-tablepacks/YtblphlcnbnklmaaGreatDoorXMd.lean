
/-
  Walks, not a claim by itself: TableNone. By the verifier.
-/
import Derived.Test.YtblphlcnbnklmaaGreatDoorIC
import Derived.Test.YtblphlcnbnklmaaGreatDoorXMc
import Derived.Test.YtblphlcnbnklmaaGreatDoorXMb
import Derived.Test.YtblphlcnbnklmaaGreatDoorXMa
import Derived.Test.YtblphlcnbnklmaaGreatDoorIA
namespace Go.Proofs.YtblphlcnbnklmaaGreatDoor
open Go.RowKit Go.Maps
theorem Blk.Eq.valI {s t : Blk} (h : s.Eq t) (a : Option Addr) (C : Nat) (b : Option Addr) (D : Nat) : blkV s a C b D = blkV t a C b D := by
  obtain ⟨h1, h2, h3, _, _⟩ := h
  unfold blkV blkC
  rw [h1, h2, h3 0 (by omega), h3 1 (by omega), h3 2 (by omega)]
theorem TbGot.eqI {w w' : World} {s t : Blk} {g1 g2 : Nat} (h : s.Eq t) (k : TbGot w w' s g1 g2) : TbGot w w' t g1 g2 := by
  obtain ⟨h1, h2, h3, h4, h5⟩ := h
  refine ⟨fun j hj => by rw [← h4 j (by omega)]; exact k.refs j (by omega), k.l1, by rw [← h2]; exact k.row.congr h5, k.n1, k.n2, fun j hj => by rw [← h5 j (by omega)]; exact k.byt j (by omega)⟩
theorem RgOk.eq {W w' : World} {s t : Blk} {e : Ending} (h : s.Eq t) (k : RgOk W s e w') : RgOk W t e w' := by
  obtain ⟨g1, g2, rfl, k1, k2⟩ := k
  exact ⟨g1, g2, by rw [h.valI, h.1, h.2.1], k1.eqI h, k2⟩
theorem i64_small (x : Int) (h1 : 0 ≤ x) (h2 : x ≤ 1073741824) : I64 x := ⟨by omega, by omega⟩
/-- What is written is read. -/
theorem rd_there (w0 u : World) (g d s m b mm n i : Nat) (D : Dsk) (h : Nat → Nat) (p q : Int) (t : Blk) (hN : GNew w0 u g d s m b mm D n h) (hf : D.free) (hD : 104 + 4 * n ≤ D.N) (hi : i < n) (hp : p = (i : Int) + 1) (hq : 0 ≤ q ∧ q ≤ 1073741824) (hm : t.May) (hF : ∀ j, j < 1024 → blF D i j = t.img j) (hx1 : t.x 1 = p) (hx2 : t.x 2 = q) :
    Calls Tryz.prog 139 #[.pointer (some ⟨g, 0, none⟩), .agg (twoC p q).toArray] u (RgOk u t) := by
  obtain ⟨hW, hE⟩ := whole_of hm hF
  refine (gread_ok u g p q (blkOf (behO (blF D i))) (blF D i) fun v hB => ?_).mono fun e w' k => k.eq hE.symm
  have hv := hN.below hB
  refine gfind_ok w0 v g d s m b mm n (.slice none 0 0) D p q _ _ hv.st hf hv.ga ⟨by omega, by omega, hq.1, hq.2⟩ fun x hX => ?_
  have hx := hv.below hX
  exact gload_ok w0 x g d s m b mm n i (.slice none 0 0) D p q hx.st hf hx.ga hD hi hx.ok.n2 hp hW ((hE.2.2.1 1 (by omega)).symm.trans hx1) ((hE.2.2.1 2 (by omega)).symm.trans hx2)
/-- What another ref names is not there, and is wanted. -/
theorem rd_other (w0 u : World) (g d s m b mm n i : Nat) (D : Dsk) (h : Nat → Nat) (p q : Int) (t : Blk) (hN : GNew w0 u g d s m b mm D n h) (hf : D.free) (hD : 104 + 4 * n ≤ D.N) (hi : i < n) (hp : p = (i : Int) + 1) (hq : 0 ≤ q ∧ q ≤ 1073741824) (hm : t.May) (hF : ∀ j, j < 1024 → blF D i j = t.img j) (hx : ¬ t.x 2 = q) :
    Calls Tryz.prog 139 #[.pointer (some ⟨g, 0, none⟩), .agg (twoC p q).toArray] u (FdNo u g d n b mm p q (.tuple #[blkV blk0 none 0 none 0, .int .i64 13])) := by
  obtain ⟨hW, hE⟩ := whole_of hm hF
  have n2 := hN.ok.n2
  have ne : g ≠ mm := by
    have := hN.ne
    simp only [List.nodup_cons, List.mem_cons, List.not_mem_nil, or_false, not_or] at this
    exact this.1.2.2.2.2
  refine gread_no u g d b mm n p q hN.ga.2.2 hN.wm.lt fun v hB => ?_
  have hv := hN.below hB
  refine gfind_no w0 v g d s m b mm n D p q hv.st hf hv.ga hv.wm ne ⟨by omega, by omega, hq.1, hq.2⟩ (i64_small p (by omega) (by omega)) (i64_small q hq.1 hq.2) fun x hX => ?_
  have hx' := hv.below hX
  exact gload_ref w0 x g d s m b mm n i (.slice none 0 0) D p q hx'.st hf hx'.ga hD hi n2 hp hW (fun k => hx ((hE.2.2.1 2 (by omega)).trans k.2))
/-- A conversion of bytes that were made. -/
theorem convB (u : World) (y n c : Nat) (C : Array Value) (fz : Nat × Nat) (hy : u.heap[y]? = some (.cells C 5 fz)) : ∃ u', (convert 23 23 (.slice (some ⟨y, 0, none⟩) n c)).run Tryz.prog u = .ok (.slice (some ⟨y, 0, none⟩) n c) u' ∧ But y u u' ∧ ∃ fz', u'.heap[y]? = some (.cells C 5 fz') := by
  have hsh : u.shape? y = some (5, C.size) := by
    unfold World.shape?
    rw [hy]
  refine ⟨u.freeze ⟨y, C.size, none⟩ 1, ?_, ?_, ?_⟩
  · simp [convert, run_underlying Tryz.underlying23, run_underlying Tryz.underlying5, markStringish, hsh]
  · unfold World.freeze
    rw [if_neg (by decide)]
    refine ⟨rfl, rfl, rfl, by simp, fun k hk hn => ?_⟩
    simp only [Array.getElem?_modify]
    rw [if_neg (fun e => hn e.symm)]
  · unfold World.freeze
    rw [if_neg (by decide)]
    simp only [Array.getElem?_modify, if_true, hy]
    exact ⟨_, rfl⟩
theorem conv_run {o : Oper} {a : Act} {w : World} (t t' : TypeId) (x : Operand) (ho : o.op = .convert t t' x) (X : Value) (hx : a.eval x = X) {v : Value} {w' : World} (hr : (convert t t' X).run Tryz.prog w = .ok v w') : (execOp a.eval o).run Tryz.prog w = .ok (.value v) w' := by
  simp [execOp, ho, hx, hr, Result.andThen]
theorem build_runI {o : Oper} {a : Act} {w : World} (t : TypeId) (parts : Array (Nat × Operand)) (ho : o.op = .build t parts) (cells : Array Value) (hf : Tryz.prog.built t (parts.map fun (i, x) => (i, a.eval x)).toList = some cells) : (execOp a.eval o).run Tryz.prog w = .ok (.value (.agg cells)) w := by
  unfold execOp
  simp only [ho, Sem.run_bind, run_build w t _ cells hf, Result.andThen_ok]
  rfl
theorem u8_info : (Tryz.prog.info? 5).map (fun i => (i.zero, i.size, i.bytes)) = some (some (.int .u8 0), 1, 1) := by kernel_rfl
theorem one_lies {V : World} {y : Nat} {fz : Nat × Nat} (h : V.heap[y]? = some (.cells #[.int .u8 97] 5 fz)) : Lies V y 0 1 (fun _ => ((97 : UInt8).toNat : Int)) := by
  refine ⟨fun j hj => ?_, fun _ _ => (show 0 ≤ ((97 : UInt8).toNat : Int) ∧ ((97 : UInt8).toNat : Int) < 256 from by decide), (Array.getElem?_eq_some_iff.1 h).1⟩
  obtain rfl : j = 0 := by omega
  rw [cell_of_row _ _ _ _ _ _ h]
  rfl
theorem ownI_harg {W : World} {base z k cz : Nat} {r : Nat → Int} (h : OwnI W base 57 2 (.slice (some ⟨z, 0, none⟩) k cz) k r) (hk : 0 < k) : HArg W (some ⟨z, 0, none⟩) k r := by
  obtain ⟨g, cap, e, _, _, c, l⟩ := h.form hk
  injection e with e _ _
  injection e with e
  injection e with e
  subst e
  exact .inr ⟨z, 0, rfl, fun j hj => by rw [Nat.zero_add]; exact c j (by omega), l⟩
/-- What stays in awake's last line. -/
structure AwG (w : World) (g d b mm x cap x4 g1 g2 : Nat) (V : World) : Prop where
  p : Rec19 V x4 0 (blkC bk1 (some ⟨g1, 0, none⟩) 0 (some ⟨g2, 0, none⟩) 1)
  bl : BlkAt V bk1 (some ⟨g1, 0, none⟩) 0 (some ⟨g2, 0, none⟩) 1
  ga : GAt V g d 4 b (.slice (some ⟨x, 0, none⟩) 1 cap) mm
  cx : ∀ j, j < 1 * 2 → V.cell? ⟨x, j, none⟩ = some (.int .i64 (if j = 0 then 1 else 8))
  lx : x < V.heap.size
  bel : Below w.heap.size w V
theorem AwG.below {w : World} {g d b mm x cap x4 g1 g2 : Nat} {V V' : World} (h : AwG w g d b mm x cap x4 g1 g2 V) (hB : Below V.heap.size V V') : AwG w g d b mm x cap x4 g1 g2 V' :=
  ⟨h.p.below hB, h.bl.below hB, h.ga.below hB, fun j hj => (hB.cell (p := ⟨x, j, none⟩) h.lx).trans (h.cx j hj), Nat.lt_of_lt_of_le h.lx hB.size, below_sh (Nat.le_refl _) h.bel hB⟩
section
variable {ops : Array Oper} {Q : Exit → Act → World → Prop} {md : Region.Mode} {S : World → Prop}
theorem all_runI {i : Nat} {o : Oper} {rs : List Nat} {fuel : Nat} {listed : Array Bool} {a : Act} {w : World} (d : Option Tmp) (ho : ops[i]? = some o) (hd : o.dst = d) (hw : Region.wanted o (yielded ops a.tmps) = true) (v : Value) (w' : World)
    (hx : (execOp a.eval o).run Tryz.prog w = .ok (.value v) w') (hS : S w') (h : S w' → wpAnyH Tryz.prog md ops Q S fuel (listed.setIfInBounds i true) (a.put d v) w')
    (hs : AllReadyH Tryz.prog md ops Q S fuel listed a w rs) : AllReadyH Tryz.prog md ops Q S fuel listed a w (i :: rs) := by
  subst hd
  refine AllReadyH.cons ho (fun K hK => ?_) hs
  rw [if_pos hw]
  unfold Oper.wp
  rw [hx]
  exact hK.out _ _ hS h
end
theorem off_rec {W W' : World} {bs : List Nat} {n : Nat} {cs : List Value} (h : Rec19 W n 0 cs) (hB : Off bs W W') (hn : n ∉ bs) : Rec19 W' n 0 cs := h.off hB hn
theorem bk1_at {W w' : World} {g1 g2 : Nat} (h : TbGot W w' bk1 g1 g2) : BlkAt w' bk1 (some ⟨g1, 0, none⟩) 0 (some ⟨g2, 0, none⟩) 1 := h.at
theorem bk1_off {W W' : World} {bs : List Nat} {g1 g2 : Nat} (h : BlkAt W bk1 (some ⟨g1, 0, none⟩) 0 (some ⟨g2, 0, none⟩) 1) (hB : Off bs W W') (hn : g2 ∉ bs) : BlkAt W' bk1 (some ⟨g1, 0, none⟩) 0 (some ⟨g2, 0, none⟩) 1 := by
  refine ⟨.inl rfl, h.kC, ?_, h.nD⟩
  rcases h.body with ⟨h0, _⟩ | ⟨h0, b, off, e, hl⟩
  · exact absurd h0 (by show ¬ (1 = 0); omega)
  · injection e with e
    injection e with e1 e2
    subst e1 e2
    exact .inr ⟨h0, g2, 0, rfl, fun j hj => (hB.cell (p := ⟨g2, 0 + j, none⟩) hl.2.2 hn).trans (hl.1 j hj), hl.2.1, Nat.lt_of_lt_of_le hl.2.2 hB.size⟩
end Go.Proofs.YtblphlcnbnklmaaGreatDoor
namespace Go.Proofs.YtblphlcnbnklmaaGreatDoor
open Go.RowKit Go.Maps
attribute [-go_sem] Builtin.append_
/-- An index as Go has it. -/
def idxC (g m : Nat) (a : Option Addr) (C : Nat) : List Value := [.slice (some ⟨g, 0, none⟩) m m, .slice a m C]
theorem zero_idx : (Tryz.prog.info? 147).bind (·.zero) = some (.agg ([.slice none 0 0, .slice none 0 0] : List Value).toArray) := by kernel_rfl
theorem idx_size : (Tryz.prog.info? 147).map (·.size) = some 2 := by kernel_rfl
theorem idxC_one (g m : Nat) (a : Option Addr) (C : Nat) : ∀ u ∈ idxC g m a C, u.oneCell' = true := by
  intro u hu
  simp only [idxC, List.mem_cons, List.not_mem_nil, or_false] at hu
  rcases hu with rfl | rfl <;> rfl
/-- An index lies in memory. -/
structure IdxAt (W : World) (g m : Nat) (a : Option Addr) (stamp : Int) (ks : List ByteArray) (os : List PV) : Prop where
  refs : ∀ j, j < 2 * m → W.cell? ⟨g, j, none⟩ = some (.int .i64 (rfF stamp j))
  gl : g < W.heap.size
  len : os.length = m
  lst : Lst W a os
  map : os.map PV.p = ks.map kP
theorem PVOk.any {W : World} {N : List Nat} {x : PV} (h : PVOk W N x) : PVOk W [] x := h.mono (fun b hb => by cases hb)
theorem IdxAt.below {W W' : World} {g m : Nat} {a : Option Addr} {stamp : Int} {ks : List ByteArray} {os : List PV} (h : IdxAt W g m a stamp ks os) (hB : Below W.heap.size W W') : IdxAt W' g m a stamp ks os :=
  ⟨fun j hj => (hB.cell (p := ⟨g, j, none⟩) h.gl).trans (h.refs j hj), Nat.lt_of_lt_of_le h.gl hB.size, h.len, h.lst.below hB, h.map⟩
/-- What readIndex answers. -/
def RiP (W : World) (m : Nat) (stamp : Int) (ks : List ByteArray) (e : Ending) (w' : World) : Prop := ∃ g a C os, e = .returned (.tuple #[.agg (idxC g m a C).toArray, .int .i64 0]) ∧ IdxAt w' g m a stamp ks os ∧ W.heap.size ≤ g ∧ Below W.heap.size W w'
/-- A list of pairs that a call has told. -/
def PrsP (W : World) (l : List Pr) (e : Ending) (w' : World) : Prop := ∃ a C os, e = .returned (.tuple #[.slice a l.length C, .int .i64 0]) ∧ Lst w' a os ∧ os.map PV.p = l ∧ (∀ x ∈ os, ∀ N : List Nat, (∀ b, b ∈ N → b < W.heap.size) → PVOk w' N x) ∧ Below W.heap.size W w'
set_option maxRecDepth 100000 in
set_option maxHeartbeats 2000000 in
theorem readIndex_ok (W : World) (gp : Option Addr) (p q stamp : Int) (m : Nat) (ks : List ByteArray) (hm : ks.length = m) (h1 : 1 ≤ m) (h2 : m ≤ 16) (hk : ∀ k ∈ ks, 0 < k.size ∧ k.size ≤ 32) (hc : Chn (ks.map kP)) (hR : ∀ u, Below W.heap.size W u → Calls Tryz.prog 139 #[.pointer gp, .agg (twoC p q).toArray] u (RgOk u (xBk m stamp ks))) :
    Calls Tryz.prog 81 #[.pointer gp, .agg (twoC p q).toArray] W (RiP W m stamp ks) := by
  have HR := hidIt hR
  have fw := idx_small ks (fun k hk' => (hk k hk').2)
  have PA := hidIt (par_idx ks hk (idxL ks).length (Nat.le_refl _))
  have HC := hidIt hc
  have HM := hidIt (And.intro hm (And.intro h1 h2))
  have FW := hidIt (show (idxL ks).length ≤ 100000 by omega)
  have n0 : ((m : Int) == 0) = false := by rw [beq_eq_false_iff_ne]; omega
  have n1 : (m = 0) = False := eq_false (by omega)
  clear hR fw hk hc hm h1 h2
  have T1 : Hid True := trivial
  have T2 : Hid True := trivial
  go_enter Tryz.func81, Tryz.ntmps81
  go_wp2_with (first
    | (refine wpList_box_rec rfl 57 (.tmp 1) rfl (twoC p q) rfl W.heap.size rfl ?_; intro W1 R1 B1 z1)
    | (have _q := T1; clear T1; refine wpList_alloc_rec rfl 147 rfl _ (W.heap.size + 1) z1 zero_idx ?_; intro W2 R2 B2 z2; have E2 := hidIt (B1.trans (B2.mono (by omega))); have P2 := hidIt (R1.below (by rw [z1]; exact B2)); have Q2 := hidIt R2; clear R1 B1 z1 R2 B2 z2)
    | (refine wpList_load_rec rfl 57 (.tmp 3) rfl W.heap.size 0 (twoC p q) rfl _ Tryz.underlying57 rfl (by kernel_rfl) P2.out ?_)
    | (go_at_call 139; refine (HR.out W2 E2.out).mono ?_; rintro e W3 ⟨g1, g2, rfl, hK, hB⟩; unfold blkV; have E3 := hidIt (E2.out.trans (hB.mono E2.out.size)); have Q3 := hidIt (Q2.out.below hB); have K3 := hidIt hK; have Z3 := hidIt hB.size; clear hB hK)
    | (have _q := K3; have _p := T2; clear T2 _p; refine wpList_alloc_rec rfl 107 rfl (blkC blk0 none 0 none 0) W3.heap.size rfl zero_blk ?_; intro W4 R4 B4 z4; have E4 := hidIt B4; have P4 := hidIt R4; clear R4 B4 z4)
    | (refine wpList_store_rec rfl 107 (.tmp 6) (.tmp 14) rfl W3.heap.size 0 _ (blkC (xBk m stamp ks) (some ⟨g1, 0, none⟩) (xBk m stamp ks).k (some ⟨g2, 0, none⟩) (xBk m stamp ks).n) rfl rfl P4.out rfl (by kernel_rfl) (blkC_one _ _ _ _ _) ?_; intro W5 R5 B5; have E5 := hidIt (E4.out.trans (B5.below (Nat.le_refl _) E4.out.size)); have P5 := hidIt R5; clear R5 B5; refine Held.out ?_))
  have c0 : W5.cell? ⟨W3.heap.size, 0, none⟩ = some (.int .i64 2) := (P5.out.cel 0 _ rfl).1
  have c3 : W5.cell? ⟨W3.heap.size, 3, none⟩ = some (.slice (some ⟨g1, 0, none⟩) m m) := (P5.out.cel 3 _ rfl).1
  have c4 : W5.cell? ⟨W3.heap.size, 4, none⟩ = some (.slice (some ⟨g2, 0, none⟩) (idxL ks).length (idxL ks).length) := (P5.out.cel 4 _ rfl).1
  have K5 := hidIt (K3.out.belowI E5.out)
  have L5 : Hid (Lies W5 g2 0 (idxL ks).length (nF (idxL ks))) := hidIt (K5.out.row.lies K5.out.byt)
  have E35 := hidIt (E3.out.trans (E5.out.mono E3.out.size))
  refine Held.mk ?_
  go_wp2_with (first
    | (go_at_call 53; refine (takeall_first W5 g2 0 (idxL ks).length (idxL ks).length _ L5.out (Nat.le_refl _) FW.out).mono ?_; rintro e W6 ⟨hb, hM⟩; rw [PA.out] at hM; obtain ⟨lv, os, sb, rfl, q1, qn, q3, q4, q5, q6⟩ := hM; obtain rfl : sb = true := q5.2 HC.out; have ol : os.length = m := (by have := congrArg List.length q4; rw [List.length_map, List.length_map] at this; rw [this]; exact HM.out.1); obtain ⟨la, lc, hlv, _⟩ := q1.slice; rw [ol] at hlv; subst hlv; have P6 := hidIt (P5.out.below hb); have Q6 := hidIt ((Q3.out.below E5.out).below hb); have B6 := hidIt hb; have F6 := hidIt (And.intro ol (And.intro q1 (And.intro qn (And.intro (far_of q6) q4)))); clear hb q1 qn q3 q4 q5 q6 ol; refine Held.out ?_))
  have d0 : W6.cell? ⟨W3.heap.size, 0, none⟩ = some (.int .i64 2) := (P6.out.cel 0 _ rfl).1
  have d3 : W6.cell? ⟨W3.heap.size, 3, none⟩ = some (.slice (some ⟨g1, 0, none⟩) m m) := (P6.out.cel 3 _ rfl).1
  clear c0 c3 c4
  refine Held.mk ?_
  go_wp2_with (first
    | (refine wpList_build_to rfl 147 _ rfl (idxC g1 m la lc).toArray (by kernel_rfl) ?_)
    | (refine wpList_store_rec rfl 147 (.tmp 4) (.tmp 50) rfl (W.heap.size + 1) 0 _ (idxC g1 m la lc) rfl rfl Q6.out rfl idx_size (idxC_one _ _ _ _) ?_; intro W7 R7 B7; have P7 := hidIt R7; have B77 := hidIt B7; clear R7 B7))
  have hl := P7.out.run_load 147 _ Tryz.underlying147 rfl idx_size
  have lw := Q2.out.2.2
  have z5 := E35.out.size
  have z3 := E5.out.size
  have lg := K3.out.n1
  have z23 := Z3.out
  have ne : g1 ≠ W.heap.size + 1 := by omega
  obtain ⟨y1, y2, y3, y4, y5⟩ := F6.out
  have O7 : Off [W.heap.size + 1] W6 W7 := Off.but B77.out (by simp)
  have nb : ∀ b, b ∈ [W.heap.size + 1] → b < W5.heap.size := fun b hb => by simp at hb; subst hb; omega
  have ow7 := y2.off O7 (fun g hg q => by have := y3 g hg; have := nb g q; omega)
  refine bodyPost_ret (v := .tuple #[.agg (idxC g1 m la lc).toArray, .int .i64 0]) (by simp [results, Tryz.results81, asAddr, hl]) rfl ⟨g1, la, lc, os, rfl, ⟨fun j hj => ?_, ?_, y1, ?_, y5⟩, by omega, (E35.out.trans (B6.out.mono E35.out.size)).trans (B77.out.below (by omega) (by have := B6.out.size; omega))⟩
  · exact (O7.cell (p := ⟨g1, j, none⟩) (Nat.lt_of_lt_of_le K5.out.l1 B6.out.size) (by simp; exact ne)).trans ((B6.out.cell (p := ⟨g1, j, none⟩) K5.out.l1).trans (K5.out.refs j hj))
  · exact Nat.lt_of_lt_of_le K5.out.l1 (Nat.le_trans B6.out.size O7.size)
  · exact OwnP.lst ow7 (fun x hx => ((y4 x hx [W.heap.size + 1] nb).off O7).any)
end Go.Proofs.YtblphlcnbnklmaaGreatDoor
namespace Go.Proofs.YtblphlcnbnklmaaGreatDoor
open Go.RowKit
/-- What holds at the head of the search's loop. -/
def srR (W : World) (P : Nat → Bool) (n : Nat) (i j : Value) (wr : World) : Prop := ∃ lo hi : Nat, i = .int .i64 (lo : Int) ∧ j = .int .i64 (hi : Int) ∧ lo ≤ hi ∧ hi ≤ n ∧ Below W.heap.size W wr ∧ (∀ k, k < lo → P k = false) ∧ (∀ k, hi ≤ k → k < n → P k = true)
theorem sr_go (W w1 : World) (P : Nat → Bool) (n m hi : Nat) (z : Int) (hz : z = (m : Int) + 1) (hm : m < hi) (hn : hi ≤ n) (hB : Below W.heap.size W w1) (h1 : ∀ k, k < m + 1 → P k = false) (h2 : ∀ k, hi ≤ k → k < n → P k = true) : srR W P n (.int .i64 z) (.int .i64 (hi : Int)) w1 :=
  ⟨m + 1, hi, by rw [hz]; rfl, rfl, hm, hn, hB, h1, h2⟩
theorem sr_low {P : Nat → Bool} {n m : Nat} (hP : ∀ a b, a < b → b < n → P a = true → P b = true) (hm : m < n) (h : P m = false) : ∀ k, k < m + 1 → P k = false := fun k hk => by
  by_cases e : k = m
  · rw [e]; exact h
  · cases q : P k with
    | false => rfl
    | true => rw [hP k m (by omega) hm q] at h; cases h
theorem sr_high {P : Nat → Bool} {n m : Nat} (hP : ∀ a b, a < b → b < n → P a = true → P b = true) (h : P m = true) : ∀ k, m ≤ k → k < n → P k = true := fun k hk hn => by
  by_cases e : k = m
  · rw [e]; exact h
  · exact hP m k (by omega) hn h
/-- What Search answers: the first place from which on P holds. -/
def SrP (W : World) (P : Nat → Bool) (n : Nat) (e : Ending) (w' : World) : Prop := Below W.heap.size W w' ∧ ∃ k, k ≤ n ∧ e = .returned (.int .i64 (k : Int)) ∧ (∀ i, i < k → P i = false) ∧ (∀ i, k ≤ i → i < n → P i = true)
set_option maxRecDepth 100000 in
set_option maxHeartbeats 1000000 in
theorem search_seek (W : World) (P : Nat → Bool) (n : Nat) (p q : Value) (hn : n ≤ 1000000) (hP : ∀ a b, a < b → b < n → P a = true → P b = true) (hf : ∀ h u, h < n → Below W.heap.size W u → Calls Tryz.prog 142 #[.int .i64 ((h : Nat) : Int), p, q] u fun e w' => e = .returned (.bool (P h)) ∧ Below u.heap.size u w') :
    Calls Tryz.prog 141 #[.int .i64 (n : Int), .func (.func 142) #[] #[p, q]] W (SrP W P n) := by
  have HP := hidIt hP
  have HF := hidIt hf
  have HN := hidIt hn
  have st : Hid (srR W P n (.int .i64 0) (.int .i64 (n : Int)) W) := ⟨0, n, rfl, rfl, Nat.zero_le _, Nat.le_refl _, Below.refl _ _, fun k hk => by omega, fun k h1 h2 => by omega⟩
  clear hP hf hn
  go_enter Tryz.func141, Tryz.ntmps141
  go_wp2_with fail
  go_loopw [5, 6] (fun i j wr => srR W P n i j wr) (fun i j _ => ((RowKit.intOf j) - (RowKit.intOf i)).toNat)
  case atStart => exact st.out
  case round =>
    clear st
    obtain ⟨lo, hi, rfl, rfl, hlh, hhn, hB, h1, h2⟩ := hrel
    have BB := hidIt hB
    have H1 := hidIt h1
    have H2 := hidIt h2
    clear hB h1 h2
    by_cases hlt : lo < hi
    · obtain ⟨m, em1, em2, em3, em4, m1, m2⟩ := half_int lo hi hlt (by have := HN.out; omega)
      have CM := hidIt (HF.out m wr (by omega) BB.out)
      have X := hidIt (And.intro m1 m2)
      have i0 : (lo : Int) < hi := Int.ofNat_lt.2 hlt
      have Y := hidIt (And.intro hlh hhn)
      clear m1 m2 hlh hhn hlt
      cases hc : P m with
      | false =>
        have HC := hidIt hc
        rw [hc] at CM
        clear hc
        as_aux_lemma =>
        go_wp2_with (first
          | (go_at_call 142; refine CM.out.mono ?_; rintro e w1 ⟨rfl, hb⟩; have B1 := hidIt (BB.out.trans (hb.mono BB.out.size)); clear hb))
        obtain ⟨m1, m2⟩ := X.out
        exact ⟨sr_go W w1 P n m hi _ em4 m2 Y.out.2 B1.out (sr_low HP.out (by have := Y.out.2; omega) HC.out) H2.out, meas_go lo m hi _ em4 m1 m2⟩
      | true =>
        have HC := hidIt hc
        rw [hc] at CM
        clear hc
        as_aux_lemma =>
        go_wp2_with (first
          | (go_at_call 142; refine CM.out.mono ?_; rintro e w1 ⟨rfl, hb⟩; have B1 := hidIt (BB.out.trans (hb.mono BB.out.size)); clear hb))
        obtain ⟨m1, m2⟩ := X.out
        refine ⟨⟨lo, m, rfl, rfl, m1, by have := Y.out.2; omega, B1.out, H1.out, sr_high HP.out HC.out⟩, ?_⟩
        simp only [RowKit.intOf]
        exact meas_hi lo m hi m1 m2
    · obtain rfl : lo = hi := by omega
      have FIN : Hid (SrP W P n (.returned (.int .i64 (lo : Int))) wr) := ⟨BB.out, lo, hhn, rfl, H1.out, H2.out⟩
      have i0 : ((lo : Int) < (lo : Int)) = False := eq_false (by omega)
      clear hlt hlh hhn H1 H2
      as_aux_lemma =>
      go_wp2_with fail
      exact bodyPost_ret (v := .int .i64 (lo : Int)) (by simp [results, Tryz.results141, go_sem]) rfl FIN.out
set_option maxRecDepth 100000 in
set_option maxHeartbeats 1000000 in
theorem search_find (W : World) (P : Nat → Bool) (n : Nat) (p q : Value) (hn : n ≤ 1000000) (hP : ∀ a b, a < b → b < n → P a = true → P b = true) (hf : ∀ h u, h < n → Below W.heap.size W u → Calls Tryz.prog 143 #[.int .i64 ((h : Nat) : Int), p, q] u fun e w' => e = .returned (.bool (P h)) ∧ Below u.heap.size u w') :
    Calls Tryz.prog 141 #[.int .i64 (n : Int), .func (.func 143) #[] #[p, q]] W (SrP W P n) := by
  have HP := hidIt hP
  have HF := hidIt hf
  have HN := hidIt hn
  have st : Hid (srR W P n (.int .i64 0) (.int .i64 (n : Int)) W) := ⟨0, n, rfl, rfl, Nat.zero_le _, Nat.le_refl _, Below.refl _ _, fun k hk => by omega, fun k h1 h2 => by omega⟩
  clear hP hf hn
  go_enter Tryz.func141, Tryz.ntmps141
  go_wp2_with fail
  go_loopw [5, 6] (fun i j wr => srR W P n i j wr) (fun i j _ => ((RowKit.intOf j) - (RowKit.intOf i)).toNat)
  case atStart => exact st.out
  case round =>
    clear st
    obtain ⟨lo, hi, rfl, rfl, hlh, hhn, hB, h1, h2⟩ := hrel
    have BB := hidIt hB
    have H1 := hidIt h1
    have H2 := hidIt h2
    clear hB h1 h2
    by_cases hlt : lo < hi
    · obtain ⟨m, em1, em2, em3, em4, m1, m2⟩ := half_int lo hi hlt (by have := HN.out; omega)
      have CM := hidIt (HF.out m wr (by omega) BB.out)
      have X := hidIt (And.intro m1 m2)
      have i0 : (lo : Int) < hi := Int.ofNat_lt.2 hlt
      have Y := hidIt (And.intro hlh hhn)
      clear m1 m2 hlh hhn hlt
      cases hc : P m with
      | false =>
        have HC := hidIt hc
        rw [hc] at CM
        clear hc
        as_aux_lemma =>
        go_wp2_with (first
          | (go_at_call 143; refine CM.out.mono ?_; rintro e w1 ⟨rfl, hb⟩; have B1 := hidIt (BB.out.trans (hb.mono BB.out.size)); clear hb))
        obtain ⟨m1, m2⟩ := X.out
        exact ⟨sr_go W w1 P n m hi _ em4 m2 Y.out.2 B1.out (sr_low HP.out (by have := Y.out.2; omega) HC.out) H2.out, meas_go lo m hi _ em4 m1 m2⟩
      | true =>
        have HC := hidIt hc
        rw [hc] at CM
        clear hc
        as_aux_lemma =>
        go_wp2_with (first
          | (go_at_call 143; refine CM.out.mono ?_; rintro e w1 ⟨rfl, hb⟩; have B1 := hidIt (BB.out.trans (hb.mono BB.out.size)); clear hb))
        obtain ⟨m1, m2⟩ := X.out
        refine ⟨⟨lo, m, rfl, rfl, m1, by have := Y.out.2; omega, B1.out, H1.out, sr_high HP.out HC.out⟩, ?_⟩
        simp only [RowKit.intOf]
        exact meas_hi lo m hi m1 m2
    · obtain rfl : lo = hi := by omega
      have FIN : Hid (SrP W P n (.returned (.int .i64 (lo : Int))) wr) := ⟨BB.out, lo, hhn, rfl, H1.out, H2.out⟩
      have i0 : ((lo : Int) < (lo : Int)) = False := eq_false (by omega)
      clear hlt hlh hhn H1 H2
      as_aux_lemma =>
      go_wp2_with fail
      exact bodyPost_ret (v := .int .i64 (lo : Int)) (by simp [results, Tryz.results141, go_sem]) rfl FIN.out
end Go.Proofs.YtblphlcnbnklmaaGreatDoor
namespace Go.Proofs.YtblphlcnbnklmaaGreatDoor
open Go.RowKit Go.Maps
attribute [-go_sem] Builtin.append_
set_option maxRecDepth 100000 in
set_option maxHeartbeats 2000000 in
theorem readData_ok (W : World) (gp : Option Addr) (p q stamp : Int) (i : Nat) (l : List Pr) (hl : ∀ x ∈ l, may x) (hc : Chn l) (hn : l ≠ []) (h8 : (bodL l).length ≤ 860) (hR : ∀ u, Below W.heap.size W u → Calls Tryz.prog 139 #[.pointer gp, .agg (twoC p q).toArray] u (RgOk u (dBk i stamp l))) :
    Calls Tryz.prog 83 #[.pointer gp, .agg (twoC p q).toArray] W (PrsP W l) := by
  have HR := hidIt hR
  have PA := hidIt (par_bod l hl (bodL l).length (Nat.le_refl _))
  have BD : Hid (Bod (nF (bodL l)) (bodL l).length l) := hidIt ⟨h8, par_bod l hl _ (Nat.le_refl _), hc, hn⟩
  have FW := hidIt (show (bodL l).length ≤ 100000 by omega)
  clear hR hl hc hn h8
  have T2 : Hid True := trivial
  go_enter Tryz.func83, Tryz.ntmps83
  go_wp2_with (first
    | (refine wpList_box_rec rfl 57 (.tmp 1) rfl (twoC p q) rfl W.heap.size rfl ?_; intro W2 R2 B2 z2; have E2 := hidIt B2; have P2 := hidIt R2; clear R2 B2 z2)
    | (refine wpList_load_rec rfl 57 (.tmp 3) rfl W.heap.size 0 (twoC p q) rfl _ Tryz.underlying57 rfl (by kernel_rfl) P2.out ?_)
    | (go_at_call 139; refine (HR.out W2 E2.out).mono ?_; rintro e W3 ⟨g1, g2, rfl, hK, hB⟩; unfold blkV; have E3 := hidIt (E2.out.trans (hB.mono E2.out.size)); have K3 := hidIt hK; clear hB hK)
    | (have _q := K3; have _p := T2; clear T2 _p; refine wpList_alloc_rec rfl 107 rfl (blkC blk0 none 0 none 0) W3.heap.size rfl zero_blk ?_; intro W4 R4 B4 z4; have E4 := hidIt B4; have P4 := hidIt R4; clear R4 B4 z4)
    | (refine wpList_store_rec rfl 107 (.tmp 6) (.tmp 12) rfl W3.heap.size 0 _ (blkC (dBk i stamp l) (some ⟨g1, 0, none⟩) (dBk i stamp l).k (some ⟨g2, 0, none⟩) (dBk i stamp l).n) rfl rfl P4.out rfl (by kernel_rfl) (blkC_one _ _ _ _ _) ?_; intro W5 R5 B5; have E5 := hidIt (E4.out.trans (B5.below (Nat.le_refl _) E4.out.size)); have P5 := hidIt R5; clear R5 B5; refine Held.out ?_))
  have c0 : W5.cell? ⟨W3.heap.size, 0, none⟩ = some (.int .i64 1) := (P5.out.cel 0 _ rfl).1
  have c3 : W5.cell? ⟨W3.heap.size, 3, none⟩ = some (.slice (some ⟨g1, 0, none⟩) 0 0) := (P5.out.cel 3 _ rfl).1
  have c4 : W5.cell? ⟨W3.heap.size, 4, none⟩ = some (.slice (some ⟨g2, 0, none⟩) (bodL l).length (bodL l).length) := (P5.out.cel 4 _ rfl).1
  have K5 := hidIt (K3.out.belowI E5.out)
  have L5 : Hid (Lies W5 g2 0 (bodL l).length (nF (bodL l))) := hidIt (K5.out.row.lies K5.out.byt)
  have E35 := hidIt (E3.out.trans (E5.out.mono E3.out.size))
  refine Held.mk ?_
  go_wp2_with (first
    | (go_at_call 14; refine (unpack_ok W5 g2 0 (bodL l).length (bodL l).length _ L5.out (Nat.le_refl _) FW.out).mono ?_; rintro e W6 ⟨hb, hM⟩; obtain ⟨lv, os, rfl, q1, qn, q3, q4, q5⟩ := hM.resolve_right (fun h => h.2 l BD.out); have ml : os.map PV.p = l := (by have := q4.2.1; rw [PA.out] at this; injection this with this; exact this.symm); have ol : os.length = l.length := (by rw [← ml, List.length_map]); obtain ⟨la, lc, hlv, _⟩ := q1.slice; rw [ol] at hlv; subst hlv; have FIN : Hid (PrsP W l (.returned (.tuple #[.slice la l.length lc, .int .i64 0])) W6) := hidIt ⟨la, lc, os, rfl, OwnP.lst q1 (fun x hx => (q3 x hx).any), ml, fun x hx N hN => far_of q5 x hx N (fun b hb => Nat.lt_of_lt_of_le (hN b hb) E35.out.size), E35.out.trans (hb.mono E35.out.size)⟩; clear hb hM q1 qn q3 q4 q5 ml ol))
  exact bodyPost_ret (v := .tuple #[.slice la l.length lc, .int .i64 0]) (by simp [results, Tryz.results83, go_sem]) rfl FIN.out
set_option maxRecDepth 100000 in
set_option maxHeartbeats 1000000 in
theorem seekc_ok (W : World) (bx bk h m lc : Nat) (la : Option Addr) (os : List PV) (N : List Nat) (key : Value) (t : ByteArray) (x : PV) (c1 : W.cell? ⟨bx, 1, none⟩ = some (.slice la m lc)) (c2 : W.cell? ⟨bk, 0, none⟩ = some key) (hL : Lst W la os) (hx : os[h]? = some x) (hm : os.length = m) (hk : Txt W N key t) (hf : m ≤ 100000) :
    Calls Tryz.prog 142 #[.int .i64 (h : Int), .pointer (some ⟨bx, 0, none⟩), .pointer (some ⟨bk, 0, none⟩)] W fun e w' => e = .returned (.bool (decide (0 < cmpB x.p.k t))) ∧ Below W.heap.size W w' := by
  obtain ⟨b1, o1, ha, hr, hb⟩ := hL.at h x hx
  subst ha
  have hlt : h < m := by rw [← hm]; exact (List.getElem?_eq_some_iff.1 hx).1
  have k0 : W.cell? ⟨b1, o1 + h * 3, none⟩ = some x.k := hr 0 _ rfl
  have PX := hidIt (hL.1 x (List.mem_of_getElem? hx))
  have HK := hidIt hk
  obtain ⟨i0, i1, i2, i3⟩ := k_ar h m hlt hf
  clear hL hx hm hk hr hb hlt
  go_enter Tryz.func142, Tryz.ntmps142
  go_wp2_with fail
  refine wp_region_noPanic ?_
  refine wp_region_held_drew (S := fun w' => w'.cell? ⟨bx, 1, none⟩ = some (.slice (some ⟨b1, o1, none⟩) m lc) ∧ w'.cell? ⟨bk, 0, none⟩ = some key ∧ w'.cell? ⟨b1, o1 + h * 3, none⟩ = some x.k) (by kernel_rfl) ?_ (fun hHeld => ?_)
  · exact ⟨c1, c2, k0⟩
  refine take_at (i := 0) (v := ?_) (some 5) rfl rfl (by kernel_rfl) (by kernel_rfl) (by kernel_rfl) (fun _ _ _ h => h) (Or.inl ⟨by rfl, ?_⟩) (by assumption) ?_
  rotate_left
  · (intro w hSw; (try dsimp only at hSw); go_simp; try with_reducible rfl)
  simp only [Act.put, List.setIfInBounds_toArray, List.set_cons_zero, List.set_cons_succ]
  refine take_at (i := 1) (v := ?_) (some 6) rfl rfl (by kernel_rfl) (by kernel_rfl) (by kernel_rfl) (fun _ _ _ h => h) (Or.inl ⟨by rfl, ?_⟩) (by assumption) ?_
  rotate_left
  · (intro w hSw; (try dsimp only at hSw); go_simp; try with_reducible rfl)
  simp only [Act.put, List.setIfInBounds_toArray, List.set_cons_zero, List.set_cons_succ]
  refine take_at (i := 2) (v := ?_) (some 7) rfl rfl (by kernel_rfl) (by kernel_rfl) (by kernel_rfl) (fun _ _ _ h => h) (Or.inl ⟨by rfl, ?_⟩) (by assumption) ?_
  rotate_left
  · (intro w hSw; (try dsimp only at hSw); go_simp; try with_reducible rfl)
  simp only [Act.put, List.setIfInBounds_toArray, List.set_cons_zero, List.set_cons_succ]
  refine take_at (i := 3) (v := ?_) (some 8) rfl rfl (by kernel_rfl) (by kernel_rfl) (by kernel_rfl) (fun _ _ _ h => h) (Or.inl ⟨by rfl, ?_⟩) (by assumption) ?_
  rotate_left
  · (intro w hSw; (try dsimp only at hSw); go_simp; try with_reducible rfl)
  simp only [Act.put, List.setIfInBounds_toArray, List.set_cons_zero, List.set_cons_succ]
  refine take_at (i := 4) (v := ?_) (some 9) rfl rfl (by kernel_rfl) (by kernel_rfl) (by kernel_rfl) (fun _ _ _ h => h) (Or.inl ⟨by rfl, ?_⟩) (by assumption) ?_
  rotate_left
  · (intro w hSw; (try dsimp only at hSw); go_simp; try with_reducible rfl)
  simp only [Act.put, List.setIfInBounds_toArray, List.set_cons_zero, List.set_cons_succ]
  refine take_at (i := 5) (v := ?_) (some 10) rfl rfl (by kernel_rfl) (by kernel_rfl) (by kernel_rfl) (fun _ _ _ h => h) (Or.inl ⟨by rfl, ?_⟩) (by assumption) ?_
  rotate_left
  · (intro w hSw; (try dsimp only at hSw); go_simp; try with_reducible rfl)
  simp only [Act.put, List.setIfInBounds_toArray, List.set_cons_zero, List.set_cons_succ]
  refine take_at (i := 6) (v := ?_) (some 11) rfl rfl (by kernel_rfl) (by kernel_rfl) (by kernel_rfl) (fun _ _ _ h => h) (Or.inl ⟨by rfl, ?_⟩) (by assumption) ?_
  rotate_left
  · (intro w hSw; (try dsimp only at hSw); go_simp; try with_reducible rfl)
  simp only [Act.put, List.setIfInBounds_toArray, List.set_cons_zero, List.set_cons_succ]
  have D := hidIt (Below.refl W.heap.size W).drew
  refine call_at (i := 7) (some 12) 90 _ _ rfl rfl rfl (by rfl) (by kernel_rfl) #[x.k, key] rfl Tryz.func90 (by kernel_rfl) (by kernel_rfl) ?_
  refine (ycmp_any (PX.out.1.below D.out) (HK.out.below D.out)).mono ?_
  rintro e W2 ⟨rfl, hw⟩
  subst hw
  refine ⟨_, rfl, by assumption, fun hHeld => ?_⟩
  simp only [Act.put, List.setIfInBounds_toArray, List.set_cons_zero, List.set_cons_succ]
  refine take_at (i := 8) (v := ?_) (some 13) rfl rfl (by kernel_rfl) (by kernel_rfl) (by kernel_rfl) (fun _ _ _ h => h) (Or.inl ⟨by rfl, ?_⟩) (by assumption) ?_
  rotate_left
  · (intro w hSw; (try dsimp only at hSw); go_simp; try with_reducible rfl)
  simp only [Act.put, List.setIfInBounds_toArray, List.set_cons_zero, List.set_cons_succ]
  refine take_at (i := 9) (v := ?_) (some 4) rfl rfl (by kernel_rfl) (by kernel_rfl) (by kernel_rfl) (fun _ _ _ h => h) (Or.inl ⟨by rfl, ?_⟩) (by assumption) ?_
  rotate_left
  · (intro w hSw; (try dsimp only at hSw); go_simp; try with_reducible rfl)
  simp only [Act.put, List.setIfInBounds_toArray, List.set_cons_zero, List.set_cons_succ]
  refine wpAnyH_done (by kernel_rfl) ?_ _
  refine NoPanic.normal ?_
  go_wp2_with fail
  exact bodyPost_ret (v := .bool (decide (0 < cmpB x.p.k t))) (by simp [results, Tryz.results142, go_sem]) rfl ⟨rfl, D.out⟩
set_option maxRecDepth 100000 in
set_option maxHeartbeats 1000000 in
theorem findc_ok (W : World) (bx bk h m lc : Nat) (la : Option Addr) (os : List PV) (N : List Nat) (key : Value) (t : ByteArray) (x : PV) (c1 : W.cell? ⟨bx, 0, none⟩ = some (.slice la m lc)) (c2 : W.cell? ⟨bk, 0, none⟩ = some key) (hL : Lst W la os) (hx : os[h]? = some x) (hm : os.length = m) (hk : Txt W N key t) (hf : m ≤ 100000) :
    Calls Tryz.prog 143 #[.int .i64 (h : Int), .pointer (some ⟨bx, 0, none⟩), .pointer (some ⟨bk, 0, none⟩)] W fun e w' => e = .returned (.bool (decide (0 ≤ cmpB x.p.k t))) ∧ Below W.heap.size W w' := by
  obtain ⟨b1, o1, ha, hr, hb⟩ := hL.at h x hx
  subst ha
  have hlt : h < m := by rw [← hm]; exact (List.getElem?_eq_some_iff.1 hx).1
  have k0 : W.cell? ⟨b1, o1 + h * 3, none⟩ = some x.k := hr 0 _ rfl
  have PX := hidIt (hL.1 x (List.mem_of_getElem? hx))
  have HK := hidIt hk
  obtain ⟨i0, i1, i2, i3⟩ := k_ar h m hlt hf
  clear hL hx hm hk hr hb hlt
  go_enter Tryz.func143, Tryz.ntmps143
  go_wp2_with fail
  refine wp_region_noPanic ?_
  refine wp_region_held_drew (S := fun w' => w'.cell? ⟨bx, 0, none⟩ = some (.slice (some ⟨b1, o1, none⟩) m lc) ∧ w'.cell? ⟨bk, 0, none⟩ = some key ∧ w'.cell? ⟨b1, o1 + h * 3, none⟩ = some x.k) (by kernel_rfl) ?_ (fun hHeld => ?_)
  · exact ⟨c1, c2, k0⟩
  refine take_at (i := 0) (v := ?_) (some 5) rfl rfl (by kernel_rfl) (by kernel_rfl) (by kernel_rfl) (fun _ _ _ h => h) (Or.inl ⟨by rfl, ?_⟩) (by assumption) ?_
  rotate_left
  · (intro w hSw; (try dsimp only at hSw); go_simp; try with_reducible rfl)
  simp only [Act.put, List.setIfInBounds_toArray, List.set_cons_zero, List.set_cons_succ]
  refine take_at (i := 1) (v := ?_) (some 6) rfl rfl (by kernel_rfl) (by kernel_rfl) (by kernel_rfl) (fun _ _ _ h => h) (Or.inl ⟨by rfl, ?_⟩) (by assumption) ?_
  rotate_left
  · (intro w hSw; (try dsimp only at hSw); go_simp; try with_reducible rfl)
  simp only [Act.put, List.setIfInBounds_toArray, List.set_cons_zero, List.set_cons_succ]
  refine take_at (i := 2) (v := ?_) (some 7) rfl rfl (by kernel_rfl) (by kernel_rfl) (by kernel_rfl) (fun _ _ _ h => h) (Or.inl ⟨by rfl, ?_⟩) (by assumption) ?_
  rotate_left
  · (intro w hSw; (try dsimp only at hSw); go_simp; try with_reducible rfl)
  simp only [Act.put, List.setIfInBounds_toArray, List.set_cons_zero, List.set_cons_succ]
  refine take_at (i := 3) (v := ?_) (some 8) rfl rfl (by kernel_rfl) (by kernel_rfl) (by kernel_rfl) (fun _ _ _ h => h) (Or.inl ⟨by rfl, ?_⟩) (by assumption) ?_
  rotate_left
  · (intro w hSw; (try dsimp only at hSw); go_simp; try with_reducible rfl)
  simp only [Act.put, List.setIfInBounds_toArray, List.set_cons_zero, List.set_cons_succ]
  refine take_at (i := 4) (v := ?_) (some 9) rfl rfl (by kernel_rfl) (by kernel_rfl) (by kernel_rfl) (fun _ _ _ h => h) (Or.inl ⟨by rfl, ?_⟩) (by assumption) ?_
  rotate_left
  · (intro w hSw; (try dsimp only at hSw); go_simp; try with_reducible rfl)
  simp only [Act.put, List.setIfInBounds_toArray, List.set_cons_zero, List.set_cons_succ]
  refine take_at (i := 5) (v := ?_) (some 10) rfl rfl (by kernel_rfl) (by kernel_rfl) (by kernel_rfl) (fun _ _ _ h => h) (Or.inl ⟨by rfl, ?_⟩) (by assumption) ?_
  rotate_left
  · (intro w hSw; (try dsimp only at hSw); go_simp; try with_reducible rfl)
  simp only [Act.put, List.setIfInBounds_toArray, List.set_cons_zero, List.set_cons_succ]
  have D := hidIt (Below.refl W.heap.size W).drew
  refine call_at (i := 6) (some 11) 90 _ _ rfl rfl rfl (by rfl) (by kernel_rfl) #[x.k, key] rfl Tryz.func90 (by kernel_rfl) (by kernel_rfl) ?_
  refine (ycmp_any (PX.out.1.below D.out) (HK.out.below D.out)).mono ?_
  rintro e W2 ⟨rfl, hw⟩
  subst hw
  refine ⟨_, rfl, by assumption, fun hHeld => ?_⟩
  simp only [Act.put, List.setIfInBounds_toArray, List.set_cons_zero, List.set_cons_succ]
  refine take_at (i := 7) (v := ?_) (some 12) rfl rfl (by kernel_rfl) (by kernel_rfl) (by kernel_rfl) (fun _ _ _ h => h) (Or.inl ⟨by rfl, ?_⟩) (by assumption) ?_
  rotate_left
  · (intro w hSw; (try dsimp only at hSw); go_simp; try with_reducible rfl)
  simp only [Act.put, List.setIfInBounds_toArray, List.set_cons_zero, List.set_cons_succ]
  refine take_at (i := 8) (v := ?_) (some 4) rfl rfl (by kernel_rfl) (by kernel_rfl) (by kernel_rfl) (fun _ _ _ h => h) (Or.inl ⟨by rfl, ?_⟩) (by assumption) ?_
  rotate_left
  · (intro w hSw; (try dsimp only at hSw); go_simp; try with_reducible rfl)
  simp only [Act.put, List.setIfInBounds_toArray, List.set_cons_zero, List.set_cons_succ]
  refine wpAnyH_done (by kernel_rfl) ?_ _
  refine NoPanic.normal ?_
  go_wp2_with fail
  exact bodyPost_ret (v := .bool (decide (0 ≤ cmpB x.p.k t))) (by simp [results, Tryz.results143, go_sem]) rfl ⟨rfl, D.out⟩
theorem chn_far {l : List Pr} (h : Chn l) : ∀ d i p q, l[i]? = some p → l[i + d + 1]? = some q → cmpB p.k q.k < 0
  | 0, i, p, q, hp, hq => h i p q hp hq
  | d + 1, i, p, q, hp, hq => by
    have hl : i + d + 1 < l.length := by have := (List.getElem?_eq_some_iff.1 hq).1; omega
    have e := List.getElem?_eq_getElem hl
    exact c_trans (chn_far h d i p _ hp e) (h (i + d + 1) _ q e hq)
theorem srt_chn {l : List Pr} (h : Chn l) : Srt l := by
  refine List.pairwise_iff_getElem.2 fun i j hi hj hij => ?_
  exact chn_far h (j - i - 1) i _ _ (List.getElem?_eq_getElem hi) (by rw [show i + (j - i - 1) + 1 = j by omega]; exact List.getElem?_eq_getElem hj)
/-- Does the search stop at this place? -/
def stp1 (os : List PV) (t : ByteArray) (h : Nat) : Bool := match os[h]? with
  | some x => decide (0 < cmpB x.p.k t)
  | none => true
def stp0 (os : List PV) (t : ByteArray) (h : Nat) : Bool := match os[h]? with
  | some x => decide (0 ≤ cmpB x.p.k t)
  | none => true
theorem stp1_at {os : List PV} {t : ByteArray} {h : Nat} {x : PV} (hx : os[h]? = some x) : stp1 os t h = decide (0 < cmpB x.p.k t) := by unfold stp1; rw [hx]
theorem stp0_at {os : List PV} {t : ByteArray} {h : Nat} {x : PV} (hx : os[h]? = some x) : stp0 os t h = decide (0 ≤ cmpB x.p.k t) := by unfold stp0; rw [hx]
theorem two_at {os : List PV} (hS : Srt (os.map PV.p)) {a b : Nat} (hab : a < b) (hb : b < os.length) : ∃ x y, os[a]? = some x ∧ os[b]? = some y ∧ cmpB x.p.k y.p.k < 0 := by
  refine ⟨os[a], os[b], List.getElem?_eq_getElem (by omega), List.getElem?_eq_getElem hb, ?_⟩
  exact srt_mono hS hab (by rw [List.getElem?_map, List.getElem?_eq_getElem (by omega)]; rfl) (by rw [List.getElem?_map, List.getElem?_eq_getElem hb]; rfl)
theorem stp1_mono {os : List PV} {t : ByteArray} (hS : Srt (os.map PV.p)) : ∀ a b, a < b → b < os.length → stp1 os t a = true → stp1 os t b = true := fun a b hab hb h => by
  obtain ⟨x, y, hx, hy, hc⟩ := two_at hS hab hb
  rw [stp1_at hx, decide_eq_true_eq] at h
  rw [stp1_at hy, decide_eq_true_eq]
  have h1 := c_anti t x.p.k
  have h2 := c_anti t y.p.k
  have := c_trans (x := t) (y := x.p.k) (z := y.p.k) (by omega) hc
  omega
theorem stp0_mono {os : List PV} {t : ByteArray} (hS : Srt (os.map PV.p)) : ∀ a b, a < b → b < os.length → stp0 os t a = true → stp0 os t b = true := fun a b hab hb h => by
  obtain ⟨x, y, hx, hy, hc⟩ := two_at hS hab hb
  rw [stp0_at hx, decide_eq_true_eq] at h
  rw [stp0_at hy, decide_eq_true_eq]
  have h1 := c_anti t x.p.k
  have h2 := c_anti t y.p.k
  have := c_le_lt (x := t) (y := x.p.k) (z := y.p.k) (by omega) hc
  omega
theorem seek_ar (k m : Nat) (h : k ≤ m) (hm : m ≤ 100000) : wrap64 ((k : Int) - 1) = (k : Int) - 1 ∧ IntKind.i64.wrap ((k : Int) - 1) = (k : Int) - 1 := ⟨by unfold wrap64; omega, by rw [IntKind.wrap_i64]; omega⟩
/-- What seek answers. -/
def SkP (W : World) (os : List PV) (t : ByteArray) (e : Ending) (w' : World) : Prop := Below W.heap.size W w' ∧ ∃ k : Nat, k ≤ os.length ∧ e = .returned (.tuple #[.int .i64 ((k : Int) - 1), .bool (decide (0 ≤ (k : Int) - 1))]) ∧ (∀ i, i < k → stp1 os t i = false) ∧ (∀ i, k ≤ i → i < os.length → stp1 os t i = true)
set_option maxRecDepth 100000 in
set_option maxHeartbeats 1000000 in
theorem seek_ok (W : World) (g1 m lc : Nat) (la : Option Addr) (os : List PV) (N : List Nat) (key : Value) (t : ByteArray) (hL : Lst W la os) (hm : os.length = m) (hf : m ≤ 100000) (hS : Srt (os.map PV.p)) (hk : Txt W N key t) :
    Calls Tryz.prog 82 #[.agg (idxC g1 m la lc).toArray, key] W (SkP W os t) := by
  have HL := hidIt hL
  have HS := hidIt (stp1_mono (t := t) hS)
  have HK := hidIt hk
  have HM := hidIt (And.intro hm hf)
  obtain ⟨ka, kC, kf, hke, _⟩ := hk
  obtain ⟨kn, hkn⟩ : ∃ kn, t.size = kn := ⟨_, rfl⟩
  rw [hkn] at hke
  subst hke
  clear hL hS hf hm hkn
  go_enter Tryz.func82, Tryz.ntmps82
  go_wp2_with (first
    | (refine wpList_box_rec rfl 147 (.tmp 0) rfl (idxC g1 m la lc) rfl W.heap.size rfl ?_; intro W1 R1 B1 z1; have E1 := hidIt B1; have P1 := hidIt R1; clear R1 B1 z1; have A2 : Below W1.heap.size W1 (W1.alloc (.cells #[.slice ka kn kC] 23)) := (Below.refl _ _).alloc (Nat.le_refl _) _; have c1 : (W1.alloc (.cells #[.slice ka kn kC] 23)).cell? ⟨W.heap.size, 1, none⟩ = some (.slice la m lc) := ((P1.out.below A2).cel 1 _ rfl).1; have c2 : (W1.alloc (.cells #[.slice ka kn kC] 23)).cell? ⟨W1.heap.size, 0, none⟩ = some (.slice ka kn kC) := ((Rec19.new W1 23 [.slice ka kn kC]).cel 0 _ rfl).1; have E2 := hidIt (E1.out.trans (A2.mono E1.out.size)); have C := hidIt (And.intro (World.block_lt_of_cell? _ ⟨W.heap.size, 1, none⟩ c1) (And.intro c1 (And.intro (World.block_lt_of_cell? _ ⟨W1.heap.size, 0, none⟩ c2) c2))); clear A2 c2)
    | (go_at_call 141; refine (search_seek _ (stp1 os t) m (.pointer (some ⟨W.heap.size, 0, none⟩)) (.pointer (some ⟨W1.heap.size, 0, none⟩)) (Nat.le_trans HM.out.2 (by decide)) (by rw [← HM.out.1]; exact HS.out) (fun h u hh hB => by
        obtain ⟨x, hx⟩ : ∃ x, os[h]? = some x := ⟨_, List.getElem?_eq_getElem (by rw [HM.out.1]; exact hh)⟩
        rw [stp1_at hx]
        exact seekc_ok u W.heap.size W1.heap.size h m lc la os N (.slice ka kn kC) t x ((hB.cell (p := ⟨W.heap.size, 1, none⟩) C.out.1).trans C.out.2.1) ((hB.cell (p := ⟨W1.heap.size, 0, none⟩) C.out.2.2.1).trans C.out.2.2.2) (HL.out.below (E2.out.trans (hB.mono E2.out.size))) hx HM.out.1 (HK.out.below (E2.out.trans (hB.mono E2.out.size))) HM.out.2)).mono ?_
       rintro e W3 ⟨hb, k, hk, rfl, h1, h2⟩
       have F3 := hidIt (And.intro (E2.out.trans (hb.mono E2.out.size)) (And.intro hk (And.intro h1 h2)))
       clear hb h1 h2
       have j1 : wrap64 ((k : Int) - 1) = (k : Int) - 1 := (seek_ar k m hk HM.out.2).1
       have j2 : IntKind.i64.wrap ((k : Int) - 1) = (k : Int) - 1 := (seek_ar k m hk HM.out.2).2
       clear hk c1
       refine Held.out ?_))
  obtain ⟨z, hz⟩ : ∃ z : Int, (k : Int) - 1 = z := ⟨_, rfl⟩
  have FIN : Hid (SkP W os t (.returned (.tuple #[.int .i64 z, .bool (decide (0 ≤ z))])) W3) := hidIt ⟨F3.out.1, k, by rw [HM.out.1]; exact F3.out.2.1, by rw [hz], F3.out.2.2.1, by rw [HM.out.1]; exact F3.out.2.2.2⟩
  rw [hz] at j1 j2
  refine Held.mk ?_
  go_wp2_with fail
  exact bodyPost_ret (v := .tuple #[.int .i64 z, .bool (decide (0 ≤ z))]) (by simp [results, Tryz.results82, go_sem]) rfl FIN.out
end Go.Proofs.YtblphlcnbnklmaaGreatDoor
namespace Go.Proofs.YtblphlcnbnklmaaGreatDoor
open Go.RowKit Go.Maps
attribute [-go_sem] Builtin.append_
theorem yequal_any {W : World} {N M : List Nat} {s s' : Value} {t t' : ByteArray} (h : Txt W N s t) (h' : Txt W M s' t') : Calls Tryz.prog 144 #[s, s'] W fun e w' => e = .returned (.bool (decide (t = t'))) ∧ w' = W := by
  obtain ⟨a, C, f, rfl, hA, ht, _⟩ := h
  obtain ⟨a', C', f', rfl, hA', ht', _⟩ := h'
  have c1 := conv_arg W a t.size C f hA
  have c2 := conv_arg W a' t'.size C' f' hA'
  rw [ht] at c1
  rw [ht'] at c2
  have bb := bytes_beq t t'
  clear hA hA' ht ht'
  go_enter Tryz.func144, Tryz.ntmps144
  go_wp2_with fail
  go_ret
  exact ⟨rfl, rfl⟩
/-- What find answers. -/
def FiP (W : World) (os : List PV) (t : ByteArray) (e : Ending) (w' : World) : Prop := Below W.heap.size W w' ∧ ((∃ x ∈ os, x.p.k = t ∧ e = .returned (.tuple #[.agg x.cs.toArray, .int .i64 0])) ∨ ((∀ x ∈ os, x.p.k ≠ t) ∧ e = .returned (.tuple #[.agg #[.slice none 0 0, .slice none 0 0, .bool false], .int .i64 6])))
theorem fi_none {os : List PV} {t : ByteArray} {k : Nat} (h1 : ∀ i, i < k → stp0 os t i = false) (h2 : ∀ i, k ≤ i → i < os.length → ∃ x, os[i]? = some x ∧ 0 < cmpB x.p.k t) : ∀ x ∈ os, x.p.k ≠ t := fun x hx e => by
  obtain ⟨i, hi, rfl⟩ := List.getElem_of_mem hx
  have hg := List.getElem?_eq_getElem hi
  by_cases q : i < k
  · have := h1 i q
    rw [stp0_at hg, e, c_self] at this
    simp at this
  · obtain ⟨y, hy, hc⟩ := h2 i (by omega) hi
    rw [hg] at hy
    injection hy with hy
    subst hy
    rw [e, c_self] at hc
    omega
theorem fi_far {os : List PV} {t : ByteArray} (hS : Srt (os.map PV.p)) {k : Nat} {x : PV} (hx : os[k]? = some x) (h : 0 < cmpB x.p.k t) : ∀ i, k ≤ i → i < os.length → ∃ x, os[i]? = some x ∧ 0 < cmpB x.p.k t := fun i hi hl => by
  by_cases e : i = k
  · exact ⟨x, by rw [e]; exact hx, h⟩
  · obtain ⟨y, z, hy, hz, hc⟩ := two_at hS (show k < i by omega) hl
    rw [hx] at hy
    injection hy with hy
    subst hy
    refine ⟨z, hz, ?_⟩
    have h1 := c_anti t x.p.k
    have h2 := c_anti t z.p.k
    have := c_trans (x := t) (y := x.p.k) (z := z.p.k) (by omega) hc
    omega
set_option maxRecDepth 100000 in
set_option maxHeartbeats 2000000 in
theorem find_ok (W : World) (m lc : Nat) (la : Option Addr) (os : List PV) (N : List Nat) (key : Value) (t : ByteArray) (hL : Lst W la os) (hm : os.length = m) (hf : m ≤ 100000) (hS : Srt (os.map PV.p)) (hk : Txt W N key t) :
    Calls Tryz.prog 84 #[.slice la m lc, key] W (FiP W os t) := by
  have HL := hidIt hL
  have HS := hidIt hS
  have HK := hidIt hk
  have HM := hidIt (And.intro hm hf)
  obtain ⟨ka, kC, kf, hke, _⟩ := hk
  obtain ⟨kn, hkn⟩ : ∃ kn, t.size = kn := ⟨_, rfl⟩
  rw [hkn] at hke
  subst hke
  clear hL hS hf hm hkn
  obtain ⟨W2, hW2⟩ : ∃ W2, (W.alloc (.cells #[.slice la m lc] 22)).alloc (.cells #[.slice ka kn kC] 23) = W2 := ⟨_, rfl⟩
  have A2 : Below W.heap.size W W2 := by rw [← hW2]; exact ((Below.refl _ _).alloc (Nat.le_refl _) _).alloc (by simp) _
  have c1 : W2.cell? ⟨W.heap.size, 0, none⟩ = some (.slice la m lc) := by rw [← hW2]; simp [go_sem]
  have c2 : W2.cell? ⟨W.heap.size + 1, 0, none⟩ = some (.slice ka kn kC) := by rw [← hW2]; simp [go_sem]
  have z2 : W2.heap.size = W.heap.size + 1 + 1 := by rw [← hW2]; simp
  have E2 := hidIt (And.intro A2 z2)
  have C := hidIt (And.intro c1 c2)
  clear A2 c1 c2 z2
  go_enter Tryz.func84, Tryz.ntmps84
  go_wp2_with (first
    | (refine wpList_alloc_rec rfl 78 rfl _ (W.heap.size + 1 + 1) E2.out.2 pair_zero ?_; intro W3 R3 B3 z3; have b23 : Below W2.heap.size W2 W3 := (by rw [E2.out.2]; exact B3); have E3 := hidIt (E2.out.1.trans (b23.mono E2.out.1.size)); have P3 := hidIt R3; have c1 : W3.cell? ⟨W.heap.size, 0, none⟩ = some (.slice la m lc) := (b23.cell (p := ⟨W.heap.size, 0, none⟩) (by have := E2.out.2; show W.heap.size < _; omega)).trans C.out.1; have c2 : W3.cell? ⟨W.heap.size + 1, 0, none⟩ = some (.slice ka kn kC) := (b23.cell (p := ⟨W.heap.size + 1, 0, none⟩) (by have := E2.out.2; show W.heap.size + 1 < _; omega)).trans C.out.2; have D := hidIt (And.intro c1 c2); have Z3 := hidIt z3; clear R3 B3 z3 b23)
    | (go_at_call 141; refine (search_find _ (stp0 os t) m (.pointer (some ⟨W.heap.size, 0, none⟩)) (.pointer (some ⟨W.heap.size + 1, 0, none⟩)) (Nat.le_trans HM.out.2 (by decide)) (by rw [← HM.out.1]; exact stp0_mono HS.out) (fun h u hh hB => by
        obtain ⟨x, hx⟩ : ∃ x, os[h]? = some x := ⟨_, List.getElem?_eq_getElem (by rw [HM.out.1]; exact hh)⟩
        rw [stp0_at hx]
        exact findc_ok u W.heap.size (W.heap.size + 1) h m lc la os N (.slice ka kn kC) t x ((hB.cell (p := ⟨W.heap.size, 0, none⟩) (World.block_lt_of_cell? _ ⟨W.heap.size, 0, none⟩ D.out.1)).trans D.out.1) ((hB.cell (p := ⟨W.heap.size + 1, 0, none⟩) (World.block_lt_of_cell? _ ⟨W.heap.size + 1, 0, none⟩ D.out.2)).trans D.out.2) (HL.out.below (E3.out.trans (hB.mono E3.out.size))) hx HM.out.1 (HK.out.below (E3.out.trans (hB.mono E3.out.size))) HM.out.2)).mono ?_
       rintro e W4 ⟨hb, k, hk, rfl, h1, h2⟩
       have E4 := hidIt (E3.out.trans (hb.mono E3.out.size))
       have F4 := hidIt (And.intro hk (And.intro h1 h2))
       have P4 := hidIt (P3.out.below hb)
       have D4 := hidIt (And.intro ((hb.cell (p := ⟨W.heap.size, 0, none⟩) (World.block_lt_of_cell? _ ⟨W.heap.size, 0, none⟩ D.out.1)).trans D.out.1) ((hb.cell (p := ⟨W.heap.size + 1, 0, none⟩) (World.block_lt_of_cell? _ ⟨W.heap.size + 1, 0, none⟩ D.out.2)).trans D.out.2))
       clear hb h1 h2 hk c1 c2
       refine Held.out ?_))
  have m4 := D4.out.1
  have m5 := D4.out.2
  refine Held.mk ?_
  by_cases hkm : k = m
  · subst hkm
    have AL := hidIt (fi_none (os := os) (t := t) F4.out.2.1 (fun i h1 h2 => by rw [HM.out.1] at h2; omega))
    go_wp2_with fail
    refine wp_region_noPanic ?_
    refine wp_region_held_drew (S := fun w' => w'.cell? ⟨W.heap.size, 0, none⟩ = some (.slice la k lc)) (by kernel_rfl) ?_ (fun hHeld => ?_)
    · exact m4
    refine take_at (i := 0) (v := ?_) (some 11) rfl rfl (by kernel_rfl) (by kernel_rfl) (by kernel_rfl) (fun _ _ _ h => h) (Or.inl ⟨by rfl, ?_⟩) (by assumption) ?_
    rotate_left
    · (intro w hSw; (try dsimp only at hSw); go_simp; try with_reducible rfl)
    simp only [Act.put, List.setIfInBounds_toArray, List.set_cons_zero, List.set_cons_succ]
    refine take_at (i := 1) (v := ?_) (some 12) rfl rfl (by kernel_rfl) (by kernel_rfl) (by kernel_rfl) (fun _ _ _ h => h) (Or.inl ⟨by rfl, ?_⟩) (by assumption) ?_
    rotate_left
    · (intro w hSw; (try dsimp only at hSw); go_simp; try with_reducible rfl)
    simp only [Act.put, List.setIfInBounds_toArray, List.set_cons_zero, List.set_cons_succ]
    refine take_at (i := 2) (v := ?_) (some 13) rfl rfl (by kernel_rfl) (by kernel_rfl) (by kernel_rfl) (fun _ _ _ h => h) (Or.inl ⟨by rfl, ?_⟩) (by assumption) ?_
    rotate_left
    · (intro w hSw; (try dsimp only at hSw); go_simp; try with_reducible rfl)
    simp only [Act.put, List.setIfInBounds_toArray, List.set_cons_zero, List.set_cons_succ]
    refine take_at (i := 3) (v := ?_) (some 14) rfl rfl (by kernel_rfl) (by kernel_rfl) (by kernel_rfl) (fun _ _ _ h => h) (Or.inl ⟨by rfl, ?_⟩) (by assumption) ?_
    rotate_left
    · (intro w hSw; (try dsimp only at hSw); go_simp; try with_reducible rfl)
    simp only [Act.put, List.setIfInBounds_toArray, List.set_cons_zero, List.set_cons_succ]
    refine take_at (i := 4) (v := ?_) (some 15) rfl rfl (by kernel_rfl) (by kernel_rfl) (by kernel_rfl) (fun _ _ _ h => h) (Or.inl ⟨by rfl, ?_⟩) (by assumption) ?_
    rotate_left
    · (intro w hSw; (try dsimp only at hSw); go_simp; try with_reducible rfl)
    simp only [Act.put, List.setIfInBounds_toArray, List.set_cons_zero, List.set_cons_succ]
    refine take_at (i := 5) (v := undef) (some 16) rfl rfl (by kernel_rfl) (by kernel_rfl) (by kernel_rfl) (fun _ _ _ h => h) (Or.inr ⟨by rfl, rfl⟩) (by assumption) ?_
    simp only [Act.put, List.setIfInBounds_toArray, List.set_cons_zero, List.set_cons_succ]
    refine take_at (i := 6) (v := undef) (some 17) rfl rfl (by kernel_rfl) (by kernel_rfl) (by kernel_rfl) (fun _ _ _ h => h) (Or.inr ⟨by rfl, rfl⟩) (by assumption) ?_
    simp only [Act.put, List.setIfInBounds_toArray, List.set_cons_zero, List.set_cons_succ]
    refine take_at (i := 7) (v := undef) (some 18) rfl rfl (by kernel_rfl) (by kernel_rfl) (by kernel_rfl) (fun _ _ _ h => h) (Or.inr ⟨by rfl, rfl⟩) (by assumption) ?_
    simp only [Act.put, List.setIfInBounds_toArray, List.set_cons_zero, List.set_cons_succ]
    refine take_at (i := 8) (v := undef) (some 19) rfl rfl (by kernel_rfl) (by kernel_rfl) (by kernel_rfl) (fun _ _ _ h => h) (Or.inr ⟨by rfl, rfl⟩) (by assumption) ?_
    simp only [Act.put, List.setIfInBounds_toArray, List.set_cons_zero, List.set_cons_succ]
    refine take_at (i := 9) (v := undef) (some 20) rfl rfl (by kernel_rfl) (by kernel_rfl) (by kernel_rfl) (fun _ _ _ h => h) (Or.inr ⟨by rfl, rfl⟩) (by assumption) ?_
    simp only [Act.put, List.setIfInBounds_toArray, List.set_cons_zero, List.set_cons_succ]
    refine take_at (i := 10) (v := undef) (some 21) rfl rfl (by kernel_rfl) (by kernel_rfl) (by kernel_rfl) (fun _ _ _ h => h) (Or.inr ⟨by rfl, rfl⟩) (by assumption) ?_
    simp only [Act.put, List.setIfInBounds_toArray, List.set_cons_zero, List.set_cons_succ]
    refine take_at (i := 11) (v := undef) (some 22) rfl rfl (by kernel_rfl) (by kernel_rfl) (by kernel_rfl) (fun _ _ _ h => h) (Or.inr ⟨by rfl, rfl⟩) (by assumption) ?_
    simp only [Act.put, List.setIfInBounds_toArray, List.set_cons_zero, List.set_cons_succ]
    refine take_at (i := 12) (v := undef) (some 23) rfl rfl (by kernel_rfl) (by kernel_rfl) (by kernel_rfl) (fun _ _ _ h => h) (Or.inr ⟨by rfl, rfl⟩) (by assumption) ?_
    simp only [Act.put, List.setIfInBounds_toArray, List.set_cons_zero, List.set_cons_succ]
    refine take_at (i := 13) (v := ?_) (some 24) rfl rfl (by kernel_rfl) (by kernel_rfl) (by kernel_rfl) (fun _ _ _ h => h) (Or.inl ⟨by rfl, ?_⟩) (by assumption) ?_
    rotate_left
    · (intro w hSw; (try dsimp only at hSw); go_simp; try with_reducible rfl)
    simp only [Act.put, List.setIfInBounds_toArray, List.set_cons_zero, List.set_cons_succ]
    refine wpAnyH_done (by kernel_rfl) ?_ _
    refine NoPanic.normal ?_
    have P5 := hidIt (P4.out.below (Below.refl _ _).drew)
    have E5 := hidIt E4.out.drew
    clear hHeld m4 m5
    generalize W4.drew = W5 at *
    go_wp2_with (first
      | (refine wpList_store_rec rfl 78 (.tmp 4) (.tmp 25) rfl (W.heap.size + 1 + 1) 0 _ [.slice none 0 0, .slice none 0 0, .bool false] rfl rfl P5.out rfl pair_size (by intro u hu; simp only [List.mem_cons, List.not_mem_nil, or_false] at hu; rcases hu with rfl | rfl | rfl <;> rfl) ?_; intro W6 R6 B6; have P6 := hidIt R6; have B66 := hidIt B6; clear R6 B6))
    have hl := P6.out.run_load 78 _ Tryz.underlying78 rfl pair_size
    exact bodyPost_ret (v := .tuple #[.agg #[.slice none 0 0, .slice none 0 0, .bool false], .int .i64 6]) (by simp [results, Tryz.results84, asAddr, hl]) rfl ⟨E5.out.trans (B66.out.below (by omega) E5.out.size), .inr ⟨AL.out, rfl⟩⟩
  · have hlt : k < m := by have := F4.out.1; omega
    obtain ⟨x, hx⟩ : ∃ x, os[k]? = some x := ⟨_, List.getElem?_eq_getElem (by rw [HM.out.1]; exact hlt)⟩
    obtain ⟨b1, o1, ha, hr, hb⟩ := (HL.out.below E4.out).at k x hx
    subst ha
    have k0 : W4.cell? ⟨b1, o1 + k * 3, none⟩ = some x.k := hr 0 _ rfl
    have PX := hidIt ((HL.out.below E4.out).1 x (List.mem_of_getElem? hx))
    have KK := hidIt (HK.out.below E4.out)
    have HX := hidIt (And.intro hx (And.intro hr hb))
    obtain ⟨i0, i1, i2, i3⟩ := k_ar k m hlt HM.out.2
    have e0 : ((k : Int) == (m : Int)) = false := by rw [beq_eq_false_iff_ne]; omega
    have e1 : (k = m) = False := eq_false hkm
    clear hx hr hb hkm hlt
    go_wp2_with fail
    refine wp_region_noPanic ?_
    refine wp_region_held_drew (S := fun w' => w'.cell? ⟨W.heap.size, 0, none⟩ = some (.slice (some ⟨b1, o1, none⟩) m lc) ∧ w'.cell? ⟨W.heap.size + 1, 0, none⟩ = some (.slice ka kn kC) ∧ w'.cell? ⟨b1, o1 + k * 3, none⟩ = some x.k) (by kernel_rfl) ?_ (fun hHeld => ?_)
    · exact ⟨m4, m5, k0⟩
    refine take_at (i := 0) (v := ?_) (some 11) rfl rfl (by kernel_rfl) (by kernel_rfl) (by kernel_rfl) (fun _ _ _ h => h) (Or.inl ⟨by rfl, ?_⟩) (by assumption) ?_
    rotate_left
    · (intro w hSw; (try dsimp only at hSw); go_simp; try with_reducible rfl)
    simp only [Act.put, List.setIfInBounds_toArray, List.set_cons_zero, List.set_cons_succ]
    refine take_at (i := 1) (v := ?_) (some 12) rfl rfl (by kernel_rfl) (by kernel_rfl) (by kernel_rfl) (fun _ _ _ h => h) (Or.inl ⟨by rfl, ?_⟩) (by assumption) ?_
    rotate_left
    · (intro w hSw; (try dsimp only at hSw); go_simp; try with_reducible rfl)
    simp only [Act.put, List.setIfInBounds_toArray, List.set_cons_zero, List.set_cons_succ]
    refine take_at (i := 2) (v := ?_) (some 13) rfl rfl (by kernel_rfl) (by kernel_rfl) (by kernel_rfl) (fun _ _ _ h => h) (Or.inl ⟨by rfl, ?_⟩) (by assumption) ?_
    rotate_left
    · (intro w hSw; (try dsimp only at hSw); go_simp; try with_reducible rfl)
    simp only [Act.put, List.setIfInBounds_toArray, List.set_cons_zero, List.set_cons_succ]
    refine take_at (i := 3) (v := ?_) (some 14) rfl rfl (by kernel_rfl) (by kernel_rfl) (by kernel_rfl) (fun _ _ _ h => h) (Or.inl ⟨by rfl, ?_⟩) (by assumption) ?_
    rotate_left
    · (intro w hSw; (try dsimp only at hSw); go_simp; try with_reducible rfl)
    simp only [Act.put, List.setIfInBounds_toArray, List.set_cons_zero, List.set_cons_succ]
    refine take_at (i := 4) (v := ?_) (some 15) rfl rfl (by kernel_rfl) (by kernel_rfl) (by kernel_rfl) (fun _ _ _ h => h) (Or.inl ⟨by rfl, ?_⟩) (by assumption) ?_
    rotate_left
    · (intro w hSw; (try dsimp only at hSw); go_simp; try with_reducible rfl)
    simp only [Act.put, List.setIfInBounds_toArray, List.set_cons_zero, List.set_cons_succ]
    refine take_at (i := 5) (v := ?_) (some 16) rfl rfl (by kernel_rfl) (by kernel_rfl) (by kernel_rfl) (fun _ _ _ h => h) (Or.inl ⟨by rfl, ?_⟩) (by assumption) ?_
    rotate_left
    · (intro w hSw; (try dsimp only at hSw); go_simp; try with_reducible rfl)
    simp only [Act.put, List.setIfInBounds_toArray, List.set_cons_zero, List.set_cons_succ]
    refine take_at (i := 6) (v := ?_) (some 17) rfl rfl (by kernel_rfl) (by kernel_rfl) (by kernel_rfl) (fun _ _ _ h => h) (Or.inl ⟨by rfl, ?_⟩) (by assumption) ?_
    rotate_left
    · (intro w hSw; (try dsimp only at hSw); go_simp; try with_reducible rfl)
    simp only [Act.put, List.setIfInBounds_toArray, List.set_cons_zero, List.set_cons_succ]
    refine take_at (i := 7) (v := ?_) (some 18) rfl rfl (by kernel_rfl) (by kernel_rfl) (by kernel_rfl) (fun _ _ _ h => h) (Or.inl ⟨by rfl, ?_⟩) (by assumption) ?_
    rotate_left
    · (intro w hSw; (try dsimp only at hSw); go_simp; try with_reducible rfl)
    simp only [Act.put, List.setIfInBounds_toArray, List.set_cons_zero, List.set_cons_succ]
    refine take_at (i := 8) (v := ?_) (some 19) rfl rfl (by kernel_rfl) (by kernel_rfl) (by kernel_rfl) (fun _ _ _ h => h) (Or.inl ⟨by rfl, ?_⟩) (by assumption) ?_
    rotate_left
    · (intro w hSw; (try dsimp only at hSw); go_simp; try with_reducible rfl)
    simp only [Act.put, List.setIfInBounds_toArray, List.set_cons_zero, List.set_cons_succ]
    refine take_at (i := 9) (v := ?_) (some 20) rfl rfl (by kernel_rfl) (by kernel_rfl) (by kernel_rfl) (fun _ _ _ h => h) (Or.inl ⟨by rfl, ?_⟩) (by assumption) ?_
    rotate_left
    · (intro w hSw; (try dsimp only at hSw); go_simp; try with_reducible rfl)
    simp only [Act.put, List.setIfInBounds_toArray, List.set_cons_zero, List.set_cons_succ]
    refine take_at (i := 10) (v := ?_) (some 21) rfl rfl (by kernel_rfl) (by kernel_rfl) (by kernel_rfl) (fun _ _ _ h => h) (Or.inl ⟨by rfl, ?_⟩) (by assumption) ?_
    rotate_left
    · (intro w hSw; (try dsimp only at hSw); go_simp; try with_reducible rfl)
    simp only [Act.put, List.setIfInBounds_toArray, List.set_cons_zero, List.set_cons_succ]
    refine call_at (i := 11) (some 22) 144 _ _ rfl rfl rfl (by rfl) (by kernel_rfl) #[x.k, .slice ka kn kC] rfl Tryz.func144 (by kernel_rfl) (by kernel_rfl) ?_
    refine (yequal_any (PX.out.1.below (Below.refl _ _).drew) (KK.out.below (Below.refl _ _).drew)).mono ?_
    rintro e W5 ⟨rfl, hw⟩
    subst hw
    refine ⟨_, rfl, by assumption, fun hHeld => ?_⟩
    simp only [Act.put, List.setIfInBounds_toArray, List.set_cons_zero, List.set_cons_succ]
    have P5 := hidIt (P4.out.below (Below.refl _ _).drew)
    have E5 := hidIt E4.out.drew
    by_cases hq : x.p.k = t
    · have dq : decide (x.p.k = t) = true := decide_eq_true hq
      rw [dq]
      have HQ := hidIt hq
      clear hq dq
      refine take_at (i := 12) (v := ?_) (some 23) rfl rfl (by kernel_rfl) (by kernel_rfl) (by kernel_rfl) (fun _ _ _ h => h) (Or.inl ⟨by rfl, ?_⟩) (by assumption) ?_
      rotate_left
      · (intro w hSw; (try dsimp only at hSw); go_simp; try with_reducible rfl)
      simp only [Act.put, List.setIfInBounds_toArray, List.set_cons_zero, List.set_cons_succ]
      refine take_at (i := 13) (v := ?_) (some 24) rfl rfl (by kernel_rfl) (by kernel_rfl) (by kernel_rfl) (fun _ _ _ h => h) (Or.inl ⟨by rfl, ?_⟩) (by assumption) ?_
      rotate_left
      · (intro w hSw; (try dsimp only at hSw); go_simp; try with_reducible rfl)
      simp only [Act.put, List.setIfInBounds_toArray, List.set_cons_zero, List.set_cons_succ]
      refine wpAnyH_done (by kernel_rfl) ?_ _
      refine NoPanic.normal ?_
      have hr5 : W4.drew.rangeAt b1 (o1 + k * 3) x.cs := fun j v hj => ((Below.refl W4.heap.size W4).drew.cell (p := ⟨b1, o1 + k * 3 + j, none⟩) HX.out.2.2).trans (HX.out.2.1 j v hj)
      have m45 := hHeld.1
      have XO := hidIt PX.out.one
      clear hHeld m4 m5 k0
      generalize W4.drew = W5 at *
      go_wp2_with (first
        | (refine wpList_load_mid rfl 78 (.tmp 28) rfl b1 (o1 + k * 3) rfl x.cs _ hr5 Tryz.underlying78 rfl pair_size ?_)
        | (refine wpList_store_rec rfl 78 (.tmp 4) (.tmp 29) rfl (W.heap.size + 1 + 1) 0 _ x.cs rfl rfl P5.out rfl pair_size XO.out ?_; intro W6 R6 B6; have P6 := hidIt R6; have B66 := hidIt B6; clear R6 B6))
      have hl := P6.out.run_load 78 _ Tryz.underlying78 rfl pair_size
      exact bodyPost_ret (v := .tuple #[.agg x.cs.toArray, .int .i64 0]) (by simp [results, Tryz.results84, asAddr, hl]) rfl ⟨E5.out.trans (B66.out.below (by omega) E5.out.size), .inl ⟨x, List.mem_of_getElem? HX.out.1, HQ.out, rfl⟩⟩
    · have dq : decide (x.p.k = t) = false := decide_eq_false hq
      rw [dq]
      have AL := hidIt (fi_none (os := os) (t := t) F4.out.2.1 (fi_far HS.out HX.out.1 (by
        have h0 := F4.out.2.2 k (Nat.le_refl _) (by omega)
        rw [stp0_at HX.out.1, decide_eq_true_eq] at h0
        have h1 : cmpB x.p.k t ≠ 0 := fun z => hq ((c_zero _ _).1 z)
        omega)))
      clear hq dq
      refine take_at (i := 12) (v := ?_) (some 23) rfl rfl (by kernel_rfl) (by kernel_rfl) (by kernel_rfl) (fun _ _ _ h => h) (Or.inl ⟨by rfl, ?_⟩) (by assumption) ?_
      rotate_left
      · (intro w hSw; (try dsimp only at hSw); go_simp; try with_reducible rfl)
      simp only [Act.put, List.setIfInBounds_toArray, List.set_cons_zero, List.set_cons_succ]
      refine take_at (i := 13) (v := ?_) (some 24) rfl rfl (by kernel_rfl) (by kernel_rfl) (by kernel_rfl) (fun _ _ _ h => h) (Or.inl ⟨by rfl, ?_⟩) (by assumption) ?_
      rotate_left
      · (intro w hSw; (try dsimp only at hSw); go_simp; try with_reducible rfl)
      simp only [Act.put, List.setIfInBounds_toArray, List.set_cons_zero, List.set_cons_succ]
      refine wpAnyH_done (by kernel_rfl) ?_ _
      refine NoPanic.normal ?_
      clear hHeld m4 m5 k0
      generalize W4.drew = W5 at *
      go_wp2_with (first
        | (refine wpList_store_rec rfl 78 (.tmp 4) (.tmp 25) rfl (W.heap.size + 1 + 1) 0 _ [.slice none 0 0, .slice none 0 0, .bool false] rfl rfl P5.out rfl pair_size (by intro u hu; simp only [List.mem_cons, List.not_mem_nil, or_false] at hu; rcases hu with rfl | rfl | rfl <;> rfl) ?_; intro W6 R6 B6; have P6 := hidIt R6; have B66 := hidIt B6; clear R6 B6))
      have hl := P6.out.run_load 78 _ Tryz.underlying78 rfl pair_size
      exact bodyPost_ret (v := .tuple #[.agg #[.slice none 0 0, .slice none 0 0, .bool false], .int .i64 6]) (by simp [results, Tryz.results84, asAddr, hl]) rfl ⟨E5.out.trans (B66.out.below (by omega) E5.out.size), .inr ⟨AL.out, rfl⟩⟩
end Go.Proofs.YtblphlcnbnklmaaGreatDoor
namespace Go.Proofs.YtblphlcnbnklmaaGreatDoor
theorem flat_pw {bd : List (List Pr)} (hS : Srt bd.flatten) : (∀ l ∈ bd, Srt l) ∧ bd.Pairwise (fun a b => ∀ x ∈ a, ∀ y ∈ b, cmpB x.k y.k < 0) := List.pairwise_flatten.1 hS
theorem hd_le {l : List Pr} (hS : Srt l) {p : Pr} (hp : p ∈ l) : cmpB (hdK l) p.k ≤ 0 := by
  cases l with
  | nil => cases hp
  | cons q r =>
    rcases List.mem_cons.1 hp with rfl | hp
    · show cmpB p.k p.k ≤ 0
      rw [c_self]; omega
    · have := (List.pairwise_cons.1 hS).1 p hp
      show cmpB q.k p.k ≤ 0
      omega
theorem hd_mem {l : List Pr} (h : l ≠ []) : ∃ p ∈ l, p.k = hdK l := by
  cases l with
  | nil => exact absurd rfl h
  | cons q r => exact ⟨q, List.mem_cons_self .., rfl⟩
theorem blk_lt {bd : List (List Pr)} (hS : Srt bd.flatten) {i j : Nat} {a b : List Pr} (hij : i < j) (ha : bd[i]? = some a) (hb : bd[j]? = some b) : ∀ x ∈ a, ∀ y ∈ b, cmpB x.k y.k < 0 := by
  obtain ⟨hi, rfl⟩ := List.getElem?_eq_some_iff.1 ha
  obtain ⟨hj, rfl⟩ := List.getElem?_eq_some_iff.1 hb
  exact (List.pairwise_iff_getElem.1 (flat_pw hS).2) i j hi hj hij
theorem heads_srt {bd : List (List Pr)} (hS : Srt bd.flatten) (hne : ∀ l ∈ bd, l ≠ []) : Srt ((bd.map hdK).map kP) := by
  rw [List.map_map]
  refine List.pairwise_iff_getElem.2 fun i j hi hj hij => ?_
  have hi' : i < bd.length := by simpa using hi
  have hj' : j < bd.length := by simpa using hj
  rw [List.getElem_map, List.getElem_map]
  obtain ⟨p, hp, ep⟩ := hd_mem (hne _ (List.getElem_mem hi'))
  obtain ⟨q, hq, eq⟩ := hd_mem (hne _ (List.getElem_mem hj'))
  show cmpB (hdK bd[i]) (hdK bd[j]) < 0
  rw [← ep, ← eq]
  exact blk_lt hS hij (List.getElem?_eq_getElem hi') (List.getElem?_eq_getElem hj') p hp q hq
/-- Each pair is in a block. -/
theorem in_blk {bd : List (List Pr)} {p : Pr} (h : p ∈ bd.flatten) : ∃ (i : Nat) (l : List Pr), bd[i]? = some l ∧ p ∈ l := by
  obtain ⟨l, hl, hp⟩ := List.mem_flatten.1 h
  obtain ⟨i, hi, rfl⟩ := List.getElem_of_mem hl
  exact ⟨i, _, List.getElem?_eq_getElem hi, hp⟩
/-- The place where the search of firsts stops: those ahead are not behind the key, the others are. -/
structure Seek (bd : List (List Pr)) (t : ByteArray) (k : Nat) : Prop where
  le : k ≤ bd.length
  lo : ∀ (i : Nat) (l : List Pr), i < k → bd[i]? = some l → cmpB (hdK l) t ≤ 0
  hi : ∀ (i : Nat) (l : List Pr), k ≤ i → bd[i]? = some l → 0 < cmpB (hdK l) t
theorem seek_of {bd : List (List Pr)} {t : ByteArray} {k : Nat} {os : List PV} (hm : os.map PV.p = (bd.map hdK).map kP) (hk : k ≤ os.length) (h1 : ∀ i, i < k → stp1 os t i = false) (h2 : ∀ i, k ≤ i → i < os.length → stp1 os t i = true) : Seek bd t k := by
  have hl : os.length = bd.length := by have := congrArg List.length hm; simpa using this
  have at' : ∀ (i : Nat) (l : List Pr), bd[i]? = some l → ∃ x : PV, os[i]? = some x ∧ x.p.k = hdK l := fun i l hb => by
    have e : (os.map PV.p)[i]? = some (kP (hdK l)) := by rw [hm, List.map_map, List.getElem?_map, hb]; rfl
    rw [List.getElem?_map] at e
    cases hx : os[i]? with
    | none => rw [hx] at e; cases e
    | some x =>
      rw [hx] at e
      injection e with e
      exact ⟨x, rfl, by rw [e]; rfl⟩
  refine ⟨by omega, fun i l hi hb => ?_, fun i l hi hb => ?_⟩
  · obtain ⟨x, hx, ex⟩ := at' i l hb
    have := h1 i hi
    rw [stp1_at hx, decide_eq_false_iff_not, ex] at this
    omega
  · obtain ⟨x, hx, ex⟩ := at' i l hb
    have := h2 i hi (by have := (List.getElem?_eq_some_iff.1 hb).1; omega)
    rw [stp1_at hx, decide_eq_true_eq, ex] at this
    exact this
theorem seek_zero {bd : List (List Pr)} {t : ByteArray} (h : Seek bd t 0) (hS : Srt bd.flatten) : ∀ p ∈ bd.flatten, p.k ≠ t := fun p hp e => by
  obtain ⟨i, l, hl, hpl⟩ := in_blk hp
  have h1 := h.hi i l (Nat.zero_le _) hl
  have h2 := hd_le ((flat_pw hS).1 l (List.mem_of_getElem? hl)) hpl
  rw [e] at h2
  omega
theorem seek_not {bd : List (List Pr)} {t : ByteArray} {j : Nat} {l : List Pr} (h : Seek bd t (j + 1)) (hS : Srt bd.flatten) (hne : ∀ l ∈ bd, l ≠ []) (hl : bd[j]? = some l) (hn : ∀ p ∈ l, p.k ≠ t) : ∀ p ∈ bd.flatten, p.k ≠ t := fun p hp e => by
  obtain ⟨i, a, ha, hpa⟩ := in_blk hp
  rcases Nat.lt_trichotomy i j with q | q | q
  · obtain ⟨y, hy, ey⟩ := hd_mem (hne l (List.mem_of_getElem? hl))
    have h1 := blk_lt hS q ha hl p hpa y hy
    have h2 := h.lo j l (by omega) hl
    rw [ey, e] at h1
    have := c_anti t (hdK l)
    omega
  · subst q
    rw [hl] at ha
    injection ha with ha
    subst ha
    exact hn p hpa e
  · have h1 := h.hi i a (by omega) ha
    have h2 := hd_le ((flat_pw hS).1 a (List.mem_of_getElem? ha)) hpa
    rw [e] at h2
    omega
theorem seek_in {bd : List (List Pr)} {j : Nat} {l : List Pr} (hl : bd[j]? = some l) {p : Pr} (hp : p ∈ l) : p ∈ bd.flatten := List.mem_flatten.2 ⟨l, List.mem_of_getElem? hl, hp⟩
end Go.Proofs.YtblphlcnbnklmaaGreatDoor
namespace Go.Proofs.YtblphlcnbnklmaaGreatDoor
open Go.RowKit Go.Maps
attribute [-go_sem] Builtin.append_
/-- What Get answers. -/
def GtP (W : World) (bd : List (List Pr)) (t : ByteArray) (e : Ending) (w' : World) : Prop := Below W.heap.size W w' ∧ ((∃ x : PV, PVOk w' [] x ∧ x.p ∈ bd.flatten ∧ x.p.k = t ∧ e = .returned (.tuple #[.agg x.cs.toArray, .int .i64 0])) ∨ ((∀ p ∈ bd.flatten, p.k ≠ t) ∧ e = .returned (.tuple #[.agg #[.slice none 0 0, .slice none 0 0, .bool false], .int .i64 6])))
theorem ref_at {W : World} {g m j : Nat} {a : Option Addr} {stamp : Int} {ks : List ByteArray} {os : List PV} (h : IdxAt W g m a stamp ks os) (hj : j < m) : W.rangeAt g (0 + j * 2) (twoC ((j : Int) + 1) stamp) := fun i v hv => by
  have h2 : i < 2 := (List.getElem?_eq_some_iff.1 hv).1
  rw [Nat.zero_add]
  rw [h.refs (j * 2 + i) (by omega)]
  unfold rfF
  match i, h2 with
  | 0, _ =>
    injection hv with hv
    rw [← hv, if_pos (by omega), show (j * 2 + 0) / 2 = j by omega]
  | 1, _ =>
    injection hv with hv
    rw [← hv, if_neg (by omega)]
theorem off_idx {W W' : World} {g m c : Nat} {a : Option Addr} {stamp : Int} {ks : List ByteArray} {os : List PV} (h : IdxAt W g m a stamp ks os) (hB : But c W W') (hc : g ≠ c) : ∀ j, j < 2 * m → W'.cell? ⟨g, j, none⟩ = some (.int .i64 (rfF stamp j)) := fun j hj => (hB.cell (p := ⟨g, j, none⟩) h.gl hc).trans (h.refs j hj)
theorem fi_form {W : World} {os : List PV} {t : ByteArray} {e : Ending} {w' : World} (h : FiP W os t e w') (ho : ∀ x ∈ os, PVOk W [] x) : ∃ cs c, e = .returned (.tuple #[.agg cs.toArray, .int .i64 c]) ∧ cs.length = 3 ∧ (∀ v ∈ cs, v.oneCell' = true) ∧ Below W.heap.size W w' ∧ ((∃ x ∈ os, x.p.k = t ∧ cs = x.cs ∧ c = 0) ∨ ((∀ x ∈ os, x.p.k ≠ t) ∧ cs = [.slice none 0 0, .slice none 0 0, .bool false] ∧ c = 6)) := by
  obtain ⟨hB, ⟨x, hx, hk, rfl⟩ | ⟨hn, rfl⟩⟩ := h
  · exact ⟨_, _, rfl, rfl, (ho x hx).one, hB, .inl ⟨x, hx, hk, rfl, rfl⟩⟩
  · exact ⟨[.slice none 0 0, .slice none 0 0, .bool false], _, rfl, rfl, by intro u hu; simp only [List.mem_cons, List.not_mem_nil, or_false] at hu; rcases hu with rfl | rfl | rfl <;> rfl, hB, .inr ⟨hn, rfl, rfl⟩⟩
set_option maxRecDepth 100000 in
set_option maxHeartbeats 4000000 in
theorem get_ok (W : World) (gp : Option Addr) (p q c stamp : Int) (f l key : Value) (m : Nat) (bd : List (List Pr)) (N : List Nat) (t : ByteArray) (hm : bd.length = m) (h2 : m ≤ 16) (hS : Srt bd.flatten) (hne : ∀ l ∈ bd, l ≠ []) (hf1 : ∀ l ∈ bd, l.length ≤ 100000) (hk : Txt W N key t)
    (hRI : ∀ u, Below W.heap.size W u → Calls Tryz.prog 81 #[.pointer gp, .agg (twoC p q).toArray] u (RiP u m stamp (bd.map hdK)))
    (hRD : ∀ (i : Nat) (l : List Pr) u, bd[i]? = some l → Below W.heap.size W u → Calls Tryz.prog 83 #[.pointer gp, .agg (twoC ((i : Int) + 1) stamp).toArray] u (PrsP u l)) :
    Calls Tryz.prog 28 #[.pointer gp, .agg (runC p q c f l).toArray, key] W (GtP W bd t) := by
  have HK := hidIt hk
  have RI := hidIt hRI
  have RD := hidIt hRD
  have HS := hidIt (And.intro hS (And.intro hne hf1))
  have HM := hidIt (And.intro hm h2)
  obtain ⟨ka, kC, kf, hke, _⟩ := hk
  obtain ⟨kn, hkn⟩ : ∃ kn, t.size = kn := ⟨_, rfl⟩
  rw [hkn] at hke
  subst hke
  clear hRI hRD hS hne hf1 hm h2 hkn
  have T1 : Hid True := trivial
  have T2 : Hid True := trivial
  go_enter Tryz.func28, Tryz.ntmps28
  go_wp2_with (first
    | (refine wpList_box_rec rfl 74 (.tmp 1) rfl (runC p q c f l) rfl W.heap.size rfl ?_; intro W1 R1 B1 z1)
    | (have _q := T1; clear T1; refine wpList_alloc_rec rfl 78 rfl _ (W.heap.size + 1) z1 pair_zero ?_; intro W2 R2 B2 z2; have b12 : Below W1.heap.size W1 W2 := (by rw [z1]; exact B2); have E2 := hidIt (B1.trans (B2.mono (by omega))); have P2 := hidIt (R1.below b12); have Q2 := hidIt R2; have Z2 := hidIt z2; clear R1 B1 z1 R2 B2 z2 b12)
    | (refine wpList_load_mid rfl 57 (.tmp 15) rfl W.heap.size 0 rfl (twoC p q) _ (two_range (P2.out.cel 0 _ rfl).1 (P2.out.cel 1 _ rfl).1) Tryz.underlying57 rfl (by kernel_rfl) ?_)
    | (go_at_call 81; refine (RI.out W2 E2.out).mono ?_; rintro e W3 ⟨g1, la, lc, os, rfl, hI, hg1, hB⟩; have E3 := hidIt (E2.out.trans (hB.mono E2.out.size)); have Q3 := hidIt (Q2.out.below hB); have I3 := hidIt (And.intro hI hg1); have Z3 := hidIt hB.size; clear hB hI hg1)
    | (have _q := I3; have _p := T2; clear T2 _p; refine wpList_alloc_rec rfl 147 rfl _ W3.heap.size rfl zero_idx ?_; intro W4 R4 B4 z4; have E4 := hidIt B4; have P4 := hidIt R4; clear R4 B4 z4)
    | (refine wpList_store_rec rfl 147 (.tmp 8) (.tmp 18) rfl W3.heap.size 0 _ (idxC g1 m la lc) rfl rfl P4.out rfl idx_size (idxC_one _ _ _ _) ?_; intro W5 R5 B5; have b5 := E4.out.trans (B5.below (Nat.le_refl _) E4.out.size); have E5 := hidIt (E3.out.trans (b5.mono E3.out.size)); have P5 := hidIt R5; have Q5 := hidIt (Q3.out.below b5); have I5 := hidIt (I3.out.1.below b5); clear R5 B5 b5)
    | (refine wpList_load_rec rfl 147 (.tmp 8) rfl W3.heap.size 0 (idxC g1 m la lc) rfl _ Tryz.underlying147 rfl idx_size P5.out ?_)
    | (go_at_call 82; refine (seek_ok W5 g1 m lc la os N (.slice ka kn kC) t I5.out.lst I5.out.len (Nat.le_trans HM.out.2 (by decide)) (by rw [I5.out.map]; exact heads_srt HS.out.1 HS.out.2.1) (HK.out.below E5.out)).mono ?_; rintro e W6 ⟨hb, k, hk, rfl, h1, h2⟩; have SK := hidIt (seek_of I5.out.map hk h1 h2); have E6 := hidIt (E5.out.trans (hb.mono E5.out.size)); have P6 := hidIt (P5.out.below hb); have Q6 := hidIt (Q5.out.below hb); have I6 := hidIt (I5.out.below hb); clear hb h1 h2 hk; refine Held.out ?_))
  have lw := Q2.out.2.2
  cases k with
  | zero =>
    have AL := hidIt (seek_zero SK.out HS.out.1)
    refine Held.mk ?_
    go_wp2_with (first
      | (refine wpList_store_rec rfl 78 (.tmp 6) (.tmp 32) rfl (W.heap.size + 1) 0 _ [.slice none 0 0, .slice none 0 0, .bool false] rfl rfl Q6.out rfl pair_size (by intro u hu; simp only [List.mem_cons, List.not_mem_nil, or_false] at hu; rcases hu with rfl | rfl | rfl <;> rfl) ?_; intro W7 R7 B7; have P7 := hidIt R7; have B77 := hidIt B7; clear R7 B7))
    have hl := P7.out.run_load 78 _ Tryz.underlying78 rfl pair_size
    exact bodyPost_ret (v := .tuple #[.agg #[.slice none 0 0, .slice none 0 0, .bool false], .int .i64 6]) (by simp [results, Tryz.results28, asAddr, hl]) rfl ⟨E6.out.trans (B77.out.below (by omega) E6.out.size), .inr ⟨AL.out, rfl⟩⟩
  | succ j =>
    have hj : j < m := by have := SK.out.le; have := HM.out.1; omega
    obtain ⟨bl, hl⟩ : ∃ bl, bd[j]? = some bl := ⟨_, List.getElem?_eq_getElem (by have := HM.out.1; omega)⟩
    have HL := hidIt hl
    have hjz : ((j + 1 : Nat) : Int) - 1 = (j : Int) := by omega
    rw [hjz]
    have rr := hidIt (ref_at I6.out hj)
    have g0 : W6.cell? ⟨W3.heap.size, 0, none⟩ = some (.slice (some ⟨g1, 0, none⟩) m m) := (P6.out.cel 0 _ rfl).1
    obtain ⟨i0, i1, i2, i3⟩ := k_ar j m hj (Nat.le_trans HM.out.2 (by decide))
    have i4 : decide ((0 : Int) ≤ (j : Int)) = true := decide_eq_true i1
    have i5 : (0 ≤ (j : Int)) = True := eq_true i1
    have i6 : ((1 : Int) ≤ (j : Int) + 1) = True := eq_true (by omega)
    clear hj hl hjz
    refine Held.mk ?_
    go_wp2_with (first
      | (refine wpList_load_mid rfl 57 (.tmp 38) rfl g1 (j * 2) rfl (twoC ((j : Int) + 1) stamp) _ (by have := rr.out; rwa [Nat.zero_add] at this) Tryz.underlying57 rfl (by kernel_rfl) ?_)
      | (go_at_call 83; refine (RD.out j _ W6 HL.out E6.out).mono ?_; rintro e W7 ⟨da, dC, ds, rfl, hdl, hdm, hdf, hb⟩; have DF := hidIt hdf; clear hdf; have E7 := hidIt (E6.out.trans (hb.mono E6.out.size)); have Q7 := hidIt (Q6.out.below hb); have D7 := hidIt (And.intro hdl hdm); clear hb hdl hdm; refine Held.out ?_))
    have lm := List.mem_of_getElem? HL.out
    have SL := hidIt (by rw [D7.out.2]; exact (flat_pw HS.out.1).1 bl lm : Srt (ds.map PV.p))
    have LL := hidIt (HS.out.2.2 bl lm)
    have DL := hidIt (show ds.length = bl.length by rw [← D7.out.2, List.length_map])
    clear lm
    refine Held.mk ?_
    go_wp2_with (first
      | (go_at_call 84; refine (find_ok W7 bl.length dC da ds N (.slice ka kn kC) t D7.out.1 DL.out LL.out SL.out (HK.out.below E7.out)).mono ?_; rintro e W8 hF; obtain ⟨cs, cd, rfl, q1, q2, hb, q3⟩ := fi_form hF D7.out.1.1; have E8 := hidIt (E7.out.trans (hb.mono E7.out.size)); have Q8 := hidIt (Q7.out.below hb); have B8 := hidIt hb; have F8 := hidIt (And.intro q1 (And.intro q2 q3)); clear hb hF q1 q2 q3)
      | (refine wpList_store_rec rfl 78 (.tmp 6) (.tmp 50) rfl (W.heap.size + 1) 0 _ cs rfl rfl Q8.out F8.out.1.symm (by rw [F8.out.1]; exact pair_size) F8.out.2.1 ?_; intro W9 R9 B9; have P9 := hidIt R9; have B99 := hidIt B9; clear R9 B9))
    have hl := P9.out.run_load 78 _ Tryz.underlying78 rfl (by rw [F8.out.1]; exact pair_size)
    have zz := E6.out.size
    refine bodyPost_ret (v := .tuple #[.agg cs.toArray, .int .i64 cd]) (by simp [results, Tryz.results28, asAddr, hl]) rfl ⟨E8.out.trans (B99.out.below (by omega) E8.out.size), ?_⟩
    rcases F8.out.2.2 with ⟨x, hx, hxk, rfl, rfl⟩ | ⟨hn, rfl, rfl⟩
    · exact .inl ⟨x, (((DF.out x hx [W.heap.size + 1] (fun b hb => by simp at hb; subst hb; have := Q6.out.2.2; omega)).below B8.out).off (Off.but B99.out (by simp))).any, seek_in HL.out (by rw [← D7.out.2]; exact List.mem_map.2 ⟨x, hx, rfl⟩), hxk, rfl⟩
    · exact .inr ⟨seek_not SK.out HS.out.1 HS.out.2.1 HL.out (fun y hy => by
        rw [← D7.out.2] at hy
        obtain ⟨x, hx, rfl⟩ := List.mem_map.1 hy
        exact hn x hx), rfl⟩
end Go.Proofs.YtblphlcnbnklmaaGreatDoor
namespace Go.Proofs.YtblphlcnbnklmaaGreatDoor
open Go.RowKit Go.Maps
/-- A table that was built: the grid has just its blocks. -/
structure TblAt (w0 W : World) (g d s m b mm n : Nat) (stamp : Int) (ls : List Pr) (k : Nat) : Prop where
  nw : GNew w0 W g d s m b mm (wrK (dsk0 (104 + 4 * n)) (imT stamp (packG [] ls)) (k + 1)) n (hK n (k + 1))
  len : (packG [] ls).length = k
  good : Good ls
  kn : k + 1 ≤ n
  k16 : k ≤ 16
  st : 0 ≤ stamp ∧ stamp ≤ 1073741824
theorem TblAt.below {w0 W W' : World} {g d s m b mm n : Nat} {stamp : Int} {ls : List Pr} {k : Nat} (h : TblAt w0 W g d s m b mm n stamp ls k) (hB : Below W.heap.size W W') : TblAt w0 W' g d s m b mm n stamp ls k := ⟨h.nw.below hB, h.len, h.good, h.kn, h.k16, h.st⟩
theorem Good.ne {ls : List Pr} (h : Good ls) : ls ≠ [] := fun e => by have := h.1; rw [e] at this; simp at this
theorem Good.srt {ls : List Pr} (h : Good ls) : Srt (packG [] ls).flatten := by
  have := pack_flat ls []
  simp only [List.nil_append] at this
  rw [this]
  exact srt_chn h.2.2.1
theorem Good.flat {ls : List Pr} : (packG [] ls).flatten = ls := by
  have := pack_flat ls []
  simpa using this
theorem Good.bods {ls : List Pr} (h : Good ls) : ∀ l ∈ packG [] ls, (bodL l).length ≤ 860 ∧ l ≠ [] := pack_ok ls [] h.2.2.2 (by simp [bodL]) (.inr ⟨rfl, h.ne⟩)
theorem Good.mem {ls : List Pr} {l : List Pr} (hl : l ∈ packG [] ls) : ∀ p ∈ l, p ∈ ls := fun p hp => by
  rw [← Good.flat (ls := ls)]
  exact List.mem_flatten.2 ⟨l, hl, hp⟩
theorem Good.few {ls : List Pr} (h : Good ls) : ∀ l ∈ packG [] ls, l.length ≤ 100000 := fun l hl => by
  have h1 := (h.bods l hl).1
  have : l.length ≤ (bodL l).length := by
    clear h1 hl h
    induction l with
    | nil => simp
    | cons p r ih =>
      rw [show bodL (p :: r) = pbL p ++ bodL r from rfl, List.length_append, List.length_cons]
      have : 0 < (pbL p).length := by unfold pbL; simp
      omega
  omega
theorem tbl_rdx {w0 W : World} {g d s m b mm n : Nat} {stamp : Int} {ls : List Pr} {k : Nat} (h : TblAt w0 W g d s m b mm n stamp ls k) (u : World) (hB : Below W.heap.size W u) : Calls Tryz.prog 139 #[.pointer (some ⟨g, 0, none⟩), .agg (twoC ((k : Int) + 1) stamp).toArray] u (RgOk u (xBk k stamp ((packG [] ls).map hdK))) := by
  have hs := heads_small h.good.2.2.2 h.good.ne
  refine rd_there w0 u g d s m b mm n k _ _ _ stamp _ (h.nw.below hB) (wrK_free _ _ (by have := h.k16; omega)) (by rw [wrK_N]; exact Nat.le_refl _) (by have := h.kn; omega) rfl h.st (xBk_may h.k16 h.st (by rw [List.length_map]; exact h.len) (fun q hq => (hs q hq).2)) (fun j hj => ?_) rfl rfl
  rw [wrK_at _ _ _ k (by omega) j hj]
  unfold imT
  rw [if_neg (by rw [h.len]; omega), h.len]
theorem tbl_rdd {w0 W : World} {g d s m b mm n : Nat} {stamp : Int} {ls : List Pr} {k : Nat} (h : TblAt w0 W g d s m b mm n stamp ls k) (i : Nat) (l : List Pr) (u : World) (hl : (packG [] ls)[i]? = some l) (hB : Below W.heap.size W u) : Calls Tryz.prog 139 #[.pointer (some ⟨g, 0, none⟩), .agg (twoC ((i : Int) + 1) stamp).toArray] u (RgOk u (dBk i stamp l)) := by
  have hi : i < k := by rw [← h.len]; exact (List.getElem?_eq_some_iff.1 hl).1
  refine rd_there w0 u g d s m b mm n i _ _ _ stamp _ (h.nw.below hB) (wrK_free _ _ (by have := h.k16; omega)) (by rw [wrK_N]; exact Nat.le_refl _) (by have := h.kn; omega) rfl h.st (dBk_may (by have := h.k16; omega) h.st (h.good.bods l (List.mem_of_getElem? hl)).1) (fun j hj => ?_) rfl rfl
  rw [wrK_at _ _ _ i (by omega) j hj]
  unfold imT
  rw [if_pos (by rw [h.len]; exact hi), List.getD_eq_getElem?_getD, hl]
  rfl
theorem tbl_ri {w0 W : World} {g d s m b mm n : Nat} {stamp : Int} {ls : List Pr} {k : Nat} (h : TblAt w0 W g d s m b mm n stamp ls k) (u : World) (hB : Below W.heap.size W u) : Calls Tryz.prog 81 #[.pointer (some ⟨g, 0, none⟩), .agg (twoC ((k : Int) + 1) stamp).toArray] u (RiP u k stamp ((packG [] ls).map hdK)) :=
  readIndex_ok u _ _ _ stamp k _ (by rw [List.length_map]; exact h.len) (by
    have := List.length_pos_iff.2 (pack_ne ls [])
    rw [h.len] at this
    exact this) h.k16 (heads_small h.good.2.2.2 h.good.ne) (chn_of (heads_srt h.good.srt (fun l hl => (h.good.bods l hl).2))) (fun v hv => tbl_rdx h v (hB.trans (hv.mono hB.size)))
theorem tbl_rd {w0 W : World} {g d s m b mm n : Nat} {stamp : Int} {ls : List Pr} {k : Nat} (h : TblAt w0 W g d s m b mm n stamp ls k) (i : Nat) (l : List Pr) (u : World) (hl : (packG [] ls)[i]? = some l) (hB : Below W.heap.size W u) : Calls Tryz.prog 83 #[.pointer (some ⟨g, 0, none⟩), .agg (twoC ((i : Int) + 1) stamp).toArray] u (PrsP u l) :=
  readData_ok u _ _ _ stamp i l (fun p hp => h.good.2.2.2 p (Good.mem (List.mem_of_getElem? hl) p hp)) (chn_of ((flat_pw h.good.srt).1 l (List.mem_of_getElem? hl))) (h.good.bods l (List.mem_of_getElem? hl)).2 (h.good.bods l (List.mem_of_getElem? hl)).1 (fun v hv => tbl_rdd h i l v hl (hB.trans (hv.mono hB.size)))
theorem tget_ok {w0 W : World} {g d s m b mm n : Nat} {stamp : Int} {ls : List Pr} {k : Nat} (h : TblAt w0 W g d s m b mm n stamp ls k) (c : Int) (f l key : Value) (N : List Nat) (t : ByteArray) (hk : Txt W N key t) : Calls Tryz.prog 28 #[.pointer (some ⟨g, 0, none⟩), .agg (runC ((k : Int) + 1) stamp c f l).toArray, key] W (GtP W (packG [] ls) t) :=
  get_ok W _ _ stamp c stamp f l key k _ N t h.len h.k16 h.good.srt (fun l hl => (h.good.bods l hl).2) h.good.few hk (fun u hB => tbl_ri h u hB) (fun i l u hl hB => tbl_rd h i l u hl hB)
/-- A table of pairs that lie in memory, built. -/
theorem tbuild_ok (w0 W : World) (g d s m0 b0 mm n q C k : Nat) (stamp : Int) (a : Option Addr) (ps : List PV) (hN : GNew w0 W g d s m0 b0 mm (dsk0 (104 + 4 * n)) n (iniH n)) (hT : DTab w0) (h0 : 0 < w0.heap.size) (hq : ps.length = q) (hL : Lst W a ps) (hG : Good (ps.map PV.p)) (hpn : ∀ x ∈ ps, PVOk W [g, d, s, m0] x) (han : ∀ z, a = some z → z.block ∉ [g, d, s, m0]) (hkk : (packG [] (ps.map PV.p)).length = k) (hk : k + 1 ≤ n) (hk2 : k ≤ 16) (hs : 0 ≤ stamp ∧ stamp ≤ 1073741824) :
    Calls Tryz.prog 27 #[.pointer (some ⟨g, 0, none⟩), .slice a q C, .int .i64 stamp] W (fun e w' => ∃ a' C' b' D', e = .returned (.tuple #[.agg (runC ((k : Int) + 1) stamp (q : Int) (.slice a' (hdK (ps.map PV.p)).size C') (.slice b' (hdK (ps.map PV.p).reverse).size D')).toArray, .int .i64 0]) ∧ Txt w' [] (.slice a' (hdK (ps.map PV.p)).size C') (hdK (ps.map PV.p)) ∧ Txt w' [] (.slice b' (hdK (ps.map PV.p).reverse).size D') (hdK (ps.map PV.p).reverse) ∧ ∃ m b, TblAt w0 w' g d s m b mm n stamp (ps.map PV.p) k ∧ Off [g, d, s, m0] W w' ∧ (m = m0 ∨ W.heap.size ≤ m) ∧ W.heap.size ≤ b) := by
  refine (xBuild_ok w0 W g d s m0 b0 mm n q C stamp a ps hN hT h0 hq hL hG hpn han (by rw [hkk]; exact hk) (by rw [hkk]; exact hk2) hs).mono ?_
  rintro e w' ⟨a', C', b', D', rfl, h1, h2, bb, mb, h3, h4, h5, h6⟩
  rw [hkk] at h3 ⊢
  rw [show ((ps.map PV.p).length : Int) = (q : Int) by rw [List.length_map, hq]]
  exact ⟨a', C', b', D', rfl, h1, h2, mb, bb, ⟨h3, hkk, hG, hk, hk2, hs⟩, h4, h5, h6⟩
end Go.Proofs.YtblphlcnbnklmaaGreatDoor
namespace Go.Proofs.YtblphlcnbnklmaaGreatDoor
open Go.RowKit Go.Maps
attribute [-go_sem] Builtin.append_
theorem Txt.blk {W : World} {N : List Nat} {y n C : Nat} {t : ByteArray} (h : Txt W [] (.slice (some ⟨y, 0, none⟩) n C) t) (hy : y ∉ N) : Txt W N (.slice (some ⟨y, 0, none⟩) n C) t := by
  obtain ⟨a, C', f, hs, hA, ht, _⟩ := h
  injection hs with h1 h2 h3
  subst h1 h2 h3
  exact ⟨_, _, f, rfl, hA, ht, fun _ q hq hm => by injection hq with hq; subst hq; exact hy hm⟩
/-- The chapter's pairs. -/
def abcL : List Pr := [⟨b1 97, b1 49, false⟩, ⟨b1 98, .empty, true⟩, ⟨b1 99, b1 50, false⟩]
/-- What abc answers. -/
def AbP (W : World) (e : Ending) (w' : World) : Prop := ∃ b xs, e = .returned (.slice (some ⟨b, 0, none⟩) 3 3) ∧ Lst w' (some ⟨b, 0, none⟩) xs ∧ xs.map PV.p = abcL ∧ W.heap.size ≤ b ∧ (∀ x ∈ xs, ∀ N : List Nat, (∀ c, c ∈ N → c < W.heap.size) → PVOk w' N x) ∧ Below W.heap.size W w'
theorem new_not {W : Nat} {y : Nat} {N : List Nat} (hN : ∀ c, c ∈ N → c < W) (hy : W ≤ y) : y ∉ N := fun q => by have := hN y q; omega
set_option maxRecDepth 100000 in
set_option maxHeartbeats 2000000 in
theorem abc_ok (W : World) : Calls Tryz.prog 34 #[] W (AbP W) := by
  go_enter Tryz.func34, Tryz.ntmps34
  go_wp2_with (first
    | (refine wpList_lit rfl 97 rfl ?_; intro X1a ha hb hz; have A1 := hidIt ha; have D1 := hidIt (And.intro hb hz); clear ha hb hz)
    | (refine wpList_conv rfl (.tmp 1) rfl W.heap.size 97 (by decide) rfl A1.out ?_; intro X1 hb ht; have bb : Below W.heap.size W X1 := D1.out.1.trans (hb.below (Nat.le_refl _) D1.out.1.size); have E1 := hidIt bb; have S1 := hidIt ht; clear hb ht bb A1 D1)
    | (refine wpList_lit rfl 49 rfl ?_; intro X2a ha hb hz; have A2 := hidIt ha; have D2 := hidIt (And.intro hb hz); clear ha hb hz)
    | (refine wpList_conv rfl (.tmp 3) rfl X1.heap.size 49 (by decide) rfl A2.out ?_; intro X2 hb ht; have bb : Below X1.heap.size X1 X2 := D2.out.1.trans (hb.below (Nat.le_refl _) D2.out.1.size); have E2 := hidIt (And.intro (E1.out.trans (bb.mono E1.out.size)) bb); have S2 := hidIt ht; clear hb ht bb A2 D2)
    | (refine wpList_lit rfl 98 rfl ?_; intro X3a ha hb hz; have A3 := hidIt ha; have D3 := hidIt (And.intro hb hz); clear ha hb hz)
    | (refine wpList_conv rfl (.tmp 6) rfl X2.heap.size 98 (by decide) rfl A3.out ?_; intro X3 hb ht; have bb : Below X2.heap.size X2 X3 := D3.out.1.trans (hb.below (Nat.le_refl _) D3.out.1.size); have E3 := hidIt (And.intro (E2.out.1.trans (bb.mono E2.out.1.size)) bb); have S3 := hidIt ht; clear hb ht bb A3 D3)
    | (refine wpList_lit rfl 99 rfl ?_; intro X4a ha hb hz; have A4 := hidIt ha; have D4 := hidIt (And.intro hb hz); clear ha hb hz)
    | (refine wpList_conv rfl (.tmp 9) rfl X3.heap.size 99 (by decide) rfl A4.out ?_; intro X4 hb ht; have bb : Below X3.heap.size X3 X4 := D4.out.1.trans (hb.below (Nat.le_refl _) D4.out.1.size); have E4 := hidIt (And.intro (E3.out.1.trans (bb.mono E3.out.1.size)) bb); have S4 := hidIt ht; clear hb ht bb A4 D4)
    | (refine wpList_lit rfl 50 rfl ?_; intro X5a ha hb hz; have A5 := hidIt ha; have D5 := hidIt (And.intro hb hz); clear ha hb hz)
    | (refine wpList_conv rfl (.tmp 11) rfl X4.heap.size 50 (by decide) rfl A5.out ?_; intro X5 hb ht; have bb : Below X4.heap.size X4 X5 := D5.out.1.trans (hb.below (Nat.le_refl _) D5.out.1.size); have E5 := hidIt (And.intro (E4.out.1.trans (bb.mono E4.out.1.size)) bb); have S5 := hidIt ht; clear hb ht bb A5 D5)
    | (refine wpList_run_w rfl (.slice (some ⟨X5.heap.size, 0, none⟩) 3 3) (X5.alloc (.cells (pcs [⟨.slice (some ⟨W.heap.size, 0, none⟩) 1 1, .slice (some ⟨X1.heap.size, 0, none⟩) 1 1, ⟨b1 97, b1 49, false⟩⟩, ⟨.slice (some ⟨X2.heap.size, 0, none⟩) 1 1, .slice none 0 0, ⟨b1 98, .empty, true⟩⟩, ⟨.slice (some ⟨X3.heap.size, 0, none⟩) 1 1, .slice (some ⟨X4.heap.size, 0, none⟩) 1 1, ⟨b1 99, b1 50, false⟩⟩]).toArray 78)) (bsl_run 22 78 3 _ rfl 3 56 _ _ _ under_pairs info_pair (by decide) (by decide) rfl (by kernel_rfl)) ?_))
  have s1 := E1.out.size
  have s2 := E2.out.1.size
  have s3 := E3.out.1.size
  have s4 := E4.out.1.size
  have s5 := E5.out.1.size
  have b45 := E5.out.2
  have b35 := E4.out.2.trans (b45.mono E4.out.2.size)
  have b25 := E3.out.2.trans (b35.mono E3.out.2.size)
  have b15 := E2.out.2.trans (b25.mono E2.out.2.size)
  have key : ∀ x ∈ [(⟨.slice (some ⟨W.heap.size, 0, none⟩) 1 1, .slice (some ⟨X1.heap.size, 0, none⟩) 1 1, ⟨b1 97, b1 49, false⟩⟩ : PV), ⟨.slice (some ⟨X2.heap.size, 0, none⟩) 1 1, .slice none 0 0, ⟨b1 98, .empty, true⟩⟩, ⟨.slice (some ⟨X3.heap.size, 0, none⟩) 1 1, .slice (some ⟨X4.heap.size, 0, none⟩) 1 1, ⟨b1 99, b1 50, false⟩⟩], ∀ N : List Nat, (∀ c, c ∈ N → c < W.heap.size) → PVOk X5 N x := by
    intro x hx N hN
    simp only [List.mem_cons, List.not_mem_nil, or_false] at hx
    rcases hx with rfl | rfl | rfl
    · exact ⟨(S1.out.below b15).blk (new_not hN (Nat.le_refl _)), (S2.out.below b25).blk (new_not hN s1)⟩
    · exact ⟨(S3.out.below b35).blk (new_not hN s2), Txt.nil _ _ _⟩
    · exact ⟨(S4.out.below b45).blk (new_not hN s3), S5.out.blk (new_not hN s4)⟩
  have A6 : Below X5.heap.size X5 (X5.alloc (.cells (pcs [⟨.slice (some ⟨W.heap.size, 0, none⟩) 1 1, .slice (some ⟨X1.heap.size, 0, none⟩) 1 1, ⟨b1 97, b1 49, false⟩⟩, ⟨.slice (some ⟨X2.heap.size, 0, none⟩) 1 1, .slice none 0 0, ⟨b1 98, .empty, true⟩⟩, ⟨.slice (some ⟨X3.heap.size, 0, none⟩) 1 1, .slice (some ⟨X4.heap.size, 0, none⟩) 1 1, ⟨b1 99, b1 50, false⟩⟩]).toArray 78)) := (Below.refl _ _).alloc (Nat.le_refl _) _
  exact bodyPost_ret (v := .slice (some ⟨X5.heap.size, 0, none⟩) 3 3) (by simp [results, Tryz.results34, go_sem]) rfl ⟨X5.heap.size, _, rfl, lst_new X5 _ (fun x hx => (key x hx [] (fun _ h => by cases h))), rfl, s5, fun x hx N hN => (key x hx N hN).below A6, E5.out.1.trans (A6.mono s5)⟩
end Go.Proofs.YtblphlcnbnklmaaGreatDoor
namespace Go.Proofs.YtblphlcnbnklmaaGreatDoor
open Go.RowKit Go.Maps
attribute [-go_sem] Builtin.append_
set_option maxRecDepth 100000 in
set_option maxHeartbeats 2000000 in
theorem sameRun_ok {W : World} {p q n : Int} {a a' b b' : Option Addr} {C C' D D' : Nat} {s t : ByteArray} {N N' M M' : List Nat} (h1 : Txt W N (.slice a s.size C) s) (h2 : Txt W M (.slice b t.size D) t) (h3 : Txt W N' (.slice a' s.size C') s) (h4 : Txt W M' (.slice b' t.size D') t) :
    Calls Tryz.prog 56 #[.agg (runC p q n (.slice a s.size C) (.slice b t.size D)).toArray, .agg (runC p q n (.slice a' s.size C') (.slice b' t.size D')).toArray] W fun e w' => e = .returned (.bool true) ∧ Below W.heap.size W w' := by
  have H := hidIt (And.intro h1 (And.intro h2 (And.intro h3 h4)))
  clear h1 h2 h3 h4
  obtain ⟨sn, hsn⟩ : ∃ sn, s.size = sn := ⟨_, rfl⟩
  obtain ⟨tn, htn⟩ : ∃ tn, t.size = tn := ⟨_, rfl⟩
  rw [hsn, htn] at H ⊢
  clear hsn htn
  have q1 : Hid True := trivial
  go_enter Tryz.func56, Tryz.ntmps56
  go_wp2_with (first
    | (refine wpList_box_rec rfl 74 (.tmp 0) rfl (runC p q n (.slice a sn C) (.slice b tn D)) rfl W.heap.size rfl ?_; intro W1 R1 B1 z1; have P1 := hidIt R1; have E1 := hidIt (And.intro B1 z1); clear R1 B1 z1)
    | (refine wpList_box_rec rfl 74 (.tmp 1) rfl (runC p q n (.slice a' sn C') (.slice b' tn D')) rfl (W.heap.size + 1) E1.out.2 ?_; intro W2 R2 B2 z2; have bb : Below W1.heap.size W1 W2 := (by rw [E1.out.2]; exact B2); have E2 := hidIt (E1.out.1.trans (B2.mono (by omega))); have P2 := hidIt (P1.out.below bb); have Q2 := hidIt R2; have c2 := (P2.out.cel 2 _ rfl).1; have c3 := (P2.out.cel 3 _ rfl).1; have c4 := (P2.out.cel 4 _ rfl).1; have d2 := (Q2.out.cel 2 _ rfl).1; have d3 := (Q2.out.cel 3 _ rfl).1; have d4 := (Q2.out.cel 4 _ rfl).1; clear R2 B2 z2 bb)
    | (refine wpList_load_mid rfl 57 (.tmp 5) rfl W.heap.size 0 rfl (twoC p q) _ (two_range (P2.out.cel 0 _ rfl).1 (P2.out.cel 1 _ rfl).1) Tryz.underlying57 rfl (by kernel_rfl) ?_)
    | (refine wpList_load_mid rfl 57 (.tmp 7) rfl (W.heap.size + 1) 0 rfl (twoC p q) _ (two_range (Q2.out.cel 0 _ rfl).1 (Q2.out.cel 1 _ rfl).1) Tryz.underlying57 rfl (by kernel_rfl) ?_)
    | (refine wpList_eql_w (by rfl) 57 _ (.tmp 6) (.tmp 8) rfl _ _ true rfl rfl (eql_refs p q) (by kernel_rfl) ?_)
    | (go_at_call 18; have _q := q1; clear q1 _q; refine (same_txt (H.out.1.below E2.out) (H.out.2.2.1.below E2.out)).mono ?_; rintro e w1 ⟨rfl, hw⟩; rw [hw, decide_eq_true rfl]; clear hw)
    | (go_at_call 18; refine (same_txt (H.out.2.1.below E2.out) (H.out.2.2.2.below E2.out)).mono ?_; rintro e w2 ⟨rfl, hw⟩; rw [hw, decide_eq_true rfl]; clear hw))
  exact bodyPost_ret (v := .bool true) (by simp [results, Tryz.results56, go_sem]) rfl ⟨rfl, E2.out⟩
/-- The pair that a Get tells, and its code. -/
def zP : Pr := ⟨.empty, .empty, false⟩
def GtIs (bd : List (List Pr)) (t : ByteArray) (p : Pr) (c : Int) : Prop := (p ∈ bd.flatten ∧ p.k = t ∧ c = 0) ∨ ((∀ q ∈ bd.flatten, q.k ≠ t) ∧ p = zP ∧ c = 6)
theorem gt_form {W : World} {bd : List (List Pr)} {t : ByteArray} {e : Ending} {w' : World} (h : GtP W bd t e w') : ∃ (r : PV) (c : Int), e = .returned (.tuple #[.agg r.cs.toArray, .int .i64 c]) ∧ PVOk w' [] r ∧ GtIs bd t r.p c ∧ Below W.heap.size W w' := by
  obtain ⟨hB, ⟨x, hx, h1, h2, rfl⟩ | ⟨hn, rfl⟩⟩ := h
  · exact ⟨x, 0, rfl, hx, .inl ⟨h1, h2, rfl⟩, hB⟩
  · exact ⟨⟨.slice none 0 0, .slice none 0 0, zP⟩, 6, rfl, ⟨Txt.nil _ _ _, Txt.nil _ _ _⟩, .inr ⟨hn, rfl, rfl⟩, hB⟩
set_option maxRecDepth 100000 in
set_option maxHeartbeats 2000000 in
theorem gets_ok (W : World) (gp : Option Addr) (rc : List Value) (s : ByteArray) (y : PV) (ec : Int) (bd : List (List Pr)) (hr : rc.length = 5) (hy : PVOk W [] y) (hG : ∀ u key, Below W.heap.size W u → Txt u [] key s → Calls Tryz.prog 28 #[.pointer gp, .agg rc.toArray, key] u (GtP u bd s)) (hw : ∀ p c, GtIs bd s p c → p = y.p ∧ c = ec) :
    Calls Tryz.prog 35 #[.pointer gp, .agg rc.toArray, .string s, .agg y.cs.toArray, .int .i64 ec] W fun e w' => e = .returned (.bool true) ∧ Below W.heap.size W w' := by
  have HY := hidIt hy
  have HG := hidIt hG
  have HW := hidIt hw
  have HR := hidIt (show (Tryz.prog.info? 74).map (·.size) = some rc.length by rw [hr]; exact run_size)
  clear hy hG hw hr
  have T1 : Hid True := trivial
  have T2 : Hid True := trivial
  go_enter Tryz.func35, Tryz.ntmps35
  go_wp2_with (first
    | (refine wpList_box_rec rfl 74 (.tmp 1) rfl rc rfl W.heap.size rfl ?_; intro W1 R1 B1 z1; have P1 := hidIt R1; have E1 := hidIt (And.intro B1 z1); clear R1 B1 z1)
    | (refine wpList_box_rec rfl 78 (.tmp 3) rfl y.cs rfl (W.heap.size + 1) E1.out.2 ?_; intro W2 R2 B2 z2; have bb : Below W1.heap.size W1 W2 := (by rw [E1.out.2]; exact B2); have E2 := hidIt (E1.out.1.trans (B2.mono (by omega))); have P2 := hidIt (P1.out.below bb); have Q2 := hidIt R2; obtain ⟨cap, W3, hr3, T3, B3⟩ := conv_txt W2 s [] (fun _ h => by cases h); have X3 := hidIt (And.intro T3 (And.intro (E2.out.trans (B3.mono E2.out.size)) (Q2.out.below B3))); clear R2 B2 z2 bb T3 B3)
    | (have _q := X3; refine wpList_load_rec rfl 74 (.tmp 6) rfl W.heap.size 0 rc rfl _ Tryz.underlying74 rfl HR.out P2.out ?_; clear _q)
    | (refine wpList_run_w rfl _ W3 (show (execOp _ _).run Tryz.prog _ = _ by unfold execOp; simp only [Act.eval]; simp [hr3, Result.andThen]) ?_; clear hr3)
    | (go_at_call 28; refine (HG.out W3 _ X3.out.2.1 X3.out.1).mono ?_; rintro e W4 hgt; obtain ⟨r, c, rfl, hrr, his, hb⟩ := gt_form hgt; obtain ⟨e1, e2⟩ := HW.out _ _ his; rw [e2]; have E4 := hidIt (X3.out.2.1.trans (hb.mono X3.out.2.1.size)); have Q4 := hidIt (X3.out.2.2.below hb); have R4 := hidIt (And.intro hrr e1); clear hgt hrr his hb e1 e2)
    | (have _q := R4; have _p := T2; clear T2 _p; refine wpList_alloc_rec rfl 78 rfl _ W4.heap.size rfl pair_zero ?_; intro W5 R5 B5 z5; have E5 := hidIt B5; have P5 := hidIt R5; clear R5 B5 z5)
    | (refine wpList_store_rec rfl 78 (.tmp 11) (.tmp 19) rfl W4.heap.size 0 _ r.cs rfl rfl P5.out rfl pair_size R4.out.1.one ?_; intro W6 R6 B6; have B46 := hidIt (E5.out.trans (B6.below (Nat.le_refl _) E5.out.size)); have E6 := hidIt (E4.out.trans (B46.out.mono E4.out.size)); have P6 := hidIt R6; have Q6 := hidIt (Q4.out.below B46.out); clear R6 B6)
    | (have _q := P6; refine wpList_load_rec rfl 78 (.tmp 11) rfl W4.heap.size 0 r.cs rfl _ Tryz.underlying78 rfl pair_size P6.out ?_; clear _q)
    | (have _q := P6; refine wpList_load_rec rfl 78 (.tmp 8) rfl (W.heap.size + 1) 0 y.cs rfl _ Tryz.underlying78 rfl pair_size Q6.out ?_; clear _q)
    | (go_at_call 40; refine (samePair_any (R4.out.1.below B46.out) (HY.out.below E6.out)).mono ?_; rintro e W7 ⟨rfl, hb⟩; rw [decide_eq_true R4.out.2]; have E7 := hidIt (E6.out.trans (hb.mono E6.out.size)); clear hb))
  exact bodyPost_ret (v := .bool true) (by simp [results, Tryz.results35, go_sem]) rfl ⟨rfl, E7.out⟩
end Go.Proofs.YtblphlcnbnklmaaGreatDoor
namespace Go.Proofs.YtblphlcnbnklmaaGreatDoor
open Go.RowKit Go.Maps
attribute [-go_sem] Builtin.append_
theorem anyH_S {P : Program} {md : Region.Mode} {ops : Array Oper} {Q : Exit → Go.Act → World → Prop} {S S' : World → Prop} (hS : ∀ w, S' w → S w) : ∀ (fuel : Nat) (listed : Array Bool) (a : Go.Act) (w : World), wpAnyH P md ops Q S' fuel listed a w → wpAnyH P md ops Q S fuel listed a w
  | 0, _, _, _, h => h
  | fuel + 1, _, _, _, h => ⟨h.1, fun i hi => wpOp_mono (fun a' w' h' => ⟨hS _ h'.1, anyH_S hS fuel _ a' w' h'.2⟩) (h.2 i hi)⟩
theorem abc_srt : Srt abcL := by unfold Srt abcL; decide
theorem abc_good : Good abcL := ⟨by decide, by decide, chn_of abc_srt, by decide⟩
theorem abc_len : (packG [] abcL).length = 1 := by decide
theorem abc_is_a : ∀ p c, GtIs (packG [] abcL) ⟨#[97]⟩ p c → p = ⟨b1 97, b1 49, false⟩ ∧ c = 0 := by
  rintro p c (⟨hp, hk, hc⟩ | ⟨hn, _⟩)
  · rw [Good.flat] at hp
    simp only [abcL, List.mem_cons, List.not_mem_nil, or_false] at hp
    rcases hp with rfl | rfl | rfl
    · exact ⟨rfl, hc⟩
    · exact absurd hk (by decide)
    · exact absurd hk (by decide)
  · rw [Good.flat] at hn
    exact absurd (by decide) (hn ⟨b1 97, b1 49, false⟩ (by simp [abcL]))
theorem abc_is_d : ∀ p c, GtIs (packG [] abcL) ⟨#[100]⟩ p c → p = zP ∧ c = 6 := by
  rintro p c (⟨hp, hk, hc⟩ | ⟨hn, h1, h2⟩)
  · rw [Good.flat] at hp
    simp only [abcL, List.mem_cons, List.not_mem_nil, or_false] at hp
    rcases hp with rfl | rfl | rfl <;> exact absurd hk (by decide)
  · exact ⟨h1, h2⟩
theorem abc_hd : hdK abcL = b1 97 ∧ hdK abcL.reverse = b1 99 ∧ (b1 97).size = 1 ∧ (b1 99).size = 1 := ⟨rfl, rfl, by decide, by decide⟩
end Go.Proofs.YtblphlcnbnklmaaGreatDoor
namespace Go.Proofs.YtblphlcnbnklmaaGreatDoor
open Go.RowKit Go.Maps
attribute [-go_sem] Builtin.append_
/-- What is built of the chapter's pairs. -/
def BabP (w0 W : World) (g d s m0 mm n : Nat) (e : Ending) (w' : World) : Prop := ∃ a C b D, e = .returned (.tuple #[.agg (runC 2 5 3 (.slice a 1 C) (.slice b 1 D)).toArray, .int .i64 0]) ∧ Txt w' [] (.slice a (b1 97).size C) (b1 97) ∧ Txt w' [] (.slice b (b1 99).size D) (b1 99) ∧ ∃ m b, TblAt w0 w' g d s m b mm n 5 abcL 1 ∧ Off [g, d, s, m0] W w' ∧ (m = m0 ∨ W.heap.size ≤ m) ∧ W.heap.size ≤ b
theorem bab_ok (w0 W : World) (g d s m0 b0 mm n B : Nat) (ps : List PV) (hN : GNew w0 W g d s m0 b0 mm (dsk0 (104 + 4 * n)) n (iniH n)) (hT : DTab w0) (h0 : 0 < w0.heap.size) (hn : 2 ≤ n) (hL : Lst W (some ⟨B, 0, none⟩) ps) (hp : ps.map PV.p = abcL) (hpn : ∀ x ∈ ps, PVOk W [g, d, s, m0] x) (han : B ∉ [g, d, s, m0]) : Calls Tryz.prog 27 #[.pointer (some ⟨g, 0, none⟩), .slice (some ⟨B, 0, none⟩) 3 3, .int .i64 5] W (BabP w0 W g d s m0 mm n) := by
  have hl : ps.length = 3 := by have := congrArg List.length hp; simpa [abcL] using this
  have := tbuild_ok w0 W g d s m0 b0 mm n 3 3 1 5 (some ⟨B, 0, none⟩) ps hN hT h0 hl hL (by rw [hp]; exact abc_good) hpn (fun z hz => by injection hz with hz; subst hz; exact han) (by rw [hp]; exact abc_len) (by omega) (by omega) (by omega)
  refine this.mono ?_
  rintro e w' ⟨a, C, b, D, rfl, h1, h2, h3⟩
  rw [hp] at h1 h2 h3 ⊢
  obtain ⟨e1, e2, e3, e4⟩ := abc_hd
  rw [e1] at h1 ⊢
  rw [e2] at h2 ⊢
  refine ⟨a, C, b, D, ?_, h1, h2, h3⟩
  rw [e3, e4]
  rfl
theorem first_of {ys : List PV} (h : ys.map PV.p = abcL) : ∃ y, ys[0]? = some y ∧ y.p = ⟨b1 97, b1 49, false⟩ := by
  cases ys with
  | nil => cases h
  | cons y r =>
    simp only [List.map_cons, abcL, List.cons.injEq] at h
    exact ⟨y, rfl, h.1⟩
theorem same_abc {W : World} {a b : Option Addr} {C D y1 y2 : Nat} (h1 : Txt W [] (.slice a (b1 97).size C) (b1 97)) (h2 : Txt W [] (.slice b (b1 99).size D) (b1 99)) (h3 : Txt W [] (.slice (some ⟨y1, 0, none⟩) 1 1) (b1 97)) (h4 : Txt W [] (.slice (some ⟨y2, 0, none⟩) 1 1) (b1 99)) : Calls Tryz.prog 56 #[.agg (runC 2 5 3 (.slice a 1 C) (.slice b 1 D)).toArray, .agg (runC 2 5 3 (.slice (some ⟨y1, 0, none⟩) 1 1) (.slice (some ⟨y2, 0, none⟩) 1 1)).toArray] W fun e w' => e = .returned (.bool true) ∧ Below W.heap.size W w' := by
  obtain ⟨_, _, e3, e4⟩ := abc_hd
  have := sameRun_ok (W := W) (p := 2) (q := 5) (n := 3) (s := b1 97) (t := b1 99) (a := a) (b := b) (C := C) (D := D) (a' := some ⟨y1, 0, none⟩) (b' := some ⟨y2, 0, none⟩) (C' := 1) (D' := 1) h1 h2 (by rw [e3]; exact h3) (by rw [e4]; exact h4)
  rw [e3, e4] at this
  exact this
theorem gets_a {w0 W : World} {g d s m b mm n : Nat} (h : TblAt w0 W g d s m b mm n 5 abcL 1) (f l : Value) {y : PV} (hy : PVOk W [] y) (e : y.p = ⟨b1 97, b1 49, false⟩) : Calls Tryz.prog 35 #[.pointer (some ⟨g, 0, none⟩), .agg (runC 2 5 3 f l).toArray, .string ⟨#[97]⟩, .agg y.cs.toArray, .int .i64 0] W fun e w' => e = .returned (.bool true) ∧ Below W.heap.size W w' :=
  gets_ok W (some ⟨g, 0, none⟩) (runC 2 5 3 f l) ⟨#[97]⟩ y 0 (packG [] abcL) rfl hy (fun _ key hu hk => tget_ok (h.below hu) 3 f l key [] ⟨#[97]⟩ hk) (fun p c hp => by rw [e]; exact abc_is_a p c hp)
theorem gets_d {w0 W : World} {g d s m b mm n : Nat} (h : TblAt w0 W g d s m b mm n 5 abcL 1) (f l : Value) : Calls Tryz.prog 35 #[.pointer (some ⟨g, 0, none⟩), .agg (runC 2 5 3 f l).toArray, .string ⟨#[100]⟩, .agg #[.slice none 0 0, .slice none 0 0, .bool false], .int .i64 6] W fun e w' => e = .returned (.bool true) ∧ Below W.heap.size W w' :=
  gets_ok W (some ⟨g, 0, none⟩) (runC 2 5 3 f l) ⟨#[100]⟩ ⟨.slice none 0 0, .slice none 0 0, zP⟩ 6 (packG [] abcL) rfl ⟨Txt.nil _ _ _, Txt.nil _ _ _⟩ (fun _ key hu hk => tget_ok (h.below hu) 3 f l key [] ⟨#[100]⟩ hk) (fun p c hp => abc_is_d p c hp)
set_option maxRecDepth 100000 in
set_option maxHeartbeats 4000000 in
theorem xawake_ok (W : World) (hT : DTab W) (h0 : 0 < W.heap.size) : Calls Tryz.prog 21 #[] W fun e w' => e = .returned (.bool true) ∧ Below W.heap.size W w' := by
  have HT := hidIt (And.intro hT h0)
  clear hT h0
  have K1 : Hid True := trivial
  have K2 : Hid True := trivial
  have K3 : Hid True := trivial
  go_enter Tryz.func21, Tryz.ntmps21
  go_wp2_with (first
    | (go_at_call 33; refine (lmade_ok W 8 (by decide) (by decide)).mono ?_; rintro e W1 ⟨g, d, s, m0, b0, mm, rfl, hN⟩; have N1 := hidIt hN; clear hN)
    | (have _q := N1; go_at_call 34; refine (abc_ok W1).mono ?_; rintro e W2 ⟨B, xs, rfl, hL, hm, hB0, hF, hb⟩; have N2 := hidIt (N1.out.below hb); have L2 := hidIt (And.intro hL (And.intro hm (And.intro hB0 hF))); have G2 := hidIt (fun z (hz : z ∈ [g, d, s, m0]) => N1.out.lt z (by simp only [List.mem_cons, List.not_mem_nil, or_false] at hz ⊢; omega)); clear hL hm hB0 hF hb _q)
    | (go_at_call 27; refine (bab_ok W W2 g d s m0 b0 mm 8 B xs N2.out HT.out.1 HT.out.2 (by decide) L2.out.1 L2.out.2.1 (fun x hx => L2.out.2.2.2 x hx [g, d, s, m0] G2.out) (fun q => by have := G2.out B q; have := L2.out.2.2.1; omega)).mono ?_; rintro e W3 ⟨ra, rC, sa, sC, rfl, hr1, hr2, m, b, hTb, _, _, _⟩; have T3 := hidIt hTb; have R3 := hidIt (And.intro hr1 hr2); clear hr1 hr2 hTb)
    | (have _q := T3; have _p := K1; clear K1 _p; refine wpList_alloc_rec rfl 74 rfl _ W3.heap.size rfl zero_run ?_; intro W4 R4 B4 z4; have E4 := hidIt B4; have P4 := hidIt R4; clear R4 B4 z4 _q)
    | (refine wpList_store_rec rfl 74 (.tmp 4) (.tmp 18) rfl W3.heap.size 0 _ (runC 2 5 3 (.slice ra 1 rC) (.slice sa 1 sC)) rfl rfl P4.out rfl run_size (runC_one _ _ _ _ _ _ _ _ _) ?_; intro W5 R5 B5; have B35 := E4.out.trans (B5.below (Nat.le_refl _) E4.out.size); have P5 := hidIt R5; have T5 := hidIt (T3.out.below B35); have X5 := hidIt (And.intro (R3.out.1.below B35) (R3.out.2.below B35)); clear R5 B5 B35; refine Held.out ?_))
  refine Held.mk ?_
  go_wp2_with (first
    | (have _q := T5; refine wpList_lit rfl 97 rfl ?_; intro X1a ha hb hz; have A1 := hidIt ha; have D1 := hidIt (And.intro hb hz); clear ha hb hz _q)
    | (refine wpList_conv rfl (.tmp 21) rfl W5.heap.size 97 (by decide) rfl A1.out ?_; intro X1 hb ht; have bb : Below W5.heap.size W5 X1 := D1.out.1.trans (hb.below (Nat.le_refl _) D1.out.1.size); have F1 := hidIt bb; have S1 := hidIt ht; clear hb ht bb A1 D1)
    | (refine wpList_lit rfl 99 rfl ?_; intro X2a ha hb hz; have A2 := hidIt ha; have D2 := hidIt (And.intro hb hz); clear ha hb hz)
    | (refine wpList_conv rfl (.tmp 23) rfl X1.heap.size 99 (by decide) rfl A2.out ?_; intro X2 hb ht; have bb : Below X1.heap.size X1 X2 := D2.out.1.trans (hb.below (Nat.le_refl _) D2.out.1.size); have F2 := hidIt (F1.out.trans (bb.mono F1.out.size)); have S2 := hidIt ht; have S1' := hidIt (S1.out.below bb); clear hb ht bb A2 D2; refine Held.out ?_))
  refine Held.mk ?_
  go_wp2_with (first
    | (have _q := S2; refine wpList_alloc_rec rfl 74 rfl _ X2.heap.size rfl zero_run ?_; intro W6 R6 B6 z6; have E6 := hidIt B6; have P6 := hidIt R6; clear R6 B6 z6 _q)
    | (refine wpList_store_rec rfl 74 (.tmp 6) (.tmp 25) rfl X2.heap.size 0 _ (runC 2 5 3 (.slice (some ⟨W5.heap.size, 0, none⟩) 1 1) (.slice (some ⟨X1.heap.size, 0, none⟩) 1 1)) rfl rfl P6.out rfl run_size (runC_one _ _ _ _ _ _ _ _ _) ?_; intro W7 R7 B7; have B27 := E6.out.trans (B7.below (Nat.le_refl _) E6.out.size); have B57 := hidIt (F2.out.trans (B27.mono F2.out.size)); have Q7 := hidIt R7; have P7 := hidIt (P5.out.below B57.out); have T7 := hidIt (T5.out.below B57.out); have X7 := hidIt (And.intro (X5.out.1.below B57.out) (X5.out.2.below B57.out)); have Y7 := hidIt (And.intro (S1'.out.below B27) (S2.out.below B27)); clear R7 B7 B27; refine Held.out ?_))
  have SR : Hid (∀ u, Below W7.heap.size W7 u → Calls Tryz.prog 56 #[.agg (runC 2 5 3 (.slice ra 1 rC) (.slice sa 1 sC)).toArray, .agg (runC 2 5 3 (.slice (some ⟨W5.heap.size, 0, none⟩) 1 1) (.slice (some ⟨X1.heap.size, 0, none⟩) 1 1)).toArray] u fun e w' => e = .returned (.bool true) ∧ Below u.heap.size u w') := hidIt (fun u hu => same_abc (X7.out.1.below hu) (X7.out.2.below hu) (Y7.out.1.below hu) (Y7.out.2.below hu))
  have GA := hidIt (fun u (y : PV) (hu : Below W7.heap.size W7 u) (hy : PVOk u [] y) (e : y.p = ⟨b1 97, b1 49, false⟩) => gets_a (T7.out.below hu) (.slice ra 1 rC) (.slice sa 1 sC) hy e)
  have GD := hidIt (fun u (hu : Below W7.heap.size W7 u) => gets_d (T7.out.below hu) (.slice ra 1 rC) (.slice sa 1 sC))
  have BB : Hid (∀ u, Below W7.heap.size W7 u → Below W.heap.size W u) := hidIt (fun u hu => T7.out.nw.st.bel.trans (hu.mono T7.out.nw.st.bel.size))
  clear X7 Y7 T7 T3 T5 R3 X5 S1 S1' S2 N1 N2 L2 G2 HT
  refine Held.mk ?_
  go_wp2_with fail
  refine wp_region_noPanic ?_
  refine wp_region_held_drew (S := fun w' => w'.rangeAt W3.heap.size 0 (runC 2 5 3 (.slice ra 1 rC) (.slice sa 1 sC)) ∧ w'.rangeAt X2.heap.size 0 (runC 2 5 3 (.slice (some ⟨W5.heap.size, 0, none⟩) 1 1) (.slice (some ⟨X1.heap.size, 0, none⟩) 1 1))) (by kernel_rfl) ?_ (fun hHeld => ?_)
  · exact ⟨(P7.out.below (Below.refl _ _).drew).1, (Q7.out.below (Below.refl _ _).drew).1⟩
  refine take_at (i := 0) (v := ?_) (some 26) rfl rfl (by kernel_rfl) (by kernel_rfl) (by kernel_rfl) (fun _ _ _ h => h) (Or.inl ⟨by rfl, ?_⟩) (by assumption) ?_
  rotate_left
  · (intro w hSw; (try dsimp only at hSw); go_simp; try with_reducible rfl)
  simp only [Act.put, List.setIfInBounds_toArray, List.set_cons_zero, List.set_cons_succ]
  refine take_at (i := 1) (v := ?_) (some 27) rfl rfl (by kernel_rfl) (by kernel_rfl) (by kernel_rfl) (fun _ _ _ h => h) (Or.inl ⟨by rfl, ?_⟩) (by assumption) ?_
  rotate_left
  · (intro w hSw; (try dsimp only at hSw); go_simp; try with_reducible rfl)
  simp only [Act.put, List.setIfInBounds_toArray, List.set_cons_zero, List.set_cons_succ]
  refine take_at (i := 2) (v := ?_) (some 28) rfl rfl (by kernel_rfl) (by kernel_rfl) (by kernel_rfl) (fun _ _ _ h => h) (Or.inl ⟨by rfl, ?_⟩) (by assumption) ?_
  rotate_left
  · (intro w hSw; (try dsimp only at hSw); go_simp; try with_reducible rfl)
  simp only [Act.put, List.setIfInBounds_toArray, List.set_cons_zero, List.set_cons_succ]
  refine take_at (i := 3) (v := _) (some 29) rfl rfl (by kernel_rfl) (by kernel_rfl) (by kernel_rfl) (fun _ _ _ h => h) (yieldsIf_load_mid (by rfl) _ _ rfl _ _ rfl _ _ (fun _ h => h.1) Tryz.underlying74 rfl (by kernel_rfl)) (by assumption) ?_
  simp only [Act.put, List.setIfInBounds_toArray, List.set_cons_zero, List.set_cons_succ]
  refine take_at (i := 4) (v := _) (some 30) rfl rfl (by kernel_rfl) (by kernel_rfl) (by kernel_rfl) (fun _ _ _ h => h) (yieldsIf_load_mid (by rfl) _ _ rfl _ _ rfl _ _ (fun _ h => h.2) Tryz.underlying74 rfl (by kernel_rfl)) (by assumption) ?_
  simp only [Act.put, List.setIfInBounds_toArray, List.set_cons_zero, List.set_cons_succ]
  have E8 := hidIt ((Below.refl W7.heap.size W7).drew)
  generalize W7.drew = W8 at *
  refine call_at (i := 5) (some 31) 56 _ _ rfl rfl rfl (by rfl) (by kernel_rfl) #[.agg (runC 2 5 3 (.slice ra 1 rC) (.slice sa 1 sC)).toArray, .agg (runC 2 5 3 (.slice (some ⟨W5.heap.size, 0, none⟩) 1 1) (.slice (some ⟨X1.heap.size, 0, none⟩) 1 1)).toArray] rfl Tryz.func56 (by kernel_rfl) (by kernel_rfl) ?_
  refine (SR.out W8 E8.out).mono ?_
  rintro e W9 ⟨rfl, hB9⟩
  have E9 := hidIt (E8.out.trans (hB9.mono E8.out.size))
  clear hB9
  refine ⟨_, rfl, ⟨(P7.out.below E9.out).1, (Q7.out.below E9.out).1⟩, fun hHeld => ?_⟩
  simp only [Act.put, List.setIfInBounds_toArray, List.set_cons_zero, List.set_cons_succ]
  refine take_at (i := 6) (v := ?_) (some 32) rfl rfl (by kernel_rfl) (by kernel_rfl) (by kernel_rfl) (fun _ _ _ h => h) (Or.inl ⟨by rfl, ?_⟩) (by assumption) ?_
  rotate_left
  · (intro w hSw; (try dsimp only at hSw); go_simp; try with_reducible rfl)
  simp only [Act.put, List.setIfInBounds_toArray, List.set_cons_zero, List.set_cons_succ]
  refine take_at (i := 7) (v := ?_) (some 33) rfl rfl (by kernel_rfl) (by kernel_rfl) (by kernel_rfl) (fun _ _ _ h => h) (Or.inl ⟨by rfl, ?_⟩) (by assumption) ?_
  rotate_left
  · (intro w hSw; (try dsimp only at hSw); go_simp; try with_reducible rfl)
  simp only [Act.put, List.setIfInBounds_toArray, List.set_cons_zero, List.set_cons_succ]
  refine take_at (i := 8) (v := ?_) (some 34) rfl rfl (by kernel_rfl) (by kernel_rfl) (by kernel_rfl) (fun _ _ _ h => h) (Or.inl ⟨by rfl, ?_⟩) (by assumption) ?_
  rotate_left
  · (intro w hSw; (try dsimp only at hSw); go_simp; try with_reducible rfl)
  simp only [Act.put, List.setIfInBounds_toArray, List.set_cons_zero, List.set_cons_succ]
  refine take_at (i := 9) (v := _) (some 35) rfl rfl (by kernel_rfl) (by kernel_rfl) (by kernel_rfl) (fun _ _ _ h => h) (yieldsIf_load_mid (by rfl) _ _ rfl _ _ rfl _ _ (fun _ h => h.1) Tryz.underlying74 rfl (by kernel_rfl)) (by assumption) ?_
  simp only [Act.put, List.setIfInBounds_toArray, List.set_cons_zero, List.set_cons_succ]
  refine call_at (i := 10) (some 36) 34 _ _ rfl rfl rfl (by rfl) (by kernel_rfl) #[] rfl Tryz.func34 (by kernel_rfl) (by kernel_rfl) ?_
  refine (abc_ok W9).mono ?_
  rintro e W10 ⟨B', ys, rfl, hL, hm, _, _, hb⟩
  have E10 := hidIt (E9.out.trans (hb.mono E9.out.size))
  obtain ⟨y0, hy0, hyp⟩ : ∃ y, ys[0]? = some y ∧ y.p = ⟨b1 97, b1 49, false⟩ := first_of hm
  have FY := hidIt (And.intro (hL.1 y0 (List.mem_of_getElem? hy0)) hyp)
  obtain ⟨b', o', hbo, hyr, hbl⟩ := hL.at 0 y0 hy0
  injection hbo with hbo
  injection hbo with hb1 hb2
  subst hb1 hb2
  have YR := hidIt (And.intro hyr hbl)
  clear hL hm hb hy0 hyp hyr hbl
  refine ⟨_, rfl, ⟨(P7.out.below E10.out).1, (Q7.out.below E10.out).1⟩, fun hHeld => ?_⟩
  refine anyH_S (S' := fun w' => (w'.rangeAt W3.heap.size 0 (runC 2 5 3 (.slice ra 1 rC) (.slice sa 1 sC)) ∧ w'.rangeAt X2.heap.size 0 (runC 2 5 3 (.slice (some ⟨W5.heap.size, 0, none⟩) 1 1) (.slice (some ⟨X1.heap.size, 0, none⟩) 1 1))) ∧ w'.rangeAt B' 0 y0.cs) (fun _ h => h.1) _ _ _ _ ?_
  have hHeld := And.intro hHeld YR.out.1
  simp only [Act.put, List.setIfInBounds_toArray, List.set_cons_zero, List.set_cons_succ]
  refine take_at (i := 11) (v := ?_) (some 37) rfl rfl (by kernel_rfl) (by kernel_rfl) (by kernel_rfl) (fun _ _ _ h => h) (Or.inl ⟨by rfl, ?_⟩) (by assumption) ?_
  rotate_left
  · (intro w hSw; (try dsimp only at hSw); go_simp; try with_reducible rfl)
  simp only [Act.put, List.setIfInBounds_toArray, List.set_cons_zero, List.set_cons_succ]
  refine take_at (i := 12) (v := _) (some 38) rfl rfl (by kernel_rfl) (by kernel_rfl) (by kernel_rfl) (fun _ _ _ h => h) (yieldsIf_load_mid (by rfl) _ _ rfl _ _ rfl _ _ (fun _ h => h.2) Tryz.underlying78 rfl pair_size) (by assumption) ?_
  simp only [Act.put, List.setIfInBounds_toArray, List.set_cons_zero, List.set_cons_succ]
  refine call_at (i := 13) (some 39) 35 _ _ rfl rfl rfl (by rfl) (by kernel_rfl) #[.pointer (some ⟨g, 0, none⟩), .agg (runC 2 5 3 (.slice ra 1 rC) (.slice sa 1 sC)).toArray, .string ⟨#[97]⟩, .agg y0.cs.toArray, .int .i64 0] rfl Tryz.func35 (by kernel_rfl) (by kernel_rfl) ?_
  refine (GA.out W10 y0 E10.out FY.out.1 FY.out.2).mono ?_
  rintro e W11 ⟨rfl, hB11⟩
  have E11 := hidIt (E10.out.trans (hB11.mono E10.out.size))
  have s11 := hidIt hB11.size
  have r11 : W11.rangeAt B' 0 y0.cs := fun j v hj => (hB11.cell (p := ⟨B', 0 + j, none⟩) YR.out.2).trans (YR.out.1 j v hj)
  clear hB11
  refine ⟨_, rfl, ⟨⟨(P7.out.below E11.out).1, (Q7.out.below E11.out).1⟩, r11⟩, fun hHeld => ?_⟩
  refine anyH_S (S' := fun w' => w'.rangeAt W3.heap.size 0 (runC 2 5 3 (.slice ra 1 rC) (.slice sa 1 sC)) ∧ (w'.rangeAt X2.heap.size 0 (runC 2 5 3 (.slice (some ⟨W5.heap.size, 0, none⟩) 1 1) (.slice (some ⟨X1.heap.size, 0, none⟩) 1 1)) ∧ w'.rangeAt B' 0 y0.cs)) (fun _ h => ⟨⟨h.1, h.2.1⟩, h.2.2⟩) _ _ _ _ ?_
  have hHeld := And.intro hHeld.1.1 (And.intro hHeld.1.2 hHeld.2)
  simp only [Act.put, List.setIfInBounds_toArray, List.set_cons_zero, List.set_cons_succ]
  refine take_at (i := 14) (v := ?_) (some 40) rfl rfl (by kernel_rfl) (by kernel_rfl) (by kernel_rfl) (fun _ _ _ h => h) (Or.inl ⟨by rfl, ?_⟩) (by assumption) ?_
  rotate_left
  · (intro w hSw; (try dsimp only at hSw); go_simp; try with_reducible rfl)
  simp only [Act.put, List.setIfInBounds_toArray, List.set_cons_zero, List.set_cons_succ]
  refine take_at (i := 15) (v := ?_) (some 41) rfl rfl (by kernel_rfl) (by kernel_rfl) (by kernel_rfl) (fun _ _ _ h => h) (Or.inl ⟨by rfl, ?_⟩) (by assumption) ?_
  rotate_left
  · (intro w hSw; (try dsimp only at hSw); go_simp; try with_reducible rfl)
  simp only [Act.put, List.setIfInBounds_toArray, List.set_cons_zero, List.set_cons_succ]
  refine take_at (i := 16) (v := ?_) (some 42) rfl rfl (by kernel_rfl) (by kernel_rfl) (by kernel_rfl) (fun _ _ _ h => h) (Or.inl ⟨by rfl, ?_⟩) (by assumption) ?_
  rotate_left
  · (intro w hSw; (try dsimp only at hSw); go_simp; try with_reducible rfl)
  simp only [Act.put, List.setIfInBounds_toArray, List.set_cons_zero, List.set_cons_succ]
  refine take_at (i := 17) (v := _) (some 43) rfl rfl (by kernel_rfl) (by kernel_rfl) (by kernel_rfl) (fun _ _ _ h => h) (yieldsIf_load_mid (by rfl) _ _ rfl _ _ rfl _ _ (fun _ h => h.1) Tryz.underlying74 rfl (by kernel_rfl)) (by assumption) ?_
  simp only [Act.put, List.setIfInBounds_toArray, List.set_cons_zero, List.set_cons_succ]
  refine take_at (i := 18) (v := ?_) (some 44) rfl rfl (by kernel_rfl) (by kernel_rfl) (by kernel_rfl) (fun _ _ _ h => h) (Or.inl ⟨by rfl, ?_⟩) (by assumption) ?_
  rotate_left
  · (intro w hSw; (try dsimp only at hSw); go_simp; try with_reducible rfl)
  simp only [Act.put, List.setIfInBounds_toArray, List.set_cons_zero, List.set_cons_succ]
  refine call_at (i := 19) (some 45) 35 _ _ rfl rfl rfl (by rfl) (by kernel_rfl) #[.pointer (some ⟨g, 0, none⟩), .agg (runC 2 5 3 (.slice ra 1 rC) (.slice sa 1 sC)).toArray, .string ⟨#[100]⟩, .agg #[.slice none 0 0, .slice none 0 0, .bool false], .int .i64 6] rfl Tryz.func35 (by kernel_rfl) (by kernel_rfl) ?_
  refine (GD.out W11 E11.out).mono ?_
  rintro e W12 ⟨rfl, hB12⟩
  have E12 := hidIt (E11.out.trans (hB12.mono E11.out.size))
  have r12 : W12.rangeAt B' 0 y0.cs := fun j v hj => (hB12.cell (p := ⟨B', 0 + j, none⟩) (Nat.lt_of_lt_of_le YR.out.2 s11.out)).trans (r11 j v hj)
  clear hB12
  refine ⟨_, rfl, ⟨(P7.out.below E12.out).1, (Q7.out.below E12.out).1, r12⟩, fun hHeld => ?_⟩
  simp only [Act.put, List.setIfInBounds_toArray, List.set_cons_zero, List.set_cons_succ]
  refine take_at (i := 20) (v := ?_) (some 46) rfl rfl (by kernel_rfl) (by kernel_rfl) (by kernel_rfl) (fun _ _ _ h => h) (Or.inl ⟨by rfl, ?_⟩) (by assumption) ?_
  rotate_left
  · (intro w hSw; (try dsimp only at hSw); go_simp; try with_reducible rfl)
  simp only [Act.put, List.setIfInBounds_toArray, List.set_cons_zero, List.set_cons_succ]
  refine take_at (i := 21) (v := ?_) (some 0) rfl rfl (by kernel_rfl) (by kernel_rfl) (by kernel_rfl) (fun _ _ _ h => h) (Or.inl ⟨by rfl, ?_⟩) (by assumption) ?_
  rotate_left
  · (intro w hSw; (try dsimp only at hSw); go_simp; try with_reducible rfl)
  simp only [Act.put, List.setIfInBounds_toArray, List.set_cons_zero]
  refine wpAnyH_done (by kernel_rfl) ?_ _
  refine NoPanic.normal ?_
  have FIN := hidIt (BB.out W12 E12.out)
  clear hHeld r11 r12
  go_wp2_with fail
  exact bodyPost_ret (v := .bool true) (by simp [results, Tryz.results21, go_sem]) rfl ⟨rfl, FIN.out⟩
end Go.Proofs.YtblphlcnbnklmaaGreatDoor
namespace Go.Proofs.YtblphlcnbnklmaaGreatDoor
open Go.RowKit Go.Maps
/-- A pointer that is nil, or is to a zero Grid. -/
def NoG (W : World) (p : Option Addr) : Prop := p = none ∨ ∃ z, p = some ⟨z, 0, none⟩ ∧ W.cell? ⟨z, 0, none⟩ = some (.pointer none) ∧ z < W.heap.size
theorem NoG.below {W W' : World} {p : Option Addr} (h : NoG W p) (hB : Below W.heap.size W W') : NoG W' p := by
  rcases h with rfl | ⟨z, rfl, h1, h2⟩
  · exact .inl rfl
  · exact .inr ⟨z, rfl, (hB.cell (p := ⟨z, 0, none⟩) h2).trans h1, Nat.lt_of_lt_of_le h2 hB.size⟩
set_option maxRecDepth 100000 in
theorem gmade_none (W : World) (p : Option Addr) (h : NoG W p) : Calls Tryz.prog 88 #[.pointer p] W fun e w' => e = .returned (.bool false) ∧ w' = W := by
  rcases h with rfl | ⟨z, rfl, c0, _⟩
  · go_enter Tryz.func88, Tryz.ntmps88
    go_wp2_with fail
    go_ret
    exact ⟨rfl, rfl⟩
  · have hp := eqlg_nil ⟨z, 0, none⟩
    go_enter Tryz.func88, Tryz.ntmps88
    go_wp2_with fail
    go_ret
    exact ⟨rfl, rfl⟩
theorem gready_none (W : World) (p : Option Addr) (h : NoG W p) : Calls Tryz.prog 119 #[.pointer p] W fun e w' => e = .returned (.int .i64 1) ∧ w' = W := by
  have M := hidIt (gmade_none W p h)
  clear h
  go_enter Tryz.func119, Tryz.ntmps119
  go_wp2_with (go_at_call 88; refine M.out.mono ?_; rintro e w1 ⟨rfl, hw⟩; rw [hw]; clear hw w1)
  go_ret
  exact ⟨rfl, rfl⟩
theorem gasked_none (W : World) (a : Option Addr) (x y : Int) (h : NoG W a) : Calls Tryz.prog 153 #[.pointer a, .agg (twoC x y).toArray] W fun e w' => e = .returned (.int .i64 1) ∧ Below W.heap.size W w' := by
  have H := hidIt h
  clear h
  go_enter Tryz.func153, Tryz.ntmps153
  go_wp2_with (first
    | (refine wpList_box_rec rfl 57 (.tmp 1) rfl (twoC x y) rfl W.heap.size rfl ?_; intro W1 R1 B1 z1; have E1 := hidIt B1; clear R1 B1 z1)
    | (go_at_call 119; refine (gready_none W1 a (H.out.below E1.out)).mono ?_; rintro e w1 ⟨rfl, hw⟩; rw [hw]; clear hw w1))
  go_ret
  exact ⟨rfl, E1.out⟩
set_option maxRecDepth 100000 in
theorem gwrite_none (W : World) (p a b : Option Addr) (kind stamp : Int) (k C n D : Nat) (h : NoG W p) : Calls Tryz.prog 73 #[.pointer p, .int .i64 kind, .slice a k C, .slice b n D, .int .i64 stamp] W fun e w' => e = .returned (.tuple #[.agg (twoC 0 0).toArray, .int .i64 1]) ∧ Below W.heap.size W w' := by
  have H := hidIt h
  clear h
  go_enter Tryz.func73, Tryz.ntmps73
  go_wp2_with (first
    | (refine wpList_alloc_rec rfl 57 rfl (twoC 0 0) W.heap.size rfl zero_ref ?_; intro W1 R1 B1 z1; have E1 := hidIt B1; have R11 := hidIt R1; clear R1 B1 z1)
    | (go_at_call 119; refine (gready_none W1 p (H.out.below E1.out)).mono ?_; rintro e w1 ⟨rfl, hw⟩; rw [hw]; clear hw w1)
    | (refine wpList_build_to rfl 57 #[] rfl (twoC 0 0).toArray (by kernel_rfl) ?_)
    | (refine wpList_store_rec rfl 57 (.tmp 10) (.tmp 24) rfl W.heap.size 0 _ (twoC 0 0) rfl rfl R11.out rfl (by kernel_rfl) (twoC_one _ _) ?_; intro W2 R2 B2))
  have hl := R2.run_load 57 _ Tryz.underlying57 rfl (by kernel_rfl)
  refine bodyPost_ret (v := .tuple #[.agg (twoC 0 0).toArray, .int .i64 1]) (by simp [results, Tryz.results73, asAddr, hl]) rfl ⟨rfl, E1.out.trans (B2.below (Nat.le_refl _) E1.out.size)⟩
set_option maxRecDepth 100000 in
theorem gfind_none (W : World) (a : Option Addr) (x y : Int) (h : NoG W a) : Calls Tryz.prog 92 #[.pointer a, .agg (twoC x y).toArray] W fun e w' => e = .returned (.tuple #[blkV blk0 none 0 none 0, .slice none 0 0, .int .i64 1]) ∧ Below W.heap.size W w' := by
  have H := hidIt h
  clear h
  have T1 : Hid True := trivial
  go_enter Tryz.func92, Tryz.ntmps92
  go_wp2_with (first
    | (refine wpList_box_rec rfl 57 (.tmp 1) rfl (twoC x y) rfl W.heap.size rfl ?_; intro W1 R1 B1 z1)
    | (have _q := T1; clear T1; refine wpList_alloc_rec rfl 107 rfl (blkC blk0 none 0 none 0) (W.heap.size + 1) z1 zero_blk ?_; intro W2 R2 B2 z2
       have E2 := hidIt (B1.trans (B2.mono (by omega))); have P2 := hidIt (R1.below (by rw [z1]; exact B2)); have Q2 := hidIt R2; clear R1 B1 z1 R2 B2 z2)
    | (refine wpList_load_rec rfl 57 (.tmp 3) rfl W.heap.size 0 (twoC x y) rfl _ Tryz.underlying57 rfl (by kernel_rfl) P2.out ?_)
    | (go_at_call 153; refine (gasked_none _ a x y (H.out.below E2.out)).mono ?_; rintro e w3 ⟨rfl, hB⟩; have E3 := hidIt (below_sh (Nat.le_refl _) E2.out hB); have Q3 := hidIt (Q2.out.below hB); clear hB E2 Q2)
    | (refine wpList_build_to rfl 107 #[] rfl (blkC blk0 none 0 none 0).toArray (by kernel_rfl) ?_)
    | (refine wpList_store_rec rfl 107 (.tmp 4) (.tmp 16) rfl (W.heap.size + 1) 0 _ (blkC blk0 none 0 none 0) rfl rfl Q3.out rfl (by kernel_rfl) (blkC_one _ _ _ _ _) ?_; intro W4 R4 B4))
  have hl := R4.run_load 107 _ Tryz.underlying107 rfl (by kernel_rfl)
  refine bodyPost_ret (v := .tuple #[.agg (blkC blk0 none 0 none 0).toArray, .slice none 0 0, .int .i64 1]) (by simp [results, Tryz.results92, asAddr, hl]) rfl ⟨rfl, E3.out.trans (B4.below (by omega) E3.out.size)⟩
set_option maxRecDepth 100000 in
theorem gread_none (W : World) (a : Option Addr) (p q : Int) (h : NoG W a) : Calls Tryz.prog 139 #[.pointer a, .agg (twoC p q).toArray] W fun e w' => e = .returned (.tuple #[blkV blk0 none 0 none 0, .int .i64 1]) ∧ Below W.heap.size W w' := by
  have H := hidIt h
  clear h
  have T1 : Hid True := trivial
  have T2 : Hid True := trivial
  go_enter Tryz.func139, Tryz.ntmps139
  go_wp2_with (first
    | (refine wpList_box_rec rfl 57 (.tmp 1) rfl (twoC p q) rfl W.heap.size rfl ?_; intro W1 R1 B1 z1)
    | (have _q := T1; clear T1; refine wpList_alloc_rec rfl 107 rfl (blkC blk0 none 0 none 0) (W.heap.size + 1) z1 zero_blk ?_; intro W2 R2 B2 z2
       have E2 := hidIt (B1.trans (B2.mono (by omega))); have P2 := hidIt (R1.below (by rw [z1]; exact B2)); have Q2 := hidIt R2; have Z2 := hidIt z2; clear R1 B1 z1 R2 B2 z2)
    | (refine wpList_load_rec rfl 57 (.tmp 3) rfl W.heap.size 0 (twoC p q) rfl _ Tryz.underlying57 rfl (by kernel_rfl) P2.out ?_)
    | (go_at_call 92; refine (gfind_none _ a p q (H.out.below E2.out)).mono ?_; rintro e w4 ⟨rfl, hB⟩; unfold blkV; have E4 := hidIt (below_sh (Nat.le_refl _) E2.out hB); have Q4 := hidIt (Q2.out.below hB); have Z4 : Hid (W.heap.size + 2 ≤ w4.heap.size) := hidIt (by have := Z2.out; have := hB.size; omega); clear hB E2 P2 Q2)
    | (have _q := Z4; have _p := T2; clear T2 _p; refine wpList_alloc_rec rfl 107 rfl (blkC blk0 none 0 none 0) w4.heap.size rfl zero_blk ?_; intro W5 R5 B5 z5; have E5 := hidIt (below_sh (Nat.le_refl _) E4.out B5); have Q5 := hidIt (Q4.out.below B5); clear E4 Q4 B5 z5)
    | (refine wpList_store_rec rfl 107 (.tmp 6) (.tmp 13) rfl w4.heap.size 0 _ (blkC blk0 none 0 none 0) rfl rfl R5 rfl (by kernel_rfl) (blkC_one _ _ _ _ _) ?_; intro W6 R6 B6; have E6 := hidIt (E5.out.trans (B6.below (by have := Z4.out; omega) E5.out.size)); have Q6 := hidIt (Q5.out.but B6 (by have := Z4.out; omega)); have R66 := hidIt R6; clear R5 R6 B6 E5 Q5)
    | (refine wpList_load_rec rfl 107 (.tmp 6) rfl w4.heap.size 0 (blkC blk0 none 0 none 0) rfl _ Tryz.underlying107 rfl (by kernel_rfl) R66.out ?_)
    | (refine wpList_store_rec rfl 107 (.tmp 4) (.tmp 16) rfl (W.heap.size + 1) 0 _ (blkC blk0 none 0 none 0) rfl rfl Q6.out rfl (by kernel_rfl) (blkC_one _ _ _ _ _) ?_; intro W7 R7 B7))
  have hl := R7.run_load 107 _ Tryz.underlying107 rfl (by kernel_rfl)
  refine bodyPost_ret (v := .tuple #[.agg (blkC blk0 none 0 none 0).toArray, .int .i64 1]) (by simp [results, Tryz.results139, asAddr, hl]) rfl ⟨rfl, E6.out.trans (B7.below (by omega) E6.out.size)⟩
set_option maxRecDepth 100000 in
theorem graw_none (W : World) (a : Option Addr) (p q : Int) (h : NoG W a) : Calls Tryz.prog 43 #[.pointer a, .agg (twoC p q).toArray] W fun e w' => e = .returned (.tuple #[.slice none 0 0, .int .i64 1]) ∧ Below W.heap.size W w' := by
  have H := hidIt h
  clear h
  go_enter Tryz.func43, Tryz.ntmps43
  go_wp2_with (first
    | (refine wpList_box_rec rfl 57 (.tmp 1) rfl (twoC p q) rfl W.heap.size rfl ?_; intro W1 R1 B1 z1; have E2 := hidIt B1; have P2 := hidIt R1; clear R1 B1 z1)
    | (refine wpList_load_rec rfl 57 (.tmp 3) rfl W.heap.size 0 (twoC p q) rfl _ Tryz.underlying57 rfl (by kernel_rfl) P2.out ?_)
    | (go_at_call 92; refine (gfind_none _ a p q (H.out.below E2.out)).mono ?_; rintro e w4 ⟨rfl, hB⟩; unfold blkV; have E4 := hidIt (below_sh (Nat.le_refl _) E2.out hB); clear hB E2 P2)
    | (refine wpList_alloc_rec rfl 107 rfl (blkC blk0 none 0 none 0) w4.heap.size rfl zero_blk ?_; intro W5 R5 B5 z5; have E5 := hidIt (below_sh (Nat.le_refl _) E4.out B5); have Z5 := hidIt (E4.out.size); clear E4 B5 z5)
    | (refine wpList_store_rec rfl 107 (.tmp 6) (.tmp 13) rfl w4.heap.size 0 _ (blkC blk0 none 0 none 0) rfl rfl R5 rfl (by kernel_rfl) (blkC_one _ _ _ _ _) ?_; intro W6 R6 B6; have E6 := hidIt (E5.out.trans (B6.below Z5.out E5.out.size)); clear R5 R6 B6 E5))
  go_ret2
  exact ⟨rfl, E6.out⟩
set_option maxRecDepth 100000 in
theorem gsettle_none (W : World) (p : Option Addr) (h : NoG W p) : Calls Tryz.prog 42 #[.pointer p] W fun e w' => e = .returned (.int .i64 0) ∧ w' = W := by
  have M := hidIt (gmade_none W p h)
  clear h
  go_enter Tryz.func42, Tryz.ntmps42
  go_wp2_with (go_at_call 88; refine M.out.mono ?_; rintro e w1 ⟨rfl, hw⟩; rw [hw]; clear hw w1)
  go_ret
  exact ⟨rfl, rfl⟩
set_option maxRecDepth 100000 in
theorem gfree_none (W : World) (p : Option Addr) (h : NoG W p) : Calls Tryz.prog 75 #[.pointer p] W fun e w' => e = .returned (.slice none 0 0) ∧ w' = W := by
  have M := hidIt (gmade_none W p h)
  clear h
  go_enter Tryz.func75, Tryz.ntmps75
  go_wp2_with (go_at_call 88; refine M.out.mono ?_; rintro e w1 ⟨rfl, hw⟩; rw [hw]; clear hw w1)
  go_ret
  exact ⟨rfl, rfl⟩
set_option maxRecDepth 100000 in
theorem gwanted_none (W : World) (p : Option Addr) (h : NoG W p) : Calls Tryz.prog 77 #[.pointer p] W fun e w' => e = .returned (.slice none 0 0) ∧ w' = W := by
  have M := hidIt (gmade_none W p h)
  clear h
  go_enter Tryz.func77, Tryz.ntmps77
  go_wp2_with (go_at_call 88; refine M.out.mono ?_; rintro e w1 ⟨rfl, hw⟩; rw [hw]; clear hw w1)
  go_ret
  exact ⟨rfl, rfl⟩
set_option maxRecDepth 100000 in
theorem gcounts_none (W : World) (p : Option Addr) (h : NoG W p) : Calls Tryz.prog 39 #[.pointer p] W fun e w' => e = .returned (.tuple #[.int .i64 0, .int .i64 0, .int .i64 0]) ∧ w' = W := by
  have M := hidIt (gmade_none W p h)
  clear h
  go_enter Tryz.func39, Tryz.ntmps39
  go_wp2_with (go_at_call 88; refine M.out.mono ?_; rintro e w1 ⟨rfl, hw⟩; rw [hw]; clear hw w1)
  go_ret3
  exact ⟨rfl, rfl⟩
set_option maxRecDepth 100000 in
theorem grelease_none (W : World) (a : Option Addr) (p q : Int) (h : NoG W a) : Calls Tryz.prog 86 #[.pointer a, .agg (twoC p q).toArray] W fun e w' => e = .returned (.int .i64 1) ∧ Below W.heap.size W w' := by
  have H := hidIt h
  clear h
  go_enter Tryz.func86, Tryz.ntmps86
  go_wp2_with (first
    | (refine wpList_box_rec rfl 57 (.tmp 1) rfl (twoC p q) rfl W.heap.size rfl ?_; intro W1 R1 B1 z1; have E2 := hidIt B1; clear R1 B1 z1)
    | (go_at_call 88; refine (gmade_none W1 a (H.out.below E2.out)).mono ?_; rintro e w1 ⟨rfl, hw⟩; rw [hw]; clear hw w1))
  go_ret
  exact ⟨rfl, E2.out⟩
theorem gup_none (W : World) (p : Option Addr) (h : NoD W p) : Calls Tryz.prog 102 #[.pointer p] W fun e w' => e = .returned (.int .i64 1) ∧ w' = W := by
  have M := hidIt (dread_no W p 0 0 h)
  clear h
  go_enter Tryz.func102, Tryz.ntmps102
  go_wp2_with (go_at_call 45; refine M.out.mono ?_; rintro e w1 ⟨rfl, hw⟩; rw [hw]; clear hw w1)
  go_ret
  exact ⟨rfl, rfl⟩
theorem fits_none (W : World) (p : Option Addr) (n : Int) (h : NoD W p) : Calls Tryz.prog 59 #[.pointer p, .int .i64 n] W fun e w' => e = .returned (.int .i64 1) ∧ w' = W := by
  have M := hidIt (gup_none W p h)
  clear h
  go_enter Tryz.func59, Tryz.ntmps59
  go_wp2_with (go_at_call 102; refine M.out.mono ?_; rintro e w1 ⟨rfl, hw⟩; rw [hw]; clear hw w1)
  go_ret
  exact ⟨rfl, rfl⟩
theorem gnew_none (W : World) (p : Option Addr) (n : Int) (h : NoD W p) : Calls Tryz.prog 23 #[.pointer p, .int .i64 n] W fun e w' => e = .returned (.tuple #[.pointer none, .int .i64 1]) ∧ w' = W := by
  have M := hidIt (fits_none W p n h)
  clear h
  go_enter Tryz.func23, Tryz.ntmps23
  go_wp2_with (go_at_call 59; refine M.out.mono ?_; rintro e w1 ⟨rfl, hw⟩; rw [hw]; clear hw w1)
  go_ret2
  exact ⟨rfl, rfl⟩
end Go.Proofs.YtblphlcnbnklmaaGreatDoor
namespace Go.Proofs.YtblphlcnbnklmaaGreatDoor
open Go.RowKit Go.Maps
attribute [-go_sem] Builtin.append_
theorem pair3_one : ∀ u ∈ ([.slice none 0 0, .slice none 0 0, .bool false] : List Value), u.oneCell' = true := by
  intro u hu; simp only [List.mem_cons, List.not_mem_nil, or_false] at hu; rcases hu with rfl | rfl | rfl <;> rfl
theorem idx2_one : ∀ u ∈ ([.slice none 0 0, .slice none 0 0] : List Value), u.oneCell' = true := by
  intro u hu; simp only [List.mem_cons, List.not_mem_nil, or_false] at hu; rcases hu with rfl | rfl <;> rfl
set_option maxRecDepth 100000 in
set_option maxHeartbeats 1000000 in
theorem xri_none (W : World) (gp : Option Addr) (p q : Int) (h : NoG W gp) : Calls Tryz.prog 81 #[.pointer gp, .agg (twoC p q).toArray] W fun e w' => e = .returned (.tuple #[.agg #[.slice none 0 0, .slice none 0 0], .int .i64 1]) ∧ Below W.heap.size W w' := by
  have HG := hidIt h
  clear h
  have T1 : Hid True := trivial
  have T2 : Hid True := trivial
  go_enter Tryz.func81, Tryz.ntmps81
  go_wp2_with (first
    | (refine wpList_box_rec rfl 57 (.tmp 1) rfl (twoC p q) rfl W.heap.size rfl ?_; intro W1 R1 B1 z1)
    | (have _q := T1; clear T1; refine wpList_alloc_rec rfl 147 rfl _ (W.heap.size + 1) z1 zero_idx ?_; intro W2 R2 B2 z2; have E2 := hidIt (B1.trans (B2.mono (by omega))); have P2 := hidIt (R1.below (by rw [z1]; exact B2)); have Q2 := hidIt R2; clear R1 B1 z1 R2 B2 z2)
    | (refine wpList_load_rec rfl 57 (.tmp 3) rfl W.heap.size 0 (twoC p q) rfl _ Tryz.underlying57 rfl (by kernel_rfl) P2.out ?_)
    | (go_at_call 139; refine (gread_none W2 gp p q (HG.out.below E2.out)).mono ?_; rintro e W3 ⟨rfl, hB⟩; unfold blkV; have E3 := hidIt (E2.out.trans (hB.mono E2.out.size)); have Q3 := hidIt (Q2.out.below hB); clear hB)
    | (have _q := Q3; have _p := T2; clear T2 _p; refine wpList_alloc_rec rfl 107 rfl (blkC blk0 none 0 none 0) W3.heap.size rfl zero_blk ?_; intro W4 R4 B4 z4; have E4 := hidIt B4; have P4 := hidIt R4; clear R4 B4 z4)
    | (refine wpList_store_rec rfl 107 (.tmp 6) (.tmp 14) rfl W3.heap.size 0 _ (blkC blk0 none 0 none 0) rfl rfl P4.out rfl (by kernel_rfl) (blkC_one _ _ _ _ _) ?_; intro W5 R5 B5; have b5 := E4.out.trans (B5.below (Nat.le_refl _) E4.out.size); have E5 := hidIt (E3.out.trans (b5.mono E3.out.size)); have Q5 := hidIt (Q3.out.below b5); clear R5 B5 b5)
    | (refine wpList_store_rec rfl 147 (.tmp 4) (.tmp 18) rfl (W.heap.size + 1) 0 _ [.slice none 0 0, .slice none 0 0] rfl rfl Q5.out rfl idx_size idx2_one ?_; intro W7 R7 B7; have P7 := hidIt R7; have B77 := hidIt B7; clear R7 B7))
  have hl := P7.out.run_load 147 _ Tryz.underlying147 rfl idx_size
  exact bodyPost_ret (v := .tuple #[.agg #[.slice none 0 0, .slice none 0 0], .int .i64 1]) (by simp [results, Tryz.results81, asAddr, hl]) rfl ⟨rfl, E5.out.trans (B77.out.below (by omega) E5.out.size)⟩
set_option maxRecDepth 100000 in
theorem xbuild_none (W : World) (gp a : Option Addr) (n C : Nat) (st : Int) (h : NoG W gp) : Calls Tryz.prog 27 #[.pointer gp, .slice a n C, .int .i64 st] W fun e w' => e = .returned (.tuple #[.agg (runC 0 0 0 (.slice none 0 0) (.slice none 0 0)).toArray, .int .i64 1]) ∧ Below W.heap.size W w' := by
  have HG := hidIt h
  clear h
  go_enter Tryz.func27, Tryz.ntmps27
  go_wp2_with (first
    | (refine wpList_alloc_rec rfl 74 rfl _ W.heap.size rfl zero_run ?_; intro W1 R1 B1 z1; have E1 := hidIt B1; have P1 := hidIt R1; clear R1 B1 z1)
    | (go_at_call 39; refine (gcounts_none W1 gp (HG.out.below E1.out)).mono ?_; rintro e w1 ⟨rfl, hw⟩; rw [hw]; clear hw w1)
    | (refine wpList_store_rec rfl 74 (.tmp 6) (.tmp 28) rfl W.heap.size 0 _ (runC 0 0 0 (.slice none 0 0) (.slice none 0 0)) rfl rfl P1.out rfl run_size (runC_one _ _ _ _ _ _ _ _ _) ?_; intro W3 R3 B3; have P3 := hidIt R3; have B33 := hidIt B3; clear R3 B3))
  have hl := P3.out.run_load 74 _ Tryz.underlying74 rfl run_size
  exact bodyPost_ret (v := .tuple #[.agg (runC 0 0 0 (.slice none 0 0) (.slice none 0 0)).toArray, .int .i64 1]) (by simp [results, Tryz.results27, asAddr, hl]) rfl ⟨rfl, E1.out.trans (B33.out.below (Nat.le_refl _) E1.out.size)⟩
set_option maxRecDepth 100000 in
set_option maxHeartbeats 1000000 in
theorem xget_none (W : World) (gp : Option Addr) (p q c : Int) (f l key : Value) (h : NoG W gp) : Calls Tryz.prog 28 #[.pointer gp, .agg (runC p q c f l).toArray, key] W fun e w' => e = .returned (.tuple #[.agg #[.slice none 0 0, .slice none 0 0, .bool false], .int .i64 1]) ∧ Below W.heap.size W w' := by
  have HG := hidIt h
  clear h
  have T1 : Hid True := trivial
  have T2 : Hid True := trivial
  go_enter Tryz.func28, Tryz.ntmps28
  go_wp2_with (first
    | (refine wpList_box_rec rfl 74 (.tmp 1) rfl (runC p q c f l) rfl W.heap.size rfl ?_; intro W1 R1 B1 z1)
    | (have _q := T1; clear T1; refine wpList_alloc_rec rfl 78 rfl _ (W.heap.size + 1) z1 pair_zero ?_; intro W2 R2 B2 z2; have b12 : Below W1.heap.size W1 W2 := (by rw [z1]; exact B2); have E2 := hidIt (B1.trans (B2.mono (by omega))); have P2 := hidIt (R1.below b12); have Q2 := hidIt R2; clear R1 B1 z1 R2 B2 z2 b12)
    | (refine wpList_load_mid rfl 57 (.tmp 15) rfl W.heap.size 0 rfl (twoC p q) _ (two_range (P2.out.cel 0 _ rfl).1 (P2.out.cel 1 _ rfl).1) Tryz.underlying57 rfl (by kernel_rfl) ?_)
    | (go_at_call 81; refine (xri_none W2 gp p q (HG.out.below E2.out)).mono ?_; rintro e W3 ⟨rfl, hB⟩; have E3 := hidIt (E2.out.trans (hB.mono E2.out.size)); have Q3 := hidIt (Q2.out.below hB); clear hB)
    | (have _q := Q3; have _p := T2; clear T2 _p; refine wpList_alloc_rec rfl 147 rfl _ W3.heap.size rfl zero_idx ?_; intro W4 R4 B4 z4; have E4 := hidIt B4; have P4 := hidIt R4; clear R4 B4 z4)
    | (refine wpList_store_rec rfl 147 (.tmp 8) (.tmp 18) rfl W3.heap.size 0 _ [.slice none 0 0, .slice none 0 0] rfl rfl P4.out rfl idx_size idx2_one ?_; intro W5 R5 B5; have b5 := E4.out.trans (B5.below (Nat.le_refl _) E4.out.size); have E5 := hidIt (E3.out.trans (b5.mono E3.out.size)); have Q5 := hidIt (Q3.out.below b5); clear R5 B5 b5)
    | (refine wpList_store_rec rfl 78 (.tmp 6) (.tmp 22) rfl (W.heap.size + 1) 0 _ [.slice none 0 0, .slice none 0 0, .bool false] rfl rfl Q5.out rfl pair_size pair3_one ?_; intro W7 R7 B7; have P7 := hidIt R7; have B77 := hidIt B7; clear R7 B7))
  have hl := P7.out.run_load 78 _ Tryz.underlying78 rfl pair_size
  exact bodyPost_ret (v := .tuple #[.agg #[.slice none 0 0, .slice none 0 0, .bool false], .int .i64 1]) (by simp [results, Tryz.results28, asAddr, hl]) rfl ⟨rfl, E5.out.trans (B77.out.below (by omega) E5.out.size)⟩
set_option maxRecDepth 100000 in
set_option maxHeartbeats 1000000 in
theorem xblocks_none (W : World) (gp : Option Addr) (p q c : Int) (f l : Value) (h : NoG W gp) : Calls Tryz.prog 31 #[.pointer gp, .agg (runC p q c f l).toArray] W fun e w' => e = .returned (.tuple #[.slice none 0 0, .int .i64 1]) ∧ Below W.heap.size W w' := by
  have HG := hidIt h
  clear h
  have T2 : Hid True := trivial
  go_enter Tryz.func31, Tryz.ntmps31
  go_wp2_with (first
    | (refine wpList_box_rec rfl 74 (.tmp 1) rfl (runC p q c f l) rfl W.heap.size rfl ?_; intro W2 R1 B1 z1; have E2 := hidIt B1; have P2 := hidIt R1; clear R1 B1 z1)
    | (refine wpList_load_mid rfl 57 (.tmp 10) rfl W.heap.size 0 rfl (twoC p q) _ (two_range (P2.out.cel 0 _ rfl).1 (P2.out.cel 1 _ rfl).1) Tryz.underlying57 rfl (by kernel_rfl) ?_)
    | (go_at_call 81; refine (xri_none W2 gp p q (HG.out.below E2.out)).mono ?_; rintro e W3 ⟨rfl, hB⟩; have E3 := hidIt (E2.out.trans (hB.mono E2.out.size)); clear hB)
    | (have _q := E3; have _p := T2; clear T2 _p; refine wpList_alloc_rec rfl 147 rfl _ W3.heap.size rfl zero_idx ?_; intro W4 R4 B4 z4; have E4 := hidIt B4; have P4 := hidIt R4; clear R4 B4 z4)
    | (refine wpList_store_rec rfl 147 (.tmp 6) (.tmp 13) rfl W3.heap.size 0 _ [.slice none 0 0, .slice none 0 0] rfl rfl P4.out rfl idx_size idx2_one ?_; intro W5 R5 B5; have b5 := E4.out.trans (B5.below (Nat.le_refl _) E4.out.size); have E5 := hidIt (E3.out.trans (b5.mono E3.out.size)); clear R5 B5 b5))
  exact bodyPost_ret (v := .tuple #[.slice none 0 0, .int .i64 1]) (by simp [results, Tryz.results31, go_sem]) rfl ⟨rfl, E5.out⟩
set_option maxRecDepth 100000 in
theorem xdrop_none (W : World) (gp : Option Addr) (p q c : Int) (f l : Value) (h : NoG W gp) : Calls Tryz.prog 32 #[.pointer gp, .agg (runC p q c f l).toArray] W fun e w' => e = .returned (.int .i64 1) ∧ Below W.heap.size W w' := by
  have HG := hidIt h
  clear h
  go_enter Tryz.func32, Tryz.ntmps32
  go_wp2_with (first
    | (refine wpList_box_rec rfl 74 (.tmp 1) rfl (runC p q c f l) rfl W.heap.size rfl ?_; intro W2 R1 B1 z1; have E2 := hidIt B1; have P2 := hidIt R1; clear R1 B1 z1)
    | (refine wpList_load_rec rfl 74 (.tmp 3) rfl W.heap.size 0 (runC p q c f l) rfl _ Tryz.underlying74 rfl run_size P2.out ?_)
    | (go_at_call 31; refine (xblocks_none W2 gp p q c f l (HG.out.below E2.out)).mono ?_; rintro e W3 ⟨rfl, hB⟩; have E3 := hidIt (E2.out.trans (hB.mono E2.out.size)); clear hB))
  exact bodyPost_ret (v := .int .i64 1) (by simp [results, Tryz.results32, go_sem]) rfl ⟨rfl, E3.out⟩
set_option maxRecDepth 100000 in
set_option maxHeartbeats 1000000 in
theorem xbtw_none (W : World) (gp : Option Addr) (p q c : Int) (f l fr to : Value) (h : NoG W gp) : Calls Tryz.prog 30 #[.pointer gp, .agg (runC p q c f l).toArray, fr, to] W fun e w' => e = .returned (.tuple #[.slice none 0 0, .int .i64 1]) ∧ Below W.heap.size W w' := by
  have HG := hidIt h
  clear h
  have T2 : Hid True := trivial
  go_enter Tryz.func30, Tryz.ntmps30
  go_wp2_with (first
    | (refine wpList_box_rec rfl 74 (.tmp 1) rfl (runC p q c f l) rfl W.heap.size rfl ?_; intro W1 R1 B1 z1
       obtain ⟨W2, hW2⟩ : ∃ W2, (W1.alloc (.cells #[.slice none 0 0] 22)).alloc (.cells #[.int .i64 0] 28) = W2 := ⟨_, rfl⟩
       have b12 : Below W1.heap.size W1 W2 := (by rw [← hW2]; exact ((Below.refl _ _).alloc (Nat.le_refl _) _).alloc (by simp) _)
       have r8 : Rec19 W2 W1.heap.size 0 [.slice none 0 0] := (by rw [← hW2]; exact (Rec19.new W1 22 [.slice none 0 0]).below ((Below.refl _ _).alloc (Nat.le_refl _) _))
       have r9 : Rec19 W2 (W1.heap.size + 1) 0 [.int .i64 0] := (by have q := Rec19.new (W1.alloc (.cells #[.slice none 0 0] 22)) 28 [.int .i64 0]; rw [show (W1.alloc (.cells #[.slice none 0 0] 22)).heap.size = W1.heap.size + 1 by simp] at q; rw [← hW2]; exact q)
       have E2 := hidIt (B1.trans (b12.mono (by omega))); have P2 := hidIt (R1.below b12); have R8 := hidIt r8; have R9 := hidIt r9; have Z1 := hidIt z1; clear R1 B1 z1 b12 r8 r9)
    | (refine wpList_load_mid rfl 57 (.tmp 17) rfl W.heap.size 0 rfl (twoC p q) _ (two_range (P2.out.cel 0 _ rfl).1 (P2.out.cel 1 _ rfl).1) Tryz.underlying57 rfl (by kernel_rfl) ?_)
    | (go_at_call 81; refine (xri_none W2 gp p q (HG.out.below E2.out)).mono ?_; rintro e W3 ⟨rfl, hB⟩; have E3 := hidIt (E2.out.trans (hB.mono E2.out.size)); have Q8 := hidIt (R8.out.below hB); have Q9 := hidIt (R9.out.below hB); clear hB hW2)
    | (have _q := E3; have _p := T2; clear T2 _p; refine wpList_alloc_rec rfl 147 rfl _ W3.heap.size rfl zero_idx ?_; intro W4 R4 B4 z4; have E4 := hidIt B4; have P4 := hidIt R4; clear R4 B4 z4)
    | (refine wpList_store_rec rfl 147 (.tmp 10) (.tmp 20) rfl W3.heap.size 0 _ [.slice none 0 0, .slice none 0 0] rfl rfl P4.out rfl idx_size idx2_one ?_; intro W5 R5 B5; have b5 := E4.out.trans (B5.below (Nat.le_refl _) E4.out.size); have E5 := hidIt (E3.out.trans (b5.mono E3.out.size)); have U8 := hidIt (Q8.out.below b5); have U9 := hidIt (Q9.out.below b5); clear R5 B5 b5; refine Held.out ?_))
  have c8 := (U8.out.cel 0 _ rfl).1
  have d8 := (U8.out.cel 0 _ rfl).2
  have V8 := U8.out.put 0 (.slice none 0 0)
  have V9 := U9.out.off (Off.set (b := W1.heap.size) W5 0 (.slice none 0 0) (bs := [W1.heap.size]) (by simp)) (by simp)
  have c9 := (V9.cel 0 _ rfl).1
  have d9 := (V9.cel 0 _ rfl).2
  have X9 := V9.put 0 (.int .i64 1)
  have X8 := V8.off (Off.set (W5.setCell ⟨W1.heap.size, 0, none⟩ (.slice none 0 0)) 0 (.int .i64 1) (b := W1.heap.size + 1) (bs := [W1.heap.size + 1]) (by simp)) (by simp)
  have e8 := (X8.cel 0 _ rfl).1
  have e9 := (X9.cel 0 _ rfl).1
  have z1 := Z1.out
  have FIN := hidIt (E5.out.trans (((But.set W5 0 (.slice none 0 0) : But W1.heap.size _ _).below (B := W.heap.size) (by omega) E5.out.size).trans ((But.set (W5.setCell ⟨W1.heap.size, 0, none⟩ (.slice none 0 0)) 0 (.int .i64 1) : But (W1.heap.size + 1) _ _).below (B := W.heap.size) (by omega) (Nat.le_trans E5.out.size (But.set W5 0 (.slice none 0 0) : But W1.heap.size _ _).size))))
  clear V8 V9 X8 X9 z1
  refine Held.mk ?_
  go_wp2_with fail
  exact bodyPost_ret (v := .tuple #[.slice none 0 0, .int .i64 1]) (by simp [results, Tryz.results30, asAddr, e8, e9, go_sem]) rfl ⟨rfl, FIN.out⟩
set_option maxRecDepth 100000 in
theorem xall_none (W : World) (gp : Option Addr) (p q c : Int) (f l : Value) (h : NoG W gp) : Calls Tryz.prog 29 #[.pointer gp, .agg (runC p q c f l).toArray] W fun e w' => e = .returned (.tuple #[.slice none 0 0, .int .i64 1]) ∧ Below W.heap.size W w' := by
  have HG := hidIt h
  clear h
  go_enter Tryz.func29, Tryz.ntmps29
  go_wp2_with (first
    | (refine wpList_box_rec rfl 74 (.tmp 1) rfl (runC p q c f l) rfl W.heap.size rfl ?_; intro W2 R1 B1 z1; have E2 := hidIt B1; have P2 := hidIt R1; clear R1 B1 z1)
    | (refine wpList_load_rec rfl 74 (.tmp 3) rfl W.heap.size 0 (runC p q c f l) rfl _ Tryz.underlying74 rfl run_size P2.out ?_)
    | (go_at_call 30; refine (xbtw_none W2 gp p q c f l (.slice none 0 0) (.slice none 0 0) (HG.out.below E2.out)).mono ?_; rintro e W3 ⟨rfl, hB⟩; have E3 := hidIt (E2.out.trans (hB.mono E2.out.size)); clear hB))
  exact bodyPost_ret (v := .tuple #[.slice none 0 0, .int .i64 1]) (by simp [results, Tryz.results29, go_sem]) rfl ⟨rfl, E3.out⟩
end Go.Proofs.YtblphlcnbnklmaaGreatDoor
namespace Go.Proofs.YtblphlcnbnklmaaGreatDoor
open Go.RowKit Go.Maps
/-- A list of two pointers is made: the world behind it is a letter. -/
theorem wpList_two {ops : Array Oper} {rest : List Oper} {o : Oper} {a : Act} {w : World} {Q : Exit → Act → World → Prop} (hg : o.guard = none) (t e : TypeId) (x y : Operand) (ho : o.op = .buildSlice t 2 #[(0, x), (1, y)])
    (hu : Tryz.prog.underlying t = some (.slice e)) (hinfo : (Tryz.prog.info? e).map (fun i => (i.zero, i.size, i.bytes)) = some (some (.pointer none), 1, 8)) (p q : Option Addr) (hx : a.eval x = .pointer p) (hy : a.eval y = .pointer q) (H : Nat) (hH : w.heap.size = H)
    (hK : ∀ W, W.cell? ⟨H, 0, none⟩ = some (.pointer p) → W.cell? ⟨H, 1, none⟩ = some (.pointer q) → H < W.heap.size → Below H w W → W.heap.size = H + 1 → wpList Tryz.prog ops Q rest (a.put o.dst (.slice (some ⟨H, 0, none⟩) 2 2)) W) : wpList Tryz.prog ops Q (o :: rest) a w := by
  subst hH
  refine wpList_bs hg t e 2 #[(0, x), (1, y)] ho 1 8 (.pointer none) #[.pointer p, .pointer q] [(0, .pointer p), (1, .pointer q)] hu hinfo (by decide) (by decide) (by simp [hx, hy]) (by kernel_rfl) (hK _ ?_ ?_ (by simp) ((Below.refl _ _).alloc (Nat.le_refl _) _) (by simp))
  · rw [cell_of_row _ _ _ _ _ _ (heap_alloc_new _ _)]; rfl
  · rw [cell_of_row _ _ _ _ _ _ (heap_alloc_new _ _)]; rfl
/-- The zero grid and the zero disk. -/
def gZ : List Value := [.pointer none, .pointer none, .int .i64 0, .pointer none, .slice none 0 0, .map none]
def dZ : List Value := [.pointer none, .slice none 0 0, .map none, .int .i64 0, .pointer none, .bool false]
/-- What stays in GridNone. -/
structure NnS (w : World) (c : List Value) (bj bd xj xd : Nat) (W : World) : Prop where
  box : Rec19 W w.heap.size 0 c
  j0 : W.cell? ⟨bj, 0, none⟩ = some (.pointer none)
  j1 : W.cell? ⟨bj, 1, none⟩ = some (.pointer (some ⟨xj, 0, none⟩))
  d0 : W.cell? ⟨bd, 0, none⟩ = some (.pointer none)
  d1 : W.cell? ⟨bd, 1, none⟩ = some (.pointer (some ⟨xd, 0, none⟩))
  zj : W.cell? ⟨xj, 0, none⟩ = some (.pointer none)
  zd : W.cell? ⟨xd, 0, none⟩ = some (.pointer none)
  lj : bj < W.heap.size
  ld : bd < W.heap.size
  kj : xj < W.heap.size
  kd : xd < W.heap.size
  bel : Below w.heap.size w W
theorem NnS.below {w : World} {c : List Value} {bj bd xj xd : Nat} {W W' : World} (h : NnS w c bj bd xj xd W) (hB : Below W.heap.size W W') : NnS w c bj bd xj xd W' :=
  ⟨h.box.below hB, (hB.cell (p := ⟨bj, 0, none⟩) h.lj).trans h.j0, (hB.cell (p := ⟨bj, 1, none⟩) h.lj).trans h.j1, (hB.cell (p := ⟨bd, 0, none⟩) h.ld).trans h.d0, (hB.cell (p := ⟨bd, 1, none⟩) h.ld).trans h.d1, (hB.cell (p := ⟨xj, 0, none⟩) h.kj).trans h.zj, (hB.cell (p := ⟨xd, 0, none⟩) h.kd).trans h.zd, Nat.lt_of_lt_of_le h.lj hB.size, Nat.lt_of_lt_of_le h.ld hB.size, Nat.lt_of_lt_of_le h.kj hB.size, Nat.lt_of_lt_of_le h.kd hB.size, below_sh (Nat.le_refl _) h.bel hB⟩
/-- The k-th of both lists. -/
def NnK (bj bd k : Nat) (p q : Option Addr) (W : World) : Prop := W.cell? ⟨bj, k, none⟩ = some (.pointer p) ∧ W.cell? ⟨bd, k, none⟩ = some (.pointer q) ∧ NoG W p ∧ NoD W q
theorem NnS.at_ {w : World} {c : List Value} {bj bd xj xd : Nat} (k : Nat) (hk : k < 2) : ∃ p q, ∀ W, NnS w c bj bd xj xd W → NnK bj bd k p q W := by
  match k, hk with
  | 0, _ => exact ⟨none, none, fun W h => ⟨h.j0, h.d0, .inl rfl, .inl rfl⟩⟩
  | 1, _ => exact ⟨some ⟨xj, 0, none⟩, some ⟨xd, 0, none⟩, fun W h => ⟨h.j1, h.d1, .inr ⟨xj, rfl, h.zj, h.kj⟩, .inr ⟨xd, rfl, h.zd, h.kd⟩⟩⟩
def nnRel (w : World) (c : List Value) (bj bd xj xd : Nat) (i : Value) (wr : World) : Prop := ∃ k : Nat, k ≤ 2 ∧ i = .int .i64 k ∧ NnS w c bj bd xj xd wr
end Go.Proofs.YtblphlcnbnklmaaGreatDoor
namespace Go.Proofs.YtblphlcnbnklmaaGreatDoor
open Go.RowKit Go.Maps
attribute [-go_sem] Builtin.append_
/-- What stays in TableNone. -/
structure TnS (w : World) (bj xj : Nat) (W : World) : Prop where
  j0 : W.cell? ⟨bj, 0, none⟩ = some (.pointer none)
  j1 : W.cell? ⟨bj, 1, none⟩ = some (.pointer (some ⟨xj, 0, none⟩))
  zj : W.cell? ⟨xj, 0, none⟩ = some (.pointer none)
  lj : bj < W.heap.size
  kj : xj < W.heap.size
  bel : Below w.heap.size w W
theorem TnS.below {w : World} {bj xj : Nat} {W W' : World} (h : TnS w bj xj W) (hB : Below W.heap.size W W') : TnS w bj xj W' :=
  ⟨(hB.cell (p := ⟨bj, 0, none⟩) h.lj).trans h.j0, (hB.cell (p := ⟨bj, 1, none⟩) h.lj).trans h.j1, (hB.cell (p := ⟨xj, 0, none⟩) h.kj).trans h.zj, Nat.lt_of_lt_of_le h.lj hB.size, Nat.lt_of_lt_of_le h.kj hB.size, below_sh (Nat.le_refl _) h.bel hB⟩
theorem TnS.at_ {w : World} {bj xj : Nat} (k : Nat) (hk : k < 2) : ∃ p, ∀ W, TnS w bj xj W → W.cell? ⟨bj, k, none⟩ = some (.pointer p) ∧ NoG W p := by
  match k, hk with
  | 0, _ => exact ⟨none, fun W h => ⟨h.j0, .inl rfl⟩⟩
  | 1, _ => exact ⟨some ⟨xj, 0, none⟩, fun W h => ⟨h.j1, .inr ⟨xj, rfl, h.zj, h.kj⟩⟩⟩
def tnRel (w : World) (bj xj : Nat) (i : Value) (wr : World) : Prop := ∃ k : Nat, k ≤ 2 ∧ i = .int .i64 k ∧ TnS w bj xj wr
set_option maxRecDepth 100000 in
theorem tn_long (a : Option Addr) (n C : Nat) (w : World) (hT : DTab w) (h0 : 0 < w.heap.size) (i1 : (200 : Int) < (n : Int)) : Calls Tryz.prog 5 #[.slice a n C] w fun e w' => e = .returned (.bool true) ∧ Below w.heap.size w w' := by
  have AW := hidIt (xawake_ok w hT h0)
  clear hT h0
  go_enter Tryz.func5, Tryz.ntmps5
  go_wp2_with (first
    | (go_at_call 21; refine AW.out.mono ?_; rintro e w1 ⟨rfl, hB⟩; have E1 := hidIt hB; clear hB))
  exact bodyPost_ret (v := .bool true) (by simp [results, Tryz.results5, go_sem]) rfl ⟨rfl, E1.out⟩
set_option maxRecDepth 100000 in
set_option maxHeartbeats 4000000 in
theorem tn_main (a : Option Addr) (n C : Nat) (w : World) (hT : DTab w) (h0 : 0 < w.heap.size) (i1 : ¬ (200 : Int) < (n : Int)) : Calls Tryz.prog 5 #[.slice a n C] w fun e w' => e = .returned (.bool true) ∧ Below w.heap.size w w' := by
  have TT := hidIt (And.intro hT h0)
  clear hT h0
  go_enter Tryz.func5, Tryz.ntmps5
  go_wp2_with (first
    | (refine wpList_build_to rfl 71 #[] rfl gZ.toArray (by kernel_rfl) ?_)
    | (refine wpList_box_rec rfl 71 (.tmp 20) rfl gZ rfl w.heap.size rfl ?_; intro W1 R1 B1 z1)
    | (refine wpList_two rfl 72 42 (.const (.pointer none)) (.tmp 21) rfl Tryz.underlying72 (by kernel_rfl) none (some ⟨w.heap.size, 0, none⟩) rfl rfl (w.heap.size + 1) z1 ?_; intro W2 a0 a1 l2 B2 z2
       have ST : Hid (tnRel w (w.heap.size + 1) w.heap.size (.int .i64 0) W2) := by
         have q1 : Below W1.heap.size W1 W2 := B2.mono (by omega)
         have e1 := (R1.below q1).1 0 _ rfl
         exact ⟨0, by omega, rfl, a0, a1, e1, l2, (R1.below q1).2.2, below_sh (Nat.le_refl _) B1 q1⟩
       clear R1 B1 z1 a0 a1 l2 B2 z2))
  go_loopw [4] (fun i wr => tnRel w (w.heap.size + 1) w.heap.size i wr) (fun i _ => 2 - (RowKit.intOf i).toNat)
  case atStart => exact ST.out
  case round =>
    obtain ⟨k, hk, rfl, hS⟩ := hrel
    clear ST
    have S0 := hidIt hS
    clear hS
    by_cases hlt : k < 2
    · obtain ⟨p, hp⟩ := TnS.at_ (w := w) (bj := w.heap.size + 1) (xj := w.heap.size) k hlt
      have PQ := hidIt hp
      have cj := (PQ.out _ S0.out).1
      have LT := hidIt hlt
      have i2 : (k : Int) < 2 := by omega
      have i3 : (0 : Int) ≤ (k : Int) := by omega
      have T1 : Hid True := trivial
      have T2 : Hid True := trivial
      clear hp hlt
      go_wp2_with (first
        | (refine wpList_lit rfl 97 rfl ?_; intro X1a ha hb hz; have A1 := hidIt ha; have D1 := hidIt (And.intro hb hz); clear ha hb hz)
        | (refine wpList_conv rfl (.tmp 35) rfl wr.heap.size 97 (by decide) rfl A1.out ?_; intro X1 hb ht; have bb : Below wr.heap.size wr X1 := D1.out.1.trans (hb.below (Nat.le_refl _) D1.out.1.size); have E1 := hidIt bb; have S1 := hidIt (S0.out.below bb); clear hb ht bb A1 D1)
        | (refine wpList_run_w rfl (.slice (some ⟨X1.heap.size, 0, none⟩) 1 1) (X1.alloc (.cells (pcs [⟨.slice (some ⟨wr.heap.size, 0, none⟩) 1 1, .slice none 0 0, ⟨b1 97, .empty, false⟩⟩]).toArray 78)) (bsl_run 22 78 1 _ rfl 3 56 _ _ _ under_pairs info_pair (by decide) (by decide) rfl (by kernel_rfl)) ?_; have S2 := hidIt (S1.out.below ((Below.refl _ _).alloc (Nat.le_refl _) (.cells (pcs [⟨.slice (some ⟨wr.heap.size, 0, none⟩) 1 1, .slice none 0 0, ⟨b1 97, .empty, false⟩⟩]).toArray 78))); generalize (X1.alloc (.cells (pcs [⟨.slice (some ⟨wr.heap.size, 0, none⟩) 1 1, .slice none 0 0, ⟨b1 97, .empty, false⟩⟩]).toArray 78)) = X2 at *)
        | (go_at_call 27; refine (xbuild_none X2 p _ 1 1 0 (PQ.out _ S2.out).2).mono ?_; rintro e W3 ⟨rfl, hB⟩; have S3 := hidIt (S2.out.below hB); clear hB; refine Held.out ?_))
      refine Held.mk ?_
      go_wp2_with (first
        | (refine wpList_alloc_rec rfl 74 rfl _ W3.heap.size rfl zero_run ?_; intro W4 R4 B4 z4; have E4 := hidIt B4; have P4 := hidIt R4; clear R4 B4 z4)
        | (refine wpList_store_rec rfl 74 (.tmp 6) (.tmp 40) rfl W3.heap.size 0 _ (runC 0 0 0 (.slice none 0 0) (.slice none 0 0)) rfl rfl P4.out rfl run_size (runC_one _ _ _ _ _ _ _ _ _) ?_; intro W5 R5 B5; have R5' := hidIt (And.intro R5 (S3.out.below (E4.out.trans (B5.below (Nat.le_refl _) E4.out.size)))); clear R5 B5; refine Held.out ?_))
      refine Held.mk ?_
      go_wp2_with (first
        | (have _q := T1; refine wpList_load_rec rfl 74 (.tmp 6) rfl W3.heap.size 0 (runC 0 0 0 (.slice none 0 0) (.slice none 0 0)) rfl _ Tryz.underlying74 rfl run_size R5'.out.1 ?_; clear _q)
        | (go_at_call 28; refine (xget_none W5 p 0 0 0 _ _ _ (PQ.out _ R5'.out.2).2).mono ?_; rintro e W6 ⟨rfl, hB⟩; have R6 := hidIt (And.intro (R5'.out.1.below hB) (R5'.out.2.below hB)); clear hB T1)
        | (have _q := R6; refine wpList_alloc_rec rfl 78 rfl _ W6.heap.size rfl pair_zero ?_; intro W7 Q7 B7 z7; have E7 := hidIt B7; have P7 := hidIt Q7; clear Q7 B7 z7 _q)
        | (refine wpList_store_rec rfl 78 (.tmp 8) (.tmp 47) rfl W6.heap.size 0 _ [.slice none 0 0, .slice none 0 0, .bool false] rfl rfl P7.out rfl pair_size pair3_one ?_; intro W8 Q8 B8; have b8 := E7.out.trans (B8.below (Nat.le_refl _) E7.out.size); have R8 := hidIt (And.intro (R6.out.1.below b8) (R6.out.2.below b8)); clear Q8 B8 b8; refine Held.out ?_))
      refine Held.mk ?_
      go_wp2_with (first
        | (have _q := T2; refine wpList_load_rec rfl 74 (.tmp 6) rfl W3.heap.size 0 (runC 0 0 0 (.slice none 0 0) (.slice none 0 0)) rfl _ Tryz.underlying74 rfl run_size R8.out.1 ?_; clear _q)
        | (go_at_call 29; refine (xall_none W8 p 0 0 0 _ _ (PQ.out _ R8.out.2).2).mono ?_; rintro e W9 ⟨rfl, hB⟩; have R9 := hidIt (And.intro (R8.out.1.below hB) (R8.out.2.below hB)); clear hB T2; refine Held.out ?_))
      have T3 : Hid True := trivial
      refine Held.mk ?_
      go_wp2_with (first
        | (have _q := T3; refine wpList_load_rec rfl 74 (.tmp 6) rfl W3.heap.size 0 (runC 0 0 0 (.slice none 0 0) (.slice none 0 0)) rfl _ Tryz.underlying74 rfl run_size R9.out.1 ?_; clear _q)
        | (go_at_call 30; refine (xbtw_none W9 p 0 0 0 _ _ _ _ (PQ.out _ R9.out.2).2).mono ?_; rintro e W10 ⟨rfl, hB⟩; have R10 := hidIt (And.intro (R9.out.1.below hB) (R9.out.2.below hB)); clear hB T3; refine Held.out ?_))
      have T4 : Hid True := trivial
      refine Held.mk ?_
      go_wp2_with (first
        | (have _q := T4; refine wpList_load_rec rfl 74 (.tmp 6) rfl W3.heap.size 0 (runC 0 0 0 (.slice none 0 0) (.slice none 0 0)) rfl _ Tryz.underlying74 rfl run_size R10.out.1 ?_; clear _q)
        | (go_at_call 31; refine (xblocks_none W10 p 0 0 0 _ _ (PQ.out _ R10.out.2).2).mono ?_; rintro e W11 ⟨rfl, hB⟩; have R11 := hidIt (And.intro (R10.out.1.below hB) (R10.out.2.below hB)); clear hB T4; refine Held.out ?_))
      refine Held.mk ?_
      go_wp2_with (first
        | (refine wpList_load_g (by rfl) 74 (.tmp 6) rfl W3.heap.size 0 (runC 0 0 0 (.slice none 0 0) (.slice none 0 0)) rfl _ Tryz.underlying74 rfl run_size R11.out.1.1 ?_)
        | (go_at_call 32; refine (xdrop_none W11 p 0 0 0 _ _ (PQ.out _ R11.out.2).2).mono ?_; rintro e W12 ⟨rfl, hB⟩; have S12 := hidIt (R11.out.2.below hB); clear hB))
      go_roundw
      case rel => exact ⟨k + 1, by have := LT.out; omega, by go_num, S12.out⟩
      case measure => simp [RowKit.intOf]; omega
    · obtain rfl : k = 2 := by omega
      rw [show ((2 : Nat) : Int) = 2 from rfl]
      go_wp2_with (go_at_call 21; refine (xawake_ok _ (TT.out.1.belowI S0.out.bel TT.out.2) (Nat.lt_of_lt_of_le TT.out.2 S0.out.bel.size)).mono ?_; rintro e w1 ⟨rfl, hB⟩; have E1 := hidIt (below_sh (Nat.le_refl _) S0.out.bel hB); clear hB)
      exact bodyPost_ret (v := .bool true) (by simp [results, Tryz.results5, go_sem]) rfl ⟨rfl, E1.out⟩
theorem tn_any (a : Option Addr) (n C : Nat) (w : World) (hT : DTab w) (h0 : 0 < w.heap.size) : Calls Tryz.prog 5 #[.slice a n C] w fun e w' => e = .returned (.bool true) ∧ Below w.heap.size w w' := by
  by_cases i : (200 : Int) < (n : Int)
  · exact tn_long a n C w hT h0 i
  · exact tn_main a n C w hT h0 i
end Go.Proofs.YtblphlcnbnklmaaGreatDoor
