/-
  Proved: GridNone: for every ref and every bytes, in whatever memory in which the library's table math/bits.deBruijn64tab is as its text lays it, on every schedule, the statement's function returns true. The table is tied to the program's text (the card).
-/
import Derived.Test.YtgilodcgcoedeaaGreatDoorIC
import Derived.Test.YtgilodcgcoedeaaGreatDoorIA
import Derived.Test.YtgilodcgcoedeaaGreatDoorGArg
import Derived.Test.YtgilodcgcoedeaaGreatDoorIB
import Derived.ProofKit
import Derived.LaidMore
import Derived.OpenShut
import Derived.ShutString
import Derived.ChangeOld
import Derived.Below
import Derived.Lib.SmallJoins
import Derived.Stop.Joined
import Derived.Test.YtgilodcgcoedeaaGreatDoorBFrame
import Derived.Test.YtgilodcgcoedeaaGreatDoorTie
import Derived.Test.YtgilodcgcoedeaaGreatDoorCards
namespace Go.Proofs.YtgilodcgcoedeaaGreatDoor
open Go.RowKit Go.Maps
theorem Blk.Eq.valI {s t : Blk} (h : s.Eq t) (a : Option Addr) (C : Nat) (b : Option Addr) (D : Nat) : blkV s a C b D = blkV t a C b D := by
  obtain ⟨h1, h2, h3, _, _⟩ := h
  unfold blkV blkC
  rw [h1, h2, h3 0 (by omega), h3 1 (by omega), h3 2 (by omega)]
theorem TbGot.eqI {w w' : World} {s t : Blk} {g1 g2 : Nat} (h : s.Eq t) (k : TbGot w w' s g1 g2) : TbGot w w' t g1 g2 := by
  obtain ⟨h1, h2, h3, h4, h5⟩ := h
  refine ⟨fun j hj => by rw [← h4 j (by omega)]; exact k.refs j (by omega), k.l1, by rw [← h2]; exact k.row.congr h5, k.n1, k.n2, fun j hj => by rw [← h5 j (by omega)]; exact k.byt j (by omega)⟩
theorem RgOk.eq {W w' : World} {s t : Blk} {e : Ending} (h : s.Eq t) (k : RgOk W s e w') : RgOk W t e w' := by
  obtain ⟨g1, g2, rfl, k1, k2⟩ := k
  exact ⟨g1, g2, by rw [h.valI, h.1, h.2.1], k1.eqI h, k2⟩
theorem i64_small (x : Int) (h1 : 0 ≤ x) (h2 : x ≤ 1073741824) : I64 x := ⟨by omega, by omega⟩
/-- What is written is read. -/
theorem rd_there (w0 u : World) (g d s m b mm n i : Nat) (D : Dsk) (h : Nat → Nat) (p q : Int) (t : Blk) (hN : GNew w0 u g d s m b mm D n h) (hf : D.free) (hD : 104 + 4 * n ≤ D.N) (hi : i < n) (hp : p = (i : Int) + 1) (hq : 0 ≤ q ∧ q ≤ 1073741824) (hm : t.May) (hF : ∀ j, j < 1024 → blF D i j = t.img j) (hx1 : t.x 1 = p) (hx2 : t.x 2 = q) :
    Calls Tryz.prog 15 #[.pointer (some ⟨g, 0, none⟩), .agg (twoC p q).toArray] u (RgOk u t) := by
  obtain ⟨hW, hE⟩ := whole_of hm hF
  refine (gread_ok u g p q (blkOf (behO (blF D i))) (blF D i) fun v hB => ?_).mono fun e w' k => k.eq hE.symm
  have hv := hN.below hB
  refine gfind_ok w0 v g d s m b mm n (.slice none 0 0) D p q _ _ hv.st hf hv.ga ⟨by omega, by omega, hq.1, hq.2⟩ fun x hX => ?_
  have hx := hv.below hX
  exact gload_ok w0 x g d s m b mm n i (.slice none 0 0) D p q hx.st hf hx.ga hD hi hx.ok.n2 hp hW ((hE.2.2.1 1 (by omega)).symm.trans hx1) ((hE.2.2.1 2 (by omega)).symm.trans hx2)
/-- What another ref names is not there, and is wanted. -/
theorem rd_other (w0 u : World) (g d s m b mm n i : Nat) (D : Dsk) (h : Nat → Nat) (p q : Int) (t : Blk) (hN : GNew w0 u g d s m b mm D n h) (hf : D.free) (hD : 104 + 4 * n ≤ D.N) (hi : i < n) (hp : p = (i : Int) + 1) (hq : 0 ≤ q ∧ q ≤ 1073741824) (hm : t.May) (hF : ∀ j, j < 1024 → blF D i j = t.img j) (hx : ¬ t.x 2 = q) :
    Calls Tryz.prog 15 #[.pointer (some ⟨g, 0, none⟩), .agg (twoC p q).toArray] u (FdNo u g d n b mm p q (.tuple #[blkV blk0 none 0 none 0, .int .i64 13])) := by
  obtain ⟨hW, hE⟩ := whole_of hm hF
  have n2 := hN.ok.n2
  have ne : g ≠ mm := by
    have := hN.ne
    simp only [List.nodup_cons, List.mem_cons, List.not_mem_nil, or_false, not_or] at this
    exact this.1.2.2.2.2
  refine gread_no u g d b mm n p q hN.ga.2.2 hN.wm.lt fun v hB => ?_
  have hv := hN.below hB
  refine gfind_no w0 v g d s m b mm n D p q hv.st hf hv.ga hv.wm ne ⟨by omega, by omega, hq.1, hq.2⟩ (i64_small p (by omega) (by omega)) (i64_small q hq.1 hq.2) fun x hX => ?_
  have hx' := hv.below hX
  exact gload_ref w0 x g d s m b mm n i (.slice none 0 0) D p q hx'.st hf hx'.ga hD hi n2 hp hW (fun k => hx ((hE.2.2.1 2 (by omega)).trans k.2))
/-- A conversion of bytes that were made. -/
theorem convB (u : World) (y n c : Nat) (C : Array Value) (fz : Nat × Nat) (hy : u.heap[y]? = some (.cells C 5 fz)) : ∃ u', (convert 43 43 (.slice (some ⟨y, 0, none⟩) n c)).run Tryz.prog u = .ok (.slice (some ⟨y, 0, none⟩) n c) u' ∧ But y u u' ∧ ∃ fz', u'.heap[y]? = some (.cells C 5 fz') := by
  have hsh : u.shape? y = some (5, C.size) := by
    unfold World.shape?
    rw [hy]
  refine ⟨u.freeze ⟨y, C.size, none⟩ 1, ?_, ?_, ?_⟩
  · simp [convert, run_underlying Tryz.underlying43, run_underlying Tryz.underlying5, markStringish, hsh]
  · unfold World.freeze
    rw [if_neg (by decide)]
    refine ⟨rfl, rfl, rfl, by simp, fun k hk hn => ?_⟩
    simp only [Array.getElem?_modify]
    rw [if_neg (fun e => hn e.symm)]
  · unfold World.freeze
    rw [if_neg (by decide)]
    simp only [Array.getElem?_modify, if_true, hy]
    exact ⟨_, rfl⟩
theorem conv_run {o : Oper} {a : Act} {w : World} (t t' : TypeId) (x : Operand) (ho : o.op = .convert t t' x) (X : Value) (hx : a.eval x = X) {v : Value} {w' : World} (hr : (convert t t' X).run Tryz.prog w = .ok v w') : (execOp a.eval o).run Tryz.prog w = .ok (.value v) w' := by
  simp [execOp, ho, hx, hr, Result.andThen]
theorem build_runI {o : Oper} {a : Act} {w : World} (t : TypeId) (parts : Array (Nat × Operand)) (ho : o.op = .build t parts) (cells : Array Value) (hf : Tryz.prog.built t (parts.map fun (i, x) => (i, a.eval x)).toList = some cells) : (execOp a.eval o).run Tryz.prog w = .ok (.value (.agg cells)) w := by
  unfold execOp
  simp only [ho, Sem.run_bind, run_build w t _ cells hf, Result.andThen_ok]
  rfl
theorem u8_info : (Tryz.prog.info? 5).map (fun i => (i.zero, i.size, i.bytes)) = some (some (.int .u8 0), 1, 1) := by kernel_rfl
theorem one_lies {V : World} {y : Nat} {fz : Nat × Nat} (h : V.heap[y]? = some (.cells #[.int .u8 97] 5 fz)) : Lies V y 0 1 (fun _ => ((97 : UInt8).toNat : Int)) := by
  refine ⟨fun j hj => ?_, fun _ _ => (show 0 ≤ ((97 : UInt8).toNat : Int) ∧ ((97 : UInt8).toNat : Int) < 256 from by decide), (Array.getElem?_eq_some_iff.1 h).1⟩
  obtain rfl : j = 0 := by omega
  rw [cell_of_row _ _ _ _ _ _ h]
  rfl
theorem ownI_harg {W : World} {base z k cz : Nat} {r : Nat → Int} (h : OwnI W base 41 2 (.slice (some ⟨z, 0, none⟩) k cz) k r) (hk : 0 < k) : HArg W (some ⟨z, 0, none⟩) k r := by
  obtain ⟨g, cap, e, _, _, c, l⟩ := h.form hk
  injection e with e _ _
  injection e with e
  injection e with e
  subst e
  exact .inr ⟨z, 0, rfl, fun j hj => by rw [Nat.zero_add]; exact c j (by omega), l⟩
/-- What stays in awake's last line. -/
structure AwG (w : World) (g d b mm x cap x4 g1 g2 : Nat) (V : World) : Prop where
  p : Rec19 V x4 0 (blkC bk1 (some ⟨g1, 0, none⟩) 0 (some ⟨g2, 0, none⟩) 1)
  bl : BlkAt V bk1 (some ⟨g1, 0, none⟩) 0 (some ⟨g2, 0, none⟩) 1
  ga : GAt V g d 4 b (.slice (some ⟨x, 0, none⟩) 1 cap) mm
  cx : ∀ j, j < 1 * 2 → V.cell? ⟨x, j, none⟩ = some (.int .i64 (if j = 0 then 1 else 8))
  lx : x < V.heap.size
  bel : Below w.heap.size w V
theorem AwG.below {w : World} {g d b mm x cap x4 g1 g2 : Nat} {V V' : World} (h : AwG w g d b mm x cap x4 g1 g2 V) (hB : Below V.heap.size V V') : AwG w g d b mm x cap x4 g1 g2 V' :=
  ⟨h.p.below hB, h.bl.below hB, h.ga.below hB, fun j hj => (hB.cell (p := ⟨x, j, none⟩) h.lx).trans (h.cx j hj), Nat.lt_of_lt_of_le h.lx hB.size, below_sh (Nat.le_refl _) h.bel hB⟩
section
variable {ops : Array Oper} {Q : Exit → Act → World → Prop} {md : Region.Mode} {S : World → Prop}
theorem all_runI {i : Nat} {o : Oper} {rs : List Nat} {fuel : Nat} {listed : Array Bool} {a : Act} {w : World} (d : Option Tmp) (ho : ops[i]? = some o) (hd : o.dst = d) (hw : Region.wanted o (yielded ops a.tmps) = true) (v : Value) (w' : World)
    (hx : (execOp a.eval o).run Tryz.prog w = .ok (.value v) w') (hS : S w') (h : S w' → wpAnyH Tryz.prog md ops Q S fuel (listed.setIfInBounds i true) (a.put d v) w')
    (hs : AllReadyH Tryz.prog md ops Q S fuel listed a w rs) : AllReadyH Tryz.prog md ops Q S fuel listed a w (i :: rs) := by
  subst hd
  refine AllReadyH.cons ho (fun K hK => ?_) hs
  rw [if_pos hw]
  unfold Oper.wp
  rw [hx]
  exact hK.out _ _ hS h
end
theorem off_rec {W W' : World} {bs : List Nat} {n : Nat} {cs : List Value} (h : Rec19 W n 0 cs) (hB : Off bs W W') (hn : n ∉ bs) : Rec19 W' n 0 cs := h.off hB hn
theorem bk1_at {W w' : World} {g1 g2 : Nat} (h : TbGot W w' bk1 g1 g2) : BlkAt w' bk1 (some ⟨g1, 0, none⟩) 0 (some ⟨g2, 0, none⟩) 1 := h.at
theorem bk1_off {W W' : World} {bs : List Nat} {g1 g2 : Nat} (h : BlkAt W bk1 (some ⟨g1, 0, none⟩) 0 (some ⟨g2, 0, none⟩) 1) (hB : Off bs W W') (hn : g2 ∉ bs) : BlkAt W' bk1 (some ⟨g1, 0, none⟩) 0 (some ⟨g2, 0, none⟩) 1 := by
  refine ⟨.inl rfl, h.kC, ?_, h.nD⟩
  rcases h.body with ⟨h0, _⟩ | ⟨h0, b, off, e, hl⟩
  · exact absurd h0 (by show ¬ (1 = 0); omega)
  · injection e with e
    injection e with e1 e2
    subst e1 e2
    exact .inr ⟨h0, g2, 0, rfl, fun j hj => (hB.cell (p := ⟨g2, 0 + j, none⟩) hl.2.2 hn).trans (hl.1 j hj), hl.2.1, Nat.lt_of_lt_of_le hl.2.2 hB.size⟩
set_option maxRecDepth 100000 in
set_option maxHeartbeats 4000000 in
theorem awake_ok (w : World) (hT : DTab w) (h0 : 0 < w.heap.size) : Calls Tryz.prog 11 #[] w fun e w' => e = .returned (.bool true) ∧ Below w.heap.size w w' := by
  have HT := hidIt (And.intro hT h0)
  clear hT h0
  have K1 : Hid True := trivial
  have K2 : Hid True := trivial
  have X1 : Hid True := trivial
  have X2 : Hid True := trivial
  have T1 : Hid True := trivial
  have T2 : Hid True := trivial
  have fr2 : tD2.free := tD2_few.free (by omega)
  have FR := hidIt fr2
  clear fr2
  go_enter Tryz.func11, Tryz.ntmps11
  go_wp2_with (first
    | (go_at_call 27; refine (two_ok w HT.out.1 HT.out.2).mono ?_; rintro e w1 ⟨g, d, s, m, b, mm, rfl, hN⟩; have N1 := hidIt hN; clear hN)
    | (go_at_call 28; have _q := K1; clear K1; refine (ref_any 1 7 _).mono ?_; rintro e w2 ⟨rfl, hB⟩; have N2 := hidIt (N1.out.below hB); clear hB N1)
    | (go_at_call 15; have _q := X1; have _p := N2; clear X1 _p; refine (rd_there w _ g d s m b mm 4 0 tD2 tH2 1 7 bk1 N2.out FR.out (by rw [tD2_N]; omega) (by omega) rfl ⟨by omega, by omega⟩ bk1_may tD2_0 rfl rfl).mono ?_; rintro e w3 ⟨g1, g2, rfl, hK, hB⟩; unfold blkV; have N3 := hidIt (N2.out.below hB); have G3 := hidIt (bk1_at hK); have Z3 : Hid (w2.heap.size ≤ g2 ∧ g2 < w3.heap.size ∧ w2.heap.size ≤ w3.heap.size) := ⟨hK.n2, hK.row.2.2, hB.size⟩; have V3 : Hid (g < w2.heap.size ∧ mm < w2.heap.size) := ⟨N2.out.ga.2.2, N2.out.wm.lt⟩; clear hK hB N2)
    | (have _q := N3; have _p := T1; clear T1 _p; refine wpList_alloc_rec rfl 67 rfl (blkC blk0 none 0 none 0) w3.heap.size rfl zero_blk ?_; intro W4 R4 B4 z4; have N4 := hidIt (N3.out.below B4); have G4 := hidIt (G3.out.below B4); have F4 := hidIt (N3.out.far (Nat.le_refl _)); clear N3 G3 B4 z4)
    | (refine wpList_store_rec rfl 67 (.tmp 4) (.tmp 19) rfl w3.heap.size 0 _ (blkC bk1 (some ⟨g1, 0, none⟩) 0 (some ⟨g2, 0, none⟩) 1) rfl rfl R4 rfl (by kernel_rfl) (blkC_one _ _ _ _ _) ?_; intro W5 R5 B5; have P5 := hidIt R5; have N5 := hidIt (N4.out.butI B5 F4.out (by have := N4.out.st.bel.size; have := Z3.out; have := HT.out; have := N4.out.w0l; have := V3.out; omega)); have G5 := hidIt (bk1_off G4.out (Off.but (bs := [w3.heap.size]) B5 (by simp)) (by have := Z3.out; simp; omega)); clear R4 R5 B5 N4 G4)
    | (go_at_call 28; have _q := K2; have _p := N5; clear K2 _p; refine (ref_any 1 8 _).mono ?_; rintro e w6 ⟨rfl, hB⟩; have N6 := hidIt (N5.out.below hB); have P6 := hidIt (P5.out.below hB); have G6 := hidIt (G5.out.below hB); clear hB N5 P5 G5)
    | (go_at_call 15; have _q := X2; have _p := N6; clear X2 _p; refine (rd_other w _ g d s m b mm 4 0 tD2 tH2 1 8 bk1 N6.out FR.out (by rw [tD2_N]; omega) (by omega) rfl ⟨by omega, by omega⟩ bk1_may tD2_0 (by show ¬ (7 : Int) = 8; omega)).mono ?_; rintro e w7 ⟨rfl, x, cap, h1, h2, h3, h4, h5⟩; unfold blkV
       have P7 := hidIt (P6.out.off h5 (by have := V3.out; have := Z3.out; simp; omega)); have G7 := hidIt (bk1_off G6.out h5 (by have := V3.out; have := Z3.out; simp; omega)); have F7 := hidIt (And.intro h1 (And.intro h2 (And.intro h3 (Below.trans N6.out.st.bel (h5.below (B := w.heap.size) (by have := N6.out.w0l; simp; omega) N6.out.st.bel.size))))); clear h1 h2 h3 h4 h5 N6 P6 G6)
    | (have _q := F7; have _p := T2; clear T2 _p; refine wpList_alloc_rec rfl 67 rfl (blkC blk0 none 0 none 0) w7.heap.size rfl zero_blk ?_; intro W8 R8 B8 z8)
    | (refine wpList_store_rec rfl 67 (.tmp 6) (.tmp 25) rfl w7.heap.size 0 _ (blkC blk0 none 0 none 0) rfl rfl R8 rfl (by kernel_rfl) (blkC_one _ _ _ _ _) ?_; intro W9 R9 B9
       have X9 : Hid (Below w7.heap.size w7 W9) := hidIt (B8.trans (B9.below (Nat.le_refl _) (by omega)))
       clear R8 B8 z8 R9 B9))
  obtain ⟨h1, h2, h3, h4⟩ := F7.out
  obtain ⟨_, _, e1, _, _, cc, lx⟩ := h3.form (by omega)
  injection e1 with e1 e2 e3
  injection e1 with e1
  injection e1 with e1
  subst e1
  have A7 : AwG w g d b mm x cap w3.heap.size g1 g2 w7 := ⟨P7.out, G7.out, h1, cc, lx, h4⟩
  have A9 := hidIt (A7.below X9.out)
  clear h1 h2 h3 h4 cc lx e2 e3 A7 F7 P7 G7 X9
  refine wp_region_noPanic ?_
  refine wp_region_held_drew (S := fun W' => W'.rangeAt w3.heap.size 0 (blkC bk1 (some ⟨g1, 0, none⟩) 0 (some ⟨g2, 0, none⟩) 1)) (by kernel_rfl) ?_ (fun hHeld => ?_)
  · exact A9.out.p.1
  refine take_at (i := 0) (v := ?_) (some 27) rfl rfl (by kernel_rfl) (by kernel_rfl) (by kernel_rfl) (fun _ _ _ h => h) (Or.inl ⟨by rfl, ?_⟩) (by assumption) ?_
  rotate_left
  · (intro w hSw; clear hSw; go_simp; try with_reducible rfl)
  simp only [Act.put, List.setIfInBounds_toArray, List.set_cons_zero, List.set_cons_succ]
  refine take_at (i := 1) (v := ?_) (some 28) rfl rfl (by kernel_rfl) (by kernel_rfl) (by kernel_rfl) (fun _ _ _ h => h) (Or.inl ⟨by rfl, ?_⟩) (by assumption) ?_
  rotate_left
  · (intro w hSw; clear hSw; go_simp; try with_reducible rfl)
  simp only [Act.put, List.setIfInBounds_toArray, List.set_cons_zero, List.set_cons_succ]
  refine take_at (i := 2) (v := ?_) (some 29) rfl rfl (by kernel_rfl) (by kernel_rfl) (by kernel_rfl) (fun _ _ _ h => h) (Or.inl ⟨by rfl, ?_⟩) (by assumption) ?_
  rotate_left
  · (intro w hSw; clear hSw; go_simp; try with_reducible rfl)
  simp only [Act.put, List.setIfInBounds_toArray, List.set_cons_zero, List.set_cons_succ]
  refine take_at (i := 3) (v := _) (some 30) rfl rfl (by kernel_rfl) (by kernel_rfl) (by kernel_rfl) (fun _ _ _ h => h) (yieldsIf_load_mid (by rfl) 67 (.tmp 4) rfl w3.heap.size 0 rfl (blkC bk1 (some ⟨g1, 0, none⟩) 0 (some ⟨g2, 0, none⟩) 1) _ (fun _ h => h) Tryz.underlying67 rfl (by kernel_rfl)) (by assumption) ?_
  simp only [Act.put, List.setIfInBounds_toArray, List.set_cons_zero, List.set_cons_succ]
  have A10 := hidIt (A9.out.below (Below.refl _ _).drew)
  clear A9
  generalize W9.drew = V0 at A10 ⊢
  obtain ⟨VI, hVI⟩ : ∃ V2, V0.alloc (.cells #[.int .u8 97] 5) = V2 := ⟨_, rfl⟩
  have HVI : VI.heap[V0.heap.size]? = some (.cells #[.int .u8 97] 5 (0, 0)) := by rw [← hVI]; exact heap_alloc_new _ _
  have BVI : Below V0.heap.size V0 VI := by rw [← hVI]; exact (Below.refl _ _).alloc (Nat.le_refl _) _
  have AI := hidIt (A10.out.below BVI)
  have ZI : Hid (V0.heap.size < VI.heap.size) := hidIt (Array.getElem?_eq_some_iff.1 HVI).1
  obtain ⟨VJ, hcVJ, hbVJ, fzVJ, hhVJ⟩ := convB VI V0.heap.size 1 1 #[.int .u8 97] _ HVI
  have AJ := hidIt (A10.out.below (BVI.trans (hbVJ.below (Nat.le_refl _) BVI.size)))
  refine wpAnyH_ready (rs := [4, 5]) (by kernel_rfl) (by simp) ?_
  refine all_call (i := 4) (some 31) 28 _ _ rfl rfl rfl (by rfl) #[.int .i64 1, .int .i64 7] rfl Tryz.func28 (by kernel_rfl) (by kernel_rfl) ?_ (all_runI (i := 5) (some 32) rfl rfl (by rfl) (.slice (some ⟨V0.heap.size, 0, none⟩) 1 1) VI (by rw [← hVI]; exact bs_runI 43 5 1 _ rfl 1 1 (.int .u8 0) #[.int .u8 97] _ Tryz.underlying43 u8_info (by omega) (by omega) rfl (by kernel_rfl)) AI.out.p.1 (fun hHeld => ?_) AllReadyH.nil)
  · refine (ref_any 1 7 _).mono ?_
    rintro e V1 ⟨rfl, hB⟩
    have A11 := hidIt (A10.out.below hB)
    clear hB
    refine ⟨_, rfl, A11.out.p.1, fun hHeld => ?_⟩
    simp only [Act.put, List.setIfInBounds_toArray, List.set_cons_zero, List.set_cons_succ]
    obtain ⟨V2, hV2⟩ : ∃ V2, V1.alloc (.cells #[.int .u8 97] 5) = V2 := ⟨_, rfl⟩
    have HV2 : V2.heap[V1.heap.size]? = some (.cells #[.int .u8 97] 5 (0, 0)) := by rw [← hV2]; exact heap_alloc_new _ _
    have BV2 : Below V1.heap.size V1 V2 := by rw [← hV2]; exact (Below.refl _ _).alloc (Nat.le_refl _) _
    obtain ⟨VA, hcVA, hbVA, fzVA, hhVA⟩ := convB V2 V1.heap.size 1 1 #[.int .u8 97] _ HV2
    have BX : Below V1.heap.size V1 VA := BV2.trans (hbVA.below (Nat.le_refl _) BV2.size)
    have AA := hidIt (A11.out.below BX)
    have LL := hidIt (one_lies hhVA)
    refine step_at (i := 5) (some 32) rfl rfl (by rfl) (by kernel_rfl) (.slice (some ⟨V1.heap.size, 0, none⟩) 1 1) V2 (by rw [← hV2]; exact bs_runI 43 5 1 _ rfl 1 1 (.int .u8 0) #[.int .u8 97] _ Tryz.underlying43 u8_info (by omega) (by omega) rfl (by kernel_rfl)) (A11.out.below BV2).p.1 (fun hHeld => ?_)
    simp only [Act.put, List.setIfInBounds_toArray, List.set_cons_zero, List.set_cons_succ]
    refine step_at (i := 6) (some 33) rfl rfl (by rfl) (by kernel_rfl) (.slice (some ⟨V1.heap.size, 0, none⟩) 1 1) VA (conv_run 43 43 (.tmp 32) rfl _ rfl hcVA) AA.out.p.1 (fun hHeld => ?_)
    simp only [Act.put, List.setIfInBounds_toArray, List.set_cons_zero, List.set_cons_succ]
    clear hV2 HV2 BV2 hcVA hbVA hhVA BX A11
    generalize V1.heap.size = y at LL ⊢
    refine take_at (i := 7) (v := .agg (blkC bk1 none 0 (some ⟨y, 0, none⟩) 1).toArray) (some 34) rfl rfl (by kernel_rfl) (by kernel_rfl) (by kernel_rfl) (fun _ _ _ h => h) (Or.inl ⟨by rfl, fun w _ => build_runI 67 _ rfl (blkC bk1 none 0 (some ⟨y, 0, none⟩) 1).toArray (by kernel_rfl)⟩) (by assumption) ?_
    simp only [Act.put, List.setIfInBounds_toArray, List.set_cons_zero, List.set_cons_succ]
    refine call_at (i := 8) (some 35) 43 _ _ rfl rfl rfl (by rfl) (by kernel_rfl) #[.agg (blkC bk1 (some ⟨g1, 0, none⟩) 0 (some ⟨g2, 0, none⟩) 1).toArray, .agg (blkC bk1 none 0 (some ⟨y, 0, none⟩) 1).toArray] rfl Tryz.func43 (by kernel_rfl) (by kernel_rfl) ?_
    refine (blk_self bk1 (some ⟨g1, 0, none⟩) none (some ⟨g2, 0, none⟩) (some ⟨y, 0, none⟩) 0 0 1 1 _ AA.out.bl ⟨.inl rfl, Nat.le_refl _, Arg.of LL.out, Nat.le_refl _⟩ (by show 0 ≤ 1000; omega)).mono ?_
    rintro e VB ⟨rfl, hB⟩
    have AB := hidIt (AA.out.below hB)
    clear hB
    refine ⟨_, rfl, AB.out.p.1, fun hHeld => ?_⟩
    simp only [Act.put, List.setIfInBounds_toArray, List.set_cons_zero, List.set_cons_succ]
    refine take_at (i := 9) (v := ?_) (some 36) rfl rfl (by kernel_rfl) (by kernel_rfl) (by kernel_rfl) (fun _ _ _ h => h) (Or.inl ⟨by rfl, ?_⟩) (by assumption) ?_
    rotate_left
    · (intro w hSw; clear hSw; go_simp; try with_reducible rfl)
    simp only [Act.put, List.setIfInBounds_toArray, List.set_cons_zero, List.set_cons_succ]
    refine take_at (i := 10) (v := ?_) (some 37) rfl rfl (by kernel_rfl) (by kernel_rfl) (by kernel_rfl) (fun _ _ _ h => h) (Or.inl ⟨by rfl, ?_⟩) (by assumption) ?_
    rotate_left
    · (intro w hSw; clear hSw; go_simp; try with_reducible rfl)
    simp only [Act.put, List.setIfInBounds_toArray, List.set_cons_zero, List.set_cons_succ]
    refine take_at (i := 11) (v := ?_) (some 38) rfl rfl (by kernel_rfl) (by kernel_rfl) (by kernel_rfl) (fun _ _ _ h => h) (Or.inl ⟨by rfl, ?_⟩) (by assumption) ?_
    rotate_left
    · (intro w hSw; clear hSw; go_simp; try with_reducible rfl)
    simp only [Act.put, List.setIfInBounds_toArray, List.set_cons_zero, List.set_cons_succ]
    refine take_at (i := 12) (v := ?_) (some 39) rfl rfl (by kernel_rfl) (by kernel_rfl) (by kernel_rfl) (fun _ _ _ h => h) (Or.inl ⟨by rfl, ?_⟩) (by assumption) ?_
    rotate_left
    · (intro w hSw; clear hSw; go_simp; try with_reducible rfl)
    simp only [Act.put, List.setIfInBounds_toArray, List.set_cons_zero, List.set_cons_succ]
    refine take_at (i := 13) (v := ?_) (some 40) rfl rfl (by kernel_rfl) (by kernel_rfl) (by kernel_rfl) (fun _ _ _ h => h) (Or.inl ⟨by rfl, ?_⟩) (by assumption) ?_
    rotate_left
    · (intro w hSw; clear hSw; go_simp; try with_reducible rfl)
    simp only [Act.put, List.setIfInBounds_toArray, List.set_cons_zero, List.set_cons_succ]
    refine take_at (i := 14) (v := ?_) (some 41) rfl rfl (by kernel_rfl) (by kernel_rfl) (by kernel_rfl) (fun _ _ _ h => h) (Or.inl ⟨by rfl, ?_⟩) (by assumption) ?_
    rotate_left
    · (intro w hSw; clear hSw; go_simp; try with_reducible rfl)
    simp only [Act.put, List.setIfInBounds_toArray, List.set_cons_zero, List.set_cons_succ]
    refine take_at (i := 15) (v := ?_) (some 42) rfl rfl (by kernel_rfl) (by kernel_rfl) (by kernel_rfl) (fun _ _ _ h => h) (Or.inl ⟨by rfl, ?_⟩) (by assumption) ?_
    rotate_left
    · (intro w hSw; clear hSw; go_simp; try with_reducible rfl)
    simp only [Act.put, List.setIfInBounds_toArray, List.set_cons_zero, List.set_cons_succ]
    refine call_at (i := 16) (some 43) 25 _ _ rfl rfl rfl (by rfl) (by kernel_rfl) #[.pointer (some ⟨g, 0, none⟩)] rfl Tryz.func25 (by kernel_rfl) (by kernel_rfl) ?_
    refine (wanted_ok _ g d 4 b mm x 1 cap (fun j => if j = 0 then 1 else 8) AB.out.ga (by omega) (by omega) AB.out.cx AB.out.lx).mono ?_
    rintro e VC ⟨z, cz, rfl, hO, hB⟩
    have AC := hidIt (AB.out.below hB)
    have ZC : Hid (HArg VC (some ⟨z, 0, none⟩) 1 (fun j => if j = 0 then 1 else 8)) := hidIt (ownI_harg hO (by omega))
    clear hO hB
    refine ⟨_, rfl, AC.out.p.1, fun hHeld => ?_⟩
    simp only [Act.put, List.setIfInBounds_toArray, List.set_cons_zero, List.set_cons_succ]
    refine call_at (i := 17) (some 44) 28 _ _ rfl rfl rfl (by rfl) (by kernel_rfl) #[.int .i64 1, .int .i64 8] rfl Tryz.func28 (by kernel_rfl) (by kernel_rfl) ?_
    refine (ref_any 1 8 _).mono ?_
    rintro e VF ⟨rfl, hB⟩
    have AF := hidIt (AC.out.below hB)
    have ZF := hidIt (ZC.out.below hB)
    clear hB
    refine ⟨_, rfl, AF.out.p.1, fun hHeld => ?_⟩
    simp only [Act.put, List.setIfInBounds_toArray, List.set_cons_zero, List.set_cons_succ]
    obtain ⟨VD, hVD⟩ : ∃ V2, VF.alloc (.cells (twoC 1 8).toArray 41) = V2 := ⟨_, rfl⟩
    have BVD : Below VF.heap.size VF VD := by rw [← hVD]; exact (Below.refl _ _).alloc (Nat.le_refl _) _
    have AD := hidIt (AF.out.below BVD)
    have ZA := hidIt (ZF.out.below BVD)
    have ZB : Hid (HArg VD (some ⟨VF.heap.size, 0, none⟩) 1 (fun j => if j = 0 then 1 else 8)) := hidIt (by rw [← hVD]; exact ref_lit VF 1 8)
    refine step_at (i := 18) (some 45) rfl rfl (by rfl) (by kernel_rfl) (.slice (some ⟨VF.heap.size, 0, none⟩) 1 1) VD (by rw [← hVD]; exact bs_runI 42 41 1 _ rfl 2 16 (.agg (twoC 0 0).toArray) (twoC 1 8).toArray _ Tryz.underlying42 ref_info (by omega) (by omega) rfl (by kernel_rfl)) AD.out.p.1 (fun hHeld => ?_)
    simp only [Act.put, List.setIfInBounds_toArray, List.set_cons_zero, List.set_cons_succ]
    generalize VF.heap.size = zz at ZB ⊢
    refine call_at (i := 19) (some 46) 31 _ _ rfl rfl rfl (by rfl) (by kernel_rfl) #[.slice (some ⟨z, 0, none⟩) 1 cz, .slice (some ⟨zz, 0, none⟩) 1 1] rfl Tryz.func31 (by kernel_rfl) (by kernel_rfl) ?_
    refine (refs_self (some ⟨z, 0, none⟩) (some ⟨zz, 0, none⟩) 1 cz 1 (fun j => if j = 0 then 1 else 8) _ ZA.out ZB.out (by omega)).mono ?_
    rintro e VE ⟨rfl, hB⟩
    have AE := hidIt (AD.out.below hB)
    clear hB
    refine ⟨_, rfl, AE.out.p.1, fun hHeld => ?_⟩
    simp only [Act.put, List.setIfInBounds_toArray, List.set_cons_zero, List.set_cons_succ]
    refine take_at (i := 20) (v := ?_) (some 47) rfl rfl (by kernel_rfl) (by kernel_rfl) (by kernel_rfl) (fun _ _ _ h => h) (Or.inl ⟨by rfl, ?_⟩) (by assumption) ?_
    rotate_left
    · (intro w hSw; clear hSw; go_simp; try with_reducible rfl)
    simp only [Act.put, List.setIfInBounds_toArray, List.set_cons_zero, List.set_cons_succ]
    refine take_at (i := 21) (v := ?_) (some 0) rfl rfl (by kernel_rfl) (by kernel_rfl) (by kernel_rfl) (fun _ _ _ h => h) (Or.inl ⟨by rfl, ?_⟩) (by assumption) ?_
    rotate_left
    · (intro w hSw; clear hSw; go_simp; try with_reducible rfl)
    simp only [Act.put, List.setIfInBounds_toArray, List.set_cons_zero]
    refine wpAnyH_done (by kernel_rfl) ?_ _
    refine NoPanic.normal ?_
    go_wp2_with fail
    go_ret
    exact ⟨rfl, AE.out.bel⟩
  · simp only [Act.put, List.setIfInBounds_toArray, List.set_cons_zero, List.set_cons_succ]
    refine wpAnyH_ready (rs := [4, 6]) (by kernel_rfl) (by simp) ?_
    refine all_call (i := 4) (some 31) 28 _ _ rfl rfl rfl (by rfl) #[.int .i64 1, .int .i64 7] rfl Tryz.func28 (by kernel_rfl) (by kernel_rfl) ?_ (all_runI (i := 6) (some 33) rfl rfl (by rfl) (.slice (some ⟨V0.heap.size, 0, none⟩) 1 1) VJ (conv_run 43 43 (.tmp 32) rfl _ rfl hcVJ) AJ.out.p.1 (fun hHeld => ?_) AllReadyH.nil)
    · refine (ref_any 1 7 _).mono ?_
      rintro e V1 ⟨rfl, hB⟩
      have A11 := hidIt (AI.out.below hB)
      have HV1 : V1.heap[V0.heap.size]? = some (.cells #[.int .u8 97] 5 (0, 0)) := (hB.block _ ZI.out).trans HVI
      obtain ⟨VA, hcVA, hbVA, fzVA, hhVA⟩ := convB V1 V0.heap.size 1 1 #[.int .u8 97] _ HV1
      have AA : Hid (AwG w g d b mm x cap w3.heap.size g1 g2 VA) := hidIt (A10.out.below (below_sh (Nat.le_refl _) BVI hB |>.trans (hbVA.below (Nat.le_refl _) (Nat.le_trans BVI.size hB.size))))
      have LL := hidIt (one_lies hhVA)
      clear hB
      refine ⟨_, rfl, A11.out.p.1, fun hHeld => ?_⟩
      simp only [Act.put, List.setIfInBounds_toArray, List.set_cons_zero, List.set_cons_succ]
      refine step_at (i := 6) (some 33) rfl rfl (by rfl) (by kernel_rfl) (.slice (some ⟨V0.heap.size, 0, none⟩) 1 1) VA (conv_run 43 43 (.tmp 32) rfl _ rfl hcVA) AA.out.p.1 (fun hHeld => ?_)
      simp only [Act.put, List.setIfInBounds_toArray, List.set_cons_zero, List.set_cons_succ]
      clear hcVA hbVA hhVA A11 HV1
      generalize V0.heap.size = y at LL ⊢
      refine take_at (i := 7) (v := .agg (blkC bk1 none 0 (some ⟨y, 0, none⟩) 1).toArray) (some 34) rfl rfl (by kernel_rfl) (by kernel_rfl) (by kernel_rfl) (fun _ _ _ h => h) (Or.inl ⟨by rfl, fun w _ => build_runI 67 _ rfl (blkC bk1 none 0 (some ⟨y, 0, none⟩) 1).toArray (by kernel_rfl)⟩) (by assumption) ?_
      simp only [Act.put, List.setIfInBounds_toArray, List.set_cons_zero, List.set_cons_succ]
      refine call_at (i := 8) (some 35) 43 _ _ rfl rfl rfl (by rfl) (by kernel_rfl) #[.agg (blkC bk1 (some ⟨g1, 0, none⟩) 0 (some ⟨g2, 0, none⟩) 1).toArray, .agg (blkC bk1 none 0 (some ⟨y, 0, none⟩) 1).toArray] rfl Tryz.func43 (by kernel_rfl) (by kernel_rfl) ?_
      refine (blk_self bk1 (some ⟨g1, 0, none⟩) none (some ⟨g2, 0, none⟩) (some ⟨y, 0, none⟩) 0 0 1 1 _ AA.out.bl ⟨.inl rfl, Nat.le_refl _, Arg.of LL.out, Nat.le_refl _⟩ (by show 0 ≤ 1000; omega)).mono ?_
      rintro e VB ⟨rfl, hB⟩
      have AB := hidIt (AA.out.below hB)
      clear hB
      refine ⟨_, rfl, AB.out.p.1, fun hHeld => ?_⟩
      simp only [Act.put, List.setIfInBounds_toArray, List.set_cons_zero, List.set_cons_succ]
      refine take_at (i := 9) (v := ?_) (some 36) rfl rfl (by kernel_rfl) (by kernel_rfl) (by kernel_rfl) (fun _ _ _ h => h) (Or.inl ⟨by rfl, ?_⟩) (by assumption) ?_
      rotate_left
      · (intro w hSw; clear hSw; go_simp; try with_reducible rfl)
      simp only [Act.put, List.setIfInBounds_toArray, List.set_cons_zero, List.set_cons_succ]
      refine take_at (i := 10) (v := ?_) (some 37) rfl rfl (by kernel_rfl) (by kernel_rfl) (by kernel_rfl) (fun _ _ _ h => h) (Or.inl ⟨by rfl, ?_⟩) (by assumption) ?_
      rotate_left
      · (intro w hSw; clear hSw; go_simp; try with_reducible rfl)
      simp only [Act.put, List.setIfInBounds_toArray, List.set_cons_zero, List.set_cons_succ]
      refine take_at (i := 11) (v := ?_) (some 38) rfl rfl (by kernel_rfl) (by kernel_rfl) (by kernel_rfl) (fun _ _ _ h => h) (Or.inl ⟨by rfl, ?_⟩) (by assumption) ?_
      rotate_left
      · (intro w hSw; clear hSw; go_simp; try with_reducible rfl)
      simp only [Act.put, List.setIfInBounds_toArray, List.set_cons_zero, List.set_cons_succ]
      refine take_at (i := 12) (v := ?_) (some 39) rfl rfl (by kernel_rfl) (by kernel_rfl) (by kernel_rfl) (fun _ _ _ h => h) (Or.inl ⟨by rfl, ?_⟩) (by assumption) ?_
      rotate_left
      · (intro w hSw; clear hSw; go_simp; try with_reducible rfl)
      simp only [Act.put, List.setIfInBounds_toArray, List.set_cons_zero, List.set_cons_succ]
      refine take_at (i := 13) (v := ?_) (some 40) rfl rfl (by kernel_rfl) (by kernel_rfl) (by kernel_rfl) (fun _ _ _ h => h) (Or.inl ⟨by rfl, ?_⟩) (by assumption) ?_
      rotate_left
      · (intro w hSw; clear hSw; go_simp; try with_reducible rfl)
      simp only [Act.put, List.setIfInBounds_toArray, List.set_cons_zero, List.set_cons_succ]
      refine take_at (i := 14) (v := ?_) (some 41) rfl rfl (by kernel_rfl) (by kernel_rfl) (by kernel_rfl) (fun _ _ _ h => h) (Or.inl ⟨by rfl, ?_⟩) (by assumption) ?_
      rotate_left
      · (intro w hSw; clear hSw; go_simp; try with_reducible rfl)
      simp only [Act.put, List.setIfInBounds_toArray, List.set_cons_zero, List.set_cons_succ]
      refine take_at (i := 15) (v := ?_) (some 42) rfl rfl (by kernel_rfl) (by kernel_rfl) (by kernel_rfl) (fun _ _ _ h => h) (Or.inl ⟨by rfl, ?_⟩) (by assumption) ?_
      rotate_left
      · (intro w hSw; clear hSw; go_simp; try with_reducible rfl)
      simp only [Act.put, List.setIfInBounds_toArray, List.set_cons_zero, List.set_cons_succ]
      refine call_at (i := 16) (some 43) 25 _ _ rfl rfl rfl (by rfl) (by kernel_rfl) #[.pointer (some ⟨g, 0, none⟩)] rfl Tryz.func25 (by kernel_rfl) (by kernel_rfl) ?_
      refine (wanted_ok _ g d 4 b mm x 1 cap (fun j => if j = 0 then 1 else 8) AB.out.ga (by omega) (by omega) AB.out.cx AB.out.lx).mono ?_
      rintro e VC ⟨z, cz, rfl, hO, hB⟩
      have AC := hidIt (AB.out.below hB)
      have ZC : Hid (HArg VC (some ⟨z, 0, none⟩) 1 (fun j => if j = 0 then 1 else 8)) := hidIt (ownI_harg hO (by omega))
      clear hO hB
      refine ⟨_, rfl, AC.out.p.1, fun hHeld => ?_⟩
      simp only [Act.put, List.setIfInBounds_toArray, List.set_cons_zero, List.set_cons_succ]
      refine call_at (i := 17) (some 44) 28 _ _ rfl rfl rfl (by rfl) (by kernel_rfl) #[.int .i64 1, .int .i64 8] rfl Tryz.func28 (by kernel_rfl) (by kernel_rfl) ?_
      refine (ref_any 1 8 _).mono ?_
      rintro e VF ⟨rfl, hB⟩
      have AF := hidIt (AC.out.below hB)
      have ZF := hidIt (ZC.out.below hB)
      clear hB
      refine ⟨_, rfl, AF.out.p.1, fun hHeld => ?_⟩
      simp only [Act.put, List.setIfInBounds_toArray, List.set_cons_zero, List.set_cons_succ]
      obtain ⟨VD, hVD⟩ : ∃ V2, VF.alloc (.cells (twoC 1 8).toArray 41) = V2 := ⟨_, rfl⟩
      have BVD : Below VF.heap.size VF VD := by rw [← hVD]; exact (Below.refl _ _).alloc (Nat.le_refl _) _
      have AD := hidIt (AF.out.below BVD)
      have ZA := hidIt (ZF.out.below BVD)
      have ZB : Hid (HArg VD (some ⟨VF.heap.size, 0, none⟩) 1 (fun j => if j = 0 then 1 else 8)) := hidIt (by rw [← hVD]; exact ref_lit VF 1 8)
      refine step_at (i := 18) (some 45) rfl rfl (by rfl) (by kernel_rfl) (.slice (some ⟨VF.heap.size, 0, none⟩) 1 1) VD (by rw [← hVD]; exact bs_runI 42 41 1 _ rfl 2 16 (.agg (twoC 0 0).toArray) (twoC 1 8).toArray _ Tryz.underlying42 ref_info (by omega) (by omega) rfl (by kernel_rfl)) AD.out.p.1 (fun hHeld => ?_)
      simp only [Act.put, List.setIfInBounds_toArray, List.set_cons_zero, List.set_cons_succ]
      generalize VF.heap.size = zz at ZB ⊢
      refine call_at (i := 19) (some 46) 31 _ _ rfl rfl rfl (by rfl) (by kernel_rfl) #[.slice (some ⟨z, 0, none⟩) 1 cz, .slice (some ⟨zz, 0, none⟩) 1 1] rfl Tryz.func31 (by kernel_rfl) (by kernel_rfl) ?_
      refine (refs_self (some ⟨z, 0, none⟩) (some ⟨zz, 0, none⟩) 1 cz 1 (fun j => if j = 0 then 1 else 8) _ ZA.out ZB.out (by omega)).mono ?_
      rintro e VE ⟨rfl, hB⟩
      have AE := hidIt (AD.out.below hB)
      clear hB
      refine ⟨_, rfl, AE.out.p.1, fun hHeld => ?_⟩
      simp only [Act.put, List.setIfInBounds_toArray, List.set_cons_zero, List.set_cons_succ]
      refine take_at (i := 20) (v := ?_) (some 47) rfl rfl (by kernel_rfl) (by kernel_rfl) (by kernel_rfl) (fun _ _ _ h => h) (Or.inl ⟨by rfl, ?_⟩) (by assumption) ?_
      rotate_left
      · (intro w hSw; clear hSw; go_simp; try with_reducible rfl)
      simp only [Act.put, List.setIfInBounds_toArray, List.set_cons_zero, List.set_cons_succ]
      refine take_at (i := 21) (v := ?_) (some 0) rfl rfl (by kernel_rfl) (by kernel_rfl) (by kernel_rfl) (fun _ _ _ h => h) (Or.inl ⟨by rfl, ?_⟩) (by assumption) ?_
      rotate_left
      · (intro w hSw; clear hSw; go_simp; try with_reducible rfl)
      simp only [Act.put, List.setIfInBounds_toArray, List.set_cons_zero]
      refine wpAnyH_done (by kernel_rfl) ?_ _
      refine NoPanic.normal ?_
      go_wp2_with fail
      go_ret
      exact ⟨rfl, AE.out.bel⟩
    · simp only [Act.put, List.setIfInBounds_toArray, List.set_cons_zero, List.set_cons_succ]
      refine call_at (i := 4) (some 31) 28 _ _ rfl rfl rfl (by rfl) (by kernel_rfl) #[.int .i64 1, .int .i64 7] rfl Tryz.func28 (by kernel_rfl) (by kernel_rfl) ?_
      refine (ref_any 1 7 _).mono ?_
      rintro e VA ⟨rfl, hB⟩
      have AA := hidIt (AJ.out.below hB)
      have LL := hidIt ((one_lies hhVJ).below hB)
      clear hB
      refine ⟨_, rfl, AA.out.p.1, fun hHeld => ?_⟩
      simp only [Act.put, List.setIfInBounds_toArray, List.set_cons_zero, List.set_cons_succ]
      generalize V0.heap.size = y at LL ⊢
      refine take_at (i := 7) (v := .agg (blkC bk1 none 0 (some ⟨y, 0, none⟩) 1).toArray) (some 34) rfl rfl (by kernel_rfl) (by kernel_rfl) (by kernel_rfl) (fun _ _ _ h => h) (Or.inl ⟨by rfl, fun w _ => build_runI 67 _ rfl (blkC bk1 none 0 (some ⟨y, 0, none⟩) 1).toArray (by kernel_rfl)⟩) (by assumption) ?_
      simp only [Act.put, List.setIfInBounds_toArray, List.set_cons_zero, List.set_cons_succ]
      refine call_at (i := 8) (some 35) 43 _ _ rfl rfl rfl (by rfl) (by kernel_rfl) #[.agg (blkC bk1 (some ⟨g1, 0, none⟩) 0 (some ⟨g2, 0, none⟩) 1).toArray, .agg (blkC bk1 none 0 (some ⟨y, 0, none⟩) 1).toArray] rfl Tryz.func43 (by kernel_rfl) (by kernel_rfl) ?_
      refine (blk_self bk1 (some ⟨g1, 0, none⟩) none (some ⟨g2, 0, none⟩) (some ⟨y, 0, none⟩) 0 0 1 1 _ AA.out.bl ⟨.inl rfl, Nat.le_refl _, Arg.of LL.out, Nat.le_refl _⟩ (by show 0 ≤ 1000; omega)).mono ?_
      rintro e VB ⟨rfl, hB⟩
      have AB := hidIt (AA.out.below hB)
      clear hB
      refine ⟨_, rfl, AB.out.p.1, fun hHeld => ?_⟩
      simp only [Act.put, List.setIfInBounds_toArray, List.set_cons_zero, List.set_cons_succ]
      refine take_at (i := 9) (v := ?_) (some 36) rfl rfl (by kernel_rfl) (by kernel_rfl) (by kernel_rfl) (fun _ _ _ h => h) (Or.inl ⟨by rfl, ?_⟩) (by assumption) ?_
      rotate_left
      · (intro w hSw; clear hSw; go_simp; try with_reducible rfl)
      simp only [Act.put, List.setIfInBounds_toArray, List.set_cons_zero, List.set_cons_succ]
      refine take_at (i := 10) (v := ?_) (some 37) rfl rfl (by kernel_rfl) (by kernel_rfl) (by kernel_rfl) (fun _ _ _ h => h) (Or.inl ⟨by rfl, ?_⟩) (by assumption) ?_
      rotate_left
      · (intro w hSw; clear hSw; go_simp; try with_reducible rfl)
      simp only [Act.put, List.setIfInBounds_toArray, List.set_cons_zero, List.set_cons_succ]
      refine take_at (i := 11) (v := ?_) (some 38) rfl rfl (by kernel_rfl) (by kernel_rfl) (by kernel_rfl) (fun _ _ _ h => h) (Or.inl ⟨by rfl, ?_⟩) (by assumption) ?_
      rotate_left
      · (intro w hSw; clear hSw; go_simp; try with_reducible rfl)
      simp only [Act.put, List.setIfInBounds_toArray, List.set_cons_zero, List.set_cons_succ]
      refine take_at (i := 12) (v := ?_) (some 39) rfl rfl (by kernel_rfl) (by kernel_rfl) (by kernel_rfl) (fun _ _ _ h => h) (Or.inl ⟨by rfl, ?_⟩) (by assumption) ?_
      rotate_left
      · (intro w hSw; clear hSw; go_simp; try with_reducible rfl)
      simp only [Act.put, List.setIfInBounds_toArray, List.set_cons_zero, List.set_cons_succ]
      refine take_at (i := 13) (v := ?_) (some 40) rfl rfl (by kernel_rfl) (by kernel_rfl) (by kernel_rfl) (fun _ _ _ h => h) (Or.inl ⟨by rfl, ?_⟩) (by assumption) ?_
      rotate_left
      · (intro w hSw; clear hSw; go_simp; try with_reducible rfl)
      simp only [Act.put, List.setIfInBounds_toArray, List.set_cons_zero, List.set_cons_succ]
      refine take_at (i := 14) (v := ?_) (some 41) rfl rfl (by kernel_rfl) (by kernel_rfl) (by kernel_rfl) (fun _ _ _ h => h) (Or.inl ⟨by rfl, ?_⟩) (by assumption) ?_
      rotate_left
      · (intro w hSw; clear hSw; go_simp; try with_reducible rfl)
      simp only [Act.put, List.setIfInBounds_toArray, List.set_cons_zero, List.set_cons_succ]
      refine take_at (i := 15) (v := ?_) (some 42) rfl rfl (by kernel_rfl) (by kernel_rfl) (by kernel_rfl) (fun _ _ _ h => h) (Or.inl ⟨by rfl, ?_⟩) (by assumption) ?_
      rotate_left
      · (intro w hSw; clear hSw; go_simp; try with_reducible rfl)
      simp only [Act.put, List.setIfInBounds_toArray, List.set_cons_zero, List.set_cons_succ]
      refine call_at (i := 16) (some 43) 25 _ _ rfl rfl rfl (by rfl) (by kernel_rfl) #[.pointer (some ⟨g, 0, none⟩)] rfl Tryz.func25 (by kernel_rfl) (by kernel_rfl) ?_
      refine (wanted_ok _ g d 4 b mm x 1 cap (fun j => if j = 0 then 1 else 8) AB.out.ga (by omega) (by omega) AB.out.cx AB.out.lx).mono ?_
      rintro e VC ⟨z, cz, rfl, hO, hB⟩
      have AC := hidIt (AB.out.below hB)
      have ZC : Hid (HArg VC (some ⟨z, 0, none⟩) 1 (fun j => if j = 0 then 1 else 8)) := hidIt (ownI_harg hO (by omega))
      clear hO hB
      refine ⟨_, rfl, AC.out.p.1, fun hHeld => ?_⟩
      simp only [Act.put, List.setIfInBounds_toArray, List.set_cons_zero, List.set_cons_succ]
      refine call_at (i := 17) (some 44) 28 _ _ rfl rfl rfl (by rfl) (by kernel_rfl) #[.int .i64 1, .int .i64 8] rfl Tryz.func28 (by kernel_rfl) (by kernel_rfl) ?_
      refine (ref_any 1 8 _).mono ?_
      rintro e VF ⟨rfl, hB⟩
      have AF := hidIt (AC.out.below hB)
      have ZF := hidIt (ZC.out.below hB)
      clear hB
      refine ⟨_, rfl, AF.out.p.1, fun hHeld => ?_⟩
      simp only [Act.put, List.setIfInBounds_toArray, List.set_cons_zero, List.set_cons_succ]
      obtain ⟨VD, hVD⟩ : ∃ V2, VF.alloc (.cells (twoC 1 8).toArray 41) = V2 := ⟨_, rfl⟩
      have BVD : Below VF.heap.size VF VD := by rw [← hVD]; exact (Below.refl _ _).alloc (Nat.le_refl _) _
      have AD := hidIt (AF.out.below BVD)
      have ZA := hidIt (ZF.out.below BVD)
      have ZB : Hid (HArg VD (some ⟨VF.heap.size, 0, none⟩) 1 (fun j => if j = 0 then 1 else 8)) := hidIt (by rw [← hVD]; exact ref_lit VF 1 8)
      refine step_at (i := 18) (some 45) rfl rfl (by rfl) (by kernel_rfl) (.slice (some ⟨VF.heap.size, 0, none⟩) 1 1) VD (by rw [← hVD]; exact bs_runI 42 41 1 _ rfl 2 16 (.agg (twoC 0 0).toArray) (twoC 1 8).toArray _ Tryz.underlying42 ref_info (by omega) (by omega) rfl (by kernel_rfl)) AD.out.p.1 (fun hHeld => ?_)
      simp only [Act.put, List.setIfInBounds_toArray, List.set_cons_zero, List.set_cons_succ]
      generalize VF.heap.size = zz at ZB ⊢
      refine call_at (i := 19) (some 46) 31 _ _ rfl rfl rfl (by rfl) (by kernel_rfl) #[.slice (some ⟨z, 0, none⟩) 1 cz, .slice (some ⟨zz, 0, none⟩) 1 1] rfl Tryz.func31 (by kernel_rfl) (by kernel_rfl) ?_
      refine (refs_self (some ⟨z, 0, none⟩) (some ⟨zz, 0, none⟩) 1 cz 1 (fun j => if j = 0 then 1 else 8) _ ZA.out ZB.out (by omega)).mono ?_
      rintro e VE ⟨rfl, hB⟩
      have AE := hidIt (AD.out.below hB)
      clear hB
      refine ⟨_, rfl, AE.out.p.1, fun hHeld => ?_⟩
      simp only [Act.put, List.setIfInBounds_toArray, List.set_cons_zero, List.set_cons_succ]
      refine take_at (i := 20) (v := ?_) (some 47) rfl rfl (by kernel_rfl) (by kernel_rfl) (by kernel_rfl) (fun _ _ _ h => h) (Or.inl ⟨by rfl, ?_⟩) (by assumption) ?_
      rotate_left
      · (intro w hSw; clear hSw; go_simp; try with_reducible rfl)
      simp only [Act.put, List.setIfInBounds_toArray, List.set_cons_zero, List.set_cons_succ]
      refine take_at (i := 21) (v := ?_) (some 0) rfl rfl (by kernel_rfl) (by kernel_rfl) (by kernel_rfl) (fun _ _ _ h => h) (Or.inl ⟨by rfl, ?_⟩) (by assumption) ?_
      rotate_left
      · (intro w hSw; clear hSw; go_simp; try with_reducible rfl)
      simp only [Act.put, List.setIfInBounds_toArray, List.set_cons_zero]
      refine wpAnyH_done (by kernel_rfl) ?_ _
      refine NoPanic.normal ?_
      go_wp2_with fail
      go_ret
      exact ⟨rfl, AE.out.bel⟩
end Go.Proofs.YtgilodcgcoedeaaGreatDoor
namespace Go.Proofs.YtgilodcgcoedeaaGreatDoor
open Go.RowKit Go.Maps
/-- A pointer that is nil, or is to a zero Grid. -/
def NoG (W : World) (p : Option Addr) : Prop := p = none ∨ ∃ z, p = some ⟨z, 0, none⟩ ∧ W.cell? ⟨z, 0, none⟩ = some (.pointer none) ∧ z < W.heap.size
theorem NoG.below {W W' : World} {p : Option Addr} (h : NoG W p) (hB : Below W.heap.size W W') : NoG W' p := by
  rcases h with rfl | ⟨z, rfl, h1, h2⟩
  · exact .inl rfl
  · exact .inr ⟨z, rfl, (hB.cell (p := ⟨z, 0, none⟩) h2).trans h1, Nat.lt_of_lt_of_le h2 hB.size⟩
set_option maxRecDepth 100000 in
theorem gmade_none (W : World) (p : Option Addr) (h : NoG W p) : Calls Tryz.prog 76 #[.pointer p] W fun e w' => e = .returned (.bool false) ∧ w' = W := by
  rcases h with rfl | ⟨z, rfl, c0, _⟩
  · go_enter Tryz.func76, Tryz.ntmps76
    go_wp2_with fail
    go_ret
    exact ⟨rfl, rfl⟩
  · have hp := eqlg_nil ⟨z, 0, none⟩
    go_enter Tryz.func76, Tryz.ntmps76
    go_wp2_with fail
    go_ret
    exact ⟨rfl, rfl⟩
theorem gready_none (W : World) (p : Option Addr) (h : NoG W p) : Calls Tryz.prog 62 #[.pointer p] W fun e w' => e = .returned (.int .i64 1) ∧ w' = W := by
  have M := hidIt (gmade_none W p h)
  clear h
  go_enter Tryz.func62, Tryz.ntmps62
  go_wp2_with (go_at_call 76; refine M.out.mono ?_; rintro e w1 ⟨rfl, hw⟩; rw [hw]; clear hw w1)
  go_ret
  exact ⟨rfl, rfl⟩
theorem gasked_none (W : World) (a : Option Addr) (x y : Int) (h : NoG W a) : Calls Tryz.prog 70 #[.pointer a, .agg (twoC x y).toArray] W fun e w' => e = .returned (.int .i64 1) ∧ Below W.heap.size W w' := by
  have H := hidIt h
  clear h
  go_enter Tryz.func70, Tryz.ntmps70
  go_wp2_with (first
    | (refine wpList_box_rec rfl 41 (.tmp 1) rfl (twoC x y) rfl W.heap.size rfl ?_; intro W1 R1 B1 z1; have E1 := hidIt B1; clear R1 B1 z1)
    | (go_at_call 62; refine (gready_none W1 a (H.out.below E1.out)).mono ?_; rintro e w1 ⟨rfl, hw⟩; rw [hw]; clear hw w1))
  go_ret
  exact ⟨rfl, E1.out⟩
set_option maxRecDepth 100000 in
theorem gwrite_none (W : World) (p a b : Option Addr) (kind stamp : Int) (k C n D : Nat) (h : NoG W p) : Calls Tryz.prog 14 #[.pointer p, .int .i64 kind, .slice a k C, .slice b n D, .int .i64 stamp] W fun e w' => e = .returned (.tuple #[.agg (twoC 0 0).toArray, .int .i64 1]) ∧ Below W.heap.size W w' := by
  have H := hidIt h
  clear h
  go_enter Tryz.func14, Tryz.ntmps14
  go_wp2_with (first
    | (refine wpList_alloc_rec rfl 41 rfl (twoC 0 0) W.heap.size rfl zero_ref ?_; intro W1 R1 B1 z1; have E1 := hidIt B1; have R11 := hidIt R1; clear R1 B1 z1)
    | (go_at_call 62; refine (gready_none W1 p (H.out.below E1.out)).mono ?_; rintro e w1 ⟨rfl, hw⟩; rw [hw]; clear hw w1)
    | (refine wpList_build_to rfl 41 #[] rfl (twoC 0 0).toArray (by kernel_rfl) ?_)
    | (refine wpList_store_rec rfl 41 (.tmp 10) (.tmp 24) rfl W.heap.size 0 _ (twoC 0 0) rfl rfl R11.out rfl (by kernel_rfl) (twoC_one _ _) ?_; intro W2 R2 B2))
  have hl := R2.run_load 41 _ Tryz.underlying41 rfl (by kernel_rfl)
  refine bodyPost_ret (v := .tuple #[.agg (twoC 0 0).toArray, .int .i64 1]) (by simp [results, Tryz.results14, asAddr, hl]) rfl ⟨rfl, E1.out.trans (B2.below (Nat.le_refl _) E1.out.size)⟩
set_option maxRecDepth 100000 in
theorem gfind_none (W : World) (a : Option Addr) (x y : Int) (h : NoG W a) : Calls Tryz.prog 69 #[.pointer a, .agg (twoC x y).toArray] W fun e w' => e = .returned (.tuple #[blkV blk0 none 0 none 0, .slice none 0 0, .int .i64 1]) ∧ Below W.heap.size W w' := by
  have H := hidIt h
  clear h
  have T1 : Hid True := trivial
  go_enter Tryz.func69, Tryz.ntmps69
  go_wp2_with (first
    | (refine wpList_box_rec rfl 41 (.tmp 1) rfl (twoC x y) rfl W.heap.size rfl ?_; intro W1 R1 B1 z1)
    | (have _q := T1; clear T1; refine wpList_alloc_rec rfl 67 rfl (blkC blk0 none 0 none 0) (W.heap.size + 1) z1 zero_blk ?_; intro W2 R2 B2 z2
       have E2 := hidIt (B1.trans (B2.mono (by omega))); have P2 := hidIt (R1.below (by rw [z1]; exact B2)); have Q2 := hidIt R2; clear R1 B1 z1 R2 B2 z2)
    | (refine wpList_load_rec rfl 41 (.tmp 3) rfl W.heap.size 0 (twoC x y) rfl _ Tryz.underlying41 rfl (by kernel_rfl) P2.out ?_)
    | (go_at_call 70; refine (gasked_none _ a x y (H.out.below E2.out)).mono ?_; rintro e w3 ⟨rfl, hB⟩; have E3 := hidIt (below_sh (Nat.le_refl _) E2.out hB); have Q3 := hidIt (Q2.out.below hB); clear hB E2 Q2)
    | (refine wpList_build_to rfl 67 #[] rfl (blkC blk0 none 0 none 0).toArray (by kernel_rfl) ?_)
    | (refine wpList_store_rec rfl 67 (.tmp 4) (.tmp 16) rfl (W.heap.size + 1) 0 _ (blkC blk0 none 0 none 0) rfl rfl Q3.out rfl (by kernel_rfl) (blkC_one _ _ _ _ _) ?_; intro W4 R4 B4))
  have hl := R4.run_load 67 _ Tryz.underlying67 rfl (by kernel_rfl)
  refine bodyPost_ret (v := .tuple #[.agg (blkC blk0 none 0 none 0).toArray, .slice none 0 0, .int .i64 1]) (by simp [results, Tryz.results69, asAddr, hl]) rfl ⟨rfl, E3.out.trans (B4.below (by omega) E3.out.size)⟩
set_option maxRecDepth 100000 in
theorem gread_none (W : World) (a : Option Addr) (p q : Int) (h : NoG W a) : Calls Tryz.prog 15 #[.pointer a, .agg (twoC p q).toArray] W fun e w' => e = .returned (.tuple #[blkV blk0 none 0 none 0, .int .i64 1]) ∧ Below W.heap.size W w' := by
  have H := hidIt h
  clear h
  have T1 : Hid True := trivial
  have T2 : Hid True := trivial
  go_enter Tryz.func15, Tryz.ntmps15
  go_wp2_with (first
    | (refine wpList_box_rec rfl 41 (.tmp 1) rfl (twoC p q) rfl W.heap.size rfl ?_; intro W1 R1 B1 z1)
    | (have _q := T1; clear T1; refine wpList_alloc_rec rfl 67 rfl (blkC blk0 none 0 none 0) (W.heap.size + 1) z1 zero_blk ?_; intro W2 R2 B2 z2
       have E2 := hidIt (B1.trans (B2.mono (by omega))); have P2 := hidIt (R1.below (by rw [z1]; exact B2)); have Q2 := hidIt R2; have Z2 := hidIt z2; clear R1 B1 z1 R2 B2 z2)
    | (refine wpList_load_rec rfl 41 (.tmp 3) rfl W.heap.size 0 (twoC p q) rfl _ Tryz.underlying41 rfl (by kernel_rfl) P2.out ?_)
    | (go_at_call 69; refine (gfind_none _ a p q (H.out.below E2.out)).mono ?_; rintro e w4 ⟨rfl, hB⟩; unfold blkV; have E4 := hidIt (below_sh (Nat.le_refl _) E2.out hB); have Q4 := hidIt (Q2.out.below hB); have Z4 : Hid (W.heap.size + 2 ≤ w4.heap.size) := hidIt (by have := Z2.out; have := hB.size; omega); clear hB E2 P2 Q2)
    | (have _q := Z4; have _p := T2; clear T2 _p; refine wpList_alloc_rec rfl 67 rfl (blkC blk0 none 0 none 0) w4.heap.size rfl zero_blk ?_; intro W5 R5 B5 z5; have E5 := hidIt (below_sh (Nat.le_refl _) E4.out B5); have Q5 := hidIt (Q4.out.below B5); clear E4 Q4 B5 z5)
    | (refine wpList_store_rec rfl 67 (.tmp 6) (.tmp 13) rfl w4.heap.size 0 _ (blkC blk0 none 0 none 0) rfl rfl R5 rfl (by kernel_rfl) (blkC_one _ _ _ _ _) ?_; intro W6 R6 B6; have E6 := hidIt (E5.out.trans (B6.below (by have := Z4.out; omega) E5.out.size)); have Q6 := hidIt (Q5.out.but B6 (by have := Z4.out; omega)); have R66 := hidIt R6; clear R5 R6 B6 E5 Q5)
    | (refine wpList_load_rec rfl 67 (.tmp 6) rfl w4.heap.size 0 (blkC blk0 none 0 none 0) rfl _ Tryz.underlying67 rfl (by kernel_rfl) R66.out ?_)
    | (refine wpList_store_rec rfl 67 (.tmp 4) (.tmp 16) rfl (W.heap.size + 1) 0 _ (blkC blk0 none 0 none 0) rfl rfl Q6.out rfl (by kernel_rfl) (blkC_one _ _ _ _ _) ?_; intro W7 R7 B7))
  have hl := R7.run_load 67 _ Tryz.underlying67 rfl (by kernel_rfl)
  refine bodyPost_ret (v := .tuple #[.agg (blkC blk0 none 0 none 0).toArray, .int .i64 1]) (by simp [results, Tryz.results15, asAddr, hl]) rfl ⟨rfl, E6.out.trans (B7.below (by omega) E6.out.size)⟩
set_option maxRecDepth 100000 in
theorem graw_none (W : World) (a : Option Addr) (p q : Int) (h : NoG W a) : Calls Tryz.prog 16 #[.pointer a, .agg (twoC p q).toArray] W fun e w' => e = .returned (.tuple #[.slice none 0 0, .int .i64 1]) ∧ Below W.heap.size W w' := by
  have H := hidIt h
  clear h
  go_enter Tryz.func16, Tryz.ntmps16
  go_wp2_with (first
    | (refine wpList_box_rec rfl 41 (.tmp 1) rfl (twoC p q) rfl W.heap.size rfl ?_; intro W1 R1 B1 z1; have E2 := hidIt B1; have P2 := hidIt R1; clear R1 B1 z1)
    | (refine wpList_load_rec rfl 41 (.tmp 3) rfl W.heap.size 0 (twoC p q) rfl _ Tryz.underlying41 rfl (by kernel_rfl) P2.out ?_)
    | (go_at_call 69; refine (gfind_none _ a p q (H.out.below E2.out)).mono ?_; rintro e w4 ⟨rfl, hB⟩; unfold blkV; have E4 := hidIt (below_sh (Nat.le_refl _) E2.out hB); clear hB E2 P2)
    | (refine wpList_alloc_rec rfl 67 rfl (blkC blk0 none 0 none 0) w4.heap.size rfl zero_blk ?_; intro W5 R5 B5 z5; have E5 := hidIt (below_sh (Nat.le_refl _) E4.out B5); have Z5 := hidIt (E4.out.size); clear E4 B5 z5)
    | (refine wpList_store_rec rfl 67 (.tmp 6) (.tmp 13) rfl w4.heap.size 0 _ (blkC blk0 none 0 none 0) rfl rfl R5 rfl (by kernel_rfl) (blkC_one _ _ _ _ _) ?_; intro W6 R6 B6; have E6 := hidIt (E5.out.trans (B6.below Z5.out E5.out.size)); clear R5 R6 B6 E5))
  go_ret2
  exact ⟨rfl, E6.out⟩
set_option maxRecDepth 100000 in
theorem ginstall_none (W : World) (a b : Option Addr) (p q : Int) (n C : Nat) (h : NoG W a) : Calls Tryz.prog 18 #[.pointer a, .agg (twoC p q).toArray, .slice b n C] W fun e w' => e = .returned (.int .i64 1) ∧ Below W.heap.size W w' := by
  have H := hidIt h
  clear h
  go_enter Tryz.func18, Tryz.ntmps18
  go_wp2_with (first
    | (refine wpList_box_rec rfl 41 (.tmp 1) rfl (twoC p q) rfl W.heap.size rfl ?_; intro W1 R1 B1 z1; have E2 := hidIt B1; have P2 := hidIt R1; clear R1 B1 z1)
    | (refine wpList_load_rec rfl 41 (.tmp 4) rfl W.heap.size 0 (twoC p q) rfl _ Tryz.underlying41 rfl (by kernel_rfl) P2.out ?_)
    | (go_at_call 70; refine (gasked_none _ a p q (H.out.below E2.out)).mono ?_; rintro e w3 ⟨rfl, hB⟩; have E3 := hidIt (below_sh (Nat.le_refl _) E2.out hB); clear hB E2 P2))
  go_ret
  exact ⟨rfl, E3.out⟩
set_option maxRecDepth 100000 in
theorem greach_none (W : World) (a : Option Addr) (p q : Int) (h : NoG W a) : Calls Tryz.prog 17 #[.pointer a, .agg (twoC p q).toArray] W fun e w' => e = .returned (.tuple #[.slice none 0 0, .int .i64 1]) ∧ Below W.heap.size W w' := by
  have H := hidIt h
  clear h
  have A1 : Hid (Below W.heap.size W (W.alloc (.cells #[.pointer a] 25))) := hidIt ((Below.refl _ _).alloc (Nat.le_refl _) _)
  have c0 : (W.alloc (.cells #[.pointer a] 25)).cell? ⟨W.heap.size, 0, none⟩ = some (.pointer a) := by
    rw [cell_of_row _ _ _ _ _ _ (heap_alloc_new _ _)]
    rfl
  have C0 := hidIt c0
  clear c0
  go_enter Tryz.func17, Tryz.ntmps17
  go_wp2_with (first
    | (refine wpList_box_rec rfl 41 (.tmp 1) rfl (twoC p q) rfl (W.heap.size + 1) (by simp) ?_; intro W1 R1 B1 z1; have E2 := hidIt (A1.out.trans (B1.mono (by omega))); have P2 := hidIt R1; have c1 : W1.cell? ⟨W.heap.size, 0, none⟩ = some (.pointer a) := (B1.cell (p := ⟨W.heap.size, 0, none⟩) (by show W.heap.size < W.heap.size + 1; omega)).trans C0.out; clear R1 B1 z1)
    | (refine wpList_load_rec rfl 41 (.tmp 3) rfl (W.heap.size + 1) 0 (twoC p q) rfl _ Tryz.underlying41 rfl (by kernel_rfl) P2.out ?_)
    | (go_at_call 70; refine (gasked_none _ a p q (H.out.below E2.out)).mono ?_; rintro e w3 ⟨rfl, hB⟩; have E3 := hidIt (below_sh (Nat.le_refl _) E2.out hB); clear hB E2 P2))
  go_ret2
  exact ⟨rfl, E3.out⟩
set_option maxRecDepth 100000 in
theorem gflush_none (W : World) (p : Option Addr) (h : NoG W p) : Calls Tryz.prog 19 #[.pointer p] W fun e w' => e = .returned (.int .i64 1) ∧ w' = W := by
  have M := hidIt (gmade_none W p h)
  clear h
  go_enter Tryz.func19, Tryz.ntmps19
  go_wp2_with (go_at_call 76; refine M.out.mono ?_; rintro e w1 ⟨rfl, hw⟩; rw [hw]; clear hw w1)
  go_ret
  exact ⟨rfl, rfl⟩
set_option maxRecDepth 100000 in
theorem gsettle_none (W : World) (p : Option Addr) (h : NoG W p) : Calls Tryz.prog 23 #[.pointer p] W fun e w' => e = .returned (.int .i64 0) ∧ w' = W := by
  have M := hidIt (gmade_none W p h)
  clear h
  go_enter Tryz.func23, Tryz.ntmps23
  go_wp2_with (go_at_call 76; refine M.out.mono ?_; rintro e w1 ⟨rfl, hw⟩; rw [hw]; clear hw w1)
  go_ret
  exact ⟨rfl, rfl⟩
set_option maxRecDepth 100000 in
theorem gfree_none (W : World) (p : Option Addr) (h : NoG W p) : Calls Tryz.prog 24 #[.pointer p] W fun e w' => e = .returned (.slice none 0 0) ∧ w' = W := by
  have M := hidIt (gmade_none W p h)
  clear h
  go_enter Tryz.func24, Tryz.ntmps24
  go_wp2_with (go_at_call 76; refine M.out.mono ?_; rintro e w1 ⟨rfl, hw⟩; rw [hw]; clear hw w1)
  go_ret
  exact ⟨rfl, rfl⟩
set_option maxRecDepth 100000 in
theorem gwanted_none (W : World) (p : Option Addr) (h : NoG W p) : Calls Tryz.prog 25 #[.pointer p] W fun e w' => e = .returned (.slice none 0 0) ∧ w' = W := by
  have M := hidIt (gmade_none W p h)
  clear h
  go_enter Tryz.func25, Tryz.ntmps25
  go_wp2_with (go_at_call 76; refine M.out.mono ?_; rintro e w1 ⟨rfl, hw⟩; rw [hw]; clear hw w1)
  go_ret
  exact ⟨rfl, rfl⟩
set_option maxRecDepth 100000 in
theorem gcounts_none (W : World) (p : Option Addr) (h : NoG W p) : Calls Tryz.prog 22 #[.pointer p] W fun e w' => e = .returned (.tuple #[.int .i64 0, .int .i64 0, .int .i64 0]) ∧ w' = W := by
  have M := hidIt (gmade_none W p h)
  clear h
  go_enter Tryz.func22, Tryz.ntmps22
  go_wp2_with (go_at_call 76; refine M.out.mono ?_; rintro e w1 ⟨rfl, hw⟩; rw [hw]; clear hw w1)
  go_ret3
  exact ⟨rfl, rfl⟩
set_option maxRecDepth 100000 in
theorem greset_none (W : World) (p : Option Addr) (b : Option Addr) (n C : Nat) (h : NoG W p) : Calls Tryz.prog 21 #[.pointer p, .slice b n C] W fun e w' => e = .returned (.int .i64 1) ∧ w' = W := by
  have M := hidIt (gmade_none W p h)
  clear h
  go_enter Tryz.func21, Tryz.ntmps21
  go_wp2_with (go_at_call 76; refine M.out.mono ?_; rintro e w1 ⟨rfl, hw⟩; rw [hw]; clear hw w1)
  go_ret
  exact ⟨rfl, rfl⟩
set_option maxRecDepth 100000 in
theorem grelease_none (W : World) (a : Option Addr) (p q : Int) (h : NoG W a) : Calls Tryz.prog 20 #[.pointer a, .agg (twoC p q).toArray] W fun e w' => e = .returned (.int .i64 1) ∧ Below W.heap.size W w' := by
  have H := hidIt h
  clear h
  go_enter Tryz.func20, Tryz.ntmps20
  go_wp2_with (first
    | (refine wpList_box_rec rfl 41 (.tmp 1) rfl (twoC p q) rfl W.heap.size rfl ?_; intro W1 R1 B1 z1; have E2 := hidIt B1; clear R1 B1 z1)
    | (go_at_call 76; refine (gmade_none W1 a (H.out.below E2.out)).mono ?_; rintro e w1 ⟨rfl, hw⟩; rw [hw]; clear hw w1))
  go_ret
  exact ⟨rfl, E2.out⟩
theorem gup_none (W : World) (p : Option Addr) (h : NoD W p) : Calls Tryz.prog 90 #[.pointer p] W fun e w' => e = .returned (.int .i64 1) ∧ w' = W := by
  have M := hidIt (dread_no W p 0 0 h)
  clear h
  go_enter Tryz.func90, Tryz.ntmps90
  go_wp2_with (go_at_call 113; refine M.out.mono ?_; rintro e w1 ⟨rfl, hw⟩; rw [hw]; clear hw w1)
  go_ret
  exact ⟨rfl, rfl⟩
theorem fits_none (W : World) (p : Option Addr) (n : Int) (h : NoD W p) : Calls Tryz.prog 38 #[.pointer p, .int .i64 n] W fun e w' => e = .returned (.int .i64 1) ∧ w' = W := by
  have M := hidIt (gup_none W p h)
  clear h
  go_enter Tryz.func38, Tryz.ntmps38
  go_wp2_with (go_at_call 90; refine M.out.mono ?_; rintro e w1 ⟨rfl, hw⟩; rw [hw]; clear hw w1)
  go_ret
  exact ⟨rfl, rfl⟩
theorem gnew_none (W : World) (p : Option Addr) (n : Int) (h : NoD W p) : Calls Tryz.prog 9 #[.pointer p, .int .i64 n] W fun e w' => e = .returned (.tuple #[.pointer none, .int .i64 1]) ∧ w' = W := by
  have M := hidIt (fits_none W p n h)
  clear h
  go_enter Tryz.func9, Tryz.ntmps9
  go_wp2_with (go_at_call 38; refine M.out.mono ?_; rintro e w1 ⟨rfl, hw⟩; rw [hw]; clear hw w1)
  go_ret2
  exact ⟨rfl, rfl⟩
theorem gopen_none (W : World) (p b : Option Addr) (n : Int) (k C : Nat) (h : NoD W p) : Calls Tryz.prog 26 #[.pointer p, .int .i64 n, .slice b k C] W fun e w' => e = .returned (.tuple #[.pointer none, .int .i64 1]) ∧ w' = W := by
  have M := hidIt (fits_none W p n h)
  clear h
  go_enter Tryz.func26, Tryz.ntmps26
  go_wp2_with (go_at_call 38; refine M.out.mono ?_; rintro e w1 ⟨rfl, hw⟩; rw [hw]; clear hw w1)
  go_ret2
  exact ⟨rfl, rfl⟩
end Go.Proofs.YtgilodcgcoedeaaGreatDoor
namespace Go.Proofs.YtgilodcgcoedeaaGreatDoor
open Go.RowKit Go.Maps
/-- A list of two pointers is made: the world behind it is a letter. -/
theorem wpList_two {ops : Array Oper} {rest : List Oper} {o : Oper} {a : Act} {w : World} {Q : Exit → Act → World → Prop} (hg : o.guard = none) (t e : TypeId) (x y : Operand) (ho : o.op = .buildSlice t 2 #[(0, x), (1, y)])
    (hu : Tryz.prog.underlying t = some (.slice e)) (hinfo : (Tryz.prog.info? e).map (fun i => (i.zero, i.size, i.bytes)) = some (some (.pointer none), 1, 8)) (p q : Option Addr) (hx : a.eval x = .pointer p) (hy : a.eval y = .pointer q) (H : Nat) (hH : w.heap.size = H)
    (hK : ∀ W, W.cell? ⟨H, 0, none⟩ = some (.pointer p) → W.cell? ⟨H, 1, none⟩ = some (.pointer q) → H < W.heap.size → Below H w W → W.heap.size = H + 1 → wpList Tryz.prog ops Q rest (a.put o.dst (.slice (some ⟨H, 0, none⟩) 2 2)) W) : wpList Tryz.prog ops Q (o :: rest) a w := by
  subst hH
  refine wpList_bs hg t e 2 #[(0, x), (1, y)] ho 1 8 (.pointer none) #[.pointer p, .pointer q] [(0, .pointer p), (1, .pointer q)] hu hinfo (by decide) (by decide) (by simp [hx, hy]) (by kernel_rfl) (hK _ ?_ ?_ (by simp) ((Below.refl _ _).alloc (Nat.le_refl _) _) (by simp))
  · rw [cell_of_row _ _ _ _ _ _ (heap_alloc_new _ _)]; rfl
  · rw [cell_of_row _ _ _ _ _ _ (heap_alloc_new _ _)]; rfl
/-- The zero grid and the zero disk. -/
def gZ : List Value := [.pointer none, .pointer none, .int .i64 0, .pointer none, .slice none 0 0, .map none]
def dZ : List Value := [.pointer none, .slice none 0 0, .map none, .int .i64 0, .pointer none, .bool false]
/-- What stays in GridNone. -/
structure NnS (w : World) (c : List Value) (bj bd xj xd : Nat) (W : World) : Prop where
  box : Rec19 W w.heap.size 0 c
  j0 : W.cell? ⟨bj, 0, none⟩ = some (.pointer none)
  j1 : W.cell? ⟨bj, 1, none⟩ = some (.pointer (some ⟨xj, 0, none⟩))
  d0 : W.cell? ⟨bd, 0, none⟩ = some (.pointer none)
  d1 : W.cell? ⟨bd, 1, none⟩ = some (.pointer (some ⟨xd, 0, none⟩))
  zj : W.cell? ⟨xj, 0, none⟩ = some (.pointer none)
  zd : W.cell? ⟨xd, 0, none⟩ = some (.pointer none)
  lj : bj < W.heap.size
  ld : bd < W.heap.size
  kj : xj < W.heap.size
  kd : xd < W.heap.size
  bel : Below w.heap.size w W
theorem NnS.below {w : World} {c : List Value} {bj bd xj xd : Nat} {W W' : World} (h : NnS w c bj bd xj xd W) (hB : Below W.heap.size W W') : NnS w c bj bd xj xd W' :=
  ⟨h.box.below hB, (hB.cell (p := ⟨bj, 0, none⟩) h.lj).trans h.j0, (hB.cell (p := ⟨bj, 1, none⟩) h.lj).trans h.j1, (hB.cell (p := ⟨bd, 0, none⟩) h.ld).trans h.d0, (hB.cell (p := ⟨bd, 1, none⟩) h.ld).trans h.d1, (hB.cell (p := ⟨xj, 0, none⟩) h.kj).trans h.zj, (hB.cell (p := ⟨xd, 0, none⟩) h.kd).trans h.zd, Nat.lt_of_lt_of_le h.lj hB.size, Nat.lt_of_lt_of_le h.ld hB.size, Nat.lt_of_lt_of_le h.kj hB.size, Nat.lt_of_lt_of_le h.kd hB.size, below_sh (Nat.le_refl _) h.bel hB⟩
/-- The k-th of both lists. -/
def NnK (bj bd k : Nat) (p q : Option Addr) (W : World) : Prop := W.cell? ⟨bj, k, none⟩ = some (.pointer p) ∧ W.cell? ⟨bd, k, none⟩ = some (.pointer q) ∧ NoG W p ∧ NoD W q
theorem NnS.at_ {w : World} {c : List Value} {bj bd xj xd : Nat} (k : Nat) (hk : k < 2) : ∃ p q, ∀ W, NnS w c bj bd xj xd W → NnK bj bd k p q W := by
  match k, hk with
  | 0, _ => exact ⟨none, none, fun W h => ⟨h.j0, h.d0, .inl rfl, .inl rfl⟩⟩
  | 1, _ => exact ⟨some ⟨xj, 0, none⟩, some ⟨xd, 0, none⟩, fun W h => ⟨h.j1, h.d1, .inr ⟨xj, rfl, h.zj, h.kj⟩, .inr ⟨xd, rfl, h.zd, h.kd⟩⟩⟩
def nnRel (w : World) (c : List Value) (bj bd xj xd : Nat) (i : Value) (wr : World) : Prop := ∃ k : Nat, k ≤ 2 ∧ i = .int .i64 k ∧ NnS w c bj bd xj xd wr
set_option maxRecDepth 100000 in
set_option maxHeartbeats 2000000 in
theorem none_long (x y : Int) (a : Option Addr) (n C : Nat) (w : World) (hT : DTab w) (h0 : 0 < w.heap.size) (i1 : (1100 : Int) < (n : Int)) : Calls Tryz.prog 4 #[.agg (twoC x y).toArray, .slice a n C] w fun e w' => e = .returned (.bool true) ∧ Below w.heap.size w w' := by
  have TT := hidIt (And.intro hT h0)
  clear hT h0
  go_enter Tryz.func4, Tryz.ntmps4
  go_wp2_with (first
    | (refine wpList_box_rec rfl 41 (.tmp 0) rfl (twoC x y) rfl w.heap.size rfl ?_; intro W0 R0 B0 z0; have BB := hidIt B0; clear R0 B0 z0)
    | (go_at_call 11; refine (awake_ok _ (TT.out.1.belowI BB.out TT.out.2) (Nat.lt_of_lt_of_le TT.out.2 BB.out.size)).mono ?_; rintro e w1 ⟨rfl, hB⟩; have E1 := hidIt (below_sh (Nat.le_refl _) BB.out hB); clear hB))
  go_ret
  exact ⟨rfl, E1.out⟩
set_option maxRecDepth 100000 in
set_option maxHeartbeats 4000000 in
theorem none_main (x y : Int) (a : Option Addr) (n C : Nat) (w : World) (hT : DTab w) (h0 : 0 < w.heap.size) (i1 : ¬ (1100 : Int) < (n : Int)) : Calls Tryz.prog 4 #[.agg (twoC x y).toArray, .slice a n C] w fun e w' => e = .returned (.bool true) ∧ Below w.heap.size w w' := by
  have TT := hidIt (And.intro hT h0)
  clear hT h0
  go_enter Tryz.func4, Tryz.ntmps4
  go_wp2_with (first
    | (refine wpList_box_rec rfl 41 (.tmp 0) rfl (twoC x y) rfl w.heap.size rfl ?_; intro W0 R0 B0 z0; have RB := hidIt R0; have BB := hidIt B0; clear R0 B0)
    | (refine wpList_build_to rfl 56 #[] rfl gZ.toArray (by kernel_rfl) ?_)
    | (refine wpList_box_rec rfl 56 (.tmp 26) rfl gZ rfl (w.heap.size + 1) z0 ?_; intro W1 R1 B1 z1)
    | (refine wpList_two rfl 57 25 (.const (.pointer none)) (.tmp 27) rfl Tryz.underlying57 (by kernel_rfl) none (some ⟨w.heap.size + 1, 0, none⟩) rfl rfl (w.heap.size + 1 + 1) z1 ?_; intro W2 a0 a1 l2 B2 z2)
    | (refine wpList_build_to rfl 62 #[] rfl dZ.toArray (by kernel_rfl) ?_)
    | (refine wpList_box_rec rfl 62 (.tmp 29) rfl dZ rfl (w.heap.size + 1 + 1 + 1) z2 ?_; intro W3 R3 B3 z3)
    | (refine wpList_two rfl 63 29 (.const (.pointer none)) (.tmp 30) rfl Tryz.underlying63 (by kernel_rfl) none (some ⟨w.heap.size + 1 + 1 + 1, 0, none⟩) rfl rfl (w.heap.size + 1 + 1 + 1 + 1) z3 ?_; intro W4 b0 b1 l4 B4 z4
       have ST : Hid (nnRel w (twoC x y) (w.heap.size + 1 + 1) (w.heap.size + 1 + 1 + 1 + 1) (w.heap.size + 1) (w.heap.size + 1 + 1 + 1) (.int .i64 0) W4) := by
         have q1 : Below W1.heap.size W1 W4 := (B2.mono (by omega)).trans ((B3.mono (by omega)).trans (B4.mono (by omega)))
         have q2 : Below W2.heap.size W2 W4 := (B3.mono (by omega)).trans (B4.mono (by omega))
         have q3 : Below W3.heap.size W3 W4 := B4.mono (by omega)
         have q0 : Below W0.heap.size W0 W4 := (B1.mono (by omega)).trans (q1.mono (by omega))
         have e1 := (R1.below q1).1 0 _ rfl
         have e3 := (R3.below q3).1 0 _ rfl
         exact ⟨0, by omega, rfl, RB.out.below q0, (q2.cell (p := ⟨w.heap.size + 1 + 1, 0, none⟩) l2).trans a0, (q2.cell (p := ⟨w.heap.size + 1 + 1, 1, none⟩) l2).trans a1, b0, b1, e1, e3, Nat.lt_of_lt_of_le l2 q2.size, l4, (R1.below q1).2.2, (R3.below q3).2.2, below_sh (Nat.le_refl _) BB.out q0⟩
       clear R1 B1 z1 a0 a1 l2 B2 z2 R3 B3 z3 b0 b1 l4 B4 z4 RB BB z0))
  go_loopw [7] (fun i wr => nnRel w (twoC x y) (w.heap.size + 1 + 1) (w.heap.size + 1 + 1 + 1 + 1) (w.heap.size + 1) (w.heap.size + 1 + 1 + 1) i wr) (fun i _ => 2 - (RowKit.intOf i).toNat)
  case atStart => exact ST.out
  case round =>
    obtain ⟨k, hk, rfl, hS⟩ := hrel
    clear ST
    have S0 := hidIt hS
    clear hS
    by_cases hlt : k < 2
    · have i0 : (k : Int) < 2 := by omega
      obtain ⟨p, q, hpq⟩ := NnS.at_ (w := w) (c := twoC x y) (bj := w.heap.size + 1 + 1) (bd := w.heap.size + 1 + 1 + 1 + 1) (xj := w.heap.size + 1) (xd := w.heap.size + 1 + 1 + 1) k hlt
      have PQ := hidIt hpq
      have cj := (hpq _ S0.out).1
      clear hpq
      go_wp2_with (first
        | (go_at_call 14; refine (gwrite_none _ p none a 1 0 0 0 n C (PQ.out _ S0.out).2.2.1).mono ?_; rintro e w1 ⟨rfl, hB⟩; have S1 := hidIt (S0.out.below hB); clear hB cj)
        | (refine wpList_alloc_rec rfl 41 rfl (twoC 0 0) w1.heap.size rfl zero_ref ?_; intro W2 R2 B2 z2)
        | (refine wpList_store_rec rfl 41 (.tmp 9) (.tmp 44) rfl w1.heap.size 0 _ (twoC 0 0) rfl rfl R2 rfl (by kernel_rfl) (twoC_one _ _) ?_; intro W3 R3 B3
           have S3 := hidIt (S1.out.below (B2.trans (B3.below (Nat.le_refl _) B2.size)))
           clear R2 B2 z2 R3 B3 S1)
        | (have _q := S3; refine wpList_load_rec rfl 41 (.tmp 2) rfl w.heap.size 0 (twoC x y) rfl _ Tryz.underlying41 rfl (by kernel_rfl) S3.out.box ?_; clear _q)
        | (go_at_call 15; refine (gread_none _ p x y (PQ.out _ S3.out).2.2.1).mono ?_; rintro e w4 ⟨rfl, hB⟩; unfold blkV; have S4 := hidIt (S3.out.below hB); clear hB S3)
        | (refine wpList_alloc_rec rfl 67 rfl (blkC blk0 none 0 none 0) w4.heap.size rfl zero_blk ?_; intro W5 R5 B5 z5)
        | (refine wpList_store_rec rfl 67 (.tmp 11) (.tmp 50) rfl w4.heap.size 0 _ (blkC blk0 none 0 none 0) rfl rfl R5 rfl (by kernel_rfl) (blkC_one _ _ _ _ _) ?_; intro W6 R6 B6
           have S6 := hidIt (S4.out.below (B5.trans (B6.below (Nat.le_refl _) B5.size)))
           clear R5 B5 z5 R6 B6 S4)
        | (have _q := S6; refine wpList_load_rec rfl 41 (.tmp 2) rfl w.heap.size 0 (twoC x y) rfl _ Tryz.underlying41 rfl (by kernel_rfl) S6.out.box ?_; clear _q)
        | (go_at_call 16; refine (graw_none _ p x y (PQ.out _ S6.out).2.2.1).mono ?_; rintro e w7 ⟨rfl, hB⟩; have S7 := hidIt (S6.out.below hB); clear hB S6)
        | (have _q := S7; refine wpList_load_rec rfl 41 (.tmp 2) rfl w.heap.size 0 (twoC x y) rfl _ Tryz.underlying41 rfl (by kernel_rfl) S7.out.box ?_; clear _q)
        | (go_at_call 17; refine (greach_none _ p x y (PQ.out _ S7.out).2.2.1).mono ?_; rintro e w8 ⟨rfl, hB⟩; have S8 := hidIt (S7.out.below hB); clear hB S7)
        | (have _q := S8; refine wpList_load_g (by rfl) 41 (.tmp 2) rfl w.heap.size 0 (twoC x y) rfl _ Tryz.underlying41 rfl (by kernel_rfl) S8.out.box.1 ?_; clear _q)
        | (go_at_call 18; refine (ginstall_none _ p a x y n C (PQ.out _ S8.out).2.2.1).mono ?_; rintro e w9 ⟨rfl, hB⟩; have S9 := hidIt (S8.out.below hB); clear hB S8)
        | (go_at_call 19; refine (gflush_none _ p (PQ.out _ S9.out).2.2.1).mono ?_; rintro e v1 ⟨rfl, hw⟩; rw [hw]; clear hw v1)
        | (have _q := S9; refine wpList_load_g (by rfl) 41 (.tmp 2) rfl w.heap.size 0 (twoC x y) rfl _ Tryz.underlying41 rfl (by kernel_rfl) S9.out.box.1 ?_; clear _q)
        | (go_at_call 20; refine (grelease_none _ p x y (PQ.out _ S9.out).2.2.1).mono ?_; rintro e w10 ⟨rfl, hB⟩; have S10 := hidIt (S9.out.below hB); clear hB S9; have cd := (PQ.out _ S10.out).2.1)
        | (go_at_call 21; refine (greset_none _ p a n C (PQ.out _ S10.out).2.2.1).mono ?_; rintro e v1 ⟨rfl, hw⟩; rw [hw]; clear hw v1)
        | (go_at_call 22; refine (gcounts_none _ p (PQ.out _ S10.out).2.2.1).mono ?_; rintro e v1 ⟨rfl, hw⟩; rw [hw]; clear hw v1)
        | (go_at_call 23; refine (gsettle_none _ p (PQ.out _ S10.out).2.2.1).mono ?_; rintro e v1 ⟨rfl, hw⟩; rw [hw]; clear hw v1)
        | (go_at_call 24; refine (gfree_none _ p (PQ.out _ S10.out).2.2.1).mono ?_; rintro e v1 ⟨rfl, hw⟩; rw [hw]; clear hw v1)
        | (go_at_call 25; refine (gwanted_none _ p (PQ.out _ S10.out).2.2.1).mono ?_; rintro e v1 ⟨rfl, hw⟩; rw [hw]; clear hw v1)
        | (go_at_call 9; refine (gnew_none _ q 1 (PQ.out _ S10.out).2.2.2).mono ?_; rintro e v1 ⟨rfl, hw⟩; rw [hw]; clear hw v1)
        | (go_at_call 26; refine (gopen_none _ q a 1 n C (PQ.out _ S10.out).2.2.2).mono ?_; rintro e v1 ⟨rfl, hw⟩; rw [hw]; clear hw v1))
      go_roundw
      case rel => exact ⟨k + 1, by omega, by go_num, S10.out⟩
      case measure => simp [RowKit.intOf]; omega
    · obtain rfl : k = 2 := by omega
      rw [show ((2 : Nat) : Int) = 2 from rfl]
      go_wp2_with (go_at_call 11; refine (awake_ok _ (TT.out.1.belowI S0.out.bel TT.out.2) (Nat.lt_of_lt_of_le TT.out.2 S0.out.bel.size)).mono ?_; rintro e w1 ⟨rfl, hB⟩; have E1 := hidIt (below_sh (Nat.le_refl _) S0.out.bel hB); clear hB)
      go_ret
      exact ⟨rfl, E1.out⟩
theorem none_any (x y : Int) (a : Option Addr) (n C : Nat) (w : World) (hT : DTab w) (h0 : 0 < w.heap.size) : Calls Tryz.prog 4 #[.agg (twoC x y).toArray, .slice a n C] w fun e w' => e = .returned (.bool true) ∧ Below w.heap.size w w' := by
  by_cases i : (1100 : Int) < (n : Int)
  · exact none_long x y a n C w hT h0 i
  · exact none_main x y a n C w hT h0 i
end Go.Proofs.YtgilodcgcoedeaaGreatDoor
namespace Go.Proofs.YtgilodcgcoedeaaGreatDoor
open Go.ChangeShapes Go.WideShapes Go.ChangeAt Go.WideMaps Go.WideElems Go.RowKit Go.Joins
set_option maxRecDepth 100000 in
theorem open_ref {H : Type} {enc : TypeId × Value → H} {W : World} {base : Nat} {v : Value} {d : DataW H} {p : List MemPlace} (hv : Value.okWide Tryz.prog W .any base 41 v) (h : DataW.Trod enc Tryz.prog W 0 (fun _ => true) true 41 v d p) :
    ∃ x y : Int, v = .agg (twoC x y).toArray := by
  obtain ⟨cs, rfl, hsz⟩ := okWide_struct Tryz.underlying41 hv
  have h2 : Tryz.prog.cellsOf 41 = 2 := by kernel_rfl
  rw [h2] at hsz
  obtain ⟨fuel, hf⟩ := h
  have hL : (Value.agg cs).cells.toList = cs.toList := rfl
  rw [hL] at hf
  obtain ⟨x, y, e1, e2⟩ := two_at Tryz.underlying41 Tryz.underlying3 Tryz.underlying3 rfl rfl hf
  refine ⟨x, y, ?_⟩
  have key : cs.toList = twoC x y := by
    refine List.ext_getElem? fun j => ?_
    match j with
    | 0 => exact e1
    | 1 => exact e2
    | j + 2 => rw [List.getElem?_eq_none (by simp; omega), List.getElem?_eq_none (by show 2 ≤ j + 2; omega)]
  rw [← key]
end Go.Proofs.YtgilodcgcoedeaaGreatDoor
namespace Go.Proofs.YtgilodcgcoedeaaGreatDoor
open Go.ChangeShapes Go.WideShapes Go.ChangeAt Go.WideMaps Go.WideElems Go.RowKit Go.Joins
theorem gTab : Tryz.prog.globalNamed "math/bits.deBruijn64tab" = some 0 := by kernel_rfl
theorem tTab : (Tryz.prog.globals[0]?).map (·.type) = some 245 := by kernel_rfl
/-- What the rows list. -/
abbrev flaidL : List (String × DataW Unit) := [("math/bits.deBruijn64tab", Rows.laid_math_bits_deBruijn64tab)]
/-- The door's own heap meets the condition. -/
theorem door_met (os : Os) (args : Array Value) : laidMetH Tryz.prog flaidL ((World.doorLaid Tryz.prog 400 os).forCall (fun _ _ => 0) ⟨#[], args, []⟩).memory :=
  laidMetH_of_parts3 (fuel := 8) (laidMet_of_run' 8 (by kernel_rfl) (by kernel_rfl)) (by kernel_rfl) (by kernel_rfl)
theorem tab_data : Rows.laid_math_bits_deBruijn64tab = .agg (Lib.deBruijn64tab.map fun (x : Nat) => (.lit (.int .u8 (x : Int)) : DataW Unit)) := by rfl
theorem one_of {L : List Value} {o n : Nat} {v : Value} (h : (L.drop o).take n = [v]) : L[o]? = some v := by
  have := congrArg (·[0]?) h
  simp only [List.getElem?_take, List.getElem?_drop] at this
  split at this
  · simpa using this
  · simp at this
set_option maxRecDepth 100000 in
/-- What the condition gives the walks. -/
theorem of_laid {W : World} (h : laidMetH Tryz.prog flaidL W) : DTab W ∧ 0 < W.heap.size := by
  rw [MakeChecks.laidMetH_plain _ _ _ (by kernel_rfl)] at h
  obtain ⟨ps, ⟨g0, t0, cs0, f0, p0, q0, hg0, ht0, hv0, hd0, _, _⟩, _, _⟩ := h
  obtain rfl := Option.some.inj (gTab.symm.trans hg0)
  obtain rfl := Option.some.inj (tTab.symm.trans ht0)
  obtain ⟨xs, m1, _, hx1, _, hn3, hel⟩ := DataW.trod_array Tryz.underlying245 hd0
  have c1 : Tryz.prog.cellsOf 5 = 1 := by kernel_rfl
  simp only [Prod.mk.injEq] at hx1
  have key : DTab W := by
    intro k hk
    have hk' := hel k hk
    rw [c1, Nat.mul_one, List.getElem?_eq_getElem (by omega)] at hk'
    obtain ⟨x, e, r, _⟩ := DataW.trod_int Tryz.underlying5 hk'
    have hd := hx1.1
    rw [tab_data] at hd
    injection hd with hd
    have hd' := congrArg (·[k]?) hd
    simp only [List.getElem?_map] at hd'
    have hl : k < Lib.deBruijn64tab.length := hk
    have hx : k < xs.length := by omega
    rw [List.getElem?_eq_getElem hl, List.getElem?_eq_getElem hx] at hd'
    simp only [Option.map_some, Option.some.injEq] at hd'
    rw [r] at hd'
    simp at hd'
    have v : W.cell? ⟨0, k, none⟩ = cs0.toList[k]? := by rw [World.var?_cell hg0 hv0 k]; simp
    rw [v, one_of e, ← hd']
    simp [List.getD, hl]
  exact ⟨key, World.block_lt_of_cell? W ⟨0, 0, none⟩ (key 0 (by omega))⟩
end Go.Proofs.YtgilodcgcoedeaaGreatDoor
namespace Go.Proofs.YtgilodcgcoedeaaGreatDoor
open Go.ChangeShapes Go.WideShapes Go.ChangeAt Go.WideMaps Go.WideElems Go.RowKit Go.Joins
set_option maxRecDepth 100000 in
theorem gridNone_lifted (os : Os) (started : os.Started) (H : Type) (enc : TypeId × Value → H) :
    ReturnsInHanded {} Tryz.checked os 4 .any (fun w args => (Rows.gridNoneSpec.pre enc Tryz.prog Tryz.f4 [] false w args ∧ laidMetH Tryz.prog flaidL w) ∧ sizedMet enc Tryz.prog Tryz.f4 (OpenSpec.ofChange Rows.gridNoneSpec) false w args)
      (Rows.gridNoneSpec.post enc Tryz.prog Tryz.f4 false true false false) := by
  refine returnsInHanded_of_change_and (C := Tryz.checked) (X := fun w _ => laidMetH Tryz.prog flaidL w) (fun _ _ _ hh h => h.of_heap hh) own_knob started (by kernel_rfl) Tryz.func4
    (ChangeSpec.witness_shaped (enc := enc) (C := Tryz.checked) (os := os) (X := fun w _ => laidMetH Tryz.prog flaidL w) false (World.doorLaid Tryz.prog 400 os) #[.agg #[.int .i64 0, .int .i64 0], .slice none 0 0] 8 rfl (World.shaped_of_RefB (by kernel_rfl) (by kernel_rfl)) (by kernel_rfl) (by kernel_rfl) (by kernel_rfl) (door_met os _)) ?_
  intro W base args ds gs before hval0 hW _ _ hL _
  have hval : ∀ (j : Nat) t v, Tryz.f4.params[j]? = some t → args[j]? = some v → Value.okWide Tryz.prog W .any base t v := hval0
  have hW' := hW
  obtain ⟨p, q, hA0, hV, rfl, hfz, hnd⟩ := hW
  have hA : DataW.TrodAll enc Tryz.prog W 0 (fun _ => true) true Tryz.f4.params.toList args.toList ds p := hA0
  rw [Tryz.params4] at hA hval
  obtain ⟨v0, v1, d0, d1, p0, p1, rfl, rfl, rfl, h0, h1⟩ := trodAll_two hA
  obtain ⟨rfl, rfl⟩ := trodVars_none hV
  have k0 := h0
  have k1 := h1
  have lt0 : ∀ x ∈ p0, x.block < W.heap.size := by obtain ⟨m, hm⟩ := k0; exact DataW.trod_lt m _ _ _ hm
  have lt1 : ∀ x ∈ p1, x.block < W.heap.size := by obtain ⟨m, hm⟩ := k1; exact DataW.trod_lt m _ _ _ hm
  obtain ⟨x0, y0, rfl⟩ := open_ref (hval 0 41 v0 rfl rfl) h0
  obtain ⟨a1, len1, cap1, rfl⟩ := okWide_slice Tryz.underlying43 (hval 1 43 v1 rfl rfl)
  clear hA0 hval0
  refine (none_any x0 y0 a1 len1 cap1 W (of_laid hL).1 (of_laid hL).2).mono fun e W' ⟨he, bel⟩ => ?_
  subst he
  exact ⟨_, rfl, _, _, _, [], _, [], hW', trodAll_mk1 (shut_bool Tryz.underlying4 _), trodAll_mk2 (Below.trod laid_out (by kernel_rfl) (of_decide_eq_true (by kernel_rfl)) k0 bel lt0) (Below.trod laid_out (by kernel_rfl) (of_decide_eq_true (by kernel_rfl)) k1 bel lt1), rfl, bel.frame _, fun h => by cases h⟩
theorem gridNone_holds : Rows.GridNoneSaid :=
  OpenClaim.holds_of_wide 4 Tryz.f4 rfl rfl rfl rfl rfl rfl rfl ⟨rfl, rfl, rfl, rfl, rfl⟩ rfl rfl rfl rfl rfl (by kernel_rfl) Tryz.func4 (by kernel_rfl)
    (of_decide_eq_true (by kernel_rfl)) (by unfold Func.isWrapper; first | (rw [if_pos (by decide +kernel)]; kernel_rfl) | (rw [if_neg (by decide +kernel)]; exact ⟨rfl, rfl⟩))
    (fun os started H enc _ => gridNone_lifted os started H enc)
theorem gridNone_card : Rows.GridNoneCardSaid :=
  Claim7.holds_tied_plain_at .later [] [.data] true (true, "3636c8b331e9ea4c8ce25ac15230fc23dc7b7116b1b9692d9257176669c20da4") false
    gridNone_holds (fun _ h => by cases h) (by kernel_rfl) (fun _ h => by cases h) gridNone_row_tie rfl ⟨rfl, rfl⟩ (by kernel_rfl) rfl
    (fun f fn hf hfn => by
      obtain rfl : f = 4 := Option.some.inj ((show Tryz.prog.funcNamed "exchequer/exchequerlaw11.GridNone" = some 4 by kernel_rfl).symm.trans hf) |>.symm
      obtain rfl : fn = Tryz.f4 := (Option.some.inj (Tryz.func4.symm.trans hfn)).symm
      exact ⟨by kernel_rfl, fun j t ht => by
        rw [Tryz.params4] at ht
        have hm : t ∈ [41, 43] := by simpa using Array.mem_of_getElem? ht
        have hall : ([41, 43].all fun u => !Tryz.prog.wantsStandIn u) = true := by kernel_rfl
        exact (show Tryz.prog.wantsStandIn t = false by simpa using List.all_eq_true.1 hall t hm)⟩)
    (by kernel_rfl)
#print axioms gridNone_card
end Go.Proofs.YtgilodcgcoedeaaGreatDoor
