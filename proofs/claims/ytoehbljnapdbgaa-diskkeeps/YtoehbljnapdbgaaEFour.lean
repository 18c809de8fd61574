/-
  Walks, not a claim by itself: the law's four. By the verifier.
-/
import Derived.Test.YtoehbljnapdbgaaESt
namespace Go.Proofs.Ytoehbljnapdbgaa
open Go.RowKit Go.Maps
/-- The sectors that four leaves. -/
def fourG (n : Nat) : Int := if n = 0 then 1 else if n = 1 then 1 else if n = 2 then 2 else 0
structure FourIs (D : Dsk) : Prop where
  N : D.N = 4
  ops : D.ops = 3
  fz : D.fz = none
  out : D.out = false
  lo : ∀ n, D.lo n = false
  sec : ∀ n j, n < 4 → j < 256 → at256 D.sec n j = fourG n
theorem FourIs.free {D : Dsk} (h : FourIs D) : D.free := ⟨h.fz, h.out, by rw [h.ops]; omega, by rw [h.ops]; omega⟩
def four1 : Dsk := ((dsk0 4).wrote 0 (fun _ => 1) 1).more
def four2 : Dsk := (four1.wrote 1 (cat (fun _ => 1) 256 (fun _ => 2)) 2).more
def four3 : Dsk := four2.safe.more
theorem four1_free : four1.free := ⟨rfl, rfl, by decide, by decide⟩
theorem four2_free : four2.free := ⟨rfl, rfl, by decide, by decide⟩
theorem four2_lo : looseL four2.N four2.lo = [0, 1, 2] := by decide
theorem four3_lo : looseL four3.N four3.lo = [] := by decide
theorem four3_is : FourIs four3 := by
  refine ⟨rfl, rfl, rfl, rfl, fun _ => rfl, fun n j hn hj => ?_⟩
  show at256 (four1.wrote 1 (cat (fun _ => 1) 256 (fun _ => 2)) 2).sec n j = _
  rw [Dsk.wrote_sec _ _ _ _ _ hj]
  show (if _ then _ else at256 ((dsk0 4).wrote 0 (fun _ => 1) 1).sec n j) = _
  rw [Dsk.wrote_sec _ _ _ _ _ hj]
  unfold fourG cat
  match n, hn with
  | 0, _ => rfl
  | 1, _ => rw [if_pos (by omega), if_pos (by omega)]; rfl
  | 2, _ => rw [if_pos (by omega), if_neg (by omega)]; rfl
  | 3, _ => rfl
/-- Two sectors behind one another. -/
def TwoPost (W : World) (x y : Int) (v : Value) (w' : World) : Prop := ∃ g cap, v = .slice (some ⟨g, 0, none⟩) 512 cap ∧ W.heap.size ≤ g ∧ 512 ≤ cap ∧ Lies w' g 0 512 (cat (fun _ => x) 256 (fun _ => y)) ∧ Below W.heap.size W w'
theorem two_run (W w1 w2 : World) (x y : Int) (hx : 0 ≤ x ∧ x < 256) (hy : 0 ≤ y ∧ y < 256) (h1 : FullPost W 1 x (.returned (.slice (some ⟨W.heap.size, 0, none⟩) (1 * 256) (1 * 256))) w1) (h2 : FullPost w1 1 y (.returned (.slice (some ⟨w1.heap.size, 0, none⟩) (1 * 256) (1 * 256))) w2) :
    ∃ v w3, (Builtin.append_ #[26, 26] 26 #[.slice (some ⟨W.heap.size, 0, none⟩) 256 256, .slice (some ⟨w1.heap.size, 0, none⟩) 256 256]).run Try.prog w2 = .ok v w3 ∧ TwoPost W x y v w3 := by
  obtain ⟨_, o1, b1⟩ := h1
  obtain ⟨_, o2, b2⟩ := h2
  have o1' : Own w2 W.heap.size (.slice (some ⟨W.heap.size, 0, none⟩) 256 256) 256 (fun _ => x) := o1.below b2
  have a2 : Arg w2 (some ⟨w1.heap.size, 0, none⟩) 256 (fun _ => y) := Arg.of (o2.irow.lies (fun _ _ => hy))
  obtain ⟨v, w3, hr, ho, hb⟩ := app_arg 26 w2 W.heap.size 256 256 256 _ _ _ _ o1' a2 (by omega) (Nat.le_trans b1.size b2.size)
  obtain ⟨g, cap, rfl, hg, hc, hl⟩ := ho.form (by omega) (fun j _ => by unfold cat; split; (· exact hx); (· exact hy))
  exact ⟨_, w3, hr, g, cap, rfl, hg, hc, hl, (b1.trans (b2.mono b1.size)).trans hb⟩
/-- What four answers. -/
def FourPost (w : World) (e : Ending) (w' : World) : Prop := ∃ d s m D, e = .returned (.tuple #[.pointer (some ⟨d, 0, none⟩), .bool true]) ∧ St w w' d s m D ∧ FourIs D
theorem ilist_lit (w : World) (L : List Int) : IList (w.alloc (.cells (L.map fun x => Value.int .i64 x).toArray 3)) (.slice (some ⟨w.heap.size, 0, none⟩) L.length L.length) L := by
  refine ⟨_, _, rfl, fun k hk => ⟨w.heap.size, rfl, ?_, by simp⟩⟩
  rw [cell_of_row _ _ _ _ _ _ (heap_alloc_new w _), List.getElem?_toArray, List.getElem?_map, List.getElem?_eq_getElem hk, List.getD_eq_getElem?_getD, List.getElem?_eq_getElem hk]
  rfl
/-- An append behind a guard, its run known. -/
theorem wpList_append_w {ops : Array Oper} {rest : List Oper} {o : Oper} {a : Act} {w : World} {Q : Exit → Act → World → Prop} (hw : Region.wanted o (yielded ops a.tmps) = true) (d s : Operand) (dT sT : TypeId)
    (ho : o.op = .call { callee := .builtin .append, args := #[d, s], argTypes := #[dT, sT] }) (v u : Value) (hd : a.eval d = v) (hs : a.eval s = u) {v' : Value} {w' : World}
    (hr : (Builtin.append_ #[dT, sT] o.type #[v, u]).run Try.prog w = .ok v' w') (h : wpList Try.prog ops Q rest (a.put o.dst v') w') : wpList Try.prog ops Q (o :: rest) a w := by
  refine wpList_step fun K hK' => ?_
  rw [if_pos hw]
  have hx : (execOp a.eval o).run Try.prog w = .ok (.value v') w' := by simp [execOp, ho, resolve, invoke, builtin, hd, hs, hr, Result.andThen]
  unfold Oper.wp
  rw [hx]
  exact hK' _ _ h
set_option maxRecDepth 100000 in
set_option maxHeartbeats 1000000 in
theorem four_any (w : World) : Calls Try.prog 23 #[] w (FourPost w) := by
  have NEW : Hid (∀ w, Calls Try.prog 26 #[.int .i64 4] w (NewPost w 4)) := fun w => new_ok 4 w (by omega) (by omega)
  go_enter Try.func23, Try.ntmps23
  go_wp2_with fail
  refine (NEW.out _).mono ?_
  rintro e w1 ⟨d, s, m, rfl, h1, h2, h3, h4, h5⟩
  have S1 : Hid (St w w1 d s m (dsk0 4)) := ⟨h4, h1, h2, h3, h5⟩
  clear h1 h2 h3 h4 h5 NEW
  go_wp2_with fail
  refine (sector_any 1 _).mono ?_
  rintro e w2 ⟨rfl, o2, b2⟩
  have S2 : Hid (St w w2 d s m (dsk0 4)) := S1.out.below b2
  have L2 : Hid (Lies w2 w1.heap.size 0 256 (fun _ => 1)) := o2.irow.lies (fun _ _ => by omega)
  have E2 : Hid (w1.heap.size ≠ s ∧ w1.heap.size ≠ m) := ⟨by have := S1.out.at'.sl; omega, by have := S1.out.at'.ml; omega⟩
  clear o2 b2 S1
  go_wp2_with fail
  refine (st_write w _ d s m 0 _ 0 1 _ _ _ _ _ S2.out ⟨rfl, rfl, by decide, by decide⟩ rfl rfl L2.out (by omega) (by omega) (by omega) (by decide) E2.out).mono ?_
  rintro e w3 ⟨rfl, m3, S3, -, -⟩
  have S3 : Hid (St w w3 d s m3 four1) := S3
  clear S2 L2 E2
  go_wp2_with fail
  refine (sector_any 1 _).mono ?_
  rintro e w4 ⟨rfl, o4, b4⟩
  go_wp2_with fail
  refine (sector_any 2 _).mono ?_
  rintro e w5 ⟨rfl, o5, b5⟩
  obtain ⟨v, w6, hr, g, cap, rfl, hg, hc, hl, hb⟩ := two_run w3 w4 w5 1 2 (by omega) (by omega) ⟨rfl, o4, b4⟩ ⟨rfl, o5, b5⟩
  have S6 : Hid (St w w6 d s m3 four1) := S3.out.below hb
  have L6 : Hid (Lies w6 g 0 512 (cat (fun _ => 1) 256 (fun _ => 2))) := hl
  have E6 : Hid (g ≠ s ∧ g ≠ m3) := ⟨by have := S3.out.at'.sl; omega, by have := S3.out.at'.ml; omega⟩
  clear o4 b4 o5 b5 hl hb hg S3
  go_wp2_with (at_builtin; refine wpList_append_w (by rfl) _ _ 26 26 rfl _ _ rfl rfl hr ?_)
  refine (st_write w _ d s m3 1 _ 0 2 _ _ _ _ _ S6.out four1_free rfl rfl L6.out (by omega) (by omega) hc (by decide) E6.out).mono ?_
  rintro e w7 ⟨rfl, m7, S7, -, -⟩
  have S7 : Hid (St w w7 d s m7 four2) := S7
  clear S6 L6 E6 hr hc
  go_wp2_with fail
  refine (st_loose w _ d s m7 four2 [0, 1, 2] S7.out four2_lo).mono ?_
  rintro e w8 ⟨a, c, rfl, h8, b8⟩
  have S8 : Hid (St w w8 d s m7 four2) := S7.out.below b8
  have I8 : Hid (IList w8 (.slice a 3 c) [0, 1, 2]) := h8
  clear h8 b8 S7
  go_wp2_with fail
  refine (sints_any _ _ [0, 1, 2] _ (I8.out.below ((Below.refl _ _).alloc (Nat.le_refl _) _)) (ilist_lit w8 [0, 1, 2]) (by decide)).mono ?_
  rintro e w9 ⟨rfl, b9⟩
  have S9 : Hid (St w w9 d s m7 four2) := S8.out.below (((Below.refl _ _).alloc (Nat.le_refl _) _).trans (b9.mono (by simp)))
  clear S8 I8 b9
  go_wp2_with fail
  refine (st_flush w _ d s m7 four2 S9.out four2_free).mono ?_
  rintro e w10 ⟨rfl, m10, S10, -, -⟩
  have S10 : Hid (St w w10 d s m10 four3) := S10
  clear S9
  go_wp2_with fail
  refine (st_loose w _ d s m10 four3 [] S10.out four3_lo).mono ?_
  rintro e w11 ⟨a', c', rfl, -, b11⟩
  have S11 : Hid (St w w11 d s m10 four3) := S10.out.below b11
  clear b11 S10
  go_wp2_with fail
  exact bodyPost_ret (by simp [results, Try.results23, go_sem]) rfl ⟨d, s, m10, four3, rfl, S11.out, four3_is⟩
end Go.Proofs.Ytoehbljnapdbgaa
