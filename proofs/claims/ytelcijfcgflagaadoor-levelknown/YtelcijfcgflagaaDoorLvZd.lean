/-
  Walks, not a claim by itself: LevelKnown. By the verifier.
-/
import Derived.Test.YtelcijfcgflagaaDoorLvZc
import Derived.Test.YtelcijfcgflagaaDoorShelf
namespace Go.Proofs.YtelcijfcgflagaaDoor
open Go.RowKit Go.Sort
attribute [-go_sem] Builtin.append_
set_option maxRecDepth 100000 in
theorem lcmp_any {U : World} {M N : List Nat} {x y : RV} (hx : Txt U M x.f x.r.f) (hy : Txt U N y.f y.r.f) : Calls Tryd.prog 51 #[.agg x.cs.toArray, .agg y.cs.toArray] U fun e w' => e = .returned (.int .i64 (cmpB x.r.f y.r.f)) ∧ ∃ q os', w' = Sort.grow (U.drewN q) os' := by
  have HX := hidIt hx
  have HY := hidIt hy
  clear hx hy
  have B2 : Hid (∀ o1 o2, Below U.heap.size U ((U.alloc o1).alloc o2)) := hidIt (fun o1 o2 => ((Below.refl _ _).alloc (Nat.le_refl _) o1).alloc (by simp) o2)
  show Calls Tryd.prog 51 #[.agg #[.int .i64 x.r.ad, .int .i64 x.r.st, .int .i64 x.r.ct, x.f, x.l], .agg #[.int .i64 y.r.ad, .int .i64 y.r.st, .int .i64 y.r.ct, y.f, y.l]] U _
  go_enter Tryd.func51, Tryd.ntmps51
  go_wp2_with (go_at_call 38; refine (ycmp_any (HX.out.below (B2.out _ _)) (HY.out.below (B2.out _ _))).mono ?_; rintro e w2 ⟨rfl, hw⟩; subst hw)
  exact bodyPost_ret (v := .int .i64 (cmpB x.r.f y.r.f)) (by simp [results, Tryd.results51, go_sem]) rfl ⟨rfl, 0, _, by rw [Sort.alloc_eq_grow, Sort.alloc_eq_grow, Sort.grow_grow]; rfl⟩
/-- A table that reads apart from a block. -/
abbrev TW (W : World) (g : Nat) := { x : RV // RVOk W [g] x }
instance (W : World) (g : Nat) : Inhabited (TW W g) := ⟨⟨rv0, Txt.nil W [g] 0, Txt.nil W [g] 0⟩⟩
def encW {W : World} {g : Nat} (x : TW W g) : List Value := x.1.cs
def cfW {W : World} {g : Nat} (x y : TW W g) : Int := cmpB x.1.r.f y.1.r.f
theorem swoW (W : World) (g : Nat) : Sort.SWO (ltOf (cfW (W := W) (g := g))) where
  irrefl x := by unfold ltOf cfW; rw [c_self]; rfl
  trans x y z h1 h2 := by
    unfold ltOf cfW at *
    rw [decide_eq_true_eq] at *
    exact c_trans h1 h2
  ntrans x y z h1 h2 := by
    unfold ltOf cfW at *
    rw [decide_eq_false_iff_not] at *
    have a := c_anti x.1.r.f y.1.r.f
    have b := c_anti y.1.r.f z.1.r.f
    have c := c_anti x.1.r.f z.1.r.f
    have := c_le_le (x := z.1.r.f) (y := y.1.r.f) (z := x.1.r.f) (by omega) (by omega)
    omega
theorem off_sort {W : World} {g : Nat} (m : Nat) (os : Array Obj) (dk : Array (TW W g)) : Off [g] W (sortWorldK encW 5 W g 0 m dk os) := by
  refine ⟨rfl, rfl, rfl, ?_, fun k hk hn => ?_⟩
  · show W.heap.size ≤ ((W.heap.modify g _) ++ os).size
    rw [Array.size_append, Array.size_modify]
    omega
  · show ((W.heap.modify g _) ++ os)[k]? = W.heap[k]?
    rw [Array.getElem?_append_left (by rw [Array.size_modify]; exact hk), Array.getElem?_modify, if_neg (fun q => hn (by rw [q]; simp))]
theorem flat_rcs {W : World} {g : Nat} (d : Array (TW W g)) (k : Nat) (hk : k < d.size * 5) : (rcs (d.toList.map (·.1)))[k]? = some ((flatK encW 5 d)[k]!) := by
  have hq : k / 5 < d.size := by omega
  have e := rcs_at (d.toList.map (·.1)) (k / 5) (k % 5) d[k / 5].1 (by rw [List.getElem?_map, Array.getElem?_toList, Array.getElem?_eq_getElem hq]; rfl) (by omega)
  rw [show k / 5 * 5 + k % 5 = k by omega] at e
  rw [e, get_flatK encW 5 d k hk, getElem!_pos d (k / 5) hq]
  unfold encW
  rw [getElem!_pos d[k / 5].1.cs (k % 5) (by show k % 5 < 5; omega), List.getElem?_eq_getElem]
/-- What SortFunc answers. -/
def SoP (W : World) (a : Option Addr) (n c : Nat) (ps : List RV) (e : Ending) (w' : World) : Prop := e = .returned (.tuple #[]) ∧ ∃ qs : List RV, qs.Perm ps ∧ qs.Pairwise (fun x y => cmpB x.r.f y.r.f ≤ 0) ∧ OwnR w' 0 (.slice a n c) qs ∧ Off (Value.slice a n c).ownBlock.toList W w'
theorem run_isAgg_run (w : World) : (isAgg 27).run Tryd.prog w = .ok true w := Tryd.isAgg27 w
theorem run_sizeOf_run (w : World) : (Go.sizeOf 27).run Tryd.prog w = .ok 5 w := Tryd.sizeOf27 w
set_option maxRecDepth 100000 in
theorem lsort_any {W : World} {a : Option Addr} {ps : List RV} (n c : Nat) (hn : ps.length = n) (hO : OwnR W 0 (.slice a n c) ps) (hp : ∀ x ∈ ps, RVOk W (Value.slice a n c).ownBlock.toList x) (hf : n ≤ 50000) : Calls Tryd.prog 50 #[.slice a n c, .func (.func 51) #[] #[]] W (SoP W a n c ps) := by
  rcases hO.form' hn with ⟨rfl, rfl⟩ | ⟨g, rfl⟩
  · obtain rfl : n = 0 := by simpa using hn.symm
    have h := AnyF.slices_SortFunc_none Tryd.laysSortF none c (.func (.func 51) #[] #[]) W
    change Calls Tryd.prog 50 _ _ _ at h
    refine h.mono ?_
    rintro e w' ⟨rfl, rfl⟩
    exact ⟨rfl, [], List.Perm.refl _, List.Pairwise.nil, hO, Off.refl _ _⟩
  · have hp' : ∀ x ∈ ps, RVOk W [g] x := hp
    obtain ⟨l, hl⟩ : ∃ l : List (TW W g), l.map (·.1) = ps := ⟨ps.pmap Subtype.mk hp', by simp [List.map_pmap]⟩
    have hs : l.toArray.size = n := by rw [List.size_toArray, ← hn, ← hl, List.length_map]
    obtain ⟨cur, hg, hc, hm, hz, ht⟩ := hO.obj hn
    have gl : g < W.heap.size := (Array.getElem?_eq_some_iff.1 hg).1
    have R : Rec19 W g 0 (rcs ps) := by
      rcases hO.form with ⟨h0, _⟩ | ⟨g', cap, hv, _, _, _, _, hR⟩
      · injection h0 with h0; cases h0
      · injection hv with e1 _ _
        injection e1 with e1
        injection e1 with e1
        subst e1
        exact hR
    have hH : HoldsK encW 5 W g 0 l.toArray := by
      intro j hj
      rw [size_flatK] at hj
      have e := flat_rcs l.toArray j hj
      rw [show l.toArray.toList = l from rfl, hl] at e
      have k := R.cel j _ e
      rw [Nat.zero_add]
      exact k
    have eg : ∀ args w, (callFunc 51 args).run Tryd.prog w = .ok (.enter 51 args) w := enters_of Tryd.func51 (by kernel_rfl) rfl
    have hcmp : CmpLays Tryd.prog 51 #[] encW 5 (cfW (W := W) (g := g)) g 0 l.toArray.size W := fun m os dk _ x y =>
      lcmp_any (M := [g]) (N := [g]) (x.2.1.off (off_sort m os dk)) (y.2.1.off (off_sort m os dk))
    have h := AnyQ.slices_SortFunc Tryd.laysSortF 5 run_isAgg_run run_sizeOf_run encW (fun _ => rfl) (fun x => RVOk.one x.2) cfW (swoW W g) 51 #[] g 0 c l.toArray W eg hcmp hH gl (by omega)
    change Calls Tryd.prog 50 _ _ _ at h
    rw [hs] at h
    refine h.mono ?_
    rintro e w' ⟨rfl, d', m, os, ⟨ps1, _, ps3⟩, hso, rfl⟩
    have ds : d'.size = n := by rw [ps1, hs]
    have pm : d'.toList.Perm l := by
      rw [show d'.extract 0 n = d' by rw [← ds]; exact Array.extract_size, show l.toArray.extract 0 n = l.toArray by rw [← hs]; exact Array.extract_size] at ps3
      exact ps3
    refine ⟨rfl, d'.toList.map (·.1), by rw [← hl]; exact pm.map _, ?_, ?_, off_sort m os d'⟩
    · rw [List.pairwise_iff_getElem]
      intro i j hi hj hij
      rw [List.length_map, Array.length_toList] at hi hj
      have q := hso i j (Nat.zero_le _) hij (by omega)
      unfold ltOf cfW at q
      rw [decide_eq_false_iff_not, getElem!_pos d' i hi, getElem!_pos d' j hj, c_anti] at q
      rw [List.getElem_map, List.getElem_map, Array.getElem_toList, Array.getElem_toList]
      omega
    · have hb : (sortWorldK encW 5 W g 0 m d' os).heap[g]? = some (.cells (Sort.putCells id 0 (flatK encW 5 d') cur) 27 (0, 0)) := by
        show ((W.heap.modify g _) ++ os)[g]? = _
        rw [Array.getElem?_append_left (by rw [Array.size_modify]; exact gl), Array.getElem?_modify, if_pos rfl, hg]
        rfl
      refine OwnR.mk' (by rw [List.length_map, Array.length_toList, ds]) hb hc hm (by unfold Sort.putCells; rw [Array.size_mapIdx, hz]) ?_
      apply List.ext_getElem?
      intro k
      by_cases hk : k < n * 5
      · rw [List.getElem?_take_of_lt hk, Array.getElem?_toList]
        unfold Sort.putCells
        rw [Array.getElem?_mapIdx, Array.getElem?_eq_getElem (by omega), flat_rcs d' k (by omega)]
        simp only [Option.map_some, Nat.zero_le, true_and, Nat.zero_add, size_flatK, Nat.sub_zero, ds, if_pos hk, id]
      · rw [List.getElem?_eq_none (by rw [List.length_take]; omega), List.getElem?_eq_none (by rw [rcs_len, List.length_map, Array.length_toList, ds]; omega)]
end Go.Proofs.YtelcijfcgflagaaDoor
namespace Go.Proofs.YtelcijfcgflagaaDoor
open Go.RowKit
attribute [-go_sem] Builtin.append_
theorem SoP.ins {X w' : World} {a : Option Addr} {n c : Nat} {ps : List RV} {e : Ending} (h : SoP X a n c ps e w') : e = .returned (.tuple #[]) ∧ ∃ qs : List RV, qs.Perm ps ∧ qs.Pairwise (fun x y => cmpB x.r.f y.r.f ≤ 0) ∧ InsR X (.slice a n c) qs (.slice a n c) w' := by
  obtain ⟨he, qs, h1, h2, h3, h4⟩ := h
  exact ⟨he, qs, h1, h2, h3, h4, fun g hg => .inl hg⟩
/-- The tables that stay of a level. -/
def restD (l gone : List Rn) : List Rn := l.filter fun r => !hasR gone r
theorem rest_map {ps gs : List RV} (h : ∀ x ∈ gs, Rf x.r) (hp : ∀ x ∈ ps, Rf x.r) : (ps.filter fun x => !inD (rset gs) x).map RV.r = restD (ps.map RV.r) (gs.map RV.r) := by
  unfold restD
  induction ps with
  | nil => rfl
  | cons x q ih =>
    have e : inD (rset gs) x = hasR (gs.map RV.r) x.r := has_rset h (hp x List.mem_cons_self)
    rw [List.filter_cons, List.map_cons, List.filter_cons, e]
    have i := ih (fun y hy => hp y (List.mem_cons_of_mem _ hy))
    cases hasR (gs.map RV.r) x.r
    · simp [i]
    · simpa using i
theorem all_map {ps gs : List RV} (h : ∀ x ∈ gs, Rf x.r) (hp : ∀ x ∈ ps, Rf x.r) : ps.all (inD (rset gs)) = (ps.map RV.r).all (hasR (gs.map RV.r)) := by
  rw [List.all_map]
  induction ps with
  | nil => rfl
  | cons x q ih =>
    have e : inD (rset gs) x = hasR (gs.map RV.r) x.r := has_rset h (hp x List.mem_cons_self)
    rw [List.all_cons, List.all_cons, e, ih (fun y hy => hp y (List.mem_cons_of_mem _ hy))]
    rfl
/-- The levels behind a Replace. -/
def rpL (m : List (List Rn)) (i : Nat) (fr qs : List Rn) (k : Nat) : List Rn := if k = i then restD ((m[i]?).getD []) fr else if k = i + 1 then qs else (m[k]?).getD []
/-- May it be? -/
def preB (m : List (List Rn)) (z : Int) (fr to : List Rn) : Bool := mayB m && decide (0 ≤ z) && decide (z < 3) && fr.all (hasR ((m[z.toNat]?).getD [])) && to.all (hasR ((m[z.toNat + 1]?).getD []))
/-- What Replace answers. -/
def ReP (W : World) (m : List (List Rn)) (z : Int) (fr to fresh : List Rn) (e : Ending) (w' : World) : Prop :=
  (preB m z fr to = false ∧ e = .returned (.tuple #[.slice none 0 0, .int .i64 2]) ∧ Below W.heap.size W w') ∨
  (preB m z fr to = true ∧ ∃ qs : List Rn, qs.Perm (restD ((m[z.toNat + 1]?).getD []) to ++ fresh) ∧ qs.Pairwise (fun x y => cmpB x.f y.f ≤ 0) ∧
    ((mayB [rpL m z.toNat fr qs 0, rpL m z.toNat fr qs 1, rpL m z.toNat fr qs 2, rpL m z.toNat fr qs 3] = false ∧ e = .returned (.tuple #[.slice none 0 0, .int .i64 2]) ∧ Below W.heap.size W w') ∨
     (mayB [rpL m z.toNat fr qs 0, rpL m z.toNat fr qs 1, rpL m z.toNat fr qs 2, rpL m z.toNat fr qs 3] = true ∧ ∃ B1 g lv os, e = .returned (.tuple #[.slice (some ⟨g, 0, none⟩) 4 4, .int .i64 0]) ∧ Fo B1 w' g lv os ∧ W.heap.size < g ∧ W.heap.size < B1 ∧ (∀ k, k < 4 → (os k).map RV.r = rpL m z.toNat fr qs k) ∧ Below W.heap.size W w')))
/-- What is handed to Replace. -/
structure ReA (W : World) (A : Option Addr) (ls : List LR) (L : Nat) (fa ta ra : Option Addr) (fs ts rs : List RV) : Prop where
  len : ls.length = L
  lvs : Lvs W A ls
  few : ∀ x ∈ ls, x.rs.length ≤ 1000
  siz : ∀ x ∈ ls, ∀ y ∈ x.rs, y.r.f.size ≤ 1000000 ∧ y.r.l.size ≤ 1000000
  rts : ∀ x ∈ ls, ∀ y ∈ x.rs, Rf y.r
  l1 : L ≤ 1000
  fls : LsR W fa fs
  tls : LsR W ta ts
  rls : LsR W ra rs
  fn : fs.length ≤ 1000
  tn : ts.length ≤ 1000
  rn : rs.length ≤ 1000
  frt : ∀ x ∈ fs, Rf x.r
  trt : ∀ x ∈ ts, Rf x.r
  rrt : ∀ x ∈ rs, Rf x.r
  rsz : ∀ y ∈ rs, y.r.f.size ≤ 1000000 ∧ y.r.l.size ≤ 1000000
theorem rts_of {os ps : List RV} (h : os.map RV.r = ps.map RV.r) (hp : ∀ y ∈ ps, Rf y.r) : ∀ x ∈ os, Rf x.r := fun x hx => by
  have : x.r ∈ ps.map RV.r := by rw [← h]; exact List.mem_map_of_mem hx
  obtain ⟨y, hy, e⟩ := List.mem_map.1 this
  rw [← e]
  exact hp y hy
theorem rpL_i (m : List (List Rn)) (i : Nat) (fr l : List Rn) : rpL m i fr l i = restD ((m[i]?).getD []) fr := if_pos rfl
theorem rpL_j (m : List (List Rn)) {i j : Nat} (hj : j = i + 1) (fr l : List Rn) : rpL m i fr l j = l := by
  unfold rpL
  rw [if_neg (by omega), if_pos hj]
theorem rpL_set {m : List (List Rn)} {i j : Nat} (hj : j = i + 1) {fr l l' : List Rn} {os : Nat → List RV} {qs : List RV} (h : ∀ k, k < 4 → (os k).map RV.r = rpL m i fr l k) (hq : qs.map RV.r = l') : ∀ k, k < 4 → (upd4 os j qs k).map RV.r = rpL m i fr l' k := fun k hk => by
  by_cases e : k = j
  · subst e
    rw [upd4_at, rpL_j m hj, hq]
  · rw [upd4_ne _ _ e, h k hk]
    unfold rpL
    rw [if_neg (c := k = i + 1) (by omega), if_neg (c := k = i + 1) (by omega)]
theorem rpL_start {m : List (List Rn)} {i j : Nat} (hj : j = i + 1) {fr : List Rn} {os : Nat → List RV} {qs : List RV} (h : ∀ k, k < 4 → (os k).map RV.r = (m[k]?).getD []) (hq : qs.map RV.r = restD ((m[i]?).getD []) fr) : ∀ k, k < 4 → (upd4 os i qs k).map RV.r = rpL m i fr ((m[j]?).getD []) k := fun k hk => by
  by_cases e : k = i
  · subst e
    rw [upd4_at, rpL_i, hq]
  · rw [upd4_ne _ _ e, h k hk]
    unfold rpL
    rw [if_neg e]
    split
    · rename_i e2; rw [e2, hj]
    · rfl
theorem len_of {os : List RV} {l : List Rn} (h : os.map RV.r = l) : os.length = l.length := by rw [← h, List.length_map]
theorem both_ways {goal : Prop} {α : Type} (G : World → α → Prop) (P : World → α → Prop) (h1 : (∀ X m, P X m → G X m) → goal) (h2 : ∀ X m, P X m → G X m) : goal := h1 h2
theorem rest_few (l gone : List Rn) : (restD l gone).length ≤ l.length := List.length_filter_le _ _
theorem lvl_few {ls : List LR} (h : ∀ x ∈ ls, x.rs.length ≤ 1000) (k : Nat) : (((rns ls)[k]?).getD []).length ≤ 1000 := by rw [← lvR_map, List.length_map]; exact lvR_bound h k
set_option maxRecDepth 100000 in
set_option maxHeartbeats 8000000 in
theorem lReplace_any {W : World} {A fa ta ra : Option Addr} {ls : List LR} {fs ts rs : List RV} (L C fc tc rc : Nat) (z : Int) (d : Bool) (hA : ReA W A ls L fa ta ra fs ts rs) : Calls Tryd.prog 24 #[.slice A L C, .agg (plC z (.slice fa fs.length fc) (.slice ta ts.length tc) d).toArray, .slice ra rs.length rc] W (ReP W (rns ls) z (fs.map RV.r) (ts.map RV.r) (rs.map RV.r)) := by
  have HA := hidIt hA
  clear hA
  by_cases hm : mayB (rns ls) = true
  · have MI : Hid (mayI (rns ls) = 0) := hidIt (by unfold mayI; rw [hm]; rfl)
    have MB := hidIt hm
    by_cases hg : 0 ≤ z ∧ z < 3
    · obtain ⟨i, rfl⟩ : ∃ i : Nat, z = (i : Int) := ⟨z.toNat, by omega⟩
      obtain ⟨j, hj⟩ : ∃ j, j = i + 1 := ⟨_, rfl⟩
      have GB : Hid ((decide (0 ≤ (i : Int)) && decide ((i : Int) < 3)) = true) := hidIt (by simp; omega)
      have IJ : Hid (j = i + 1 ∧ i < 4 ∧ j < 4 ∧ i ≠ j) := hidIt (by omega)
      have L4 : Hid (L ≤ 4) := hidIt (by have := ((mayB_at _).1 hm).1; unfold rns at this; have := HA.out.len; simp at *; omega)
      have w1 : IntKind.i64.wrap ((i : Int) + 1) = (j : Int) := by rw [IntKind.wrap_i64]; omega
      have w1' : wrap64 ((i : Int) + 1) = (j : Int) := by unfold wrap64; omega
      have KEEP : Hid (∀ U, Rec19 U W.heap.size 0 (plC (i : Int) (.slice fa fs.length fc) (.slice ta ts.length tc) d) → U.cell? ⟨W.heap.size, 0, none⟩ = some (.int .i64 (i : Int)) ∧ U.cell? ⟨W.heap.size, 1, none⟩ = some (.slice fa fs.length fc) ∧ U.cell? ⟨W.heap.size, 2, none⟩ = some (.slice ta ts.length tc)) := hidIt (fun U p => ⟨(p.cel 0 _ rfl).1, (p.cel 1 _ rfl).1, (p.cel 2 _ rfl).1⟩)
      have RL : Hid (∀ k, ∀ x ∈ lvR ls k, Rf x.r) := hidIt (fun k => lvR_all HA.out.rts k)
      have BL : Hid (∀ k, (lvR ls k).length ≤ 1000) := hidIt (fun k => lvR_bound HA.out.few k)
      have PB : Hid (preB (rns ls) (i : Int) (fs.map RV.r) (ts.map RV.r) = (fs.all (inD (rset (lvR ls i))) && ts.all (inD (rset (lvR ls j))))) := hidIt (by
        unfold preB
        rw [hm, Int.toNat_natCast, decide_eq_true (show (0 : Int) ≤ (i : Int) by omega), decide_eq_true (show (i : Int) < 3 by omega), all_map (RL.out i) HA.out.frt, all_map (RL.out j) HA.out.trt, lvR_map, lvR_map, hj]
        rfl)
      clear hm hg hj
      go_enter Tryd.func24, Tryd.ntmps24
      go_wp2_with (first
        | (refine wpList_box_rec rfl 46 (.tmp 1) rfl (plC (i : Int) (.slice fa fs.length fc) (.slice ta ts.length tc) d) rfl W.heap.size rfl ?_; intro W1 R1 B1 z1; have E1 : Hid (Below W.heap.size W W1 ∧ W1.heap.size = W.heap.size + 1) := hidIt ⟨B1, z1⟩; have P1 := hidIt R1; clear R1 B1 z1)
        | (go_at_call 13; refine (lcheck_any L C HA.out.len (HA.out.lvs.below E1.out.1) (fun x hx => by have := HA.out.few x hx; omega)).mono ?_; rw [MI.out]; rintro e W2 ⟨rfl, hb⟩; have E2 : Hid (Below W.heap.size W W2 ∧ W.heap.size + 1 ≤ W2.heap.size) := hidIt ⟨E1.out.1.trans (hb.mono E1.out.1.size), by have := hb.size; have := E1.out.2; omega⟩; have P2 := hidIt (P1.out.below hb); have p0 := (P2.out.cel 0 _ rfl).1; clear hb)
        | (go_at_call 43; refine (lmaygo_any _ _).mono ?_; rw [GB.out]; rintro e w3 ⟨rfl, hw⟩; rw [hw]; clear hw w3))
      clear p0 E1 P1 w1 w1'
      have ED : Hid (Below W.heap.size W W2.drew) := hidIt E2.out.1.drew
      have PD := hidIt (P2.out.below (Below.refl _ _).drew)
      refine wp_region_noPanic ?_
      refine wp_region_held_drew (S := fun w' => w'.cell? ⟨W.heap.size, 0, none⟩ = some (.int .i64 (i : Int)) ∧ w'.cell? ⟨W.heap.size, 1, none⟩ = some (.slice fa fs.length fc) ∧ w'.cell? ⟨W.heap.size, 2, none⟩ = some (.slice ta ts.length tc)) (by kernel_rfl) ?_ (fun hHeld => ?_)
      · exact KEEP.out _ PD.out
      refine take_at (i := 0) (v := ?_) (some 22) rfl rfl (by kernel_rfl) (by kernel_rfl) (by kernel_rfl) (fun _ _ _ h => h) (Or.inl ⟨by rfl, ?_⟩) (by assumption) ?_
      rotate_left
      · (intro w hSw; (try dsimp only at hSw); go_simp; try with_reducible rfl)
      simp only [Act.put, List.setIfInBounds_toArray, List.set_cons_zero, List.set_cons_succ]
      refine take_at (i := 1) (v := ?_) (some 23) rfl rfl (by kernel_rfl) (by kernel_rfl) (by kernel_rfl) (fun _ _ _ h => h) (Or.inl ⟨by rfl, ?_⟩) (by assumption) ?_
      rotate_left
      · (intro w hSw; (try dsimp only at hSw); go_simp; try with_reducible rfl)
      simp only [Act.put, List.setIfInBounds_toArray, List.set_cons_zero, List.set_cons_succ]
      refine take_at (i := 2) (v := ?_) (some 24) rfl rfl (by kernel_rfl) (by kernel_rfl) (by kernel_rfl) (fun _ _ _ h => h) (Or.inl ⟨by rfl, ?_⟩) (by assumption) ?_
      rotate_left
      · (intro w hSw; (try dsimp only at hSw); go_simp; try with_reducible rfl)
      simp only [Act.put, List.setIfInBounds_toArray, List.set_cons_zero, List.set_cons_succ]
      refine take_at (i := 5) (v := ?_) (some 27) rfl rfl (by kernel_rfl) (by kernel_rfl) (by kernel_rfl) (fun _ _ _ h => h) (Or.inl ⟨by rfl, ?_⟩) (by assumption) ?_
      rotate_left
      · (intro w hSw; (try dsimp only at hSw); go_simp; try with_reducible rfl)
      simp only [Act.put, List.setIfInBounds_toArray, List.set_cons_zero, List.set_cons_succ]
      refine take_at (i := 6) (v := ?_) (some 28) rfl rfl (by kernel_rfl) (by kernel_rfl) (by kernel_rfl) (fun _ _ _ h => h) (Or.inl ⟨by rfl, ?_⟩) (by assumption) ?_
      rotate_left
      · (intro w hSw; (try dsimp only at hSw); go_simp; try with_reducible rfl)
      simp only [Act.put, List.setIfInBounds_toArray, List.set_cons_zero, List.set_cons_succ]
      refine call_at (i := 3) (some 25) 34 _ _ rfl rfl rfl (by rfl) (by kernel_rfl) #[.slice A L C, .int .i64 (i : Int)] rfl Tryd.func34 (by kernel_rfl) (by kernel_rfl) ?_
      refine (lofs_any L C i _ rfl HA.out.len (HA.out.lvs.below ED.out) HA.out.l1).mono ?_
      rintro e w3 ⟨⟨ac, rfl, _⟩, rfl⟩
      refine ⟨_, rfl, KEEP.out _ PD.out, fun hHeld => ?_⟩
      simp only [Act.put, List.setIfInBounds_toArray, List.set_cons_zero, List.set_cons_succ]
      refine call_at (i := 4) (some 26) 46 _ _ rfl rfl rfl (by rfl) (by kernel_rfl) #[.slice (lvA ls i) (lvR ls i).length ac] rfl Tryd.func46 (by kernel_rfl) (by kernel_rfl) ?_
      refine (lrootsOf_any _ ac rfl ((lvA_ls HA.out.lvs i).below ED.out) (by have := BL.out i; omega) (RL.out i)).mono ?_
      rintro e W3 ⟨m1, q1, rfl, _, hM1, hb⟩
      have E3 := hidIt (ED.out.trans (hb.mono ED.out.size))
      have P3 := hidIt (PD.out.below hb)
      have M3 := hidIt hM1
      clear hb hM1
      refine ⟨_, rfl, KEEP.out _ P3.out, fun hHeld => ?_⟩
      simp only [Act.put, List.setIfInBounds_toArray, List.set_cons_zero, List.set_cons_succ]
      cases h1 : fs.all (inD (rset (lvR ls i))) with
      | false =>
        have NO : Hid (preB (rns ls) (i : Int) (fs.map RV.r) (ts.map RV.r) = false) := hidIt (by rw [PB.out, h1]; rfl)
        have H1 := hidIt h1
        clear h1
        refine call_at (i := 7) (some 29) 47 _ _ rfl rfl rfl (by rfl) (by kernel_rfl) #[.map (some m1), .slice fa fs.length fc] rfl Tryd.func47 (by kernel_rfl) (by kernel_rfl) ?_
        refine (lhaveAll_any _ fc rfl (HA.out.fls.below E3.out) (by have := HA.out.fn; omega) M3.out HA.out.frt).mono ?_
        rw [H1.out]
        rintro e W4 ⟨rfl, hb⟩
        have E4 := hidIt (E3.out.trans (hb.mono E3.out.size))
        have P4 := hidIt (P3.out.below hb)
        clear hb
        refine ⟨_, rfl, KEEP.out _ P4.out, fun hHeld => ?_⟩
        simp only [Act.put, List.setIfInBounds_toArray, List.set_cons_zero, List.set_cons_succ]
        refine take_at (i := 8) (v := ?_) (some 30) rfl rfl (by kernel_rfl) (by kernel_rfl) (by kernel_rfl) (fun _ _ _ h => h) (Or.inl ⟨by rfl, ?_⟩) (by assumption) ?_
        rotate_left
        · (intro w hSw; (try dsimp only at hSw); go_simp; try with_reducible rfl)
        simp only [Act.put, List.setIfInBounds_toArray, List.set_cons_zero, List.set_cons_succ]
        refine take_at (i := 9) (v := ?_) (some 31) rfl rfl (by kernel_rfl) (by kernel_rfl) (by kernel_rfl) (fun _ _ _ h => h) (Or.inl ⟨by rfl, ?_⟩) (by assumption) ?_
        rotate_left
        · (intro w hSw; (try dsimp only at hSw); go_simp; try with_reducible rfl)
        simp only [Act.put, List.setIfInBounds_toArray, List.set_cons_zero, List.set_cons_succ]
        refine take_at (i := 10) (v := undef) (some 32) rfl rfl (by kernel_rfl) (by kernel_rfl) (by kernel_rfl) (fun _ _ _ h => h) (Or.inr ⟨by rfl, rfl⟩) (by assumption) ?_
        simp only [Act.put, List.setIfInBounds_toArray, List.set_cons_zero, List.set_cons_succ]
        refine take_at (i := 11) (v := undef) (some 33) rfl rfl (by kernel_rfl) (by kernel_rfl) (by kernel_rfl) (fun _ _ _ h => h) (Or.inr ⟨by rfl, rfl⟩) (by assumption) ?_
        simp only [Act.put, List.setIfInBounds_toArray, List.set_cons_zero, List.set_cons_succ]
        refine take_at (i := 12) (v := undef) (some 34) rfl rfl (by kernel_rfl) (by kernel_rfl) (by kernel_rfl) (fun _ _ _ h => h) (Or.inr ⟨by rfl, rfl⟩) (by assumption) ?_
        simp only [Act.put, List.setIfInBounds_toArray, List.set_cons_zero, List.set_cons_succ]
        refine take_at (i := 13) (v := undef) (some 35) rfl rfl (by kernel_rfl) (by kernel_rfl) (by kernel_rfl) (fun _ _ _ h => h) (Or.inr ⟨by rfl, rfl⟩) (by assumption) ?_
        simp only [Act.put, List.setIfInBounds_toArray, List.set_cons_zero, List.set_cons_succ]
        refine take_at (i := 14) (v := undef) (some 36) rfl rfl (by kernel_rfl) (by kernel_rfl) (by kernel_rfl) (fun _ _ _ h => h) (Or.inr ⟨by rfl, rfl⟩) (by assumption) ?_
        simp only [Act.put, List.setIfInBounds_toArray, List.set_cons_zero, List.set_cons_succ]
        refine take_at (i := 15) (v := undef) (some 37) rfl rfl (by kernel_rfl) (by kernel_rfl) (by kernel_rfl) (fun _ _ _ h => h) (Or.inr ⟨by rfl, rfl⟩) (by assumption) ?_
        simp only [Act.put, List.setIfInBounds_toArray, List.set_cons_zero, List.set_cons_succ]
        refine take_at (i := 16) (v := undef) (some 38) rfl rfl (by kernel_rfl) (by kernel_rfl) (by kernel_rfl) (fun _ _ _ h => h) (Or.inr ⟨by rfl, rfl⟩) (by assumption) ?_
        simp only [Act.put, List.setIfInBounds_toArray, List.set_cons_zero, List.set_cons_succ]
        refine take_at (i := 17) (v := undef) (some 39) rfl rfl (by kernel_rfl) (by kernel_rfl) (by kernel_rfl) (fun _ _ _ h => h) (Or.inr ⟨by rfl, rfl⟩) (by assumption) ?_
        simp only [Act.put, List.setIfInBounds_toArray, List.set_cons_zero, List.set_cons_succ]
        refine take_at (i := 18) (v := ?_) (some 40) rfl rfl (by kernel_rfl) (by kernel_rfl) (by kernel_rfl) (fun _ _ _ h => h) (Or.inl ⟨by rfl, ?_⟩) (by assumption) ?_
        rotate_left
        · (intro w hSw; (try dsimp only at hSw); go_simp; try with_reducible rfl)
        simp only [Act.put, List.setIfInBounds_toArray, List.set_cons_zero, List.set_cons_succ]
        refine wpAnyH_done (by kernel_rfl) ?_ _
        refine NoPanic.normal ?_
        go_wp2_with fail
        exact bodyPost_ret (v := .tuple #[.slice none 0 0, .int .i64 2]) (by simp [results, Tryd.results24, go_sem]) rfl (.inl ⟨NO.out, rfl, E4.out⟩)
      | true =>
        have H1 := hidIt h1
        clear h1
        refine call_at (i := 7) (some 29) 47 _ _ rfl rfl rfl (by rfl) (by kernel_rfl) #[.map (some m1), .slice fa fs.length fc] rfl Tryd.func47 (by kernel_rfl) (by kernel_rfl) ?_
        refine (lhaveAll_any _ fc rfl (HA.out.fls.below E3.out) (by have := HA.out.fn; omega) M3.out HA.out.frt).mono ?_
        rw [H1.out]
        rintro e W4 ⟨rfl, hb⟩
        have E4 := hidIt (E3.out.trans (hb.mono E3.out.size))
        have P4 := hidIt (P3.out.below hb)
        clear hb
        refine ⟨_, rfl, KEEP.out _ P4.out, fun hHeld => ?_⟩
        simp only [Act.put, List.setIfInBounds_toArray, List.set_cons_zero, List.set_cons_succ]
        refine take_at (i := 8) (v := ?_) (some 30) rfl rfl (by kernel_rfl) (by kernel_rfl) (by kernel_rfl) (fun _ _ _ h => h) (Or.inl ⟨by rfl, ?_⟩) (by assumption) ?_
        rotate_left
        · (intro w hSw; (try dsimp only at hSw); go_simp; try with_reducible rfl)
        simp only [Act.put, List.setIfInBounds_toArray, List.set_cons_zero, List.set_cons_succ]
        refine take_at (i := 9) (v := ?_) (some 31) rfl rfl (by kernel_rfl) (by kernel_rfl) (by kernel_rfl) (fun _ _ _ h => h) (Or.inl ⟨by rfl, ?_⟩) (by assumption) ?_
        rotate_left
        · (intro w hSw; (try dsimp only at hSw); go_simp; try with_reducible rfl)
        simp only [Act.put, List.setIfInBounds_toArray, List.set_cons_zero, List.set_cons_succ]
        refine take_at (i := 10) (v := ?_) (some 32) rfl rfl (by kernel_rfl) (by kernel_rfl) (by kernel_rfl) (fun _ _ _ h => h) (Or.inl ⟨by rfl, ?_⟩) (by assumption) ?_
        rotate_left
        · (intro w hSw; (try dsimp only at hSw); go_simp; try with_reducible rfl)
        simp only [Act.put, List.setIfInBounds_toArray, List.set_cons_zero, List.set_cons_succ]
        refine take_at (i := 11) (v := ?_) (some 33) rfl rfl (by kernel_rfl) (by kernel_rfl) (by kernel_rfl) (fun _ _ _ h => h) (Or.inl ⟨by rfl, ?_⟩) (by assumption) ?_
        rotate_left
        · (intro w hSw; (try dsimp only at hSw); go_simp; try with_reducible rfl)
        simp only [Act.put, List.setIfInBounds_toArray, List.set_cons_zero, List.set_cons_succ]
        refine take_at (i := 14) (v := ?_) (some 36) rfl rfl (by kernel_rfl) (by kernel_rfl) (by kernel_rfl) (fun _ _ _ h => h) (Or.inl ⟨by rfl, ?_⟩) (by assumption) ?_
        rotate_left
        · (intro w hSw; (try dsimp only at hSw); go_simp; try with_reducible rfl)
        simp only [Act.put, List.setIfInBounds_toArray, List.set_cons_zero, List.set_cons_succ]
        refine take_at (i := 15) (v := ?_) (some 37) rfl rfl (by kernel_rfl) (by kernel_rfl) (by kernel_rfl) (fun _ _ _ h => h) (Or.inl ⟨by rfl, ?_⟩) (by assumption) ?_
        rotate_left
        · (intro w hSw; (try dsimp only at hSw); go_simp; try with_reducible rfl)
        simp only [Act.put, List.setIfInBounds_toArray, List.set_cons_zero, List.set_cons_succ]
        refine call_at (i := 12) (some 34) 34 _ _ rfl rfl rfl (by rfl) (by kernel_rfl) #[.slice A L C, .int .i64 (j : Int)] rfl Tryd.func34 (by kernel_rfl) (by kernel_rfl) ?_
        refine (lofs_any L C j _ rfl HA.out.len (HA.out.lvs.below E4.out) HA.out.l1).mono ?_
        rintro e w5 ⟨⟨bc, rfl, _⟩, rfl⟩
        refine ⟨_, rfl, KEEP.out _ P4.out, fun hHeld => ?_⟩
        simp only [Act.put, List.setIfInBounds_toArray, List.set_cons_zero, List.set_cons_succ]
        refine call_at (i := 13) (some 35) 46 _ _ rfl rfl rfl (by rfl) (by kernel_rfl) #[.slice (lvA ls j) (lvR ls j).length bc] rfl Tryd.func46 (by kernel_rfl) (by kernel_rfl) ?_
        refine (lrootsOf_any _ bc rfl ((lvA_ls HA.out.lvs j).below E4.out) (by have := BL.out j; omega) (RL.out j)).mono ?_
        rintro e W5 ⟨m2, q2, rfl, _, hM2, hb⟩
        have E5 := hidIt (E4.out.trans (hb.mono E4.out.size))
        have P5 := hidIt (P4.out.below hb)
        have M5 := hidIt hM2
        clear hb hM2
        refine ⟨_, rfl, KEEP.out _ P5.out, fun hHeld => ?_⟩
        simp only [Act.put, List.setIfInBounds_toArray, List.set_cons_zero, List.set_cons_succ]
        cases h2 : ts.all (inD (rset (lvR ls j))) with
        | false =>
          have NO : Hid (preB (rns ls) (i : Int) (fs.map RV.r) (ts.map RV.r) = false) := hidIt (by rw [PB.out, h2, Bool.and_false])
          have H2 := hidIt h2
          clear h2
          refine call_at (i := 16) (some 38) 47 _ _ rfl rfl rfl (by rfl) (by kernel_rfl) #[.map (some m2), .slice ta ts.length tc] rfl Tryd.func47 (by kernel_rfl) (by kernel_rfl) ?_
          refine (lhaveAll_any _ tc rfl (HA.out.tls.below E5.out) (by have := HA.out.tn; omega) M5.out HA.out.trt).mono ?_
          rw [H2.out]
          rintro e W6 ⟨rfl, hb⟩
          have E6 := hidIt (E5.out.trans (hb.mono E5.out.size))
          have P6 := hidIt (P5.out.below hb)
          clear hb
          refine ⟨_, rfl, KEEP.out _ P6.out, fun hHeld => ?_⟩
          simp only [Act.put, List.setIfInBounds_toArray, List.set_cons_zero, List.set_cons_succ]
          refine take_at (i := 17) (v := ?_) (some 39) rfl rfl (by kernel_rfl) (by kernel_rfl) (by kernel_rfl) (fun _ _ _ h => h) (Or.inl ⟨by rfl, ?_⟩) (by assumption) ?_
          rotate_left
          · (intro w hSw; (try dsimp only at hSw); go_simp; try with_reducible rfl)
          simp only [Act.put, List.setIfInBounds_toArray, List.set_cons_zero, List.set_cons_succ]
          refine take_at (i := 18) (v := ?_) (some 40) rfl rfl (by kernel_rfl) (by kernel_rfl) (by kernel_rfl) (fun _ _ _ h => h) (Or.inl ⟨by rfl, ?_⟩) (by assumption) ?_
          rotate_left
          · (intro w hSw; (try dsimp only at hSw); go_simp; try with_reducible rfl)
          simp only [Act.put, List.setIfInBounds_toArray, List.set_cons_zero, List.set_cons_succ]
          refine wpAnyH_done (by kernel_rfl) ?_ _
          refine NoPanic.normal ?_
          go_wp2_with fail
          exact bodyPost_ret (v := .tuple #[.slice none 0 0, .int .i64 2]) (by simp [results, Tryd.results24, go_sem]) rfl (.inl ⟨NO.out, rfl, E6.out⟩)
        | true =>
          have YES : Hid (preB (rns ls) (i : Int) (fs.map RV.r) (ts.map RV.r) = true) := hidIt (by rw [PB.out, h2, H1.out]; rfl)
          have H2 := hidIt h2
          clear h2
          refine call_at (i := 16) (some 38) 47 _ _ rfl rfl rfl (by rfl) (by kernel_rfl) #[.map (some m2), .slice ta ts.length tc] rfl Tryd.func47 (by kernel_rfl) (by kernel_rfl) ?_
          refine (lhaveAll_any _ tc rfl (HA.out.tls.below E5.out) (by have := HA.out.tn; omega) M5.out HA.out.trt).mono ?_
          rw [H2.out]
          rintro e W6 ⟨rfl, hb⟩
          have E6 : Hid (Below W.heap.size W W6 ∧ W.heap.size + 1 ≤ W6.heap.size) := hidIt ⟨E5.out.trans (hb.mono E5.out.size), by have := (P5.out.below hb).2.2; omega⟩
          have P6 := hidIt (P5.out.below hb)
          clear hb
          refine ⟨_, rfl, KEEP.out _ P6.out, fun hHeld => ?_⟩
          simp only [Act.put, List.setIfInBounds_toArray, List.set_cons_zero, List.set_cons_succ]
          refine take_at (i := 17) (v := ?_) (some 39) rfl rfl (by kernel_rfl) (by kernel_rfl) (by kernel_rfl) (fun _ _ _ h => h) (Or.inl ⟨by rfl, ?_⟩) (by assumption) ?_
          rotate_left
          · (intro w hSw; (try dsimp only at hSw); go_simp; try with_reducible rfl)
          simp only [Act.put, List.setIfInBounds_toArray, List.set_cons_zero, List.set_cons_succ]
          refine take_at (i := 18) (v := ?_) (some 40) rfl rfl (by kernel_rfl) (by kernel_rfl) (by kernel_rfl) (fun _ _ _ h => h) (Or.inl ⟨by rfl, ?_⟩) (by assumption) ?_
          rotate_left
          · (intro w hSw; (try dsimp only at hSw); go_simp; try with_reducible rfl)
          simp only [Act.put, List.setIfInBounds_toArray, List.set_cons_zero, List.set_cons_succ]
          refine wpAnyH_done (by kernel_rfl) ?_ _
          refine NoPanic.normal ?_
          clear hHeld
          go_wp2_with (go_at_call 29; refine (lcopied_any L C HA.out.len (HA.out.lvs.below E6.out.1) L4.out HA.out.few HA.out.siz).mono ?_; rintro e W7 ⟨g, lv, os, rfl, hf, hgs, hmm, hb⟩; have R7 : Hid (ReI W (i : Int) (.slice fa fs.length fc) (.slice ta ts.length tc) d (W6.heap.size + 3) g W7 lv os) := hidIt ⟨E6.out.1.trans (hb.mono E6.out.1.size), P6.out.below hb, hf, by have := hgs.1; have := E6.out.2; omega, by have := E6.out.2; omega, hgs.2⟩; have MM := hidIt hmm; clear hf hgs hmm hb; refine Held.out ?_)
          refine Held.mk ?_
          generalize W6.heap.size + 3 = B1 at *
          clear E2 P2 ED PD E3 P3 M3 E4 P4 E5 P5 M5 E6 P6
          have g0 : (0 : Int) ≤ (i : Int) := by omega
          have g1 : (i : Int) < 4 := by have := IJ.out; omega
          have g2 : (0 : Int) ≤ (j : Int) := by omega
          have g3 : (j : Int) < 4 := by have := IJ.out; omega
          -- DeleteFunc of the level
          have RD := hidIt (R7.out.below' (Below.refl _ _).drew)
          go_wp2_with fail
          refine wp_region_noPanic ?_
          refine wp_region_held_drew (S := fun w' => w'.cell? ⟨W.heap.size, 0, none⟩ = some (.int .i64 (i : Int)) ∧ w'.cell? ⟨W.heap.size, 1, none⟩ = some (.slice fa fs.length fc) ∧ w'.cell? ⟨W.heap.size, 2, none⟩ = some (.slice ta ts.length tc)) (by kernel_rfl) ?_ (fun hHeld => ?_)
          · exact KEEP.out _ RD.out.rc
          refine take_at (i := 0) (v := ?_) (some 43) rfl rfl (by kernel_rfl) (by kernel_rfl) (by kernel_rfl) (fun _ _ _ h => h) (Or.inl ⟨by rfl, ?_⟩) (by assumption) ?_
          rotate_left
          · (intro w hSw; (try dsimp only at hSw); go_simp; try with_reducible rfl)
          simp only [Act.put, List.setIfInBounds_toArray, List.set_cons_zero, List.set_cons_succ]
          refine take_at (i := 1) (v := ?_) (some 44) rfl rfl (by kernel_rfl) (by kernel_rfl) (by kernel_rfl) (fun _ _ _ h => h) (Or.inl ⟨by rfl, ?_⟩) (by assumption) ?_
          rotate_left
          · (intro w hSw; (try dsimp only at hSw); go_simp; try with_reducible rfl)
          simp only [Act.put, List.setIfInBounds_toArray, List.set_cons_zero, List.set_cons_succ]
          refine take_at (i := 2) (v := ?_) (some 45) rfl rfl (by kernel_rfl) (by kernel_rfl) (by kernel_rfl) (fun _ _ _ h => h) (Or.inl ⟨by rfl, ?_⟩) (by assumption) ?_
          rotate_left
          · (intro w hSw; (try dsimp only at hSw); go_simp; try with_reducible rfl)
          simp only [Act.put, List.setIfInBounds_toArray, List.set_cons_zero, List.set_cons_succ]
          refine take_at (i := 3) (v := ?_) (some 46) rfl rfl (by kernel_rfl) (by kernel_rfl) (by kernel_rfl) (fun _ _ _ h => h) (Or.inl ⟨by rfl, ?_⟩) (by assumption) ?_
          rotate_left
          · (intro w hSw; (try dsimp only at hSw); go_simp; try with_reducible rfl)
          simp only [Act.put, List.setIfInBounds_toArray, List.set_cons_zero, List.set_cons_succ]
          refine take_at (i := 4) (v := ?_) (some 47) rfl rfl (by kernel_rfl) (by kernel_rfl) (by kernel_rfl) (fun _ _ _ h => h) (Or.inl ⟨by rfl, ?_⟩) (by assumption) ?_
          rotate_left
          · (intro w hSw; (try dsimp only at hSw); go_simp; try with_reducible rfl)
          simp only [Act.put, List.setIfInBounds_toArray, List.set_cons_zero, List.set_cons_succ]
          refine take_at (i := 5) (v := ?_) (some 48) rfl rfl (by kernel_rfl) (by kernel_rfl) (by kernel_rfl) (fun _ _ _ h => h) (Or.inl ⟨by rfl, ?_⟩) (by assumption) ?_
          rotate_left
          · (intro w hSw; (try dsimp only at hSw); go_simp; try with_reducible rfl)
          simp only [Act.put, List.setIfInBounds_toArray, List.set_cons_zero, List.set_cons_succ]
          refine take_at (i := 6) (v := ?_) (some 49) rfl rfl (by kernel_rfl) (by kernel_rfl) (by kernel_rfl) (fun _ _ _ h => h) (Or.inl ⟨by rfl, ?_⟩) (by assumption) ?_
          rotate_left
          · (intro w hSw; (try dsimp only at hSw); go_simp; try with_reducible rfl)
          simp only [Act.put, List.setIfInBounds_toArray, List.set_cons_zero, List.set_cons_succ]
          refine take_at (i := 8) (v := ?_) (some 51) rfl rfl (by kernel_rfl) (by kernel_rfl) (by kernel_rfl) (fun _ _ _ h => h) (Or.inl ⟨by rfl, ?_⟩) (by assumption) ?_
          rotate_left
          · (intro w hSw; (try dsimp only at hSw); go_simp; try with_reducible rfl)
          simp only [Act.put, List.setIfInBounds_toArray, List.set_cons_zero, List.set_cons_succ]
          refine take_at (i := 9) (v := ?_) (some 52) rfl rfl (by kernel_rfl) (by kernel_rfl) (by kernel_rfl) (fun _ _ _ h => h) (Or.inl ⟨by rfl, ?_⟩) (by assumption) ?_
          rotate_left
          · (intro w hSw; (try dsimp only at hSw); go_simp; try with_reducible rfl)
          simp only [Act.put, List.setIfInBounds_toArray, List.set_cons_zero, List.set_cons_succ]
          apply both_ways (α := Nat) (P := fun X m => ∃ q, OwnsR X m q (rset fs) ∧ W7.drew.heap.size ≤ m ∧ Below W7.drew.heap.size W7.drew X)
          · intro NEXT
            have cl := RD.out.cell IJ.out.2.1
            refine duo2_at (i := 10) (j := 7) (some 53) (some 50) 46 #[.tmp 52] _ rfl rfl rfl rfl rfl (by rfl) (by rfl) (by kernel_rfl) (lv i) W7.drew (by go_simp) hHeld (fun hHeld => ?_) #[.slice fa fs.length fc] rfl Tryd.func46 (by kernel_rfl) (by kernel_rfl) ?_
            · clear cl
              simp only [Act.put, List.setIfInBounds_toArray, List.set_cons_zero, List.set_cons_succ]
              refine call_at (i := 10) (some 53) 46 _ _ rfl rfl rfl (by rfl) (by kernel_rfl) #[.slice fa fs.length fc] rfl Tryd.func46 (by kernel_rfl) (by kernel_rfl) ?_
              refine (lrootsOf_any _ fc rfl (HA.out.fls.below RD.out.below) (by have := HA.out.fn; omega) HA.out.frt).mono ?_
              rintro e W9 ⟨m, q, rfl, hmn, hM, hb⟩
              refine ⟨_, rfl, KEEP.out _ (RD.out.rc.below hb), fun _ => ?_⟩
              simp only [Act.put, List.setIfInBounds_toArray, List.set_cons_zero, List.set_cons_succ]
              refine take_at (i := 11) (v := ?_) (some 54) rfl rfl (by kernel_rfl) (by kernel_rfl) (by kernel_rfl) (fun _ _ _ h => h) (Or.inl ⟨by rfl, ?_⟩) (by assumption) ?_
              rotate_left
              · (intro w hSw; (try dsimp only at hSw); go_simp; try with_reducible rfl)
              simp only [Act.put, List.setIfInBounds_toArray, List.set_cons_zero, List.set_cons_succ]
              exact NEXT W9 m ⟨q, hM, hmn, hb⟩
            · clear cl
              refine (lrootsOf_any _ fc rfl (HA.out.fls.below RD.out.below) (by have := HA.out.fn; omega) HA.out.frt).mono ?_
              rintro e W9 ⟨m, q, rfl, hmn, hM, hb⟩
              refine ⟨_, rfl, KEEP.out _ (RD.out.rc.below hb), fun _ => ?_⟩
              simp only [Act.put, List.setIfInBounds_toArray, List.set_cons_zero, List.set_cons_succ]
              refine take_at (i := 11) (v := ?_) (some 54) rfl rfl (by kernel_rfl) (by kernel_rfl) (by kernel_rfl) (fun _ _ _ h => h) (Or.inl ⟨by rfl, ?_⟩) (by assumption) ?_
              rotate_left
              · (intro w hSw; (try dsimp only at hSw); go_simp; try with_reducible rfl)
              simp only [Act.put, List.setIfInBounds_toArray, List.set_cons_zero, List.set_cons_succ]
              have cl := (RD.out.below' hb).cell IJ.out.2.1
              refine step_at (i := 7) (some 50) rfl rfl (by rfl) (by kernel_rfl) (lv i) W9 (by go_simp) (KEEP.out _ (RD.out.rc.below hb)) (fun _ => ?_)
              clear cl
              simp only [Act.put, List.setIfInBounds_toArray, List.set_cons_zero, List.set_cons_succ]
              exact NEXT W9 m ⟨q, hM, hmn, hb⟩
          · rintro W9 m ⟨q, hM, hmn, hb⟩
            have R9 := hidIt (RD.out.below' hb)
            obtain ⟨ra0, rc0, hv0, ho0, hp0⟩ := R9.out.row IJ.out.2.1
            have hd := ldelete_any (m := m) (D := rset fs) (os i).length rc0 rfl ho0 hp0 (by have := len_of (MM.out i IJ.out.2.1); have := lvl_few HA.out.few i; omega) hM (fun b hb e => by have := (RD.out.fo.own i IJ.out.2.1).lt (b := b) (by rw [hv0]; exact hb); omega) (rts_of ((MM.out i IJ.out.2.1).trans (lvR_map ls i).symm) (RL.out i))
            rw [← hv0] at hd
            have HD := hidIt hd
            clear hd hv0 ho0 hp0 hM
            refine call_at (i := 12) (some 55) 48 _ _ rfl rfl rfl (by rfl) (by kernel_rfl) #[lv i, .func (.func 49) #[.map (some m)] #[]] rfl Tryd.func48 (by kernel_rfl) (by kernel_rfl) ?_
            refine HD.out.mono ?_
            intro e W10 hdl
            obtain ⟨v', rfl, hI⟩ := hdl.ins
            obtain ⟨hr, r2, r3⟩ := R9.out.set IJ.out.2.1 hI (fun x hx => R9.out.fo.oks i IJ.out.2.1 x (List.mem_filter.1 hx).1)
            have M7 := hidIt (rpL_start (fr := fs.map RV.r) IJ.out.1 MM.out (by rw [rest_map HA.out.frt (rts_of ((MM.out i IJ.out.2.1).trans (lvR_map ls i).symm) (RL.out i)), MM.out i IJ.out.2.1]))
            refine ⟨_, rfl, KEEP.out _ r2, fun hHeld => ?_⟩
            simp only [Act.put, List.setIfInBounds_toArray, List.set_cons_zero, List.set_cons_succ]
            refine take_at (i := 13) (v := ?_) (some 56) rfl rfl (by kernel_rfl) (by kernel_rfl) (by kernel_rfl) (fun _ _ _ h => h) (Or.inl ⟨by rfl, ?_⟩) (by assumption) ?_
            rotate_left
            · (intro w hSw; (try dsimp only at hSw); go_simp; try with_reducible rfl)
            simp only [Act.put, List.setIfInBounds_toArray, List.set_cons_zero, List.set_cons_succ]
            have R11 := hidIt r3
            have hr14 := hr
            clear r2 r3 hr hdl hI HD
            generalize W10.setCell ⟨g, i, none⟩ v' = W11 at *
            generalize upd4 lv i v' = lv7 at *
            generalize upd4 os i ((os i).filter fun x => !inD (rset fs) x) = os7 at *
            refine mute_at (i := 14) none rfl rfl (by rfl) (by kernel_rfl) W11 (put_mute 36 (.tmp 56) (.tmp 55) rfl _ _ rfl rfl hr14) (KEEP.out _ R11.out.rc) (fun hHeld => ?_)
            simp only [Act.put]
            clear hr14
            refine wpAnyH_done (by kernel_rfl) ?_ _
            refine NoPanic.normal ?_
            clear hHeld R9 RD R7 MM
            have RD := hidIt (R11.out.below' (Below.refl _ _).drew)
            go_wp2_with fail
            refine wp_region_noPanic ?_
            refine wp_region_held_drew (S := fun w' => w'.cell? ⟨W.heap.size, 0, none⟩ = some (.int .i64 (i : Int)) ∧ w'.cell? ⟨W.heap.size, 1, none⟩ = some (.slice fa fs.length fc) ∧ w'.cell? ⟨W.heap.size, 2, none⟩ = some (.slice ta ts.length tc)) (by kernel_rfl) ?_ (fun hHeld => ?_)
            · exact KEEP.out _ RD.out.rc
            refine take_at (i := 0) (v := ?_) (some 57) rfl rfl (by kernel_rfl) (by kernel_rfl) (by kernel_rfl) (fun _ _ _ h => h) (Or.inl ⟨by rfl, ?_⟩) (by assumption) ?_
            rotate_left
            · (intro w hSw; (try dsimp only at hSw); go_simp; try with_reducible rfl)
            simp only [Act.put, List.setIfInBounds_toArray, List.set_cons_zero, List.set_cons_succ]
            refine take_at (i := 1) (v := ?_) (some 58) rfl rfl (by kernel_rfl) (by kernel_rfl) (by kernel_rfl) (fun _ _ _ h => h) (Or.inl ⟨by rfl, ?_⟩) (by assumption) ?_
            rotate_left
            · (intro w hSw; (try dsimp only at hSw); go_simp; try with_reducible rfl)
            simp only [Act.put, List.setIfInBounds_toArray, List.set_cons_zero, List.set_cons_succ]
            refine take_at (i := 2) (v := ?_) (some 59) rfl rfl (by kernel_rfl) (by kernel_rfl) (by kernel_rfl) (fun _ _ _ h => h) (Or.inl ⟨by rfl, ?_⟩) (by assumption) ?_
            rotate_left
            · (intro w hSw; (try dsimp only at hSw); go_simp; try with_reducible rfl)
            simp only [Act.put, List.setIfInBounds_toArray, List.set_cons_zero, List.set_cons_succ]
            refine take_at (i := 3) (v := ?_) (some 60) rfl rfl (by kernel_rfl) (by kernel_rfl) (by kernel_rfl) (fun _ _ _ h => h) (Or.inl ⟨by rfl, ?_⟩) (by assumption) ?_
            rotate_left
            · (intro w hSw; (try dsimp only at hSw); go_simp; try with_reducible rfl)
            simp only [Act.put, List.setIfInBounds_toArray, List.set_cons_zero, List.set_cons_succ]
            refine take_at (i := 4) (v := ?_) (some 61) rfl rfl (by kernel_rfl) (by kernel_rfl) (by kernel_rfl) (fun _ _ _ h => h) (Or.inl ⟨by rfl, ?_⟩) (by assumption) ?_
            rotate_left
            · (intro w hSw; (try dsimp only at hSw); go_simp; try with_reducible rfl)
            simp only [Act.put, List.setIfInBounds_toArray, List.set_cons_zero, List.set_cons_succ]
            refine take_at (i := 6) (v := ?_) (some 63) rfl rfl (by kernel_rfl) (by kernel_rfl) (by kernel_rfl) (fun _ _ _ h => h) (Or.inl ⟨by rfl, ?_⟩) (by assumption) ?_
            rotate_left
            · (intro w hSw; (try dsimp only at hSw); go_simp; try with_reducible rfl)
            simp only [Act.put, List.setIfInBounds_toArray, List.set_cons_zero, List.set_cons_succ]
            refine take_at (i := 7) (v := ?_) (some 64) rfl rfl (by kernel_rfl) (by kernel_rfl) (by kernel_rfl) (fun _ _ _ h => h) (Or.inl ⟨by rfl, ?_⟩) (by assumption) ?_
            rotate_left
            · (intro w hSw; (try dsimp only at hSw); go_simp; try with_reducible rfl)
            simp only [Act.put, List.setIfInBounds_toArray, List.set_cons_zero, List.set_cons_succ]
            apply both_ways (α := Nat) (P := fun X m => ∃ q, OwnsR X m q (rset ts) ∧ W11.drew.heap.size ≤ m ∧ Below W11.drew.heap.size W11.drew X)
            · intro NEXT
              have cl := RD.out.cell IJ.out.2.2.1
              refine duo2_at (i := 8) (j := 5) (some 65) (some 62) 46 #[.tmp 64] _ rfl rfl rfl rfl rfl (by rfl) (by rfl) (by kernel_rfl) (lv7 j) W11.drew (by go_simp) hHeld (fun hHeld => ?_) #[.slice ta ts.length tc] rfl Tryd.func46 (by kernel_rfl) (by kernel_rfl) ?_
              · clear cl
                simp only [Act.put, List.setIfInBounds_toArray, List.set_cons_zero, List.set_cons_succ]
                refine call_at (i := 8) (some 65) 46 _ _ rfl rfl rfl (by rfl) (by kernel_rfl) #[.slice ta ts.length tc] rfl Tryd.func46 (by kernel_rfl) (by kernel_rfl) ?_
                refine (lrootsOf_any _ tc rfl (HA.out.tls.below RD.out.below) (by have := HA.out.tn; omega) HA.out.trt).mono ?_
                rintro e W12 ⟨m, q, rfl, hmn, hM, hb⟩
                refine ⟨_, rfl, KEEP.out _ (RD.out.rc.below hb), fun _ => ?_⟩
                simp only [Act.put, List.setIfInBounds_toArray, List.set_cons_zero, List.set_cons_succ]
                refine take_at (i := 9) (v := ?_) (some 66) rfl rfl (by kernel_rfl) (by kernel_rfl) (by kernel_rfl) (fun _ _ _ h => h) (Or.inl ⟨by rfl, ?_⟩) (by assumption) ?_
                rotate_left
                · (intro w hSw; (try dsimp only at hSw); go_simp; try with_reducible rfl)
                simp only [Act.put, List.setIfInBounds_toArray, List.set_cons_zero, List.set_cons_succ]
                exact NEXT W12 m ⟨q, hM, hmn, hb⟩
              · clear cl
                refine (lrootsOf_any _ tc rfl (HA.out.tls.below RD.out.below) (by have := HA.out.tn; omega) HA.out.trt).mono ?_
                rintro e W12 ⟨m, q, rfl, hmn, hM, hb⟩
                refine ⟨_, rfl, KEEP.out _ (RD.out.rc.below hb), fun _ => ?_⟩
                simp only [Act.put, List.setIfInBounds_toArray, List.set_cons_zero, List.set_cons_succ]
                refine take_at (i := 9) (v := ?_) (some 66) rfl rfl (by kernel_rfl) (by kernel_rfl) (by kernel_rfl) (fun _ _ _ h => h) (Or.inl ⟨by rfl, ?_⟩) (by assumption) ?_
                rotate_left
                · (intro w hSw; (try dsimp only at hSw); go_simp; try with_reducible rfl)
                simp only [Act.put, List.setIfInBounds_toArray, List.set_cons_zero, List.set_cons_succ]
                have cl := (RD.out.below' hb).cell IJ.out.2.2.1
                refine step_at (i := 5) (some 62) rfl rfl (by rfl) (by kernel_rfl) (lv7 j) W12 (by go_simp) (KEEP.out _ (RD.out.rc.below hb)) (fun _ => ?_)
                clear cl
                simp only [Act.put, List.setIfInBounds_toArray, List.set_cons_zero, List.set_cons_succ]
                exact NEXT W12 m ⟨q, hM, hmn, hb⟩
            · rintro W12 m ⟨q, hM, hmn, hb⟩
              have R12 := hidIt (RD.out.below' hb)
              obtain ⟨ra0, rc0, hv0, ho0, hp0⟩ := R12.out.row IJ.out.2.2.1
              have hj7 : (os7 j).map RV.r = (lvR ls j).map RV.r := by rw [M7.out j IJ.out.2.2.1, rpL_j _ IJ.out.1, lvR_map]
              have hd := ldelete_any (m := m) (D := rset ts) (os7 j).length rc0 rfl ho0 hp0 (by have := len_of hj7; rw [List.length_map] at this; have := BL.out j; omega) hM (fun b hb e => by have := (RD.out.fo.own j IJ.out.2.2.1).lt (b := b) (by rw [hv0]; exact hb); omega) (rts_of hj7 (RL.out j))
              rw [← hv0] at hd
              have HD := hidIt hd
              have J7 := hidIt hj7
              clear hd hv0 ho0 hp0 hM hj7
              refine call_at (i := 10) (some 67) 48 _ _ rfl rfl rfl (by rfl) (by kernel_rfl) #[lv7 j, .func (.func 49) #[.map (some m)] #[]] rfl Tryd.func48 (by kernel_rfl) (by kernel_rfl) ?_
              refine HD.out.mono ?_
              intro e W13 hdl
              obtain ⟨v', rfl, hI⟩ := hdl.ins
              obtain ⟨hr, r2, r3⟩ := R12.out.set IJ.out.2.2.1 hI (fun x hx => R12.out.fo.oks j IJ.out.2.2.1 x (List.mem_filter.1 hx).1)
              have M8 := hidIt (rpL_set (l' := restD (((rns ls)[j]?).getD []) (ts.map RV.r)) IJ.out.1 M7.out (qs := (os7 j).filter fun x => !inD (rset ts) x) (by rw [rest_map HA.out.trt (rts_of J7.out (RL.out j)), J7.out, lvR_map]))
              refine ⟨_, rfl, KEEP.out _ r2, fun hHeld => ?_⟩
              simp only [Act.put, List.setIfInBounds_toArray, List.set_cons_zero, List.set_cons_succ]
              refine take_at (i := 11) (v := ?_) (some 68) rfl rfl (by kernel_rfl) (by kernel_rfl) (by kernel_rfl) (fun _ _ _ h => h) (Or.inl ⟨by rfl, ?_⟩) (by assumption) ?_
              rotate_left
              · (intro w hSw; (try dsimp only at hSw); go_simp; try with_reducible rfl)
              simp only [Act.put, List.setIfInBounds_toArray, List.set_cons_zero, List.set_cons_succ]
              have R14 := hidIt r3
              have hr14 := hr
              clear r2 r3 hr hdl hI HD
              generalize W13.setCell ⟨g, j, none⟩ v' = W14 at *
              generalize upd4 lv7 j v' = lv8 at *
              generalize upd4 os7 j ((os7 j).filter fun x => !inD (rset ts) x) = os8 at *
              refine mute_at (i := 12) none rfl rfl (by rfl) (by kernel_rfl) W14 (put_mute 36 (.tmp 68) (.tmp 67) rfl _ _ rfl rfl hr14) (KEEP.out _ R14.out.rc) (fun hHeld => ?_)
              simp only [Act.put]
              clear hr14
              refine wpAnyH_done (by kernel_rfl) ?_ _
              refine NoPanic.normal ?_
              clear hHeld R12 RD R11 M7 J7
              have RD := hidIt (R14.out.below' (Below.refl _ _).drew)
              have LJ : Hid ((os8 j).length ≤ 1000) := hidIt (by rw [len_of (M8.out j IJ.out.2.2.1), rpL_j _ IJ.out.1]; exact Nat.le_trans (rest_few _ _) (lvl_few HA.out.few j))
              go_wp2_with fail
              refine wp_region_noPanic ?_
              refine wp_region_held_drew (S := fun w' => w'.cell? ⟨W.heap.size, 0, none⟩ = some (.int .i64 (i : Int)) ∧ w'.cell? ⟨W.heap.size, 1, none⟩ = some (.slice fa fs.length fc) ∧ w'.cell? ⟨W.heap.size, 2, none⟩ = some (.slice ta ts.length tc)) (by kernel_rfl) ?_ (fun hHeld => ?_)
              · exact KEEP.out _ RD.out.rc
              refine take_at (i := 0) (v := ?_) (some 69) rfl rfl (by kernel_rfl) (by kernel_rfl) (by kernel_rfl) (fun _ _ _ h => h) (Or.inl ⟨by rfl, ?_⟩) (by assumption) ?_
              rotate_left
              · (intro w hSw; (try dsimp only at hSw); go_simp; try with_reducible rfl)
              simp only [Act.put, List.setIfInBounds_toArray, List.set_cons_zero, List.set_cons_succ]
              refine take_at (i := 1) (v := ?_) (some 70) rfl rfl (by kernel_rfl) (by kernel_rfl) (by kernel_rfl) (fun _ _ _ h => h) (Or.inl ⟨by rfl, ?_⟩) (by assumption) ?_
              rotate_left
              · (intro w hSw; (try dsimp only at hSw); go_simp; try with_reducible rfl)
              simp only [Act.put, List.setIfInBounds_toArray, List.set_cons_zero, List.set_cons_succ]
              refine take_at (i := 2) (v := ?_) (some 71) rfl rfl (by kernel_rfl) (by kernel_rfl) (by kernel_rfl) (fun _ _ _ h => h) (Or.inl ⟨by rfl, ?_⟩) (by assumption) ?_
              rotate_left
              · (intro w hSw; (try dsimp only at hSw); go_simp; try with_reducible rfl)
              simp only [Act.put, List.setIfInBounds_toArray, List.set_cons_zero, List.set_cons_succ]
              refine take_at (i := 3) (v := ?_) (some 72) rfl rfl (by kernel_rfl) (by kernel_rfl) (by kernel_rfl) (fun _ _ _ h => h) (Or.inl ⟨by rfl, ?_⟩) (by assumption) ?_
              rotate_left
              · (intro w hSw; (try dsimp only at hSw); go_simp; try with_reducible rfl)
              simp only [Act.put, List.setIfInBounds_toArray, List.set_cons_zero, List.set_cons_succ]
              refine take_at (i := 4) (v := ?_) (some 73) rfl rfl (by kernel_rfl) (by kernel_rfl) (by kernel_rfl) (fun _ _ _ h => h) (Or.inl ⟨by rfl, ?_⟩) (by assumption) ?_
              rotate_left
              · (intro w hSw; (try dsimp only at hSw); go_simp; try with_reducible rfl)
              simp only [Act.put, List.setIfInBounds_toArray, List.set_cons_zero, List.set_cons_succ]
              refine take_at (i := 6) (v := ?_) (some 75) rfl rfl (by kernel_rfl) (by kernel_rfl) (by kernel_rfl) (fun _ _ _ h => h) (Or.inl ⟨by rfl, ?_⟩) (by assumption) ?_
              rotate_left
              · (intro w hSw; (try dsimp only at hSw); go_simp; try with_reducible rfl)
              simp only [Act.put, List.setIfInBounds_toArray, List.set_cons_zero, List.set_cons_succ]
              apply both_ways (α := Value) (P := fun X v => CsPost W14.drew (rs.map RV.r) (.returned v) X)
              · intro NEXT
                have cl := RD.out.cell IJ.out.2.2.1
                refine duo2_at (i := 7) (j := 5) (some 76) (some 74) 35 #[.tmp 75] _ rfl rfl rfl rfl rfl (by rfl) (by rfl) (by kernel_rfl) (lv8 j) W14.drew (by go_simp) hHeld (fun hHeld => ?_) #[.slice ra rs.length rc] rfl Tryd.func35 (by kernel_rfl) (by kernel_rfl) ?_
                · clear cl
                  simp only [Act.put, List.setIfInBounds_toArray, List.set_cons_zero, List.set_cons_succ]
                  refine call_at (i := 7) (some 76) 35 _ _ rfl rfl rfl (by rfl) (by kernel_rfl) #[.slice ra rs.length rc] rfl Tryd.func35 (by kernel_rfl) (by kernel_rfl) ?_
                  refine (copiedTables_any _ rc rfl (HA.out.rls.below RD.out.below) (by have := HA.out.rn; omega) HA.out.rsz).mono ?_
                  intro e W15 hcs
                  obtain ⟨v, rfl⟩ : ∃ v, e = .returned v := by obtain ⟨a, c, cs, he, _⟩ := hcs; exact ⟨_, he⟩
                  refine ⟨_, rfl, KEEP.out _ (RD.out.rc.below (by obtain ⟨_, _, _, _, _, _, _, _, hb⟩ := hcs; exact hb)), fun _ => ?_⟩
                  simp only [Act.put, List.setIfInBounds_toArray, List.set_cons_zero, List.set_cons_succ]
                  exact NEXT W15 v hcs
                · clear cl
                  refine (copiedTables_any _ rc rfl (HA.out.rls.below RD.out.below) (by have := HA.out.rn; omega) HA.out.rsz).mono ?_
                  intro e W15 hcs
                  obtain ⟨v, rfl⟩ : ∃ v, e = .returned v := by obtain ⟨a, c, cs, he, _⟩ := hcs; exact ⟨_, he⟩
                  have HB : Hid (Below W14.drew.heap.size W14.drew W15) := hidIt (by obtain ⟨_, _, _, _, _, _, _, _, hb⟩ := hcs; exact hb)
                  refine ⟨_, rfl, KEEP.out _ (RD.out.rc.below HB.out), fun _ => ?_⟩
                  simp only [Act.put, List.setIfInBounds_toArray, List.set_cons_zero, List.set_cons_succ]
                  have cl := (RD.out.below' HB.out).cell IJ.out.2.2.1
                  refine step_at (i := 5) (some 74) rfl rfl (by rfl) (by kernel_rfl) (lv8 j) W15 (by go_simp) (KEEP.out _ (RD.out.rc.below HB.out)) (fun _ => ?_)
                  clear cl
                  simp only [Act.put, List.setIfInBounds_toArray, List.set_cons_zero, List.set_cons_succ]
                  exact NEXT W15 v hcs
              · intro W15 v hcs
                obtain ⟨ca, cc, cs, he, o1, o2, o3, o4, hb⟩ := hcs
                injection he with he
                have R15 := hidIt (RD.out.below' hb)
                have CL : Hid (cs.map RV.r = rs.map RV.r ∧ cs.length ≤ 1000) := hidIt ⟨o4, by have := congrArg List.length o4; rw [List.length_map, List.length_map] at this; have := HA.out.rn; omega⟩
                obtain ⟨v', W16, hr8, hI⟩ := app_runs_any 36 W15 (lv8 j) (os8 j) cs ca cs.length cc rfl (R15.out.fo.own j IJ.out.2.2.1) (o1.ls (fun x hx => ((o3 x hx).2).any)) (by have := LJ.out; have := CL.out.2; omega)
                rw [← he] at hr8
                obtain ⟨hr, r2, r3⟩ := R15.out.set IJ.out.2.2.1 hI (fun x hx => by
                  rcases List.mem_append.1 hx with hx | hx
                  · exact R15.out.fo.oks j IJ.out.2.2.1 x hx
                  · exact (o3 x hx).lift (RD.out.lo.2.2) (fun b hb => RD.out.fo.foN_lt b hb))
                have M9 := hidIt (rpL_set (l' := restD (((rns ls)[j]?).getD []) (ts.map RV.r) ++ rs.map RV.r) IJ.out.1 M8.out (qs := os8 j ++ cs) (by rw [List.map_append, M8.out j IJ.out.2.2.1, rpL_j _ IJ.out.1, CL.out.1]))
                have HR := hidIt (And.intro hr8 (KEEP.out _ r2))
                clear o1 o2 o3 o4 hb hr8 r2 he hI
                refine step_at (i := 8) (some 77) rfl rfl (by rfl) (by kernel_rfl) v' W16 (app_runv (.tmp 74) (.tmp 76) 36 36 rfl _ _ rfl rfl HR.out.1) HR.out.2 (fun hHeld => ?_)
                simp only [Act.put, List.setIfInBounds_toArray, List.set_cons_zero, List.set_cons_succ]
                refine take_at (i := 9) (v := ?_) (some 78) rfl rfl (by kernel_rfl) (by kernel_rfl) (by kernel_rfl) (fun _ _ _ h => h) (Or.inl ⟨by rfl, ?_⟩) (by assumption) ?_
                rotate_left
                · (intro w hSw; (try dsimp only at hSw); go_simp; try with_reducible rfl)
                simp only [Act.put, List.setIfInBounds_toArray, List.set_cons_zero, List.set_cons_succ]
                have R17 := hidIt r3
                have hr14 := hr
                clear r3 hr HR
                generalize W16.setCell ⟨g, j, none⟩ v' = W17 at *
                generalize upd4 lv8 j v' = lv9 at *
                generalize upd4 os8 j (os8 j ++ cs) = os9 at *
                refine mute_at (i := 10) none rfl rfl (by rfl) (by kernel_rfl) W17 (put_mute 36 (.tmp 78) (.tmp 77) rfl _ _ rfl rfl hr14) (KEEP.out _ R17.out.rc) (fun hHeld => ?_)
                simp only [Act.put]
                clear hr14
                refine wpAnyH_done (by kernel_rfl) ?_ _
                refine NoPanic.normal ?_
                clear hHeld R15 RD R14 M8 LJ CL
                -- the sort
                obtain ⟨ra0, rc0, hv0, ho0, hp0⟩ := R17.out.row IJ.out.2.2.1
                have L9 : Hid ((os9 j).length ≤ 2000) := hidIt (by rw [len_of (M9.out j IJ.out.2.2.1), rpL_j _ IJ.out.1, List.length_append, List.length_map]; have := rest_few (((rns ls)[j]?).getD []) (ts.map RV.r); have := lvl_few HA.out.few j; have := HA.out.rn; omega)
                have hs := lsort_any (os9 j).length rc0 rfl ho0 hp0 (by have := L9.out; omega)
                have V9 := hidIt hv0
                rw [← hv0] at hs
                have HS := hidIt hs
                have cl := R17.out.cell IJ.out.2.2.1
                clear hs hv0 ho0 hp0
                go_wp2_with (first
                  | (go_at_call 50; refine HS.out.mono ?_; intro e W18 hsp; obtain ⟨rfl, qs, hq1, hq2, hI⟩ := hsp.ins; rw [← V9.out] at hI; have R18 := hidIt (R17.out.keep IJ.out.2.2.1 hI (fun x hx => R17.out.fo.oks j IJ.out.2.2.1 x (hq1.mem_iff.1 hx))); have M10 := hidIt (rpL_set (l' := qs.map RV.r) IJ.out.1 M9.out (qs := qs) rfl); have QQ : Hid ((qs.map RV.r).Perm (restD (((rns ls)[j]?).getD []) (ts.map RV.r) ++ rs.map RV.r) ∧ (qs.map RV.r).Pairwise (fun x y => cmpB x.f y.f ≤ 0)) := hidIt ⟨(by have := hq1.map RV.r; rw [M9.out j IJ.out.2.2.1, rpL_j _ IJ.out.1] at this; exact this), List.pairwise_map.2 hq2⟩; clear hsp hq1 hq2 hI cl; refine Held.out ?_))
                refine Held.mk ?_
                generalize upd4 os9 j qs = os10 at *
                obtain ⟨ls', hl', hlv', hat', hrn⟩ := R18.out.fo.lvs
                have FIN : Hid (rns ls' = [rpL (rns ls) i (fs.map RV.r) (qs.map RV.r) 0, rpL (rns ls) i (fs.map RV.r) (qs.map RV.r) 1, rpL (rns ls) i (fs.map RV.r) (qs.map RV.r) 2, rpL (rns ls) i (fs.map RV.r) (qs.map RV.r) 3]) := hidIt (by rw [hrn, M10.out 0 (by omega), M10.out 1 (by omega), M10.out 2 (by omega), M10.out 3 (by omega)])
                have LV := hidIt (And.intro hl' hlv')
                have FEW : Hid (∀ x ∈ ls', x.rs.length ≤ 100000) := hidIt (fun x hx => by
                  obtain ⟨k, hk⟩ := List.mem_iff_getElem?.1 hx
                  have kl := (List.getElem?_eq_some_iff.1 hk).1
                  obtain ⟨x', hx', _, hr'⟩ := hat' k (by omega)
                  rw [hk] at hx'
                  injection hx' with hx'
                  subst hx'
                  rw [hr', len_of (M10.out k (by omega))]
                  have q1 := QQ.out.1.length_eq
                  have q2 := rest_few (((rns ls)[j]?).getD []) (ts.map RV.r)
                  have q3 := lvl_few HA.out.few j
                  have q4 := rest_few (((rns ls)[i]?).getD []) (fs.map RV.r)
                  have q5 := lvl_few HA.out.few i
                  have q6 := lvl_few HA.out.few k
                  have q7 := HA.out.rn
                  simp only [List.length_append, List.length_map] at q1
                  unfold rpL
                  split
                  · omega
                  · split
                    · rw [List.length_map]; omega
                    · omega)
                clear hl' hlv' hat' hrn
                cases hmb : mayB (rns ls') with
                | false =>
                  have NO : Hid (mayB [rpL (rns ls) i (fs.map RV.r) (qs.map RV.r) 0, rpL (rns ls) i (fs.map RV.r) (qs.map RV.r) 1, rpL (rns ls) i (fs.map RV.r) (qs.map RV.r) 2, rpL (rns ls) i (fs.map RV.r) (qs.map RV.r) 3] = false) := hidIt (by rw [← FIN.out, hmb])
                  have MI2 : Hid (mayI (rns ls') = 2) := hidIt (by unfold mayI; rw [hmb]; rfl)
                  clear hmb
                  go_wp2_with (go_at_call 13; refine (lcheck_any 4 4 LV.out.1 LV.out.2 FEW.out).mono ?_; rw [MI2.out]; rintro e W19 ⟨rfl, hb⟩; have E19 := hidIt (R18.out.below.trans (hb.mono R18.out.below.size)); clear hb)
                  exact bodyPost_ret (v := .tuple #[.slice none 0 0, .int .i64 2]) (by simp [results, Tryd.results24, go_sem]) rfl (.inr ⟨YES.out, qs.map RV.r, by rw [Int.toNat_natCast, ← IJ.out.1]; exact QQ.out.1, QQ.out.2, .inl ⟨by rw [Int.toNat_natCast]; exact NO.out, rfl, E19.out⟩⟩)
                | true =>
                  have OKB : Hid (mayB [rpL (rns ls) i (fs.map RV.r) (qs.map RV.r) 0, rpL (rns ls) i (fs.map RV.r) (qs.map RV.r) 1, rpL (rns ls) i (fs.map RV.r) (qs.map RV.r) 2, rpL (rns ls) i (fs.map RV.r) (qs.map RV.r) 3] = true) := hidIt (by rw [← FIN.out, hmb])
                  have MI2 : Hid (mayI (rns ls') = 0) := hidIt (by unfold mayI; rw [hmb]; rfl)
                  clear hmb
                  go_wp2_with (go_at_call 13; refine (lcheck_any 4 4 LV.out.1 LV.out.2 FEW.out).mono ?_; rw [MI2.out]; rintro e W19 ⟨rfl, hb⟩; have R19 := hidIt (R18.out.below' hb); clear hb)
                  exact bodyPost_ret (v := .tuple #[.slice (some ⟨g, 0, none⟩) 4 4, .int .i64 0]) (by simp [results, Tryd.results24, go_sem]) rfl (.inr ⟨YES.out, qs.map RV.r, by rw [Int.toNat_natCast, ← IJ.out.1]; exact QQ.out.1, QQ.out.2, .inr ⟨by rw [Int.toNat_natCast]; exact OKB.out, _, _, _, _, rfl, R19.out.fo, R19.out.lo.1, R19.out.lo.2.1, by rw [Int.toNat_natCast]; exact M10.out, R19.out.below⟩⟩)
    · have NO : Hid (preB (rns ls) z (fs.map RV.r) (ts.map RV.r) = false) := hidIt (by
        unfold preB
        by_cases q : 0 ≤ z
        · rw [decide_eq_false (p := z < 3) (fun r => hg ⟨q, r⟩)]; simp
        · rw [decide_eq_false q]; simp)
      have GB : Hid ((decide (0 ≤ z) && decide (z < 3)) = false) := hidIt (by
        by_cases q : 0 ≤ z
        · rw [decide_eq_false (p := z < 3) (fun r => hg ⟨q, r⟩)]; simp
        · rw [decide_eq_false q]; simp)
      clear hm hg
      go_enter Tryd.func24, Tryd.ntmps24
      go_wp2_with (first
        | (refine wpList_box_rec rfl 46 (.tmp 1) rfl (plC z (.slice fa fs.length fc) (.slice ta ts.length tc) d) rfl W.heap.size rfl ?_; intro W1 R1 B1 z1; have E1 := hidIt B1; have P1 := hidIt R1; clear R1 B1 z1)
        | (go_at_call 13; refine (lcheck_any L C HA.out.len (HA.out.lvs.below E1.out) (fun x hx => by have := HA.out.few x hx; omega)).mono ?_; rw [MI.out]; rintro e W2 ⟨rfl, hb⟩; have E2 := hidIt (E1.out.trans (hb.mono E1.out.size)); have p0 := ((P1.out.below hb).cel 0 _ rfl).1; clear hb)
        | (go_at_call 43; refine (lmaygo_any _ _).mono ?_; rw [GB.out]; rintro e w3 ⟨rfl, hw⟩; rw [hw]; clear hw w3))
      exact bodyPost_ret (v := .tuple #[.slice none 0 0, .int .i64 2]) (by simp [results, Tryd.results24, go_sem]) rfl (.inl ⟨NO.out, rfl, E2.out⟩)
  · have MI : Hid (mayI (rns ls) = 2) := hidIt (by unfold mayI; rw [if_neg hm])
    have NO : Hid (preB (rns ls) z (fs.map RV.r) (ts.map RV.r) = false) := hidIt (by unfold preB; rw [Bool.eq_false_iff.2 hm]; simp)
    clear hm
    go_enter Tryd.func24, Tryd.ntmps24
    go_wp2_with (first
      | (refine wpList_box_rec rfl 46 (.tmp 1) rfl (plC z (.slice fa fs.length fc) (.slice ta ts.length tc) d) rfl W.heap.size rfl ?_; intro W1 R1 B1 z1; have E1 := hidIt B1; clear R1 B1 z1)
      | (go_at_call 13; refine (lcheck_any L C HA.out.len (HA.out.lvs.below E1.out) (fun x hx => by have := HA.out.few x hx; omega)).mono ?_; rw [MI.out]; rintro e W2 ⟨rfl, hb⟩; have E2 := hidIt (E1.out.trans (hb.mono E1.out.size)); clear hb))
    exact bodyPost_ret (v := .tuple #[.slice none 0 0, .int .i64 2]) (by simp [results, Tryd.results24, go_sem]) rfl (.inl ⟨NO.out, rfl, E2.out⟩)
end Go.Proofs.YtelcijfcgflagaaDoor
namespace Go.Proofs.YtelcijfcgflagaaDoor
open Go.RowKit
def rn0 : Rn := ⟨0, 0, 0, .empty, .empty⟩
def mFp (l : List Rn) : Nat → Rn
  | 0 => l.getD 0 rn0
  | k + 1 => if cmpB (l.getD k rn0).f (mFp l k).f < 0 then l.getD k rn0 else mFp l k
def mLp (l : List Rn) : Nat → Rn
  | 0 => l.getD 0 rn0
  | k + 1 => if 0 < cmpB (l.getD k rn0).l (mLp l k).l then l.getD k rn0 else mLp l k
theorem getD_map (ps : List RV) (k : Nat) : (ps.map RV.r).getD k rn0 = (ps.getD k rv0).r := by
  rw [List.getD_eq_getElem?_getD, List.getD_eq_getElem?_getD, List.getElem?_map]
  cases ps[k]? <;> rfl
theorem mF_map (ps : List RV) : ∀ k, (mF ps k).r = mFp (ps.map RV.r) k
  | 0 => (getD_map ps 0).symm
  | k + 1 => by
    unfold mF mFp
    rw [getD_map, ← mF_map ps k]
    split <;> rfl
theorem mL_map (ps : List RV) : ∀ k, (mL ps k).r = mLp (ps.map RV.r) k
  | 0 => (getD_map ps 0).symm
  | k + 1 => by
    unfold mL mLp
    rw [getD_map, ← mL_map ps k]
    split <;> rfl
/-- The tables of a level that meet what is spanned. -/
def metP (l : List Rn) (f t : ByteArray) : List Rn := l.filter (metB f t)
theorem met_map (ps : List RV) (f t : ByteArray) : (metL ps f t).map RV.r = metP (ps.map RV.r) f t := by
  unfold metL metP
  rw [List.filter_map]
  rfl
/-- How many of a level a table meets. -/
def keyP (l nx : List Rn) (i : Nat) : Nat := match l[i]? with
  | some x => (metP nx x.f x.l).length
  | none => 0
theorem key_map (ps nx : List RV) (i : Nat) : keyM ps nx i = keyP (ps.map RV.r) (nx.map RV.r) i := by
  unfold keyM keyP
  rw [List.getElem?_map]
  cases ps[i]? with
  | none => rfl
  | some x =>
    show (metL nx x.r.f x.r.l).length = (metP (nx.map RV.r) x.r.f x.r.l).length
    rw [← met_map, List.length_map]
/-- A level's tables. -/
def lvP (m : List (List Rn)) (i : Nat) : List Rn := (m[i]?).getD []
def froP (m : List (List Rn)) (i : Nat) : List Rn := if i = 0 then lvP m 0 else ((lvP m i)[bst (keyP (lvP m i) (lvP m (i + 1))) (lvP m i).length]?).toList
theorem fro_map (ls : List LR) (i : Nat) : (froL ls i).map RV.r = froP (rns ls) i := by
  unfold froL froP lvP
  rw [← lvR_map, ← lvR_map, ← lvR_map]
  split
  · rfl
  · rw [List.length_map, List.getElem?_map]
    have e : keyM (lvR ls i) (lvR ls (i + 1)) = keyP ((lvR ls i).map RV.r) ((lvR ls (i + 1)).map RV.r) := funext fun k => key_map _ _ k
    rw [← e]
    cases (lvR ls i)[bst (keyM (lvR ls i) (lvR ls (i + 1))) (lvR ls i).length]? <;> rfl
def fF (m : List (List Rn)) (i : Nat) : ByteArray := (mFp (froP m i) (froP m i).length).f
def fT (m : List (List Rn)) (i : Nat) : ByteArray := (mLp (froP m i) (froP m i).length).l
theorem fF_map (ls : List LR) (i : Nat) : froF ls i = fF (rns ls) i := by
  unfold froF fF
  rw [mF_map, fro_map, ← List.length_map (f := RV.r), fro_map]
theorem fT_map (ls : List LR) (i : Nat) : froT ls i = fT (rns ls) i := by
  unfold froT fT
  rw [mL_map, fro_map, ← List.length_map (f := RV.r), fro_map]
def intP (m : List (List Rn)) (i : Nat) : List Rn := metP (lvP m (i + 1)) (fF m i) (fT m i)
theorem int_map (ls : List LR) (i : Nat) : (intL ls i).map RV.r = intP (rns ls) i := by
  unfold intL intP lvP
  rw [met_map, lvR_map, fF_map, fT_map]
def drpP (m : List (List Rn)) (i j : Nat) : Bool := (List.range j).all fun k => decide (k < i + 2) || (metP (lvP m k) (fF m i) (fT m i)).isEmpty
theorem drp_map (ls : List LR) (i j : Nat) : drpB ls i j = drpP (rns ls) i j := by
  unfold drpB drpP lvP
  congr 1
  funext k
  rw [fF_map, fT_map, ← lvR_map, ← met_map]
  cases metL (lvR ls k) (fF (rns ls) i) (fT (rns ls) i) <;> rfl
def choP (m : List (List Rn)) (z : Int) : Bool := mayB m && decide (0 ≤ z) && decide (z < 3) && decide (0 < (lvP m z.toNat).length)
theorem cho_map (ls : List LR) (z : Int) : choB ls z = choP (rns ls) z := by
  unfold choB choP lvP
  rw [← lvR_map, List.length_map]
end Go.Proofs.YtelcijfcgflagaaDoor
namespace Go.Proofs.YtelcijfcgflagaaDoor
open Go.RowKit
attribute [-go_sem] Builtin.append_
def T3 : Rn := ⟨3, 0, 1, ⟨#[101]⟩, ⟨#[102]⟩⟩
set_option maxRecDepth 100000 in
theorem lt3_any (W : World) : Calls Tryd.prog 22 #[] W (RnPost W [] T3) := by
  go_enter Tryd.func22, Tryd.ntmps22
  go_wp2_with (first
    | (refine wpList_alloc_rec rfl 27 rfl _ W.heap.size rfl run_zero ?_; intro W1 R1 B1 z1; have E1 := hidIt (And.intro B1 z1); have P1 := hidIt R1; clear R1 B1 z1)
    | (go_at_call 42; refine (lrun_any W1 [W.heap.size] (fun b hb => by have := List.mem_singleton.1 hb; have := E1.out.2; omega) 3 ⟨#[101]⟩ ⟨#[102]⟩).mono ?_; rintro e W2 ⟨y, hy, rfl, ho, hb⟩; have P2 := hidIt (P1.out.below hb); have E2 := hidIt (E1.out.1.trans (hb.mono E1.out.1.size)); have Y2 := hidIt (And.intro hy ho); clear hy ho hb)
    | (refine wpList_store_rec rfl 27 (.tmp 0) (.tmp 1) rfl W.heap.size 0 _ y.cs rfl rfl P2.out rfl run_size Y2.out.2.one ?_; intro W3 R3 B3; have RR := hidIt R3; have E3 := hidIt (E2.out.trans (B3.below (Nat.le_refl _) E2.out.size)); have Y3 := hidIt (Y2.out.2.off (Off.but (bs := [W.heap.size]) B3 (by simp))); clear R3 B3))
  have hl := RR.out.run_load 27 _ Tryd.underlying27 rfl run_size
  exact bodyPost_ret (v := .agg y.cs.toArray) (by simp [results, Tryd.results22, asAddr, Act.put, hl]) rfl ⟨y, Y2.out.1, rfl, Y3.out.any, E3.out⟩
set_option maxRecDepth 100000 in
set_option maxHeartbeats 1000000 in
theorem samePlan_eq {W : World} {a b a2 b2 : Option Addr} {ps qs ps2 qs2 : List RV} {lv : Int} {d : Bool} (n C m D n2 C2 m2 D2 : Nat) (hn : ps.length = n) (hm : qs.length = m) (hn2 : ps2.length = n2) (hm2 : qs2.length = m2) (hL : LsR W a ps) (hM : LsR W b qs) (hL2 : LsR W a2 ps2) (hM2 : LsR W b2 qs2) (hf : n ≤ 100000) (hf2 : n2 ≤ 100000) (he : ps.map RV.r = qs.map RV.r) (he2 : ps2.map RV.r = qs2.map RV.r) : Calls Tryd.prog 25 #[.agg (plC lv (.slice a n C) (.slice a2 n2 C2) d).toArray, .agg (plC lv (.slice b m D) (.slice b2 m2 D2) d).toArray] W fun e w' => e = .returned (.bool true) ∧ Below W.heap.size W w' := by
  have H1 := hidIt (And.intro hn (And.intro hm (And.intro hL (And.intro hM (And.intro hf he)))))
  have H2 := hidIt (And.intro hn2 (And.intro hm2 (And.intro hL2 (And.intro hM2 (And.intro hf2 he2)))))
  clear hn hm hL hM hf he hn2 hm2 hL2 hM2 hf2 he2
  have t1 : Hid True := trivial
  have t2 : Hid True := trivial
  have ll : (lv == lv) = true := by simp
  have dd : (d == d) = true := by simp
  go_enter Tryd.func25, Tryd.ntmps25
  go_wp2_with (first
    | (have _q := t1; clear t1 _q; refine wpList_box_rec rfl 46 (.tmp 0) rfl (plC lv (.slice a n C) (.slice a2 n2 C2) d) rfl W.heap.size rfl ?_; intro W1 R1 B1 z1; have E1 := hidIt (And.intro B1 z1); have P1 := hidIt R1; clear R1 B1 z1)
    | (refine wpList_box_rec rfl 46 (.tmp 1) rfl (plC lv (.slice b m D) (.slice b2 m2 D2) d) rfl (W.heap.size + 1) E1.out.2 ?_; intro W2 R2 B2 z2; have E2 := hidIt (E1.out.1.trans (B2.mono (by have := E1.out.2; omega))); have P2 := hidIt R2; have Q2 := hidIt (P1.out.below (by rw [E1.out.2]; exact B2)); have p0 := (Q2.out.cel 0 _ rfl).1; have p1 := (Q2.out.cel 1 _ rfl).1; have p3 := (Q2.out.cel 3 _ rfl).1; have q0 := (P2.out.cel 0 _ rfl).1; have q1 := (P2.out.cel 1 _ rfl).1; have q3 := (P2.out.cel 3 _ rfl).1; clear R2 B2 z2)
    | (go_at_call 16; have _q := t2; clear t2 _q; clear p0 p1 p3 q0 q1 q3; refine (sameRuns_eq n m C D H1.out.1 H1.out.2.1 (H1.out.2.2.1.below E2.out) (H1.out.2.2.2.1.below E2.out) H1.out.2.2.2.2.1 H1.out.2.2.2.2.2).mono ?_; rintro e W3 ⟨rfl, hb⟩; have E3 := hidIt (E2.out.trans (hb.mono E2.out.size)); have p2 := ((Q2.out.below hb).cel 2 _ rfl).1; have q2 := ((P2.out.below hb).cel 2 _ rfl).1; clear hb)
    | (go_at_call 16; clear p2 q2; refine (sameRuns_eq n2 m2 C2 D2 H2.out.1 H2.out.2.1 (H2.out.2.2.1.below E3.out) (H2.out.2.2.2.1.below E3.out) H2.out.2.2.2.2.1 H2.out.2.2.2.2.2).mono ?_; rintro e W4 ⟨rfl, hb⟩; have E4 := hidIt (E3.out.trans (hb.mono E3.out.size)); clear hb))
  exact bodyPost_ret (v := .bool true) (by simp [results, Tryd.results25, go_sem]) rfl ⟨rfl, E4.out⟩
/-- The chapter's levels. -/
def K5 : List (List Rn) := [[T1, T1, T1, T1, T1]]
def K4 : List (List Rn) := [[T1, T1, T1, T1]]
def KL : List (List Rn) := [[T2, T1], [T3]]
theorem kn_1 : ovD K5 = (0, true) := by decide
theorem kn_2 : ovD K4 = (0, false) := by decide
theorem kn_3 : choP KL 0 = true := by decide
theorem kn_4 : froP KL 0 = [T2, T1] := by decide
theorem kn_5 : intP KL 0 = [] := by decide
theorem kn_6 : drpP KL 0 4 = true := by decide
theorem kn_7 : choP KL 3 = false := by decide
theorem kn_8 : preB KL 0 [T2, T1] [] = true := by decide
theorem kn_9 : restD ((KL[(0 : Int).toNat + 1]?).getD []) [] ++ [T2] = [T3, T2] := by decide
theorem kn_a : mayB [rpL KL 0 [T2, T1] [T2, T3] 0, rpL KL 0 [T2, T1] [T2, T3] 1, rpL KL 0 [T2, T1] [T2, T3] 2, rpL KL 0 [T2, T1] [T2, T3] 3] = true := by decide
theorem kn_b : [rpL KL 0 [T2, T1] [T2, T3] 0, rpL KL 0 [T2, T1] [T2, T3] 1, rpL KL 0 [T2, T1] [T2, T3] 2, rpL KL 0 [T2, T1] [T2, T3] 3] = [[], [T2, T3], [], []] := by decide
theorem kn_c : mayI [[], [T3, T1]] = 2 := by decide
theorem kn_d : mayI [[⟨1, 0, 0, ⟨#[97]⟩, ⟨#[99]⟩⟩]] = 2 := by decide
theorem kn_q {qs : List Rn} (h : qs.Perm [T3, T2]) (hs : qs.Pairwise (fun x y => cmpB x.f y.f ≤ 0)) : qs = [T2, T3] := by
  obtain ⟨a, b, rfl⟩ : ∃ a b, qs = [a, b] := by
    have := h.length_eq
    match qs, this with
    | [a, b], _ => exact ⟨a, b, rfl⟩
  have hs' : cmpB a.f b.f ≤ 0 := by simpa using hs
  have ma : a ∈ [T3, T2] := h.mem_iff.1 (by simp)
  have mb : b ∈ [T3, T2] := h.mem_iff.1 (by simp)
  have m2 : T2 ∈ [a, b] := h.mem_iff.2 (by simp)
  have m3 : T3 ∈ [a, b] := h.mem_iff.2 (by simp)
  have ne : T2 ≠ T3 := by decide
  have lt : ¬ cmpB T3.f T2.f ≤ 0 := by decide
  simp only [List.mem_cons, List.not_mem_nil, or_false] at ma mb m2 m3
  rcases ma with rfl | rfl <;> rcases mb with rfl | rfl
  · rcases m2 with q | q <;> exact absurd q ne
  · exact absurd hs' lt
  · rfl
  · rcases m3 with q | q <;> exact absurd q.symm ne
end Go.Proofs.YtelcijfcgflagaaDoor
namespace Go.Proofs.YtelcijfcgflagaaDoor
open Go.RowKit
attribute [-go_sem] Builtin.append_
theorem Lvs.cell0 {W : World} {g : Nat} {x : LR} {ls : List LR} (h : Lvs W (some ⟨g, 0, none⟩) (x :: ls)) : W.cell? ⟨g, 0, none⟩ = some (.slice x.a x.rs.length x.c) := by
  obtain ⟨b, o, ha, hc, _⟩ := h.at 0 x rfl
  injection ha with ha
  injection ha with h1 h2
  subst h1 h2
  exact hc
theorem kn_r : ∀ l ∈ KL, ∀ r ∈ l, ((-9223372036854775808 ≤ r.ad ∧ r.ad < 9223372036854775808) ∧ (-9223372036854775808 ≤ r.st ∧ r.st < 9223372036854775808)) ∧ r.f.size ≤ 1000000 ∧ r.l.size ≤ 1000000 := by decide
theorem kn_l : ∀ l ∈ KL, l.length ≤ 60 := by decide
theorem rf_of {r : Rn} (h : ((-9223372036854775808 ≤ r.ad ∧ r.ad < 9223372036854775808) ∧ (-9223372036854775808 ≤ r.st ∧ r.st < 9223372036854775808)) ∧ r.f.size ≤ 1000000 ∧ r.l.size ≤ 1000000) : Rf r := ⟨h.1.1, h.1.2⟩
theorem rf_map {ps : List RV} {l : List Rn} (h : ps.map RV.r = l) (hl : ∀ r ∈ l, Rf r) : ∀ x ∈ ps, Rf x.r := fun x hx => hl x.r (by rw [← h]; exact List.mem_map_of_mem hx)
theorem rf_T : Rf T1 ∧ Rf T2 ∧ Rf T3 := ⟨rf_of (kn_r [T2, T1] (by simp [KL]) T1 (by simp)), rf_of (kn_r [T2, T1] (by simp [KL]) T2 (by simp)), rf_of (kn_r [T3] (by simp [KL]) T3 (by simp))⟩
set_option maxRecDepth 100000 in
set_option maxHeartbeats 8000000 in
theorem lknown_any {W : World} (hR : Room W) : Calls Tryd.prog 4 #[] W fun e w' => e = .returned (.bool true) ∧ Below W.heap.size W w' := by
  have RM := hidIt hR
  clear hR
  have E0 : Hid (Below W.heap.size W W) := hidIt (Below.refl _ _)
  have t1 : Hid True := trivial
  have t2 : Hid True := trivial
  have t3 : Hid True := trivial
  have t4 : Hid True := trivial
  go_enter Tryd.func4, Tryd.ntmps4
  go_wp2_with (first
    | (go_at_call 20; have _q := t1; clear t1 _q; refine (lt1_any W).mono ?_; rintro e W1 ⟨x1, hx, rfl, ho, hb⟩; have X1 := hidIt (And.intro hx ho); have E1 := hidIt (E0.out.trans (hb.mono E0.out.size)); have F1 := hidIt hb; clear hx ho hb)
    | (go_at_call 20; have _q := t2; clear t2 _q; refine (lt1_any W1).mono ?_; rintro e W2 ⟨x2, hx, rfl, ho, hb⟩; have X2 := hidIt (And.intro hx ho); have E2 := hidIt (E1.out.trans (hb.mono E1.out.size)); have F2 := hidIt hb; clear hx ho hb)
    | (go_at_call 20; have _q := t3; clear t3 _q; refine (lt1_any W2).mono ?_; rintro e W3 ⟨x3, hx, rfl, ho, hb⟩; have X3 := hidIt (And.intro hx ho); have E3 := hidIt (E2.out.trans (hb.mono E2.out.size)); have F3 := hidIt hb; clear hx ho hb)
    | (go_at_call 20; have _q := t4; clear t4 _q; refine (lt1_any W3).mono ?_; rintro e W4 ⟨x4, hx, rfl, ho, hb⟩; have X4 := hidIt (And.intro hx ho); have E4 := hidIt (E3.out.trans (hb.mono E3.out.size)); have F4 := hidIt hb; clear hx ho hb)
    | (go_at_call 20; refine (lt1_any W4).mono ?_; rintro e W5 ⟨x5, hx, rfl, ho, hb⟩; have X5 := hidIt (And.intro hx ho); have E5 := hidIt (E4.out.trans (hb.mono E4.out.size)); have F5 := hidIt hb; clear hx ho hb; obtain ⟨W6, hW, hl, hb⟩ := bs_runs W5 [x1, x2, x3, x4, x5] (fun z hz => by simp only [List.mem_cons, List.not_mem_nil, or_false] at hz; rcases hz with rfl | rfl | rfl | rfl | rfl; exact (((X1.out.2.below F2.out).below F3.out).below F4.out).below F5.out; exact ((X2.out.2.below F3.out).below F4.out).below F5.out; exact (X3.out.2.below F4.out).below F5.out; exact X4.out.2.below F5.out; exact X5.out.2); have HW6 := hidIt hW; have K6 := hidIt hl; have E6 := hidIt (E5.out.trans (hb.mono E5.out.size)); have F6 := hidIt hb; clear hW hl hb; obtain ⟨W7, hW, hl, hb⟩ := bs_levels W6 [⟨some ⟨W5.heap.size, 0, none⟩, 5, [x1, x2, x3, x4, x5]⟩] (fun z hz => by simp only [List.mem_cons, List.not_mem_nil, or_false] at hz; rcases hz with rfl; exact ⟨K6.out, Nat.le_refl _⟩); have HW7 := hidIt hW; have L7 := hidIt hl; have E7 := hidIt (E6.out.trans (hb.mono E6.out.size)); have F7 := hidIt hb; clear hW hl hb)
    | (refine wpList_run_w (by rfl) (.slice (some ⟨W5.heap.size, 0, none⟩) 5 5) W6 (by rw [HW6.out]; exact bsl_run 36 27 5 _ rfl 5 72 _ _ _ under_runs info_run (by decide) (by decide) rfl (by kernel_rfl)) ?_)
    | (refine wpList_run_w (by rfl) (.slice (some ⟨W6.heap.size, 0, none⟩) 1 1) W7 (by rw [HW7.out]; exact bsl_run 22 36 1 _ rfl 1 24 _ _ _ under_levels info_level (by decide) (by decide) rfl (by kernel_rfl)) ?_; refine Held.out ?_))
  refine Held.mk ?_
  have N7 : Hid (rns [⟨some ⟨W5.heap.size, 0, none⟩, 5, [x1, x2, x3, x4, x5]⟩] = K5 ∧ rns [⟨some ⟨W5.heap.size, 0, none⟩, 5, [x1, x2, x3, x4]⟩] = K4) := hidIt (by simp only [rns, List.map_cons, List.map_nil, X1.out.1, X2.out.1, X3.out.1, X4.out.1, X5.out.1]; exact ⟨rfl, rfl⟩)
  clear X1 X2 X3 X4 X5 F2 F3 F4 F5 E0 E1 E2 E3 E4 E5 F1 F6 F7 HW6 HW7 E6
  have K7 : Hid (LsR W7 (some ⟨W5.heap.size, 0, none⟩) [x1, x2, x3, x4, x5]) := hidIt (L7.out.1 _ List.mem_cons_self).1
  go_wp2_with (go_at_call 10; refine (lover_any 1 1 rfl L7.out (fun x hx => by have e := List.mem_singleton.1 hx; subst e; show 5 ≤ 1000; omega) (by omega) (RM.out.below E7.out)).mono ?_; intro e W8 ho; obtain ⟨rfl, hb⟩ : e = .returned (.tuple #[.int .i64 0, .bool true]) ∧ Below W7.heap.size W7 W8 := (by have := ho; unfold OvPost at this; rw [N7.out.1, kn_1] at this; exact this); have E8 := hidIt (E7.out.trans (hb.mono E7.out.size)); have K8 := hidIt (K7.out.below hb); have L8 := hidIt (L7.out.below hb); clear ho hb; refine Held.out ?_)
  refine Held.mk ?_
  clear K7 L7 K6 E7
  have c0 := L8.out.cell0
  obtain ⟨W9, hW9, hl9, hb9⟩ := bs_levels W8 [⟨some ⟨W5.heap.size, 0, none⟩, 5, [x1, x2, x3, x4]⟩] (fun z hz => by have e := List.mem_singleton.1 hz; subst e; exact ⟨K8.out.seg 0 4, by show 4 ≤ 5; omega⟩)
  have HW9 := hidIt hW9
  have L9 := hidIt hl9
  have E9 := hidIt (E8.out.trans (hb9.mono E8.out.size))
  clear hW9 hl9 hb9
  have SH := hidIt (slc_high W8 W5.heap.size 5 5 4 (by omega) (by omega))
  go_wp2_with (first
    | (refine wpList_run_w (by rfl) (.slice (some ⟨W5.heap.size, 0, none⟩) 4 5) W8 (slc_runh (.tmp 31) (.const (.int .i64 4)) rfl _ _ (some ⟨W5.heap.size, 0, none⟩) 5 5 4 rfl rfl rfl (by kernel_rfl) SH.out) ?_; clear c0)
    | (refine wpList_run_w (by rfl) (.slice (some ⟨W8.heap.size, 0, none⟩) 1 1) W9 (by rw [HW9.out]; exact bsl_run 22 36 1 _ rfl 1 24 _ _ _ under_levels info_level (by decide) (by decide) rfl (by kernel_rfl)) ?_)
    | (go_at_call 10; refine (lover_any 1 1 rfl L9.out (fun x hx => by have e := List.mem_singleton.1 hx; subst e; show 4 ≤ 1000; omega) (by omega) (RM.out.below E9.out)).mono ?_; intro e W10 ho; obtain ⟨rfl, hb⟩ : e = .returned (.tuple #[.int .i64 0, .bool false]) ∧ Below W9.heap.size W9 W10 := (by have := ho; unfold OvPost at this; rw [N7.out.2, kn_2] at this; exact this); have E10 := hidIt (E9.out.trans (hb.mono E9.out.size)); clear ho hb; refine Held.out ?_))
  refine Held.mk ?_
  clear HW9 L9 E9 SH K8 L8 E8 N7
  go_wp2_with (first
    | (go_at_call 21; refine (lt2_any W10).mono ?_; rintro e W11 ⟨x11, hx, rfl, ho, hb⟩; have X11 := hidIt (And.intro hx ho); have E11 := hidIt (E10.out.trans (hb.mono E10.out.size)); have F11 := hidIt hb; clear hx ho hb)
    | (go_at_call 20; refine (lt1_any W11).mono ?_; rintro e W12 ⟨x12, hx, rfl, ho, hb⟩; have X12 := hidIt (And.intro hx ho); have E12 := hidIt (E11.out.trans (hb.mono E11.out.size)); have F12 := hidIt hb; clear hx ho hb; obtain ⟨W13, hW, hl, hb⟩ := bs_runs W12 [x11, x12] (fun z hz => by simp only [List.mem_cons, List.not_mem_nil, or_false] at hz; rcases hz with rfl | rfl; exact X11.out.2.below F12.out; exact X12.out.2); have HW13 := hidIt hW; have K13 := hidIt hl; have E13 := hidIt (E12.out.trans (hb.mono E12.out.size)); have F13 := hidIt hb; clear hW hl hb)
    | (refine wpList_run_w (by rfl) (.slice (some ⟨W12.heap.size, 0, none⟩) 2 2) W13 (by rw [HW13.out]; exact bsl_run 36 27 2 _ rfl 5 72 _ _ _ under_runs info_run (by decide) (by decide) rfl (by kernel_rfl)) ?_)
    | (go_at_call 22; refine (lt3_any W13).mono ?_; rintro e W14 ⟨x14, hx, rfl, ho, hb⟩; have X14 := hidIt (And.intro hx ho); have E14 := hidIt (E13.out.trans (hb.mono E13.out.size)); have F14 := hidIt hb; clear hx ho hb; obtain ⟨W15, hW, hl, hb⟩ := bs_runs W14 [x14] (fun z hz => by simp only [List.mem_cons, List.not_mem_nil, or_false] at hz; rcases hz with rfl; exact X14.out.2); have HW15 := hidIt hW; have K15 := hidIt hl; have E15 := hidIt (E14.out.trans (hb.mono E14.out.size)); have F15 := hidIt hb; clear hW hl hb; obtain ⟨W16, hW, hl, hb⟩ := bs_levels W15 [⟨some ⟨W12.heap.size, 0, none⟩, 2, [x11, x12]⟩, ⟨some ⟨W14.heap.size, 0, none⟩, 1, [x14]⟩] (fun z hz => by simp only [List.mem_cons, List.not_mem_nil, or_false] at hz; rcases hz with rfl | rfl; exact ⟨(K13.out.below F14.out).below F15.out, Nat.le_refl _⟩; exact ⟨K15.out, Nat.le_refl _⟩); have HW16 := hidIt hW; have L16 := hidIt hl; have E16 := hidIt (E15.out.trans (hb.mono E15.out.size)); have F16 := hidIt hb; clear hW hl hb)
    | (refine wpList_run_w (by rfl) (.slice (some ⟨W14.heap.size, 0, none⟩) 1 1) W15 (by rw [HW15.out]; exact bsl_run 36 27 1 _ rfl 5 72 _ _ _ under_runs info_run (by decide) (by decide) rfl (by kernel_rfl)) ?_)
    | (refine wpList_run_w (by rfl) (.slice (some ⟨W15.heap.size, 0, none⟩) 2 2) W16 (by rw [HW16.out]; exact bsl_run 22 36 2 _ rfl 1 24 _ _ _ under_levels info_level (by decide) (by decide) rfl (by kernel_rfl)) ?_; refine Held.out ?_))
  refine Held.mk ?_
  obtain ⟨ls, hls⟩ : ∃ ls : List LR, ls = [⟨some ⟨W12.heap.size, 0, none⟩, 2, [x11, x12]⟩, ⟨some ⟨W14.heap.size, 0, none⟩, 1, [x14]⟩] := ⟨_, rfl⟩
  have NL : Hid (rns ls = KL ∧ ls.length = 2) := hidIt (by rw [hls]; simp only [rns, List.map_cons, List.map_nil, X11.out.1, X12.out.1, X14.out.1]; exact ⟨rfl, rfl⟩)
  rw [← hls] at L16
  have SM := hidIt (small_rns NL.out.1 kn_l (fun l hl r hr => (kn_r l hl r hr).2))
  have RT : Hid (∀ x ∈ ls, ∀ y ∈ x.rs, Rf y.r) := hidIt (fun x hx y hy => rf_of (kn_r (x.rs.map RV.r) (by rw [← NL.out.1]; exact List.mem_map.2 ⟨x, hx, rfl⟩) y.r (List.mem_map_of_mem hy)))
  have FL : Hid (∀ U, Lvs U (some ⟨W15.heap.size, 0, none⟩) ls → U.cell? ⟨W15.heap.size, 0, none⟩ = some (.slice (some ⟨W12.heap.size, 0, none⟩) 2 2) ∧ LsR U (some ⟨W12.heap.size, 0, none⟩) [x11, x12]) := hidIt (fun U hU => by rw [hls] at hU; exact ⟨hU.cell0, (hU.1 _ List.mem_cons_self).1⟩)
  have NX : Hid ([x11, x12].map RV.r = [T2, T1]) := hidIt (by simp [X11.out.1, X12.out.1])
  clear X11 X12 X14 F11 F12 F13 F14 F15 F16 HW13 HW15 HW16 K13 K15 E10 E11 E12 E13 E14 E15 hls
  go_wp2_with (first
    | (go_at_call 23; refine (lChoose_any 2 2 0 NL.out.2 L16.out (by omega) (fun x hx => by have := SM.out.1 x hx; omega) SM.out.2).mono ?_; rintro e W17 (⟨h0, _⟩ | ⟨_, B1, B2, pa, pc, os, qa, qc, os2, he, hp, ho1, ho2⟩)
       · rw [cho_map, NL.out.1, kn_3] at h0; cases h0
       rw [show (0 : Int).toNat = 0 from rfl, fro_map, NL.out.1, kn_4] at ho1; rw [show (0 : Int).toNat = 0 from rfl, int_map, NL.out.1, kn_5] at ho2; rw [show (0 : Int).toNat = 0 from rfl, drp_map, NL.out.1, kn_6] at he; subst he; have OS := hidIt (And.intro ho1 ho2); have E17 := hidIt (E16.out.trans (hp.below.mono E16.out.size)); have L17 := hidIt (L16.out.below hp.below); have P17 : Hid (LsR W17 pa os ∧ LsR W17 qa os2) := hidIt ⟨hp.own.ls (fun x hx => ((hp.oks x hx).2).any), hp.own2.ls (fun x hx => ((hp.oks2 x hx).2).any)⟩; clear hp ho1 ho2)
    | (refine wpList_alloc_rec rfl 46 rfl _ W17.heap.size rfl zero_plan ?_; intro W18 R18 B18 z18; have E18 := hidIt (And.intro B18 z18); have R18' := hidIt R18; clear R18 B18 z18)
    | (refine wpList_store_rec rfl 46 (.tmp 7) (.tmp 46) rfl W17.heap.size 0 _ (plC 0 (.slice pa os.length pc) (.slice qa os2.length qc) true) rfl rfl R18'.out rfl plan_size (plC_one _ _ rfl rfl) ?_; intro W19 R19 B19; have R19' := hidIt R19; have E19 := hidIt (E18.out.1.trans (B19.below (Nat.le_refl _) (by have := E18.out.2; omega))); clear R19 B19; refine Held.out ?_))
  refine Held.mk ?_
  have P19 : Hid (LsR W19 pa os ∧ LsR W19 qa os2) := hidIt ⟨P17.out.1.below E19.out, P17.out.2.below E19.out⟩
  have L19 := hidIt (L17.out.below E19.out)
  have T19 := hidIt (E17.out.trans (E19.out.mono E17.out.size))
  obtain ⟨pb, hpb⟩ : ∃ pb, pb = W17.heap.size := ⟨_, rfl⟩
  rw [← hpb] at R19'
  simp only [← hpb]
  clear E18 R18' L17 P17 E17 hpb E19 L16 E16

  have LD := hidIt (L19.out.below (Below.refl W19.heap.size W19).drew)
  have PD : Hid (LsR W19.drew pa os ∧ LsR W19.drew qa os2) := hidIt ⟨P19.out.1.below (Below.refl _ _).drew, P19.out.2.below (Below.refl _ _).drew⟩
  have RD := hidIt (R19'.out.below (Below.refl _ _).drew)
  have TD := hidIt T19.out.drew
  clear L19 P19 R19' T19
  go_wp2_with fail
  refine wp_region_noPanic ?_
  refine wp_region_held_drew (S := fun w' => w'.rangeAt pb 0 (plC 0 (.slice pa os.length pc) (.slice qa os2.length qc) true)) (by kernel_rfl) ?_ (fun hHeld => ?_)
  · exact RD.out.1
  refine take_at (i := 0) (v := ?_) (some 49) rfl rfl (by kernel_rfl) (by kernel_rfl) (by kernel_rfl) (fun _ _ _ h => h) (Or.inl ⟨by rfl, ?_⟩) (by assumption) ?_
  rotate_left
  · (intro w hSw; (try dsimp only at hSw); go_simp; try with_reducible rfl)
  simp only [Act.put, List.setIfInBounds_toArray, List.set_cons_zero, List.set_cons_succ]
  refine take_at (i := 1) (v := _) (some 50) rfl rfl (by kernel_rfl) (by kernel_rfl) (by kernel_rfl) (fun _ _ _ h => h) (yieldsIf_load_mid (by rfl) _ _ rfl _ _ rfl _ _ (fun w h => h) Tryd.underlying46 rfl (by kernel_rfl)) (by assumption) ?_
  simp only [Act.put, List.setIfInBounds_toArray, List.set_cons_zero, List.set_cons_succ]
  refine call_at (i := 2) (some 51) 21 _ _ rfl rfl rfl (by rfl) (by kernel_rfl) #[] rfl Tryd.func21 (by kernel_rfl) (by kernel_rfl) ?_
  refine (lt2_any W19.drew).mono ?_
  rintro e W20 ⟨y, hy, rfl, ho, hb⟩
  have Y20 := hidIt (And.intro hy ho)
  have L20 := hidIt (LD.out.below hb)
  have P20 : Hid (LsR W20 pa os ∧ LsR W20 qa os2) := hidIt ⟨PD.out.1.below hb, PD.out.2.below hb⟩
  have R20 := hidIt (RD.out.below hb)
  have T20 := hidIt (TD.out.trans (hb.mono TD.out.size))
  clear hy ho hb LD PD RD TD
  refine ⟨_, rfl, R20.out.1, fun hHeld => ?_⟩
  simp only [Act.put, List.setIfInBounds_toArray, List.set_cons_zero, List.set_cons_succ]
  obtain ⟨W21, hW, hl, hb⟩ := bs_runs W20 [y] (fun z hz => by have e := List.mem_singleton.1 hz; subst e; exact Y20.out.2)
  have HW21 := hidIt hW
  have K21 := hidIt hl
  have L21 := hidIt (L20.out.below hb)
  have P21 : Hid (LsR W21 pa os ∧ LsR W21 qa os2) := hidIt ⟨P20.out.1.below hb, P20.out.2.below hb⟩
  have R21 := hidIt (R20.out.below hb)
  have T21 := hidIt (T20.out.trans (hb.mono T20.out.size))
  have YM : Hid ([y].map RV.r = [T2]) := hidIt (by simp [Y20.out.1])
  clear hW hl hb L20 P20 R20 T20
  refine step_at (i := 3) (some 52) rfl rfl (by rfl) (by kernel_rfl) (.slice (some ⟨W20.heap.size, 0, none⟩) 1 1) W21 (by rw [HW21.out]; exact bsl_run 36 27 1 _ rfl 5 72 _ _ _ under_runs info_run (by decide) (by decide) rfl (by kernel_rfl)) R21.out.1 (fun hHeld => ?_)
  simp only [Act.put, List.setIfInBounds_toArray, List.set_cons_zero, List.set_cons_succ]
  refine call_at (i := 4) (some 53) 24 _ _ rfl rfl rfl (by rfl) (by kernel_rfl) #[.slice (some ⟨W15.heap.size, 0, none⟩) 2 2, .agg (plC 0 (.slice pa os.length pc) (.slice qa os2.length qc) true).toArray, .slice (some ⟨W20.heap.size, 0, none⟩) 1 1] rfl Tryd.func24 (by kernel_rfl) (by kernel_rfl) ?_
  have on : os.length = 2 := by have := congrArg List.length OS.out.1; rw [List.length_map] at this; exact this
  have on2 : os2.length = 0 := by have := congrArg List.length OS.out.2; rw [List.length_map] at this; exact this
  refine (lReplace_any (rs := [y]) 2 2 pc qc 1 0 true ⟨NL.out.2, L21.out, fun x hx => by have := SM.out.1 x hx; omega, SM.out.2, RT.out, by omega, P21.out.1, P21.out.2, K21.out, by omega, by omega, by show 1 ≤ 1000; omega, rf_map OS.out.1 (fun r hr => by simp only [List.mem_cons, List.not_mem_nil, or_false] at hr; rcases hr with rfl | rfl; exact rf_T.2.1; exact rf_T.1), rf_map OS.out.2 (fun r hr => by cases hr), rf_map YM.out (fun r hr => by have e := List.mem_singleton.1 hr; subst e; exact rf_T.2.1), fun z hz => by have e := List.mem_singleton.1 hz; subst e; rw [Y20.out.1]; decide⟩).mono ?_
  intro e W22 hh
  rw [NL.out.1, OS.out.1, OS.out.2, YM.out] at hh
  obtain ⟨g, ls', rfl, hx, hb⟩ : ∃ g ls', e = .returned (.tuple #[.slice (some ⟨g, 0, none⟩) 4 4, .int .i64 0]) ∧ ((ls' : List LR).length = 4 ∧ Lvs W22 (some ⟨g, 0, none⟩) ls' ∧ rns ls' = [[], [T2, T3], [], []]) ∧ Below W21.heap.size W21 W22 := by
    rcases hh with ⟨h0, _⟩ | ⟨_, qs, hq1, hq2, hr⟩
    · rw [kn_8] at h0; cases h0
    · rw [kn_9] at hq1
      obtain rfl := kn_q hq1 hq2
      rcases hr with ⟨h0, _⟩ | ⟨_, B1, g, lv, osf, he, hf, _, _, hm, hb⟩
      · exact absurd (kn_a.symm.trans h0) (by decide)
      · obtain ⟨ls', hl', hlv', _, hrn⟩ := hf.lvs
        exact ⟨g, ls', he, ⟨hl', hlv', by rw [hrn, hm 0 (by omega), hm 1 (by omega), hm 2 (by omega), hm 3 (by omega)]; exact kn_b⟩, hb⟩
  have X22 := hidIt hx
  have L22 := hidIt (L21.out.below hb)
  have P22 : Hid (LsR W22 pa os ∧ LsR W22 qa os2) := hidIt ⟨P21.out.1.below hb, P21.out.2.below hb⟩
  have R22 := hidIt (R21.out.below hb)
  have T22 := hidIt (T21.out.trans (hb.mono T21.out.size))
  clear hh hx hb L21 P21 R21 T21 K21 HW21 Y20 YM on on2
  refine ⟨_, rfl, R22.out.1, fun hHeld => ?_⟩
  simp only [Act.put, List.setIfInBounds_toArray, List.set_cons_zero, List.set_cons_succ]
  refine take_at (i := 5) (v := ?_) (some 48) rfl rfl (by kernel_rfl) (by kernel_rfl) (by kernel_rfl) (fun _ _ _ h => h) (Or.inl ⟨by rfl, ?_⟩) (by assumption) ?_
  rotate_left
  · (intro w hSw; (try dsimp only at hSw); go_simp; try with_reducible rfl)
  simp only [Act.put, List.setIfInBounds_toArray, List.set_cons_zero, List.set_cons_succ]
  refine take_at (i := 6) (v := ?_) (some 54) rfl rfl (by kernel_rfl) (by kernel_rfl) (by kernel_rfl) (fun _ _ _ h => h) (Or.inl ⟨by rfl, ?_⟩) (by assumption) ?_
  rotate_left
  · (intro w hSw; (try dsimp only at hSw); go_simp; try with_reducible rfl)
  simp only [Act.put, List.setIfInBounds_toArray, List.set_cons_zero, List.set_cons_succ]
  refine take_at (i := 7) (v := ?_) (some 55) rfl rfl (by kernel_rfl) (by kernel_rfl) (by kernel_rfl) (fun _ _ _ h => h) (Or.inl ⟨by rfl, ?_⟩) (by assumption) ?_
  rotate_left
  · (intro w hSw; (try dsimp only at hSw); go_simp; try with_reducible rfl)
  simp only [Act.put, List.setIfInBounds_toArray, List.set_cons_zero, List.set_cons_succ]
  refine take_at (i := 8) (v := ?_) (some 9) rfl rfl (by kernel_rfl) (by kernel_rfl) (by kernel_rfl) (fun _ _ _ h => h) (Or.inl ⟨by rfl, ?_⟩) (by assumption) ?_
  rotate_left
  · (intro w hSw; (try dsimp only at hSw); go_simp; try with_reducible rfl)
  simp only [Act.put, List.setIfInBounds_toArray, List.set_cons_zero, List.set_cons_succ]
  refine take_at (i := 9) (v := ?_) (some 10) rfl rfl (by kernel_rfl) (by kernel_rfl) (by kernel_rfl) (fun _ _ _ h => h) (Or.inl ⟨by rfl, ?_⟩) (by assumption) ?_
  rotate_left
  · (intro w hSw; (try dsimp only at hSw); go_simp; try with_reducible rfl)
  simp only [Act.put, List.setIfInBounds_toArray, List.set_cons_zero, List.set_cons_succ]
  refine wpAnyH_done (by kernel_rfl) ?_ _
  refine NoPanic.normal ?_
  clear hHeld
  go_wp2_with (first
    | (go_at_call 23; refine (lChoose_any 2 2 3 NL.out.2 L22.out (by omega) (fun x hx => by have := SM.out.1 x hx; omega) SM.out.2).mono ?_; intro e W23 hh; obtain ⟨rfl, hb⟩ : e = .returned (.tuple #[.agg (plC 0 (.slice none 0 0) (.slice none 0 0) false).toArray, .int .i64 2]) ∧ Below W22.heap.size W22 W23 := (by
        rcases hh with ⟨_, h1, h2⟩ | ⟨h0, _⟩
        · exact ⟨h1, h2⟩
        · rw [cho_map, NL.out.1, kn_7] at h0; cases h0); have B23 := hidIt hb; clear hb hh)
    | (refine wpList_alloc_rec rfl 46 rfl _ W23.heap.size rfl zero_plan ?_; intro W24 R24 B24 z24; have B24' := hidIt (And.intro B24 z24); have R24' := hidIt R24; clear R24 B24 z24)
    | (refine wpList_store_rec rfl 46 (.tmp 11) (.tmp 59) rfl W23.heap.size 0 _ (plC 0 (.slice none 0 0) (.slice none 0 0) false) rfl rfl R24'.out rfl plan_size (plC_one _ _ rfl rfl) ?_; intro W25 R25 B25; have B25' : Hid (Below W22.heap.size W22 W25) := hidIt (B23.out.trans ((B24'.out.1.trans (B25.below (Nat.le_refl _) (by have := B24'.out.2; omega))).mono B23.out.size)); clear R25 B25; refine Held.out ?_))
  refine Held.mk ?_
  have X25 : Hid (ls'.length = 4 ∧ Lvs W25 (some ⟨g, 0, none⟩) ls' ∧ rns ls' = [[], [T2, T3], [], []]) := hidIt ⟨X22.out.1, X22.out.2.1.below B25'.out, X22.out.2.2⟩
  have L25 := hidIt (L22.out.below B25'.out)
  have P25 : Hid (LsR W25 pa os ∧ LsR W25 qa os2) := hidIt ⟨P22.out.1.below B25'.out, P22.out.2.below B25'.out⟩
  have R25 := hidIt (R22.out.below B25'.out)
  have T25 := hidIt (T22.out.trans (B25'.out.mono T22.out.size))
  clear X22 L22 P22 R22 T22 B23 B24' R24' B25'
  go_wp2_with (first
    | (go_at_call 20; refine (lt1_any W25).mono ?_; rintro e W26 ⟨u, hu, rfl, ho, hb⟩; have U26 := hidIt (And.intro hu ho); have B26 := hidIt hb; clear hu ho hb)
    | (refine wpList_alloc_rec rfl 27 rfl _ W26.heap.size rfl run_zero ?_; intro W27 R27 B27 z27; have B27' := hidIt (And.intro B27 z27); have R27' := hidIt R27; clear R27 B27 z27)
    | (refine wpList_store_rec rfl 27 (.tmp 13) (.tmp 61) rfl W26.heap.size 0 _ u.cs rfl rfl R27'.out rfl run_size U26.out.2.one ?_; intro W28 R28 B28; have R28' := hidIt R28; have B28' := hidIt (B27'.out.1.trans (B28.below (Nat.le_refl _) (by have := B27'.out.2; omega))); clear R28 B28)
    | (refine wpList_put_rec rfl 3 (.tmp 62) (.const (.int .i64 0)) rfl W26.heap.size 2 u.cs [.int .i64 0] (RV.cs ⟨u.f, u.l, ⟨u.r.ad, u.r.st, 0, u.r.f, u.r.l⟩⟩) _ rfl rfl rfl R28'.out (by show 2 + 1 ≤ 5; omega) rfl (by kernel_rfl) (by intro v hv; rcases List.mem_singleton.1 hv with rfl; rfl) ?_; intro W29 R29 B29 z29; have N29 := hidIt R29; have B29' : Hid (Below W25.heap.size W25 W29) := hidIt (B26.out.trans ((B28'.out.trans (B29.below (Nat.le_refl _) B28'.out.size)).mono B26.out.size)); have O29 : Hid (RVOk W29 [] ⟨u.f, u.l, ⟨u.r.ad, u.r.st, 0, u.r.f, u.r.l⟩⟩) := hidIt (by have k2 := (U26.out.2.below (B28'.out.trans (B29.below (Nat.le_refl _) B28'.out.size))); exact ⟨k2.1, k2.2⟩); clear R29 B29 z29; refine Held.out ?_))
  refine Held.mk ?_
  obtain ⟨zz, hzz⟩ : ∃ zz : RV, zz = ⟨u.f, u.l, ⟨u.r.ad, u.r.st, 0, u.r.f, u.r.l⟩⟩ := ⟨_, rfl⟩
  rw [← hzz] at N29 O29
  have ZR : Hid (zz.r = ⟨1, 0, 0, ⟨#[97]⟩, ⟨#[99]⟩⟩) := hidIt (by rw [hzz]; show (⟨u.r.ad, u.r.st, 0, u.r.f, u.r.l⟩ : Rn) = _; rw [U26.out.1]; rfl)
  obtain ⟨nb, hnb⟩ : ∃ nb, nb = W26.heap.size := ⟨_, rfl⟩
  rw [← hnb] at N29
  simp only [← hnb]
  have X29 : Hid (ls'.length = 4 ∧ Lvs W29.drew (some ⟨g, 0, none⟩) ls' ∧ rns ls' = [[], [T2, T3], [], []]) := hidIt ⟨X25.out.1, (X25.out.2.1.below B29'.out).below (Below.refl _ _).drew, X25.out.2.2⟩
  have L29 := hidIt ((L25.out.below B29'.out).below (Below.refl _ _).drew)
  have P29 : Hid (LsR W29.drew pa os ∧ LsR W29.drew qa os2) := hidIt ⟨(P25.out.1.below B29'.out).below (Below.refl _ _).drew, (P25.out.2.below B29'.out).below (Below.refl _ _).drew⟩
  have R29 := hidIt ((R25.out.below B29'.out).below (Below.refl _ _).drew)
  have T29 := hidIt (T25.out.trans (B29'.out.mono T25.out.size)).drew
  have N29' := hidIt (N29.out.below (Below.refl _ _).drew)
  have O29' := hidIt (O29.out.below (Below.refl _ _).drew)
  clear X25 L25 P25 R25 T25 B26 B27' R27' R28' B28' B29' U26 hzz hnb N29 O29
  go_wp2_with fail
  refine wp_region_noPanic ?_
  refine wp_region_held_drew (S := fun w' => w'.rangeAt pb 0 (plC 0 (.slice pa os.length pc) (.slice qa os2.length qc) true) ∧ w'.cell? ⟨W15.heap.size, 0, none⟩ = some (.slice (some ⟨W12.heap.size, 0, none⟩) 2 2)) (by kernel_rfl) ?_ (fun hHeld => ?_)
  · exact ⟨R29.out.1, (FL.out _ L29.out).1⟩
  refine call_at (i := 0) (some 63) 19 _ _ rfl rfl rfl (by rfl) (by kernel_rfl) #[] rfl Tryd.func19 (by kernel_rfl) (by kernel_rfl) ?_
  refine (lawake_any W29.drew).mono ?_
  rintro e W30 ⟨rfl, hb⟩
  have X30 : Hid (ls'.length = 4 ∧ Lvs W30 (some ⟨g, 0, none⟩) ls' ∧ rns ls' = [[], [T2, T3], [], []]) := hidIt ⟨X29.out.1, X29.out.2.1.below hb, X29.out.2.2⟩
  have L30 := hidIt (L29.out.below hb)
  have P30 : Hid (LsR W30 pa os ∧ LsR W30 qa os2) := hidIt ⟨P29.out.1.below hb, P29.out.2.below hb⟩
  have R30 := hidIt (R29.out.below hb)
  have T30 := hidIt (T29.out.trans (hb.mono T29.out.size))
  have N30 := hidIt (N29'.out.below hb)
  have O30 := hidIt (O29'.out.below hb)
  clear hb X29 L29 P29 R29 T29 N29' O29'
  refine ⟨_, rfl, ⟨R30.out.1, (FL.out _ L30.out).1⟩, fun hHeld => ?_⟩
  simp only [Act.put, List.setIfInBounds_toArray, List.set_cons_zero, List.set_cons_succ]
  refine take_at (i := 1) (v := ?_) (some 64) rfl rfl (by kernel_rfl) (by kernel_rfl) (by kernel_rfl) (fun _ _ _ h => h) (Or.inl ⟨by rfl, ?_⟩) (by assumption) ?_
  rotate_left
  · (intro w hSw; (try dsimp only at hSw); go_simp; try with_reducible rfl)
  simp only [Act.put, List.setIfInBounds_toArray, List.set_cons_zero, List.set_cons_succ]
  refine take_at (i := 2) (v := ?_) (some 65) rfl rfl (by kernel_rfl) (by kernel_rfl) (by kernel_rfl) (fun _ _ _ h => h) (Or.inl ⟨by rfl, ?_⟩) (by assumption) ?_
  rotate_left
  · (intro w hSw; (try dsimp only at hSw); go_simp; try with_reducible rfl)
  simp only [Act.put, List.setIfInBounds_toArray, List.set_cons_zero, List.set_cons_succ]
  refine take_at (i := 3) (v := ?_) (some 66) rfl rfl (by kernel_rfl) (by kernel_rfl) (by kernel_rfl) (fun _ _ _ h => h) (Or.inl ⟨by rfl, ?_⟩) (by assumption) ?_
  rotate_left
  · (intro w hSw; (try dsimp only at hSw); go_simp; try with_reducible rfl)
  simp only [Act.put, List.setIfInBounds_toArray, List.set_cons_zero, List.set_cons_succ]
  refine take_at (i := 4) (v := ?_) (some 67) rfl rfl (by kernel_rfl) (by kernel_rfl) (by kernel_rfl) (fun _ _ _ h => h) (Or.inl ⟨by rfl, ?_⟩) (by assumption) ?_
  rotate_left
  · (intro w hSw; (try dsimp only at hSw); go_simp; try with_reducible rfl)
  simp only [Act.put, List.setIfInBounds_toArray, List.set_cons_zero, List.set_cons_succ]
  refine take_at (i := 5) (v := ?_) (some 68) rfl rfl (by kernel_rfl) (by kernel_rfl) (by kernel_rfl) (fun _ _ _ h => h) (Or.inl ⟨by rfl, ?_⟩) (by assumption) ?_
  rotate_left
  · (intro w hSw; (try dsimp only at hSw); go_simp; try with_reducible rfl)
  simp only [Act.put, List.setIfInBounds_toArray, List.set_cons_zero, List.set_cons_succ]
  refine take_at (i := 6) (v := ?_) (some 69) rfl rfl (by kernel_rfl) (by kernel_rfl) (by kernel_rfl) (fun _ _ _ h => h) (Or.inl ⟨by rfl, ?_⟩) (by assumption) ?_
  rotate_left
  · (intro w hSw; (try dsimp only at hSw); go_simp; try with_reducible rfl)
  simp only [Act.put, List.setIfInBounds_toArray, List.set_cons_zero, List.set_cons_succ]
  refine take_at (i := 7) (v := ?_) (some 70) rfl rfl (by kernel_rfl) (by kernel_rfl) (by kernel_rfl) (fun _ _ _ h => h) (Or.inl ⟨by rfl, ?_⟩) (by assumption) ?_
  rotate_left
  · (intro w hSw; (try dsimp only at hSw); go_simp; try with_reducible rfl)
  simp only [Act.put, List.setIfInBounds_toArray, List.set_cons_zero, List.set_cons_succ]
  refine take_at (i := 8) (v := ?_) (some 71) rfl rfl (by kernel_rfl) (by kernel_rfl) (by kernel_rfl) (fun _ _ _ h => h) (Or.inl ⟨by rfl, ?_⟩) (by assumption) ?_
  rotate_left
  · (intro w hSw; (try dsimp only at hSw); go_simp; try with_reducible rfl)
  simp only [Act.put, List.setIfInBounds_toArray, List.set_cons_zero, List.set_cons_succ]
  refine take_at (i := 9) (v := ?_) (some 72) rfl rfl (by kernel_rfl) (by kernel_rfl) (by kernel_rfl) (fun _ _ _ h => h) (Or.inl ⟨by rfl, ?_⟩) (by assumption) ?_
  rotate_left
  · (intro w hSw; (try dsimp only at hSw); go_simp; try with_reducible rfl)
  simp only [Act.put, List.setIfInBounds_toArray, List.set_cons_zero, List.set_cons_succ]
  refine take_at (i := 10) (v := ?_) (some 73) rfl rfl (by kernel_rfl) (by kernel_rfl) (by kernel_rfl) (fun _ _ _ h => h) (Or.inl ⟨by rfl, ?_⟩) (by assumption) ?_
  rotate_left
  · (intro w hSw; (try dsimp only at hSw); go_simp; try with_reducible rfl)
  simp only [Act.put, List.setIfInBounds_toArray, List.set_cons_zero, List.set_cons_succ]
  refine take_at (i := 11) (v := ?_) (some 74) rfl rfl (by kernel_rfl) (by kernel_rfl) (by kernel_rfl) (fun _ _ _ h => h) (Or.inl ⟨by rfl, ?_⟩) (by assumption) ?_
  rotate_left
  · (intro w hSw; (try dsimp only at hSw); go_simp; try with_reducible rfl)
  simp only [Act.put, List.setIfInBounds_toArray, List.set_cons_zero, List.set_cons_succ]
  refine take_at (i := 12) (v := ?_) (some 75) rfl rfl (by kernel_rfl) (by kernel_rfl) (by kernel_rfl) (fun _ _ _ h => h) (Or.inl ⟨by rfl, ?_⟩) (by assumption) ?_
  rotate_left
  · (intro w hSw; (try dsimp only at hSw); go_simp; try with_reducible rfl)
  simp only [Act.put, List.setIfInBounds_toArray, List.set_cons_zero, List.set_cons_succ]
  refine take_at (i := 13) (v := ?_) (some 76) rfl rfl (by kernel_rfl) (by kernel_rfl) (by kernel_rfl) (fun _ _ _ h => h) (Or.inl ⟨by rfl, ?_⟩) (by assumption) ?_
  rotate_left
  · (intro w hSw; (try dsimp only at hSw); go_simp; try with_reducible rfl)
  simp only [Act.put, List.setIfInBounds_toArray, List.set_cons_zero, List.set_cons_succ]
  refine take_at (i := 14) (v := ?_) (some 77) rfl rfl (by kernel_rfl) (by kernel_rfl) (by kernel_rfl) (fun _ _ _ h => h) (Or.inl ⟨by rfl, ?_⟩) (by assumption) ?_
  rotate_left
  · (intro w hSw; (try dsimp only at hSw); go_simp; try with_reducible rfl)
  simp only [Act.put, List.setIfInBounds_toArray, List.set_cons_zero, List.set_cons_succ]
  refine take_at (i := 15) (v := ?_) (some 78) rfl rfl (by kernel_rfl) (by kernel_rfl) (by kernel_rfl) (fun _ _ _ h => h) (Or.inl ⟨by rfl, ?_⟩) (by assumption) ?_
  rotate_left
  · (intro w hSw; (try dsimp only at hSw); go_simp; try with_reducible rfl)
  simp only [Act.put, List.setIfInBounds_toArray, List.set_cons_zero, List.set_cons_succ]
  refine take_at (i := 16) (v := ?_) (some 79) rfl rfl (by kernel_rfl) (by kernel_rfl) (by kernel_rfl) (fun _ _ _ h => h) (Or.inl ⟨by rfl, ?_⟩) (by assumption) ?_
  rotate_left
  · (intro w hSw; (try dsimp only at hSw); go_simp; try with_reducible rfl)
  simp only [Act.put, List.setIfInBounds_toArray, List.set_cons_zero, List.set_cons_succ]
  refine take_at (i := 17) (v := _) (some 80) rfl rfl (by kernel_rfl) (by kernel_rfl) (by kernel_rfl) (fun _ _ _ h => h) (yieldsIf_load_mid (by rfl) _ _ rfl _ _ rfl _ _ (fun w h => h.1) Tryd.underlying46 rfl (by kernel_rfl)) (by assumption) ?_
  simp only [Act.put, List.setIfInBounds_toArray, List.set_cons_zero, List.set_cons_succ]
  refine take_at (i := 18) (v := ?_) (some 81) rfl rfl (by kernel_rfl) (by kernel_rfl) (by kernel_rfl) (fun _ _ _ h => h) (Or.inl ⟨by rfl, ?_⟩) (by assumption) ?_
  rotate_left
  · (intro w hSw; (try dsimp only at hSw); go_simp; try with_reducible rfl)
  simp only [Act.put, List.setIfInBounds_toArray, List.set_cons_zero, List.set_cons_succ]
  refine take_at (i := 19) (v := ?_) (some 82) rfl rfl (by kernel_rfl) (by kernel_rfl) (by kernel_rfl) (fun _ _ _ h => h) (Or.inl ⟨by rfl, ?_⟩) (by assumption) ?_
  rotate_left
  · (intro w hSw; (try dsimp only at hSw); go_simp; try with_reducible rfl)
  simp only [Act.put, List.setIfInBounds_toArray, List.set_cons_zero, List.set_cons_succ]
  refine take_at (i := 20) (v := ?_) (some 83) rfl rfl (by kernel_rfl) (by kernel_rfl) (by kernel_rfl) (fun _ _ _ h => h) (Or.inl ⟨by rfl, ?_⟩) (by assumption) ?_
  rotate_left
  · (intro w hSw; (try dsimp only at hSw); go_simp; try with_reducible rfl)
  simp only [Act.put, List.setIfInBounds_toArray, List.set_cons_zero, List.set_cons_succ]
  refine take_at (i := 21) (v := .agg (plC 0 (.slice (some ⟨W12.heap.size, 0, none⟩) 2 2) (.slice none 0 0) true).toArray) (some 84) rfl rfl (by kernel_rfl) (by kernel_rfl) (by kernel_rfl) (fun _ _ _ h => h) (Or.inl ⟨by rfl, fun w hSw => bld_run 46 _ rfl _ (by kernel_rfl)⟩) (by assumption) ?_
  simp only [Act.put, List.setIfInBounds_toArray, List.set_cons_zero, List.set_cons_succ]
  refine call_at (i := 22) (some 85) 25 _ _ rfl rfl rfl (by rfl) (by kernel_rfl) #[.agg (plC 0 (.slice pa os.length pc) (.slice qa os2.length qc) true).toArray, .agg (plC 0 (.slice (some ⟨W12.heap.size, 0, none⟩) 2 2) (.slice none 0 0) true).toArray] rfl Tryd.func25 (by kernel_rfl) (by kernel_rfl) ?_
  have on : os.length = 2 := by have := congrArg List.length OS.out.1; rw [List.length_map] at this; exact this
  have on2 : os2.length = 0 := by have := congrArg List.length OS.out.2; rw [List.length_map] at this; exact this
  refine (samePlan_eq (qs := [x11, x12]) (qs2 := []) os.length pc 2 2 os2.length qc 0 0 rfl rfl rfl rfl P30.out.1 (FL.out _ L30.out).2 P30.out.2 ⟨fun x hx => (by cases hx), fun q => absurd rfl q⟩ (by omega) (by omega) (OS.out.1.trans NX.out.symm) OS.out.2).mono ?_
  rintro e W31 ⟨rfl, hb⟩
  have X31 : Hid (ls'.length = 4 ∧ Lvs W31 (some ⟨g, 0, none⟩) ls' ∧ rns ls' = [[], [T2, T3], [], []]) := hidIt ⟨X30.out.1, X30.out.2.1.below hb, X30.out.2.2⟩
  have T31 := hidIt (T30.out.trans (hb.mono T30.out.size))
  have N31 := hidIt (N30.out.below hb)
  have O31 := hidIt (O30.out.below hb)
  have S31 : W31.rangeAt pb 0 (plC 0 (.slice pa os.length pc) (.slice qa os2.length qc) true) ∧ W31.cell? ⟨W15.heap.size, 0, none⟩ = some (.slice (some ⟨W12.heap.size, 0, none⟩) 2 2) := ⟨(R30.out.below hb).1, (FL.out _ (L30.out.below hb)).1⟩
  clear hb on on2
  refine ⟨_, rfl, S31, fun hHeld => ?_⟩
  clear X30 L30 P30 R30 T30 N30 O30 S31
  simp only [Act.put, List.setIfInBounds_toArray, List.set_cons_zero, List.set_cons_succ]
  refine take_at (i := 23) (v := ?_) (some 86) rfl rfl (by kernel_rfl) (by kernel_rfl) (by kernel_rfl) (fun _ _ _ h => h) (Or.inl ⟨by rfl, ?_⟩) (by assumption) ?_
  rotate_left
  · (intro w hSw; (try dsimp only at hSw); go_simp; try with_reducible rfl)
  simp only [Act.put, List.setIfInBounds_toArray, List.set_cons_zero, List.set_cons_succ]
  refine take_at (i := 24) (v := ?_) (some 14) rfl rfl (by kernel_rfl) (by kernel_rfl) (by kernel_rfl) (fun _ _ _ h => h) (Or.inl ⟨by rfl, ?_⟩) (by assumption) ?_
  rotate_left
  · (intro w hSw; (try dsimp only at hSw); go_simp; try with_reducible rfl)
  simp only [Act.put, List.setIfInBounds_toArray, List.set_cons_zero, List.set_cons_succ]
  refine wpAnyH_done (by kernel_rfl) ?_ _
  refine NoPanic.normal ?_
  clear hHeld FL NX OS SM RT NL
  have SM := hidIt (small_rns X31.out.2.2 (by decide) (by decide))
  go_wp2_with (first
    | (go_at_call 21; refine (lt2_any W31).mono ?_; rintro e W32 ⟨a2, ha, rfl, ho, hb⟩; have A32 := hidIt (And.intro ha ho); have B32 := hidIt hb; clear ha ho hb)
    | (go_at_call 22; refine (lt3_any W32).mono ?_; rintro e W33 ⟨a3, ha, rfl, ho, hb⟩; have A33 := hidIt (And.intro ha ho); have B33 := hidIt hb; clear ha ho hb; obtain ⟨W34, hW, hl, hb⟩ := bs_runs W33 [a2, a3] (fun z hz => by simp only [List.mem_cons, List.not_mem_nil, or_false] at hz; rcases hz with rfl | rfl; exact A32.out.2.below B33.out; exact A33.out.2); have HW34 := hidIt hW; have K34 := hidIt hl; have B34 := hidIt hb; clear hW hl hb; obtain ⟨W35, hW, hl, hb⟩ := bs_levels W34 [⟨none, 0, []⟩, ⟨some ⟨W33.heap.size, 0, none⟩, 2, [a2, a3]⟩, ⟨none, 0, []⟩, ⟨none, 0, []⟩] (fun z hz => by simp only [List.mem_cons, List.not_mem_nil, or_false] at hz; rcases hz with rfl | rfl | rfl | rfl; exact ⟨⟨fun x hx => (by cases hx), fun q => absurd rfl q⟩, Nat.le_refl _⟩; exact ⟨K34.out, Nat.le_refl _⟩; exact ⟨⟨fun x hx => (by cases hx), fun q => absurd rfl q⟩, Nat.le_refl _⟩; exact ⟨⟨fun x hx => (by cases hx), fun q => absurd rfl q⟩, Nat.le_refl _⟩); have HW35 := hidIt hW; have L35 := hidIt hl; have B35 : Hid (Below W31.heap.size W31 W35) := hidIt (B32.out.trans ((B33.out.trans ((B34.out.trans (hb.mono B34.out.size)).mono B33.out.size)).mono B32.out.size)); have M35 : Hid (rns [⟨none, 0, []⟩, ⟨some ⟨W33.heap.size, 0, none⟩, 2, [a2, a3]⟩, ⟨none, 0, []⟩, ⟨none, 0, []⟩] = [[], [T2, T3], [], []]) := hidIt (by simp only [rns, List.map_cons, List.map_nil, A32.out.1, A33.out.1]); clear hW hl hb)
    | (refine wpList_run_w (by rfl) (.slice (some ⟨W33.heap.size, 0, none⟩) 2 2) W34 (by rw [HW34.out]; exact bsl_run 36 27 2 _ rfl 5 72 _ _ _ under_runs info_run (by decide) (by decide) rfl (by kernel_rfl)) ?_)
    | (refine wpList_run_w (by rfl) (.slice (some ⟨W34.heap.size, 0, none⟩) 4 4) W35 (by rw [HW35.out]; exact bsl_run 22 36 4 _ rfl 1 24 _ _ _ under_levels info_level (by decide) (by decide) rfl (by kernel_rfl)) ?_)
    | (go_at_call 15; refine (sameLevels_eq 4 4 4 4 X31.out.1 rfl (X31.out.2.1.below B35.out) L35.out (by decide) (fun x hx => by have := SM.out.1 x hx; omega) (X31.out.2.2.trans M35.out.symm)).mono ?_; rintro e W36 ⟨rfl, hb⟩; have T36 := hidIt (T31.out.trans ((B35.out.trans (hb.mono B35.out.size)).mono T31.out.size)); have N36 := hidIt ((N31.out.below B35.out).below hb); have O36 := hidIt ((O31.out.below B35.out).below hb); clear hb; refine Held.out ?_))
  refine Held.mk ?_
  clear A32 B32 A33 B33 HW34 K34 B34 HW35 L35 B35 M35 X31 T31 N31 O31 SM
  go_wp2_with (first
    | (go_at_call 22; refine (lt3_any W36).mono ?_; rintro e W37 ⟨a3, ha, rfl, ho, hb⟩; have A37 := hidIt (And.intro ha ho); have B37 := hidIt hb; clear ha ho hb)
    | (go_at_call 20; refine (lt1_any W37).mono ?_; rintro e W38 ⟨a1, ha, rfl, ho, hb⟩; have A38 := hidIt (And.intro ha ho); have B38 := hidIt hb; clear ha ho hb; obtain ⟨W39, hW, hl, hb⟩ := bs_runs W38 [a3, a1] (fun z hz => by simp only [List.mem_cons, List.not_mem_nil, or_false] at hz; rcases hz with rfl | rfl; exact A37.out.2.below B38.out; exact A38.out.2); have HW39 := hidIt hW; have K39 := hidIt hl; have B39 := hidIt hb; clear hW hl hb; obtain ⟨W40, hW, hl, hb⟩ := bs_levels W39 [⟨none, 0, []⟩, ⟨some ⟨W38.heap.size, 0, none⟩, 2, [a3, a1]⟩] (fun z hz => by simp only [List.mem_cons, List.not_mem_nil, or_false] at hz; rcases hz with rfl | rfl; exact ⟨⟨fun x hx => (by cases hx), fun q => absurd rfl q⟩, Nat.le_refl _⟩; exact ⟨K39.out, Nat.le_refl _⟩); have HW40 := hidIt hW; have L40 := hidIt hl; have B40 : Hid (Below W36.heap.size W36 W40) := hidIt (B37.out.trans ((B38.out.trans ((B39.out.trans (hb.mono B39.out.size)).mono B38.out.size)).mono B37.out.size)); have M40 : Hid (mayI (rns [⟨none, 0, []⟩, ⟨some ⟨W38.heap.size, 0, none⟩, 2, [a3, a1]⟩]) = 2) := hidIt (by simp only [rns, List.map_cons, List.map_nil, A37.out.1, A38.out.1]; exact kn_c); clear hW hl hb)
    | (refine wpList_run_w (by rfl) (.slice (some ⟨W38.heap.size, 0, none⟩) 2 2) W39 (by rw [HW39.out]; exact bsl_run 36 27 2 _ rfl 5 72 _ _ _ under_runs info_run (by decide) (by decide) rfl (by kernel_rfl)) ?_)
    | (refine wpList_run_w (by rfl) (.slice (some ⟨W39.heap.size, 0, none⟩) 2 2) W40 (by rw [HW40.out]; exact bsl_run 22 36 2 _ rfl 1 24 _ _ _ under_levels info_level (by decide) (by decide) rfl (by kernel_rfl)) ?_)
    | (go_at_call 13; refine (lcheck_any 2 2 rfl L40.out (fun x hx => by simp only [List.mem_cons, List.not_mem_nil, or_false] at hx; rcases hx with rfl | rfl; show 0 ≤ 100000; omega; show 2 ≤ 100000; omega)).mono ?_; rw [M40.out]; rintro e W41 ⟨rfl, hb⟩; have T41 := hidIt (T36.out.trans ((B40.out.trans (hb.mono B40.out.size)).mono T36.out.size)); have N41 := hidIt ((N36.out.below B40.out).below hb); have O41 := hidIt ((O36.out.below B40.out).below hb); clear hb; refine Held.out ?_))
  refine Held.mk ?_
  clear A37 B37 A38 B38 HW39 K39 B39 HW40 L40 B40 M40 T36 N36 O36
  obtain ⟨W42, hW, hl, hb⟩ := bs_runs W41 [zz] (fun z hz => by have e := List.mem_singleton.1 hz; subst e; exact O41.out)
  have HW42 := hidIt hW
  have K42 := hidIt hl
  have B42 := hidIt hb
  clear hW hl hb
  obtain ⟨W43, hW, hl, hb⟩ := bs_levels W42 [⟨some ⟨W41.heap.size, 0, none⟩, 1, [zz]⟩] (fun z hz => by have e := List.mem_singleton.1 hz; subst e; exact ⟨K42.out, Nat.le_refl _⟩)
  have HW43 := hidIt hW
  have L43 := hidIt hl
  have B43 := hidIt (B42.out.trans (hb.mono B42.out.size))
  have M43 : Hid (mayI (rns [⟨some ⟨W41.heap.size, 0, none⟩, 1, [zz]⟩]) = 2) := hidIt (by simp only [rns, List.map_cons, List.map_nil, ZR.out]; exact kn_d)
  clear hW hl hb
  go_wp2_with (first
    | (refine wpList_run_w (by rfl) (.agg zz.cs.toArray) W41 (rowload_run 27 (.tmp 13) rfl nb 0 zz.cs rfl _ N41.out.1 Tryd.underlying27 rfl run_size) ?_)
    | (refine wpList_run_w (by rfl) (.slice (some ⟨W41.heap.size, 0, none⟩) 1 1) W42 (by rw [HW42.out]; exact bsl_run 36 27 1 _ rfl 5 72 _ _ _ under_runs info_run (by decide) (by decide) rfl (by kernel_rfl)) ?_)
    | (refine wpList_run_w (by rfl) (.slice (some ⟨W42.heap.size, 0, none⟩) 1 1) W43 (by rw [HW43.out]; exact bsl_run 22 36 1 _ rfl 1 24 _ _ _ under_levels info_level (by decide) (by decide) rfl (by kernel_rfl)) ?_)
    | (go_at_call 13; refine (lcheck_any 1 1 rfl L43.out (fun x hx => by have e := List.mem_singleton.1 hx; subst e; show 1 ≤ 100000; omega)).mono ?_; rw [M43.out]; rintro e W44 ⟨rfl, hb⟩; have T44 := hidIt (T41.out.trans ((B43.out.trans (hb.mono B43.out.size)).mono T41.out.size)); clear hb))
  exact bodyPost_ret (v := .bool true) (by simp [results, Tryd.results4, go_sem]) rfl ⟨rfl, T44.out⟩
end Go.Proofs.YtelcijfcgflagaaDoor
