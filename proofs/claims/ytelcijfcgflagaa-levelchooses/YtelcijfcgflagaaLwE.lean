/-
  Walks, not a claim by itself: the reference's Replace. By the verifier.
-/
import Derived.Test.YtelcijfcgflagaaLwD
import Derived.Test.YtelcijfcgflagaaShelf
import Derived.Test.YtelcijfcgflagaaLwB
import Derived.Test.YtelcijfcgflagaaLwA
namespace Go.Proofs.Ytelcijfcgflagaa
open Go.RowKit Go.Sort
attribute [-go_sem] Builtin.append_
set_option maxRecDepth 100000 in
theorem lcmp_any {U : World} {M N : List Nat} {x y : RV} (hx : Txt U M x.f x.r.f) (hy : Txt U N y.f y.r.f) : Calls Try.prog 34 #[.agg x.cs.toArray, .agg y.cs.toArray] U fun e w' => e = .returned (.int .i64 (cmpB x.r.f y.r.f)) ∧ ∃ q os', w' = Sort.grow (U.drewN q) os' := by
  have HX := hidIt hx
  have HY := hidIt hy
  clear hx hy
  have B2 : Hid (∀ o1 o2, Below U.heap.size U ((U.alloc o1).alloc o2)) := hidIt (fun o1 o2 => ((Below.refl _ _).alloc (Nat.le_refl _) o1).alloc (by simp) o2)
  show Calls Try.prog 34 #[.agg #[.int .i64 x.r.ad, .int .i64 x.r.st, .int .i64 x.r.ct, x.f, x.l], .agg #[.int .i64 y.r.ad, .int .i64 y.r.st, .int .i64 y.r.ct, y.f, y.l]] U _
  go_enter Try.func34, Try.ntmps34
  go_wp2_with (go_at_call 35; refine (ycmp_any (HX.out.below (B2.out _ _)) (HY.out.below (B2.out _ _))).mono ?_; rintro e w2 ⟨rfl, hw⟩; subst hw)
  exact bodyPost_ret (v := .int .i64 (cmpB x.r.f y.r.f)) (by simp [results, Try.results34, go_sem]) rfl ⟨rfl, 0, _, by rw [Sort.alloc_eq_grow, Sort.alloc_eq_grow, Sort.grow_grow]; rfl⟩
/-- A table that reads apart from a block. -/
abbrev TW (W : World) (g : Nat) := { x : RV // RVOk W [g] x }
instance (W : World) (g : Nat) : Inhabited (TW W g) := ⟨⟨rv0, Txt.nil W [g] 0, Txt.nil W [g] 0⟩⟩
def encW {W : World} {g : Nat} (x : TW W g) : List Value := x.1.cs
def cfW {W : World} {g : Nat} (x y : TW W g) : Int := cmpB x.1.r.f y.1.r.f
theorem swoW (W : World) (g : Nat) : Sort.SWO (ltOf (cfW (W := W) (g := g))) where
  irrefl x := by unfold ltOf cfW; rw [c_self]; rfl
  trans x y z h1 h2 := by
    unfold ltOf cfW at *
    rw [decide_eq_true_eq] at *
    exact c_trans h1 h2
  ntrans x y z h1 h2 := by
    unfold ltOf cfW at *
    rw [decide_eq_false_iff_not] at *
    have a := c_anti x.1.r.f y.1.r.f
    have b := c_anti y.1.r.f z.1.r.f
    have c := c_anti x.1.r.f z.1.r.f
    have := c_le_le (x := z.1.r.f) (y := y.1.r.f) (z := x.1.r.f) (by omega) (by omega)
    omega
theorem off_sort {W : World} {g : Nat} (m : Nat) (os : Array Obj) (dk : Array (TW W g)) : Off [g] W (sortWorldK encW 5 W g 0 m dk os) := by
  refine ⟨rfl, rfl, rfl, ?_, fun k hk hn => ?_⟩
  · show W.heap.size ≤ ((W.heap.modify g _) ++ os).size
    rw [Array.size_append, Array.size_modify]
    omega
  · show ((W.heap.modify g _) ++ os)[k]? = W.heap[k]?
    rw [Array.getElem?_append_left (by rw [Array.size_modify]; exact hk), Array.getElem?_modify, if_neg (fun q => hn (by rw [q]; simp))]
theorem flat_rcs {W : World} {g : Nat} (d : Array (TW W g)) (k : Nat) (hk : k < d.size * 5) : (rcs (d.toList.map (·.1)))[k]? = some ((flatK encW 5 d)[k]!) := by
  have hq : k / 5 < d.size := by omega
  have e := rcs_at (d.toList.map (·.1)) (k / 5) (k % 5) d[k / 5].1 (by rw [List.getElem?_map, Array.getElem?_toList, Array.getElem?_eq_getElem hq]; rfl) (by omega)
  rw [show k / 5 * 5 + k % 5 = k by omega] at e
  rw [e, get_flatK encW 5 d k hk, getElem!_pos d (k / 5) hq]
  unfold encW
  rw [getElem!_pos d[k / 5].1.cs (k % 5) (by show k % 5 < 5; omega), List.getElem?_eq_getElem]
/-- What SortFunc answers. -/
def SoP (W : World) (a : Option Addr) (n c : Nat) (ps : List RV) (e : Ending) (w' : World) : Prop := e = .returned (.tuple #[]) ∧ ∃ qs : List RV, qs.Perm ps ∧ qs.Pairwise (fun x y => cmpB x.r.f y.r.f ≤ 0) ∧ OwnR w' 0 (.slice a n c) qs ∧ Off (Value.slice a n c).ownBlock.toList W w'
theorem run_isAgg_run (w : World) : (isAgg 45).run Try.prog w = .ok true w := Try.isAgg45 w
theorem run_sizeOf_run (w : World) : (Go.sizeOf 45).run Try.prog w = .ok 5 w := Try.sizeOf45 w
set_option maxRecDepth 100000 in
theorem lsort_any {W : World} {a : Option Addr} {ps : List RV} (n c : Nat) (hn : ps.length = n) (hO : OwnR W 0 (.slice a n c) ps) (hp : ∀ x ∈ ps, RVOk W (Value.slice a n c).ownBlock.toList x) (hf : n ≤ 50000) : Calls Try.prog 33 #[.slice a n c, .func (.func 34) #[] #[]] W (SoP W a n c ps) := by
  rcases hO.form' hn with ⟨rfl, rfl⟩ | ⟨g, rfl⟩
  · obtain rfl : n = 0 := by simpa using hn.symm
    have h := AnyF.slices_SortFunc_none Try.laysSortF none c (.func (.func 34) #[] #[]) W
    change Calls Try.prog 33 _ _ _ at h
    refine h.mono ?_
    rintro e w' ⟨rfl, rfl⟩
    exact ⟨rfl, [], List.Perm.refl _, List.Pairwise.nil, hO, Off.refl _ _⟩
  · have hp' : ∀ x ∈ ps, RVOk W [g] x := hp
    obtain ⟨l, hl⟩ : ∃ l : List (TW W g), l.map (·.1) = ps := ⟨ps.pmap Subtype.mk hp', by simp [List.map_pmap]⟩
    have hs : l.toArray.size = n := by rw [List.size_toArray, ← hn, ← hl, List.length_map]
    obtain ⟨cur, hg, hc, hm, hz, ht⟩ := hO.obj hn
    have gl : g < W.heap.size := (Array.getElem?_eq_some_iff.1 hg).1
    have R : Rec19 W g 0 (rcs ps) := by
      rcases hO.form with ⟨h0, _⟩ | ⟨g', cap, hv, _, _, _, _, hR⟩
      · injection h0 with h0; cases h0
      · injection hv with e1 _ _
        injection e1 with e1
        injection e1 with e1
        subst e1
        exact hR
    have hH : HoldsK encW 5 W g 0 l.toArray := by
      intro j hj
      rw [size_flatK] at hj
      have e := flat_rcs l.toArray j hj
      rw [show l.toArray.toList = l from rfl, hl] at e
      have k := R.cel j _ e
      rw [Nat.zero_add]
      exact k
    have eg : ∀ args w, (callFunc 34 args).run Try.prog w = .ok (.enter 34 args) w := enters_of Try.func34 (by kernel_rfl) rfl
    have hcmp : CmpLays Try.prog 34 #[] encW 5 (cfW (W := W) (g := g)) g 0 l.toArray.size W := fun m os dk _ x y =>
      lcmp_any (M := [g]) (N := [g]) (x.2.1.off (off_sort m os dk)) (y.2.1.off (off_sort m os dk))
    have h := AnyQ.slices_SortFunc Try.laysSortF 5 run_isAgg_run run_sizeOf_run encW (fun _ => rfl) (fun x => RVOk.one x.2) cfW (swoW W g) 34 #[] g 0 c l.toArray W eg hcmp hH gl (by omega)
    change Calls Try.prog 33 _ _ _ at h
    rw [hs] at h
    refine h.mono ?_
    rintro e w' ⟨rfl, d', m, os, ⟨ps1, _, ps3⟩, hso, rfl⟩
    have ds : d'.size = n := by rw [ps1, hs]
    have pm : d'.toList.Perm l := by
      rw [show d'.extract 0 n = d' by rw [← ds]; exact Array.extract_size, show l.toArray.extract 0 n = l.toArray by rw [← hs]; exact Array.extract_size] at ps3
      exact ps3
    refine ⟨rfl, d'.toList.map (·.1), by rw [← hl]; exact pm.map _, ?_, ?_, off_sort m os d'⟩
    · rw [List.pairwise_iff_getElem]
      intro i j hi hj hij
      rw [List.length_map, Array.length_toList] at hi hj
      have q := hso i j (Nat.zero_le _) hij (by omega)
      unfold ltOf cfW at q
      rw [decide_eq_false_iff_not, getElem!_pos d' i hi, getElem!_pos d' j hj, c_anti] at q
      rw [List.getElem_map, List.getElem_map, Array.getElem_toList, Array.getElem_toList]
      omega
    · have hb : (sortWorldK encW 5 W g 0 m d' os).heap[g]? = some (.cells (Sort.putCells id 0 (flatK encW 5 d') cur) 45 (0, 0)) := by
        show ((W.heap.modify g _) ++ os)[g]? = _
        rw [Array.getElem?_append_left (by rw [Array.size_modify]; exact gl), Array.getElem?_modify, if_pos rfl, hg]
        rfl
      refine OwnR.mk' (by rw [List.length_map, Array.length_toList, ds]) hb hc hm (by unfold Sort.putCells; rw [Array.size_mapIdx, hz]) ?_
      apply List.ext_getElem?
      intro k
      by_cases hk : k < n * 5
      · rw [List.getElem?_take_of_lt hk, Array.getElem?_toList]
        unfold Sort.putCells
        rw [Array.getElem?_mapIdx, Array.getElem?_eq_getElem (by omega), flat_rcs d' k (by omega)]
        simp only [Option.map_some, Nat.zero_le, true_and, Nat.zero_add, size_flatK, Nat.sub_zero, ds, if_pos hk, id]
      · rw [List.getElem?_eq_none (by rw [List.length_take]; omega), List.getElem?_eq_none (by rw [rcs_len, List.length_map, Array.length_toList, ds]; omega)]
end Go.Proofs.Ytelcijfcgflagaa
namespace Go.Proofs.Ytelcijfcgflagaa
open Go.RowKit
attribute [-go_sem] Builtin.append_
theorem SoP.ins {X w' : World} {a : Option Addr} {n c : Nat} {ps : List RV} {e : Ending} (h : SoP X a n c ps e w') : e = .returned (.tuple #[]) ∧ ∃ qs : List RV, qs.Perm ps ∧ qs.Pairwise (fun x y => cmpB x.r.f y.r.f ≤ 0) ∧ InsR X (.slice a n c) qs (.slice a n c) w' := by
  obtain ⟨he, qs, h1, h2, h3, h4⟩ := h
  exact ⟨he, qs, h1, h2, h3, h4, fun g hg => .inl hg⟩
/-- The tables that stay of a level. -/
def restD (l gone : List Rn) : List Rn := l.filter fun r => !hasR gone r
theorem rest_map {ps gs : List RV} (h : ∀ x ∈ gs, Rf x.r) (hp : ∀ x ∈ ps, Rf x.r) : (ps.filter fun x => !inD (rset gs) x).map RV.r = restD (ps.map RV.r) (gs.map RV.r) := by
  unfold restD
  induction ps with
  | nil => rfl
  | cons x q ih =>
    have e : inD (rset gs) x = hasR (gs.map RV.r) x.r := has_rset h (hp x List.mem_cons_self)
    rw [List.filter_cons, List.map_cons, List.filter_cons, e]
    have i := ih (fun y hy => hp y (List.mem_cons_of_mem _ hy))
    cases hasR (gs.map RV.r) x.r
    · simp [i]
    · simpa using i
theorem all_map {ps gs : List RV} (h : ∀ x ∈ gs, Rf x.r) (hp : ∀ x ∈ ps, Rf x.r) : ps.all (inD (rset gs)) = (ps.map RV.r).all (hasR (gs.map RV.r)) := by
  rw [List.all_map]
  induction ps with
  | nil => rfl
  | cons x q ih =>
    have e : inD (rset gs) x = hasR (gs.map RV.r) x.r := has_rset h (hp x List.mem_cons_self)
    rw [List.all_cons, List.all_cons, e, ih (fun y hy => hp y (List.mem_cons_of_mem _ hy))]
    rfl
/-- The levels behind a Replace. -/
def rpL (m : List (List Rn)) (i : Nat) (fr qs : List Rn) (k : Nat) : List Rn := if k = i then restD ((m[i]?).getD []) fr else if k = i + 1 then qs else (m[k]?).getD []
/-- May it be? -/
def preB (m : List (List Rn)) (z : Int) (fr to : List Rn) : Bool := mayB m && decide (0 ≤ z) && decide (z < 3) && fr.all (hasR ((m[z.toNat]?).getD [])) && to.all (hasR ((m[z.toNat + 1]?).getD []))
/-- What Replace answers. -/
def ReP (W : World) (m : List (List Rn)) (z : Int) (fr to fresh : List Rn) (e : Ending) (w' : World) : Prop :=
  (preB m z fr to = false ∧ e = .returned (.tuple #[.slice none 0 0, .int .i64 2]) ∧ Below W.heap.size W w') ∨
  (preB m z fr to = true ∧ ∃ qs : List Rn, qs.Perm (restD ((m[z.toNat + 1]?).getD []) to ++ fresh) ∧ qs.Pairwise (fun x y => cmpB x.f y.f ≤ 0) ∧
    ((mayB [rpL m z.toNat fr qs 0, rpL m z.toNat fr qs 1, rpL m z.toNat fr qs 2, rpL m z.toNat fr qs 3] = false ∧ e = .returned (.tuple #[.slice none 0 0, .int .i64 2]) ∧ Below W.heap.size W w') ∨
     (mayB [rpL m z.toNat fr qs 0, rpL m z.toNat fr qs 1, rpL m z.toNat fr qs 2, rpL m z.toNat fr qs 3] = true ∧ ∃ B1 g lv os, e = .returned (.tuple #[.slice (some ⟨g, 0, none⟩) 4 4, .int .i64 0]) ∧ Fo B1 w' g lv os ∧ W.heap.size < g ∧ W.heap.size < B1 ∧ (∀ k, k < 4 → (os k).map RV.r = rpL m z.toNat fr qs k) ∧ Below W.heap.size W w')))
/-- What is handed to Replace. -/
structure ReA (W : World) (A : Option Addr) (ls : List LR) (L : Nat) (fa ta ra : Option Addr) (fs ts rs : List RV) : Prop where
  len : ls.length = L
  lvs : Lvs W A ls
  few : ∀ x ∈ ls, x.rs.length ≤ 1000
  siz : ∀ x ∈ ls, ∀ y ∈ x.rs, y.r.f.size ≤ 1000000 ∧ y.r.l.size ≤ 1000000
  rts : ∀ x ∈ ls, ∀ y ∈ x.rs, Rf y.r
  l1 : L ≤ 1000
  fls : LsR W fa fs
  tls : LsR W ta ts
  rls : LsR W ra rs
  fn : fs.length ≤ 1000
  tn : ts.length ≤ 1000
  rn : rs.length ≤ 1000
  frt : ∀ x ∈ fs, Rf x.r
  trt : ∀ x ∈ ts, Rf x.r
  rrt : ∀ x ∈ rs, Rf x.r
  rsz : ∀ y ∈ rs, y.r.f.size ≤ 1000000 ∧ y.r.l.size ≤ 1000000
theorem rts_of {os ps : List RV} (h : os.map RV.r = ps.map RV.r) (hp : ∀ y ∈ ps, Rf y.r) : ∀ x ∈ os, Rf x.r := fun x hx => by
  have : x.r ∈ ps.map RV.r := by rw [← h]; exact List.mem_map_of_mem hx
  obtain ⟨y, hy, e⟩ := List.mem_map.1 this
  rw [← e]
  exact hp y hy
theorem rpL_i (m : List (List Rn)) (i : Nat) (fr l : List Rn) : rpL m i fr l i = restD ((m[i]?).getD []) fr := if_pos rfl
theorem rpL_j (m : List (List Rn)) {i j : Nat} (hj : j = i + 1) (fr l : List Rn) : rpL m i fr l j = l := by
  unfold rpL
  rw [if_neg (by omega), if_pos hj]
theorem rpL_set {m : List (List Rn)} {i j : Nat} (hj : j = i + 1) {fr l l' : List Rn} {os : Nat → List RV} {qs : List RV} (h : ∀ k, k < 4 → (os k).map RV.r = rpL m i fr l k) (hq : qs.map RV.r = l') : ∀ k, k < 4 → (upd4 os j qs k).map RV.r = rpL m i fr l' k := fun k hk => by
  by_cases e : k = j
  · subst e
    rw [upd4_at, rpL_j m hj, hq]
  · rw [upd4_ne _ _ e, h k hk]
    unfold rpL
    rw [if_neg (c := k = i + 1) (by omega), if_neg (c := k = i + 1) (by omega)]
theorem rpL_start {m : List (List Rn)} {i j : Nat} (hj : j = i + 1) {fr : List Rn} {os : Nat → List RV} {qs : List RV} (h : ∀ k, k < 4 → (os k).map RV.r = (m[k]?).getD []) (hq : qs.map RV.r = restD ((m[i]?).getD []) fr) : ∀ k, k < 4 → (upd4 os i qs k).map RV.r = rpL m i fr ((m[j]?).getD []) k := fun k hk => by
  by_cases e : k = i
  · subst e
    rw [upd4_at, rpL_i, hq]
  · rw [upd4_ne _ _ e, h k hk]
    unfold rpL
    rw [if_neg e]
    split
    · rename_i e2; rw [e2, hj]
    · rfl
theorem len_of {os : List RV} {l : List Rn} (h : os.map RV.r = l) : os.length = l.length := by rw [← h, List.length_map]
theorem both_ways {goal : Prop} {α : Type} (G : World → α → Prop) (P : World → α → Prop) (h1 : (∀ X m, P X m → G X m) → goal) (h2 : ∀ X m, P X m → G X m) : goal := h1 h2
theorem rest_few (l gone : List Rn) : (restD l gone).length ≤ l.length := List.length_filter_le _ _
theorem lvl_few {ls : List LR} (h : ∀ x ∈ ls, x.rs.length ≤ 1000) (k : Nat) : (((rns ls)[k]?).getD []).length ≤ 1000 := by rw [← lvR_map, List.length_map]; exact lvR_bound h k
set_option maxRecDepth 100000 in
set_option maxHeartbeats 8000000 in
theorem lReplace_any {W : World} {A fa ta ra : Option Addr} {ls : List LR} {fs ts rs : List RV} (L C fc tc rc : Nat) (z : Int) (d : Bool) (hA : ReA W A ls L fa ta ra fs ts rs) : Calls Try.prog 11 #[.slice A L C, .agg (plC z (.slice fa fs.length fc) (.slice ta ts.length tc) d).toArray, .slice ra rs.length rc] W (ReP W (rns ls) z (fs.map RV.r) (ts.map RV.r) (rs.map RV.r)) := by
  have HA := hidIt hA
  clear hA
  by_cases hm : mayB (rns ls) = true
  · have MI : Hid (mayI (rns ls) = 0) := hidIt (by unfold mayI; rw [hm]; rfl)
    have MB := hidIt hm
    by_cases hg : 0 ≤ z ∧ z < 3
    · obtain ⟨i, rfl⟩ : ∃ i : Nat, z = (i : Int) := ⟨z.toNat, by omega⟩
      obtain ⟨j, hj⟩ : ∃ j, j = i + 1 := ⟨_, rfl⟩
      have GB : Hid ((decide (0 ≤ (i : Int)) && decide ((i : Int) < 3)) = true) := hidIt (by simp; omega)
      have IJ : Hid (j = i + 1 ∧ i < 4 ∧ j < 4 ∧ i ≠ j) := hidIt (by omega)
      have L4 : Hid (L ≤ 4) := hidIt (by have := ((mayB_at _).1 hm).1; unfold rns at this; have := HA.out.len; simp at *; omega)
      have w1 : IntKind.i64.wrap ((i : Int) + 1) = (j : Int) := by rw [IntKind.wrap_i64]; omega
      have w1' : wrap64 ((i : Int) + 1) = (j : Int) := by unfold wrap64; omega
      have KEEP : Hid (∀ U, Rec19 U W.heap.size 0 (plC (i : Int) (.slice fa fs.length fc) (.slice ta ts.length tc) d) → U.cell? ⟨W.heap.size, 0, none⟩ = some (.int .i64 (i : Int)) ∧ U.cell? ⟨W.heap.size, 1, none⟩ = some (.slice fa fs.length fc) ∧ U.cell? ⟨W.heap.size, 2, none⟩ = some (.slice ta ts.length tc)) := hidIt (fun U p => ⟨(p.cel 0 _ rfl).1, (p.cel 1 _ rfl).1, (p.cel 2 _ rfl).1⟩)
      have RL : Hid (∀ k, ∀ x ∈ lvR ls k, Rf x.r) := hidIt (fun k => lvR_all HA.out.rts k)
      have BL : Hid (∀ k, (lvR ls k).length ≤ 1000) := hidIt (fun k => lvR_bound HA.out.few k)
      have PB : Hid (preB (rns ls) (i : Int) (fs.map RV.r) (ts.map RV.r) = (fs.all (inD (rset (lvR ls i))) && ts.all (inD (rset (lvR ls j))))) := hidIt (by
        unfold preB
        rw [hm, Int.toNat_natCast, decide_eq_true (show (0 : Int) ≤ (i : Int) by omega), decide_eq_true (show (i : Int) < 3 by omega), all_map (RL.out i) HA.out.frt, all_map (RL.out j) HA.out.trt, lvR_map, lvR_map, hj]
        rfl)
      clear hm hg hj
      go_enter Try.func11, Try.ntmps11
      go_wp2_with (first
        | (refine wpList_box_rec rfl 25 (.tmp 1) rfl (plC (i : Int) (.slice fa fs.length fc) (.slice ta ts.length tc) d) rfl W.heap.size rfl ?_; intro W1 R1 B1 z1; have E1 : Hid (Below W.heap.size W W1 ∧ W1.heap.size = W.heap.size + 1) := hidIt ⟨B1, z1⟩; have P1 := hidIt R1; clear R1 B1 z1)
        | (go_at_call 17; refine (lcheck_any L C HA.out.len (HA.out.lvs.below E1.out.1) (fun x hx => by have := HA.out.few x hx; omega)).mono ?_; rw [MI.out]; rintro e W2 ⟨rfl, hb⟩; have E2 : Hid (Below W.heap.size W W2 ∧ W.heap.size + 1 ≤ W2.heap.size) := hidIt ⟨E1.out.1.trans (hb.mono E1.out.1.size), by have := hb.size; have := E1.out.2; omega⟩; have P2 := hidIt (P1.out.below hb); have p0 := (P2.out.cel 0 _ rfl).1; clear hb)
        | (go_at_call 18; refine (lmaygo_any _ _).mono ?_; rw [GB.out]; rintro e w3 ⟨rfl, hw⟩; rw [hw]; clear hw w3))
      clear p0 E1 P1 w1 w1'
      have ED : Hid (Below W.heap.size W W2.drew) := hidIt E2.out.1.drew
      have PD := hidIt (P2.out.below (Below.refl _ _).drew)
      refine wp_region_noPanic ?_
      refine wp_region_held_drew (S := fun w' => w'.cell? ⟨W.heap.size, 0, none⟩ = some (.int .i64 (i : Int)) ∧ w'.cell? ⟨W.heap.size, 1, none⟩ = some (.slice fa fs.length fc) ∧ w'.cell? ⟨W.heap.size, 2, none⟩ = some (.slice ta ts.length tc)) (by kernel_rfl) ?_ (fun hHeld => ?_)
      · exact KEEP.out _ PD.out
      refine take_at (i := 0) (v := ?_) (some 22) rfl rfl (by kernel_rfl) (by kernel_rfl) (by kernel_rfl) (fun _ _ _ h => h) (Or.inl ⟨by rfl, ?_⟩) (by assumption) ?_
      rotate_left
      · (intro w hSw; (try dsimp only at hSw); go_simp; try with_reducible rfl)
      simp only [Act.put, List.setIfInBounds_toArray, List.set_cons_zero, List.set_cons_succ]
      refine take_at (i := 1) (v := ?_) (some 23) rfl rfl (by kernel_rfl) (by kernel_rfl) (by kernel_rfl) (fun _ _ _ h => h) (Or.inl ⟨by rfl, ?_⟩) (by assumption) ?_
      rotate_left
      · (intro w hSw; (try dsimp only at hSw); go_simp; try with_reducible rfl)
      simp only [Act.put, List.setIfInBounds_toArray, List.set_cons_zero, List.set_cons_succ]
      refine take_at (i := 2) (v := ?_) (some 24) rfl rfl (by kernel_rfl) (by kernel_rfl) (by kernel_rfl) (fun _ _ _ h => h) (Or.inl ⟨by rfl, ?_⟩) (by assumption) ?_
      rotate_left
      · (intro w hSw; (try dsimp only at hSw); go_simp; try with_reducible rfl)
      simp only [Act.put, List.setIfInBounds_toArray, List.set_cons_zero, List.set_cons_succ]
      refine take_at (i := 5) (v := ?_) (some 27) rfl rfl (by kernel_rfl) (by kernel_rfl) (by kernel_rfl) (fun _ _ _ h => h) (Or.inl ⟨by rfl, ?_⟩) (by assumption) ?_
      rotate_left
      · (intro w hSw; (try dsimp only at hSw); go_simp; try with_reducible rfl)
      simp only [Act.put, List.setIfInBounds_toArray, List.set_cons_zero, List.set_cons_succ]
      refine take_at (i := 6) (v := ?_) (some 28) rfl rfl (by kernel_rfl) (by kernel_rfl) (by kernel_rfl) (fun _ _ _ h => h) (Or.inl ⟨by rfl, ?_⟩) (by assumption) ?_
      rotate_left
      · (intro w hSw; (try dsimp only at hSw); go_simp; try with_reducible rfl)
      simp only [Act.put, List.setIfInBounds_toArray, List.set_cons_zero, List.set_cons_succ]
      refine call_at (i := 3) (some 25) 19 _ _ rfl rfl rfl (by rfl) (by kernel_rfl) #[.slice A L C, .int .i64 (i : Int)] rfl Try.func19 (by kernel_rfl) (by kernel_rfl) ?_
      refine (lofs_any L C i _ rfl HA.out.len (HA.out.lvs.below ED.out) HA.out.l1).mono ?_
      rintro e w3 ⟨⟨ac, rfl, _⟩, rfl⟩
      refine ⟨_, rfl, KEEP.out _ PD.out, fun hHeld => ?_⟩
      simp only [Act.put, List.setIfInBounds_toArray, List.set_cons_zero, List.set_cons_succ]
      refine call_at (i := 4) (some 26) 27 _ _ rfl rfl rfl (by rfl) (by kernel_rfl) #[.slice (lvA ls i) (lvR ls i).length ac] rfl Try.func27 (by kernel_rfl) (by kernel_rfl) ?_
      refine (lrootsOf_any _ ac rfl ((lvA_ls HA.out.lvs i).below ED.out) (by have := BL.out i; omega) (RL.out i)).mono ?_
      rintro e W3 ⟨m1, q1, rfl, _, hM1, hb⟩
      have E3 := hidIt (ED.out.trans (hb.mono ED.out.size))
      have P3 := hidIt (PD.out.below hb)
      have M3 := hidIt hM1
      clear hb hM1
      refine ⟨_, rfl, KEEP.out _ P3.out, fun hHeld => ?_⟩
      simp only [Act.put, List.setIfInBounds_toArray, List.set_cons_zero, List.set_cons_succ]
      cases h1 : fs.all (inD (rset (lvR ls i))) with
      | false =>
        have NO : Hid (preB (rns ls) (i : Int) (fs.map RV.r) (ts.map RV.r) = false) := hidIt (by rw [PB.out, h1]; rfl)
        have H1 := hidIt h1
        clear h1
        refine call_at (i := 7) (some 29) 28 _ _ rfl rfl rfl (by rfl) (by kernel_rfl) #[.map (some m1), .slice fa fs.length fc] rfl Try.func28 (by kernel_rfl) (by kernel_rfl) ?_
        refine (lhaveAll_any _ fc rfl (HA.out.fls.below E3.out) (by have := HA.out.fn; omega) M3.out HA.out.frt).mono ?_
        rw [H1.out]
        rintro e W4 ⟨rfl, hb⟩
        have E4 := hidIt (E3.out.trans (hb.mono E3.out.size))
        have P4 := hidIt (P3.out.below hb)
        clear hb
        refine ⟨_, rfl, KEEP.out _ P4.out, fun hHeld => ?_⟩
        simp only [Act.put, List.setIfInBounds_toArray, List.set_cons_zero, List.set_cons_succ]
        refine take_at (i := 8) (v := ?_) (some 30) rfl rfl (by kernel_rfl) (by kernel_rfl) (by kernel_rfl) (fun _ _ _ h => h) (Or.inl ⟨by rfl, ?_⟩) (by assumption) ?_
        rotate_left
        · (intro w hSw; (try dsimp only at hSw); go_simp; try with_reducible rfl)
        simp only [Act.put, List.setIfInBounds_toArray, List.set_cons_zero, List.set_cons_succ]
        refine take_at (i := 9) (v := ?_) (some 31) rfl rfl (by kernel_rfl) (by kernel_rfl) (by kernel_rfl) (fun _ _ _ h => h) (Or.inl ⟨by rfl, ?_⟩) (by assumption) ?_
        rotate_left
        · (intro w hSw; (try dsimp only at hSw); go_simp; try with_reducible rfl)
        simp only [Act.put, List.setIfInBounds_toArray, List.set_cons_zero, List.set_cons_succ]
        refine take_at (i := 10) (v := undef) (some 32) rfl rfl (by kernel_rfl) (by kernel_rfl) (by kernel_rfl) (fun _ _ _ h => h) (Or.inr ⟨by rfl, rfl⟩) (by assumption) ?_
        simp only [Act.put, List.setIfInBounds_toArray, List.set_cons_zero, List.set_cons_succ]
        refine take_at (i := 11) (v := undef) (some 33) rfl rfl (by kernel_rfl) (by kernel_rfl) (by kernel_rfl) (fun _ _ _ h => h) (Or.inr ⟨by rfl, rfl⟩) (by assumption) ?_
        simp only [Act.put, List.setIfInBounds_toArray, List.set_cons_zero, List.set_cons_succ]
        refine take_at (i := 12) (v := undef) (some 34) rfl rfl (by kernel_rfl) (by kernel_rfl) (by kernel_rfl) (fun _ _ _ h => h) (Or.inr ⟨by rfl, rfl⟩) (by assumption) ?_
        simp only [Act.put, List.setIfInBounds_toArray, List.set_cons_zero, List.set_cons_succ]
        refine take_at (i := 13) (v := undef) (some 35) rfl rfl (by kernel_rfl) (by kernel_rfl) (by kernel_rfl) (fun _ _ _ h => h) (Or.inr ⟨by rfl, rfl⟩) (by assumption) ?_
        simp only [Act.put, List.setIfInBounds_toArray, List.set_cons_zero, List.set_cons_succ]
        refine take_at (i := 14) (v := undef) (some 36) rfl rfl (by kernel_rfl) (by kernel_rfl) (by kernel_rfl) (fun _ _ _ h => h) (Or.inr ⟨by rfl, rfl⟩) (by assumption) ?_
        simp only [Act.put, List.setIfInBounds_toArray, List.set_cons_zero, List.set_cons_succ]
        refine take_at (i := 15) (v := undef) (some 37) rfl rfl (by kernel_rfl) (by kernel_rfl) (by kernel_rfl) (fun _ _ _ h => h) (Or.inr ⟨by rfl, rfl⟩) (by assumption) ?_
        simp only [Act.put, List.setIfInBounds_toArray, List.set_cons_zero, List.set_cons_succ]
        refine take_at (i := 16) (v := undef) (some 38) rfl rfl (by kernel_rfl) (by kernel_rfl) (by kernel_rfl) (fun _ _ _ h => h) (Or.inr ⟨by rfl, rfl⟩) (by assumption) ?_
        simp only [Act.put, List.setIfInBounds_toArray, List.set_cons_zero, List.set_cons_succ]
        refine take_at (i := 17) (v := undef) (some 39) rfl rfl (by kernel_rfl) (by kernel_rfl) (by kernel_rfl) (fun _ _ _ h => h) (Or.inr ⟨by rfl, rfl⟩) (by assumption) ?_
        simp only [Act.put, List.setIfInBounds_toArray, List.set_cons_zero, List.set_cons_succ]
        refine take_at (i := 18) (v := ?_) (some 40) rfl rfl (by kernel_rfl) (by kernel_rfl) (by kernel_rfl) (fun _ _ _ h => h) (Or.inl ⟨by rfl, ?_⟩) (by assumption) ?_
        rotate_left
        · (intro w hSw; (try dsimp only at hSw); go_simp; try with_reducible rfl)
        simp only [Act.put, List.setIfInBounds_toArray, List.set_cons_zero, List.set_cons_succ]
        refine wpAnyH_done (by kernel_rfl) ?_ _
        refine NoPanic.normal ?_
        go_wp2_with fail
        exact bodyPost_ret (v := .tuple #[.slice none 0 0, .int .i64 2]) (by simp [results, Try.results11, go_sem]) rfl (.inl ⟨NO.out, rfl, E4.out⟩)
      | true =>
        have H1 := hidIt h1
        clear h1
        refine call_at (i := 7) (some 29) 28 _ _ rfl rfl rfl (by rfl) (by kernel_rfl) #[.map (some m1), .slice fa fs.length fc] rfl Try.func28 (by kernel_rfl) (by kernel_rfl) ?_
        refine (lhaveAll_any _ fc rfl (HA.out.fls.below E3.out) (by have := HA.out.fn; omega) M3.out HA.out.frt).mono ?_
        rw [H1.out]
        rintro e W4 ⟨rfl, hb⟩
        have E4 := hidIt (E3.out.trans (hb.mono E3.out.size))
        have P4 := hidIt (P3.out.below hb)
        clear hb
        refine ⟨_, rfl, KEEP.out _ P4.out, fun hHeld => ?_⟩
        simp only [Act.put, List.setIfInBounds_toArray, List.set_cons_zero, List.set_cons_succ]
        refine take_at (i := 8) (v := ?_) (some 30) rfl rfl (by kernel_rfl) (by kernel_rfl) (by kernel_rfl) (fun _ _ _ h => h) (Or.inl ⟨by rfl, ?_⟩) (by assumption) ?_
        rotate_left
        · (intro w hSw; (try dsimp only at hSw); go_simp; try with_reducible rfl)
        simp only [Act.put, List.setIfInBounds_toArray, List.set_cons_zero, List.set_cons_succ]
        refine take_at (i := 9) (v := ?_) (some 31) rfl rfl (by kernel_rfl) (by kernel_rfl) (by kernel_rfl) (fun _ _ _ h => h) (Or.inl ⟨by rfl, ?_⟩) (by assumption) ?_
        rotate_left
        · (intro w hSw; (try dsimp only at hSw); go_simp; try with_reducible rfl)
        simp only [Act.put, List.setIfInBounds_toArray, List.set_cons_zero, List.set_cons_succ]
        refine take_at (i := 10) (v := ?_) (some 32) rfl rfl (by kernel_rfl) (by kernel_rfl) (by kernel_rfl) (fun _ _ _ h => h) (Or.inl ⟨by rfl, ?_⟩) (by assumption) ?_
        rotate_left
        · (intro w hSw; (try dsimp only at hSw); go_simp; try with_reducible rfl)
        simp only [Act.put, List.setIfInBounds_toArray, List.set_cons_zero, List.set_cons_succ]
        refine take_at (i := 11) (v := ?_) (some 33) rfl rfl (by kernel_rfl) (by kernel_rfl) (by kernel_rfl) (fun _ _ _ h => h) (Or.inl ⟨by rfl, ?_⟩) (by assumption) ?_
        rotate_left
        · (intro w hSw; (try dsimp only at hSw); go_simp; try with_reducible rfl)
        simp only [Act.put, List.setIfInBounds_toArray, List.set_cons_zero, List.set_cons_succ]
        refine take_at (i := 14) (v := ?_) (some 36) rfl rfl (by kernel_rfl) (by kernel_rfl) (by kernel_rfl) (fun _ _ _ h => h) (Or.inl ⟨by rfl, ?_⟩) (by assumption) ?_
        rotate_left
        · (intro w hSw; (try dsimp only at hSw); go_simp; try with_reducible rfl)
        simp only [Act.put, List.setIfInBounds_toArray, List.set_cons_zero, List.set_cons_succ]
        refine take_at (i := 15) (v := ?_) (some 37) rfl rfl (by kernel_rfl) (by kernel_rfl) (by kernel_rfl) (fun _ _ _ h => h) (Or.inl ⟨by rfl, ?_⟩) (by assumption) ?_
        rotate_left
        · (intro w hSw; (try dsimp only at hSw); go_simp; try with_reducible rfl)
        simp only [Act.put, List.setIfInBounds_toArray, List.set_cons_zero, List.set_cons_succ]
        refine call_at (i := 12) (some 34) 19 _ _ rfl rfl rfl (by rfl) (by kernel_rfl) #[.slice A L C, .int .i64 (j : Int)] rfl Try.func19 (by kernel_rfl) (by kernel_rfl) ?_
        refine (lofs_any L C j _ rfl HA.out.len (HA.out.lvs.below E4.out) HA.out.l1).mono ?_
        rintro e w5 ⟨⟨bc, rfl, _⟩, rfl⟩
        refine ⟨_, rfl, KEEP.out _ P4.out, fun hHeld => ?_⟩
        simp only [Act.put, List.setIfInBounds_toArray, List.set_cons_zero, List.set_cons_succ]
        refine call_at (i := 13) (some 35) 27 _ _ rfl rfl rfl (by rfl) (by kernel_rfl) #[.slice (lvA ls j) (lvR ls j).length bc] rfl Try.func27 (by kernel_rfl) (by kernel_rfl) ?_
        refine (lrootsOf_any _ bc rfl ((lvA_ls HA.out.lvs j).below E4.out) (by have := BL.out j; omega) (RL.out j)).mono ?_
        rintro e W5 ⟨m2, q2, rfl, _, hM2, hb⟩
        have E5 := hidIt (E4.out.trans (hb.mono E4.out.size))
        have P5 := hidIt (P4.out.below hb)
        have M5 := hidIt hM2
        clear hb hM2
        refine ⟨_, rfl, KEEP.out _ P5.out, fun hHeld => ?_⟩
        simp only [Act.put, List.setIfInBounds_toArray, List.set_cons_zero, List.set_cons_succ]
        cases h2 : ts.all (inD (rset (lvR ls j))) with
        | false =>
          have NO : Hid (preB (rns ls) (i : Int) (fs.map RV.r) (ts.map RV.r) = false) := hidIt (by rw [PB.out, h2, Bool.and_false])
          have H2 := hidIt h2
          clear h2
          refine call_at (i := 16) (some 38) 28 _ _ rfl rfl rfl (by rfl) (by kernel_rfl) #[.map (some m2), .slice ta ts.length tc] rfl Try.func28 (by kernel_rfl) (by kernel_rfl) ?_
          refine (lhaveAll_any _ tc rfl (HA.out.tls.below E5.out) (by have := HA.out.tn; omega) M5.out HA.out.trt).mono ?_
          rw [H2.out]
          rintro e W6 ⟨rfl, hb⟩
          have E6 := hidIt (E5.out.trans (hb.mono E5.out.size))
          have P6 := hidIt (P5.out.below hb)
          clear hb
          refine ⟨_, rfl, KEEP.out _ P6.out, fun hHeld => ?_⟩
          simp only [Act.put, List.setIfInBounds_toArray, List.set_cons_zero, List.set_cons_succ]
          refine take_at (i := 17) (v := ?_) (some 39) rfl rfl (by kernel_rfl) (by kernel_rfl) (by kernel_rfl) (fun _ _ _ h => h) (Or.inl ⟨by rfl, ?_⟩) (by assumption) ?_
          rotate_left
          · (intro w hSw; (try dsimp only at hSw); go_simp; try with_reducible rfl)
          simp only [Act.put, List.setIfInBounds_toArray, List.set_cons_zero, List.set_cons_succ]
          refine take_at (i := 18) (v := ?_) (some 40) rfl rfl (by kernel_rfl) (by kernel_rfl) (by kernel_rfl) (fun _ _ _ h => h) (Or.inl ⟨by rfl, ?_⟩) (by assumption) ?_
          rotate_left
          · (intro w hSw; (try dsimp only at hSw); go_simp; try with_reducible rfl)
          simp only [Act.put, List.setIfInBounds_toArray, List.set_cons_zero, List.set_cons_succ]
          refine wpAnyH_done (by kernel_rfl) ?_ _
          refine NoPanic.normal ?_
          go_wp2_with fail
          exact bodyPost_ret (v := .tuple #[.slice none 0 0, .int .i64 2]) (by simp [results, Try.results11, go_sem]) rfl (.inl ⟨NO.out, rfl, E6.out⟩)
        | true =>
          have YES : Hid (preB (rns ls) (i : Int) (fs.map RV.r) (ts.map RV.r) = true) := hidIt (by rw [PB.out, h2, H1.out]; rfl)
          have H2 := hidIt h2
          clear h2
          refine call_at (i := 16) (some 38) 28 _ _ rfl rfl rfl (by rfl) (by kernel_rfl) #[.map (some m2), .slice ta ts.length tc] rfl Try.func28 (by kernel_rfl) (by kernel_rfl) ?_
          refine (lhaveAll_any _ tc rfl (HA.out.tls.below E5.out) (by have := HA.out.tn; omega) M5.out HA.out.trt).mono ?_
          rw [H2.out]
          rintro e W6 ⟨rfl, hb⟩
          have E6 : Hid (Below W.heap.size W W6 ∧ W.heap.size + 1 ≤ W6.heap.size) := hidIt ⟨E5.out.trans (hb.mono E5.out.size), by have := (P5.out.below hb).2.2; omega⟩
          have P6 := hidIt (P5.out.below hb)
          clear hb
          refine ⟨_, rfl, KEEP.out _ P6.out, fun hHeld => ?_⟩
          simp only [Act.put, List.setIfInBounds_toArray, List.set_cons_zero, List.set_cons_succ]
          refine take_at (i := 17) (v := ?_) (some 39) rfl rfl (by kernel_rfl) (by kernel_rfl) (by kernel_rfl) (fun _ _ _ h => h) (Or.inl ⟨by rfl, ?_⟩) (by assumption) ?_
          rotate_left
          · (intro w hSw; (try dsimp only at hSw); go_simp; try with_reducible rfl)
          simp only [Act.put, List.setIfInBounds_toArray, List.set_cons_zero, List.set_cons_succ]
          refine take_at (i := 18) (v := ?_) (some 40) rfl rfl (by kernel_rfl) (by kernel_rfl) (by kernel_rfl) (fun _ _ _ h => h) (Or.inl ⟨by rfl, ?_⟩) (by assumption) ?_
          rotate_left
          · (intro w hSw; (try dsimp only at hSw); go_simp; try with_reducible rfl)
          simp only [Act.put, List.setIfInBounds_toArray, List.set_cons_zero, List.set_cons_succ]
          refine wpAnyH_done (by kernel_rfl) ?_ _
          refine NoPanic.normal ?_
          clear hHeld
          go_wp2_with (go_at_call 29; refine (lcopied_any L C HA.out.len (HA.out.lvs.below E6.out.1) L4.out HA.out.few HA.out.siz).mono ?_; rintro e W7 ⟨g, lv, os, rfl, hf, hgs, hmm, hb⟩; have R7 : Hid (ReI W (i : Int) (.slice fa fs.length fc) (.slice ta ts.length tc) d (W6.heap.size + 3) g W7 lv os) := hidIt ⟨E6.out.1.trans (hb.mono E6.out.1.size), P6.out.below hb, hf, by have := hgs.1; have := E6.out.2; omega, by have := E6.out.2; omega, hgs.2⟩; have MM := hidIt hmm; clear hf hgs hmm hb; refine Held.out ?_)
          refine Held.mk ?_
          generalize W6.heap.size + 3 = B1 at *
          clear E2 P2 ED PD E3 P3 M3 E4 P4 E5 P5 M5 E6 P6
          have g0 : (0 : Int) ≤ (i : Int) := by omega
          have g1 : (i : Int) < 4 := by have := IJ.out; omega
          have g2 : (0 : Int) ≤ (j : Int) := by omega
          have g3 : (j : Int) < 4 := by have := IJ.out; omega
          -- DeleteFunc of the level
          have RD := hidIt (R7.out.below' (Below.refl _ _).drew)
          go_wp2_with fail
          refine wp_region_noPanic ?_
          refine wp_region_held_drew (S := fun w' => w'.cell? ⟨W.heap.size, 0, none⟩ = some (.int .i64 (i : Int)) ∧ w'.cell? ⟨W.heap.size, 1, none⟩ = some (.slice fa fs.length fc) ∧ w'.cell? ⟨W.heap.size, 2, none⟩ = some (.slice ta ts.length tc)) (by kernel_rfl) ?_ (fun hHeld => ?_)
          · exact KEEP.out _ RD.out.rc
          refine take_at (i := 0) (v := ?_) (some 43) rfl rfl (by kernel_rfl) (by kernel_rfl) (by kernel_rfl) (fun _ _ _ h => h) (Or.inl ⟨by rfl, ?_⟩) (by assumption) ?_
          rotate_left
          · (intro w hSw; (try dsimp only at hSw); go_simp; try with_reducible rfl)
          simp only [Act.put, List.setIfInBounds_toArray, List.set_cons_zero, List.set_cons_succ]
          refine take_at (i := 1) (v := ?_) (some 44) rfl rfl (by kernel_rfl) (by kernel_rfl) (by kernel_rfl) (fun _ _ _ h => h) (Or.inl ⟨by rfl, ?_⟩) (by assumption) ?_
          rotate_left
          · (intro w hSw; (try dsimp only at hSw); go_simp; try with_reducible rfl)
          simp only [Act.put, List.setIfInBounds_toArray, List.set_cons_zero, List.set_cons_succ]
          refine take_at (i := 2) (v := ?_) (some 45) rfl rfl (by kernel_rfl) (by kernel_rfl) (by kernel_rfl) (fun _ _ _ h => h) (Or.inl ⟨by rfl, ?_⟩) (by assumption) ?_
          rotate_left
          · (intro w hSw; (try dsimp only at hSw); go_simp; try with_reducible rfl)
          simp only [Act.put, List.setIfInBounds_toArray, List.set_cons_zero, List.set_cons_succ]
          refine take_at (i := 3) (v := ?_) (some 46) rfl rfl (by kernel_rfl) (by kernel_rfl) (by kernel_rfl) (fun _ _ _ h => h) (Or.inl ⟨by rfl, ?_⟩) (by assumption) ?_
          rotate_left
          · (intro w hSw; (try dsimp only at hSw); go_simp; try with_reducible rfl)
          simp only [Act.put, List.setIfInBounds_toArray, List.set_cons_zero, List.set_cons_succ]
          refine take_at (i := 4) (v := ?_) (some 47) rfl rfl (by kernel_rfl) (by kernel_rfl) (by kernel_rfl) (fun _ _ _ h => h) (Or.inl ⟨by rfl, ?_⟩) (by assumption) ?_
          rotate_left
          · (intro w hSw; (try dsimp only at hSw); go_simp; try with_reducible rfl)
          simp only [Act.put, List.setIfInBounds_toArray, List.set_cons_zero, List.set_cons_succ]
          refine take_at (i := 5) (v := ?_) (some 48) rfl rfl (by kernel_rfl) (by kernel_rfl) (by kernel_rfl) (fun _ _ _ h => h) (Or.inl ⟨by rfl, ?_⟩) (by assumption) ?_
          rotate_left
          · (intro w hSw; (try dsimp only at hSw); go_simp; try with_reducible rfl)
          simp only [Act.put, List.setIfInBounds_toArray, List.set_cons_zero, List.set_cons_succ]
          refine take_at (i := 6) (v := ?_) (some 49) rfl rfl (by kernel_rfl) (by kernel_rfl) (by kernel_rfl) (fun _ _ _ h => h) (Or.inl ⟨by rfl, ?_⟩) (by assumption) ?_
          rotate_left
          · (intro w hSw; (try dsimp only at hSw); go_simp; try with_reducible rfl)
          simp only [Act.put, List.setIfInBounds_toArray, List.set_cons_zero, List.set_cons_succ]
          refine take_at (i := 8) (v := ?_) (some 51) rfl rfl (by kernel_rfl) (by kernel_rfl) (by kernel_rfl) (fun _ _ _ h => h) (Or.inl ⟨by rfl, ?_⟩) (by assumption) ?_
          rotate_left
          · (intro w hSw; (try dsimp only at hSw); go_simp; try with_reducible rfl)
          simp only [Act.put, List.setIfInBounds_toArray, List.set_cons_zero, List.set_cons_succ]
          refine take_at (i := 9) (v := ?_) (some 52) rfl rfl (by kernel_rfl) (by kernel_rfl) (by kernel_rfl) (fun _ _ _ h => h) (Or.inl ⟨by rfl, ?_⟩) (by assumption) ?_
          rotate_left
          · (intro w hSw; (try dsimp only at hSw); go_simp; try with_reducible rfl)
          simp only [Act.put, List.setIfInBounds_toArray, List.set_cons_zero, List.set_cons_succ]
          apply both_ways (α := Nat) (P := fun X m => ∃ q, OwnsR X m q (rset fs) ∧ W7.drew.heap.size ≤ m ∧ Below W7.drew.heap.size W7.drew X)
          · intro NEXT
            have cl := RD.out.cell IJ.out.2.1
            refine duo2_at (i := 10) (j := 7) (some 53) (some 50) 27 #[.tmp 52] _ rfl rfl rfl rfl rfl (by rfl) (by rfl) (by kernel_rfl) (lv i) W7.drew (by go_simp) hHeld (fun hHeld => ?_) #[.slice fa fs.length fc] rfl Try.func27 (by kernel_rfl) (by kernel_rfl) ?_
            · clear cl
              simp only [Act.put, List.setIfInBounds_toArray, List.set_cons_zero, List.set_cons_succ]
              refine call_at (i := 10) (some 53) 27 _ _ rfl rfl rfl (by rfl) (by kernel_rfl) #[.slice fa fs.length fc] rfl Try.func27 (by kernel_rfl) (by kernel_rfl) ?_
              refine (lrootsOf_any _ fc rfl (HA.out.fls.below RD.out.below) (by have := HA.out.fn; omega) HA.out.frt).mono ?_
              rintro e W9 ⟨m, q, rfl, hmn, hM, hb⟩
              refine ⟨_, rfl, KEEP.out _ (RD.out.rc.below hb), fun _ => ?_⟩
              simp only [Act.put, List.setIfInBounds_toArray, List.set_cons_zero, List.set_cons_succ]
              refine take_at (i := 11) (v := ?_) (some 54) rfl rfl (by kernel_rfl) (by kernel_rfl) (by kernel_rfl) (fun _ _ _ h => h) (Or.inl ⟨by rfl, ?_⟩) (by assumption) ?_
              rotate_left
              · (intro w hSw; (try dsimp only at hSw); go_simp; try with_reducible rfl)
              simp only [Act.put, List.setIfInBounds_toArray, List.set_cons_zero, List.set_cons_succ]
              exact NEXT W9 m ⟨q, hM, hmn, hb⟩
            · clear cl
              refine (lrootsOf_any _ fc rfl (HA.out.fls.below RD.out.below) (by have := HA.out.fn; omega) HA.out.frt).mono ?_
              rintro e W9 ⟨m, q, rfl, hmn, hM, hb⟩
              refine ⟨_, rfl, KEEP.out _ (RD.out.rc.below hb), fun _ => ?_⟩
              simp only [Act.put, List.setIfInBounds_toArray, List.set_cons_zero, List.set_cons_succ]
              refine take_at (i := 11) (v := ?_) (some 54) rfl rfl (by kernel_rfl) (by kernel_rfl) (by kernel_rfl) (fun _ _ _ h => h) (Or.inl ⟨by rfl, ?_⟩) (by assumption) ?_
              rotate_left
              · (intro w hSw; (try dsimp only at hSw); go_simp; try with_reducible rfl)
              simp only [Act.put, List.setIfInBounds_toArray, List.set_cons_zero, List.set_cons_succ]
              have cl := (RD.out.below' hb).cell IJ.out.2.1
              refine step_at (i := 7) (some 50) rfl rfl (by rfl) (by kernel_rfl) (lv i) W9 (by go_simp) (KEEP.out _ (RD.out.rc.below hb)) (fun _ => ?_)
              clear cl
              simp only [Act.put, List.setIfInBounds_toArray, List.set_cons_zero, List.set_cons_succ]
              exact NEXT W9 m ⟨q, hM, hmn, hb⟩
          · rintro W9 m ⟨q, hM, hmn, hb⟩
            have R9 := hidIt (RD.out.below' hb)
            obtain ⟨ra0, rc0, hv0, ho0, hp0⟩ := R9.out.row IJ.out.2.1
            have hd := ldelete_any (m := m) (D := rset fs) (os i).length rc0 rfl ho0 hp0 (by have := len_of (MM.out i IJ.out.2.1); have := lvl_few HA.out.few i; omega) hM (fun b hb e => by have := (RD.out.fo.own i IJ.out.2.1).lt (b := b) (by rw [hv0]; exact hb); omega) (rts_of ((MM.out i IJ.out.2.1).trans (lvR_map ls i).symm) (RL.out i))
            rw [← hv0] at hd
            have HD := hidIt hd
            clear hd hv0 ho0 hp0 hM
            refine call_at (i := 12) (some 55) 30 _ _ rfl rfl rfl (by rfl) (by kernel_rfl) #[lv i, .func (.func 31) #[.map (some m)] #[]] rfl Try.func30 (by kernel_rfl) (by kernel_rfl) ?_
            refine HD.out.mono ?_
            intro e W10 hdl
            obtain ⟨v', rfl, hI⟩ := hdl.ins
            obtain ⟨hr, r2, r3⟩ := R9.out.set IJ.out.2.1 hI (fun x hx => R9.out.fo.oks i IJ.out.2.1 x (List.mem_filter.1 hx).1)
            have M7 := hidIt (rpL_start (fr := fs.map RV.r) IJ.out.1 MM.out (by rw [rest_map HA.out.frt (rts_of ((MM.out i IJ.out.2.1).trans (lvR_map ls i).symm) (RL.out i)), MM.out i IJ.out.2.1]))
            refine ⟨_, rfl, KEEP.out _ r2, fun hHeld => ?_⟩
            simp only [Act.put, List.setIfInBounds_toArray, List.set_cons_zero, List.set_cons_succ]
            refine take_at (i := 13) (v := ?_) (some 56) rfl rfl (by kernel_rfl) (by kernel_rfl) (by kernel_rfl) (fun _ _ _ h => h) (Or.inl ⟨by rfl, ?_⟩) (by assumption) ?_
            rotate_left
            · (intro w hSw; (try dsimp only at hSw); go_simp; try with_reducible rfl)
            simp only [Act.put, List.setIfInBounds_toArray, List.set_cons_zero, List.set_cons_succ]
            have R11 := hidIt r3
            have hr14 := hr
            clear r2 r3 hr hdl hI HD
            generalize W10.setCell ⟨g, i, none⟩ v' = W11 at *
            generalize upd4 lv i v' = lv7 at *
            generalize upd4 os i ((os i).filter fun x => !inD (rset fs) x) = os7 at *
            refine mute_at (i := 14) none rfl rfl (by rfl) (by kernel_rfl) W11 (put_mute 23 (.tmp 56) (.tmp 55) rfl _ _ rfl rfl hr14) (KEEP.out _ R11.out.rc) (fun hHeld => ?_)
            simp only [Act.put]
            clear hr14
            refine wpAnyH_done (by kernel_rfl) ?_ _
            refine NoPanic.normal ?_
            clear hHeld R9 RD R7 MM
            have RD := hidIt (R11.out.below' (Below.refl _ _).drew)
            go_wp2_with fail
            refine wp_region_noPanic ?_
            refine wp_region_held_drew (S := fun w' => w'.cell? ⟨W.heap.size, 0, none⟩ = some (.int .i64 (i : Int)) ∧ w'.cell? ⟨W.heap.size, 1, none⟩ = some (.slice fa fs.length fc) ∧ w'.cell? ⟨W.heap.size, 2, none⟩ = some (.slice ta ts.length tc)) (by kernel_rfl) ?_ (fun hHeld => ?_)
            · exact KEEP.out _ RD.out.rc
            refine take_at (i := 0) (v := ?_) (some 57) rfl rfl (by kernel_rfl) (by kernel_rfl) (by kernel_rfl) (fun _ _ _ h => h) (Or.inl ⟨by rfl, ?_⟩) (by assumption) ?_
            rotate_left
            · (intro w hSw; (try dsimp only at hSw); go_simp; try with_reducible rfl)
            simp only [Act.put, List.setIfInBounds_toArray, List.set_cons_zero, List.set_cons_succ]
            refine take_at (i := 1) (v := ?_) (some 58) rfl rfl (by kernel_rfl) (by kernel_rfl) (by kernel_rfl) (fun _ _ _ h => h) (Or.inl ⟨by rfl, ?_⟩) (by assumption) ?_
            rotate_left
            · (intro w hSw; (try dsimp only at hSw); go_simp; try with_reducible rfl)
            simp only [Act.put, List.setIfInBounds_toArray, List.set_cons_zero, List.set_cons_succ]
            refine take_at (i := 2) (v := ?_) (some 59) rfl rfl (by kernel_rfl) (by kernel_rfl) (by kernel_rfl) (fun _ _ _ h => h) (Or.inl ⟨by rfl, ?_⟩) (by assumption) ?_
            rotate_left
            · (intro w hSw; (try dsimp only at hSw); go_simp; try with_reducible rfl)
            simp only [Act.put, List.setIfInBounds_toArray, List.set_cons_zero, List.set_cons_succ]
            refine take_at (i := 3) (v := ?_) (some 60) rfl rfl (by kernel_rfl) (by kernel_rfl) (by kernel_rfl) (fun _ _ _ h => h) (Or.inl ⟨by rfl, ?_⟩) (by assumption) ?_
            rotate_left
            · (intro w hSw; (try dsimp only at hSw); go_simp; try with_reducible rfl)
            simp only [Act.put, List.setIfInBounds_toArray, List.set_cons_zero, List.set_cons_succ]
            refine take_at (i := 4) (v := ?_) (some 61) rfl rfl (by kernel_rfl) (by kernel_rfl) (by kernel_rfl) (fun _ _ _ h => h) (Or.inl ⟨by rfl, ?_⟩) (by assumption) ?_
            rotate_left
            · (intro w hSw; (try dsimp only at hSw); go_simp; try with_reducible rfl)
            simp only [Act.put, List.setIfInBounds_toArray, List.set_cons_zero, List.set_cons_succ]
            refine take_at (i := 6) (v := ?_) (some 63) rfl rfl (by kernel_rfl) (by kernel_rfl) (by kernel_rfl) (fun _ _ _ h => h) (Or.inl ⟨by rfl, ?_⟩) (by assumption) ?_
            rotate_left
            · (intro w hSw; (try dsimp only at hSw); go_simp; try with_reducible rfl)
            simp only [Act.put, List.setIfInBounds_toArray, List.set_cons_zero, List.set_cons_succ]
            refine take_at (i := 7) (v := ?_) (some 64) rfl rfl (by kernel_rfl) (by kernel_rfl) (by kernel_rfl) (fun _ _ _ h => h) (Or.inl ⟨by rfl, ?_⟩) (by assumption) ?_
            rotate_left
            · (intro w hSw; (try dsimp only at hSw); go_simp; try with_reducible rfl)
            simp only [Act.put, List.setIfInBounds_toArray, List.set_cons_zero, List.set_cons_succ]
            apply both_ways (α := Nat) (P := fun X m => ∃ q, OwnsR X m q (rset ts) ∧ W11.drew.heap.size ≤ m ∧ Below W11.drew.heap.size W11.drew X)
            · intro NEXT
              have cl := RD.out.cell IJ.out.2.2.1
              refine duo2_at (i := 8) (j := 5) (some 65) (some 62) 27 #[.tmp 64] _ rfl rfl rfl rfl rfl (by rfl) (by rfl) (by kernel_rfl) (lv7 j) W11.drew (by go_simp) hHeld (fun hHeld => ?_) #[.slice ta ts.length tc] rfl Try.func27 (by kernel_rfl) (by kernel_rfl) ?_
              · clear cl
                simp only [Act.put, List.setIfInBounds_toArray, List.set_cons_zero, List.set_cons_succ]
                refine call_at (i := 8) (some 65) 27 _ _ rfl rfl rfl (by rfl) (by kernel_rfl) #[.slice ta ts.length tc] rfl Try.func27 (by kernel_rfl) (by kernel_rfl) ?_
                refine (lrootsOf_any _ tc rfl (HA.out.tls.below RD.out.below) (by have := HA.out.tn; omega) HA.out.trt).mono ?_
                rintro e W12 ⟨m, q, rfl, hmn, hM, hb⟩
                refine ⟨_, rfl, KEEP.out _ (RD.out.rc.below hb), fun _ => ?_⟩
                simp only [Act.put, List.setIfInBounds_toArray, List.set_cons_zero, List.set_cons_succ]
                refine take_at (i := 9) (v := ?_) (some 66) rfl rfl (by kernel_rfl) (by kernel_rfl) (by kernel_rfl) (fun _ _ _ h => h) (Or.inl ⟨by rfl, ?_⟩) (by assumption) ?_
                rotate_left
                · (intro w hSw; (try dsimp only at hSw); go_simp; try with_reducible rfl)
                simp only [Act.put, List.setIfInBounds_toArray, List.set_cons_zero, List.set_cons_succ]
                exact NEXT W12 m ⟨q, hM, hmn, hb⟩
              · clear cl
                refine (lrootsOf_any _ tc rfl (HA.out.tls.below RD.out.below) (by have := HA.out.tn; omega) HA.out.trt).mono ?_
                rintro e W12 ⟨m, q, rfl, hmn, hM, hb⟩
                refine ⟨_, rfl, KEEP.out _ (RD.out.rc.below hb), fun _ => ?_⟩
                simp only [Act.put, List.setIfInBounds_toArray, List.set_cons_zero, List.set_cons_succ]
                refine take_at (i := 9) (v := ?_) (some 66) rfl rfl (by kernel_rfl) (by kernel_rfl) (by kernel_rfl) (fun _ _ _ h => h) (Or.inl ⟨by rfl, ?_⟩) (by assumption) ?_
                rotate_left
                · (intro w hSw; (try dsimp only at hSw); go_simp; try with_reducible rfl)
                simp only [Act.put, List.setIfInBounds_toArray, List.set_cons_zero, List.set_cons_succ]
                have cl := (RD.out.below' hb).cell IJ.out.2.2.1
                refine step_at (i := 5) (some 62) rfl rfl (by rfl) (by kernel_rfl) (lv7 j) W12 (by go_simp) (KEEP.out _ (RD.out.rc.below hb)) (fun _ => ?_)
                clear cl
                simp only [Act.put, List.setIfInBounds_toArray, List.set_cons_zero, List.set_cons_succ]
                exact NEXT W12 m ⟨q, hM, hmn, hb⟩
            · rintro W12 m ⟨q, hM, hmn, hb⟩
              have R12 := hidIt (RD.out.below' hb)
              obtain ⟨ra0, rc0, hv0, ho0, hp0⟩ := R12.out.row IJ.out.2.2.1
              have hj7 : (os7 j).map RV.r = (lvR ls j).map RV.r := by rw [M7.out j IJ.out.2.2.1, rpL_j _ IJ.out.1, lvR_map]
              have hd := ldelete_any (m := m) (D := rset ts) (os7 j).length rc0 rfl ho0 hp0 (by have := len_of hj7; rw [List.length_map] at this; have := BL.out j; omega) hM (fun b hb e => by have := (RD.out.fo.own j IJ.out.2.2.1).lt (b := b) (by rw [hv0]; exact hb); omega) (rts_of hj7 (RL.out j))
              rw [← hv0] at hd
              have HD := hidIt hd
              have J7 := hidIt hj7
              clear hd hv0 ho0 hp0 hM hj7
              refine call_at (i := 10) (some 67) 30 _ _ rfl rfl rfl (by rfl) (by kernel_rfl) #[lv7 j, .func (.func 31) #[.map (some m)] #[]] rfl Try.func30 (by kernel_rfl) (by kernel_rfl) ?_
              refine HD.out.mono ?_
              intro e W13 hdl
              obtain ⟨v', rfl, hI⟩ := hdl.ins
              obtain ⟨hr, r2, r3⟩ := R12.out.set IJ.out.2.2.1 hI (fun x hx => R12.out.fo.oks j IJ.out.2.2.1 x (List.mem_filter.1 hx).1)
              have M8 := hidIt (rpL_set (l' := restD (((rns ls)[j]?).getD []) (ts.map RV.r)) IJ.out.1 M7.out (qs := (os7 j).filter fun x => !inD (rset ts) x) (by rw [rest_map HA.out.trt (rts_of J7.out (RL.out j)), J7.out, lvR_map]))
              refine ⟨_, rfl, KEEP.out _ r2, fun hHeld => ?_⟩
              simp only [Act.put, List.setIfInBounds_toArray, List.set_cons_zero, List.set_cons_succ]
              refine take_at (i := 11) (v := ?_) (some 68) rfl rfl (by kernel_rfl) (by kernel_rfl) (by kernel_rfl) (fun _ _ _ h => h) (Or.inl ⟨by rfl, ?_⟩) (by assumption) ?_
              rotate_left
              · (intro w hSw; (try dsimp only at hSw); go_simp; try with_reducible rfl)
              simp only [Act.put, List.setIfInBounds_toArray, List.set_cons_zero, List.set_cons_succ]
              have R14 := hidIt r3
              have hr14 := hr
              clear r2 r3 hr hdl hI HD
              generalize W13.setCell ⟨g, j, none⟩ v' = W14 at *
              generalize upd4 lv7 j v' = lv8 at *
              generalize upd4 os7 j ((os7 j).filter fun x => !inD (rset ts) x) = os8 at *
              refine mute_at (i := 12) none rfl rfl (by rfl) (by kernel_rfl) W14 (put_mute 23 (.tmp 68) (.tmp 67) rfl _ _ rfl rfl hr14) (KEEP.out _ R14.out.rc) (fun hHeld => ?_)
              simp only [Act.put]
              clear hr14
              refine wpAnyH_done (by kernel_rfl) ?_ _
              refine NoPanic.normal ?_
              clear hHeld R12 RD R11 M7 J7
              have RD := hidIt (R14.out.below' (Below.refl _ _).drew)
              have LJ : Hid ((os8 j).length ≤ 1000) := hidIt (by rw [len_of (M8.out j IJ.out.2.2.1), rpL_j _ IJ.out.1]; exact Nat.le_trans (rest_few _ _) (lvl_few HA.out.few j))
              go_wp2_with fail
              refine wp_region_noPanic ?_
              refine wp_region_held_drew (S := fun w' => w'.cell? ⟨W.heap.size, 0, none⟩ = some (.int .i64 (i : Int)) ∧ w'.cell? ⟨W.heap.size, 1, none⟩ = some (.slice fa fs.length fc) ∧ w'.cell? ⟨W.heap.size, 2, none⟩ = some (.slice ta ts.length tc)) (by kernel_rfl) ?_ (fun hHeld => ?_)
              · exact KEEP.out _ RD.out.rc
              refine take_at (i := 0) (v := ?_) (some 69) rfl rfl (by kernel_rfl) (by kernel_rfl) (by kernel_rfl) (fun _ _ _ h => h) (Or.inl ⟨by rfl, ?_⟩) (by assumption) ?_
              rotate_left
              · (intro w hSw; (try dsimp only at hSw); go_simp; try with_reducible rfl)
              simp only [Act.put, List.setIfInBounds_toArray, List.set_cons_zero, List.set_cons_succ]
              refine take_at (i := 1) (v := ?_) (some 70) rfl rfl (by kernel_rfl) (by kernel_rfl) (by kernel_rfl) (fun _ _ _ h => h) (Or.inl ⟨by rfl, ?_⟩) (by assumption) ?_
              rotate_left
              · (intro w hSw; (try dsimp only at hSw); go_simp; try with_reducible rfl)
              simp only [Act.put, List.setIfInBounds_toArray, List.set_cons_zero, List.set_cons_succ]
              refine take_at (i := 2) (v := ?_) (some 71) rfl rfl (by kernel_rfl) (by kernel_rfl) (by kernel_rfl) (fun _ _ _ h => h) (Or.inl ⟨by rfl, ?_⟩) (by assumption) ?_
              rotate_left
              · (intro w hSw; (try dsimp only at hSw); go_simp; try with_reducible rfl)
              simp only [Act.put, List.setIfInBounds_toArray, List.set_cons_zero, List.set_cons_succ]
              refine take_at (i := 3) (v := ?_) (some 72) rfl rfl (by kernel_rfl) (by kernel_rfl) (by kernel_rfl) (fun _ _ _ h => h) (Or.inl ⟨by rfl, ?_⟩) (by assumption) ?_
              rotate_left
              · (intro w hSw; (try dsimp only at hSw); go_simp; try with_reducible rfl)
              simp only [Act.put, List.setIfInBounds_toArray, List.set_cons_zero, List.set_cons_succ]
              refine take_at (i := 4) (v := ?_) (some 73) rfl rfl (by kernel_rfl) (by kernel_rfl) (by kernel_rfl) (fun _ _ _ h => h) (Or.inl ⟨by rfl, ?_⟩) (by assumption) ?_
              rotate_left
              · (intro w hSw; (try dsimp only at hSw); go_simp; try with_reducible rfl)
              simp only [Act.put, List.setIfInBounds_toArray, List.set_cons_zero, List.set_cons_succ]
              refine take_at (i := 6) (v := ?_) (some 75) rfl rfl (by kernel_rfl) (by kernel_rfl) (by kernel_rfl) (fun _ _ _ h => h) (Or.inl ⟨by rfl, ?_⟩) (by assumption) ?_
              rotate_left
              · (intro w hSw; (try dsimp only at hSw); go_simp; try with_reducible rfl)
              simp only [Act.put, List.setIfInBounds_toArray, List.set_cons_zero, List.set_cons_succ]
              apply both_ways (α := Value) (P := fun X v => CsPost W14.drew (rs.map RV.r) (.returned v) X)
              · intro NEXT
                have cl := RD.out.cell IJ.out.2.2.1
                refine duo2_at (i := 7) (j := 5) (some 76) (some 74) 32 #[.tmp 75] _ rfl rfl rfl rfl rfl (by rfl) (by rfl) (by kernel_rfl) (lv8 j) W14.drew (by go_simp) hHeld (fun hHeld => ?_) #[.slice ra rs.length rc] rfl Try.func32 (by kernel_rfl) (by kernel_rfl) ?_
                · clear cl
                  simp only [Act.put, List.setIfInBounds_toArray, List.set_cons_zero, List.set_cons_succ]
                  refine call_at (i := 7) (some 76) 32 _ _ rfl rfl rfl (by rfl) (by kernel_rfl) #[.slice ra rs.length rc] rfl Try.func32 (by kernel_rfl) (by kernel_rfl) ?_
                  refine (copiedTables_any _ rc rfl (HA.out.rls.below RD.out.below) (by have := HA.out.rn; omega) HA.out.rsz).mono ?_
                  intro e W15 hcs
                  obtain ⟨v, rfl⟩ : ∃ v, e = .returned v := by obtain ⟨a, c, cs, he, _⟩ := hcs; exact ⟨_, he⟩
                  refine ⟨_, rfl, KEEP.out _ (RD.out.rc.below (by obtain ⟨_, _, _, _, _, _, _, _, hb⟩ := hcs; exact hb)), fun _ => ?_⟩
                  simp only [Act.put, List.setIfInBounds_toArray, List.set_cons_zero, List.set_cons_succ]
                  exact NEXT W15 v hcs
                · clear cl
                  refine (copiedTables_any _ rc rfl (HA.out.rls.below RD.out.below) (by have := HA.out.rn; omega) HA.out.rsz).mono ?_
                  intro e W15 hcs
                  obtain ⟨v, rfl⟩ : ∃ v, e = .returned v := by obtain ⟨a, c, cs, he, _⟩ := hcs; exact ⟨_, he⟩
                  have HB : Hid (Below W14.drew.heap.size W14.drew W15) := hidIt (by obtain ⟨_, _, _, _, _, _, _, _, hb⟩ := hcs; exact hb)
                  refine ⟨_, rfl, KEEP.out _ (RD.out.rc.below HB.out), fun _ => ?_⟩
                  simp only [Act.put, List.setIfInBounds_toArray, List.set_cons_zero, List.set_cons_succ]
                  have cl := (RD.out.below' HB.out).cell IJ.out.2.2.1
                  refine step_at (i := 5) (some 74) rfl rfl (by rfl) (by kernel_rfl) (lv8 j) W15 (by go_simp) (KEEP.out _ (RD.out.rc.below HB.out)) (fun _ => ?_)
                  clear cl
                  simp only [Act.put, List.setIfInBounds_toArray, List.set_cons_zero, List.set_cons_succ]
                  exact NEXT W15 v hcs
              · intro W15 v hcs
                obtain ⟨ca, cc, cs, he, o1, o2, o3, o4, hb⟩ := hcs
                injection he with he
                have R15 := hidIt (RD.out.below' hb)
                have CL : Hid (cs.map RV.r = rs.map RV.r ∧ cs.length ≤ 1000) := hidIt ⟨o4, by have := congrArg List.length o4; rw [List.length_map, List.length_map] at this; have := HA.out.rn; omega⟩
                obtain ⟨v', W16, hr8, hI⟩ := app_runs_any 23 W15 (lv8 j) (os8 j) cs ca cs.length cc rfl (R15.out.fo.own j IJ.out.2.2.1) (o1.ls (fun x hx => ((o3 x hx).2).any)) (by have := LJ.out; have := CL.out.2; omega)
                rw [← he] at hr8
                obtain ⟨hr, r2, r3⟩ := R15.out.set IJ.out.2.2.1 hI (fun x hx => by
                  rcases List.mem_append.1 hx with hx | hx
                  · exact R15.out.fo.oks j IJ.out.2.2.1 x hx
                  · exact (o3 x hx).lift (RD.out.lo.2.2) (fun b hb => RD.out.fo.foN_lt b hb))
                have M9 := hidIt (rpL_set (l' := restD (((rns ls)[j]?).getD []) (ts.map RV.r) ++ rs.map RV.r) IJ.out.1 M8.out (qs := os8 j ++ cs) (by rw [List.map_append, M8.out j IJ.out.2.2.1, rpL_j _ IJ.out.1, CL.out.1]))
                have HR := hidIt (And.intro hr8 (KEEP.out _ r2))
                clear o1 o2 o3 o4 hb hr8 r2 he hI
                refine step_at (i := 8) (some 77) rfl rfl (by rfl) (by kernel_rfl) v' W16 (app_runv (.tmp 74) (.tmp 76) 23 23 rfl _ _ rfl rfl HR.out.1) HR.out.2 (fun hHeld => ?_)
                simp only [Act.put, List.setIfInBounds_toArray, List.set_cons_zero, List.set_cons_succ]
                refine take_at (i := 9) (v := ?_) (some 78) rfl rfl (by kernel_rfl) (by kernel_rfl) (by kernel_rfl) (fun _ _ _ h => h) (Or.inl ⟨by rfl, ?_⟩) (by assumption) ?_
                rotate_left
                · (intro w hSw; (try dsimp only at hSw); go_simp; try with_reducible rfl)
                simp only [Act.put, List.setIfInBounds_toArray, List.set_cons_zero, List.set_cons_succ]
                have R17 := hidIt r3
                have hr14 := hr
                clear r3 hr HR
                generalize W16.setCell ⟨g, j, none⟩ v' = W17 at *
                generalize upd4 lv8 j v' = lv9 at *
                generalize upd4 os8 j (os8 j ++ cs) = os9 at *
                refine mute_at (i := 10) none rfl rfl (by rfl) (by kernel_rfl) W17 (put_mute 23 (.tmp 78) (.tmp 77) rfl _ _ rfl rfl hr14) (KEEP.out _ R17.out.rc) (fun hHeld => ?_)
                simp only [Act.put]
                clear hr14
                refine wpAnyH_done (by kernel_rfl) ?_ _
                refine NoPanic.normal ?_
                clear hHeld R15 RD R14 M8 LJ CL
                -- the sort
                obtain ⟨ra0, rc0, hv0, ho0, hp0⟩ := R17.out.row IJ.out.2.2.1
                have L9 : Hid ((os9 j).length ≤ 2000) := hidIt (by rw [len_of (M9.out j IJ.out.2.2.1), rpL_j _ IJ.out.1, List.length_append, List.length_map]; have := rest_few (((rns ls)[j]?).getD []) (ts.map RV.r); have := lvl_few HA.out.few j; have := HA.out.rn; omega)
                have hs := lsort_any (os9 j).length rc0 rfl ho0 hp0 (by have := L9.out; omega)
                have V9 := hidIt hv0
                rw [← hv0] at hs
                have HS := hidIt hs
                have cl := R17.out.cell IJ.out.2.2.1
                clear hs hv0 ho0 hp0
                go_wp2_with (first
                  | (go_at_call 33; refine HS.out.mono ?_; intro e W18 hsp; obtain ⟨rfl, qs, hq1, hq2, hI⟩ := hsp.ins; rw [← V9.out] at hI; have R18 := hidIt (R17.out.keep IJ.out.2.2.1 hI (fun x hx => R17.out.fo.oks j IJ.out.2.2.1 x (hq1.mem_iff.1 hx))); have M10 := hidIt (rpL_set (l' := qs.map RV.r) IJ.out.1 M9.out (qs := qs) rfl); have QQ : Hid ((qs.map RV.r).Perm (restD (((rns ls)[j]?).getD []) (ts.map RV.r) ++ rs.map RV.r) ∧ (qs.map RV.r).Pairwise (fun x y => cmpB x.f y.f ≤ 0)) := hidIt ⟨(by have := hq1.map RV.r; rw [M9.out j IJ.out.2.2.1, rpL_j _ IJ.out.1] at this; exact this), List.pairwise_map.2 hq2⟩; clear hsp hq1 hq2 hI cl; refine Held.out ?_))
                refine Held.mk ?_
                generalize upd4 os9 j qs = os10 at *
                obtain ⟨ls', hl', hlv', hat', hrn⟩ := R18.out.fo.lvs
                have FIN : Hid (rns ls' = [rpL (rns ls) i (fs.map RV.r) (qs.map RV.r) 0, rpL (rns ls) i (fs.map RV.r) (qs.map RV.r) 1, rpL (rns ls) i (fs.map RV.r) (qs.map RV.r) 2, rpL (rns ls) i (fs.map RV.r) (qs.map RV.r) 3]) := hidIt (by rw [hrn, M10.out 0 (by omega), M10.out 1 (by omega), M10.out 2 (by omega), M10.out 3 (by omega)])
                have LV := hidIt (And.intro hl' hlv')
                have FEW : Hid (∀ x ∈ ls', x.rs.length ≤ 100000) := hidIt (fun x hx => by
                  obtain ⟨k, hk⟩ := List.mem_iff_getElem?.1 hx
                  have kl := (List.getElem?_eq_some_iff.1 hk).1
                  obtain ⟨x', hx', _, hr'⟩ := hat' k (by omega)
                  rw [hk] at hx'
                  injection hx' with hx'
                  subst hx'
                  rw [hr', len_of (M10.out k (by omega))]
                  have q1 := QQ.out.1.length_eq
                  have q2 := rest_few (((rns ls)[j]?).getD []) (ts.map RV.r)
                  have q3 := lvl_few HA.out.few j
                  have q4 := rest_few (((rns ls)[i]?).getD []) (fs.map RV.r)
                  have q5 := lvl_few HA.out.few i
                  have q6 := lvl_few HA.out.few k
                  have q7 := HA.out.rn
                  simp only [List.length_append, List.length_map] at q1
                  unfold rpL
                  split
                  · omega
                  · split
                    · rw [List.length_map]; omega
                    · omega)
                clear hl' hlv' hat' hrn
                cases hmb : mayB (rns ls') with
                | false =>
                  have NO : Hid (mayB [rpL (rns ls) i (fs.map RV.r) (qs.map RV.r) 0, rpL (rns ls) i (fs.map RV.r) (qs.map RV.r) 1, rpL (rns ls) i (fs.map RV.r) (qs.map RV.r) 2, rpL (rns ls) i (fs.map RV.r) (qs.map RV.r) 3] = false) := hidIt (by rw [← FIN.out, hmb])
                  have MI2 : Hid (mayI (rns ls') = 2) := hidIt (by unfold mayI; rw [hmb]; rfl)
                  clear hmb
                  go_wp2_with (go_at_call 17; refine (lcheck_any 4 4 LV.out.1 LV.out.2 FEW.out).mono ?_; rw [MI2.out]; rintro e W19 ⟨rfl, hb⟩; have E19 := hidIt (R18.out.below.trans (hb.mono R18.out.below.size)); clear hb)
                  exact bodyPost_ret (v := .tuple #[.slice none 0 0, .int .i64 2]) (by simp [results, Try.results11, go_sem]) rfl (.inr ⟨YES.out, qs.map RV.r, by rw [Int.toNat_natCast, ← IJ.out.1]; exact QQ.out.1, QQ.out.2, .inl ⟨by rw [Int.toNat_natCast]; exact NO.out, rfl, E19.out⟩⟩)
                | true =>
                  have OKB : Hid (mayB [rpL (rns ls) i (fs.map RV.r) (qs.map RV.r) 0, rpL (rns ls) i (fs.map RV.r) (qs.map RV.r) 1, rpL (rns ls) i (fs.map RV.r) (qs.map RV.r) 2, rpL (rns ls) i (fs.map RV.r) (qs.map RV.r) 3] = true) := hidIt (by rw [← FIN.out, hmb])
                  have MI2 : Hid (mayI (rns ls') = 0) := hidIt (by unfold mayI; rw [hmb]; rfl)
                  clear hmb
                  go_wp2_with (go_at_call 17; refine (lcheck_any 4 4 LV.out.1 LV.out.2 FEW.out).mono ?_; rw [MI2.out]; rintro e W19 ⟨rfl, hb⟩; have R19 := hidIt (R18.out.below' hb); clear hb)
                  exact bodyPost_ret (v := .tuple #[.slice (some ⟨g, 0, none⟩) 4 4, .int .i64 0]) (by simp [results, Try.results11, go_sem]) rfl (.inr ⟨YES.out, qs.map RV.r, by rw [Int.toNat_natCast, ← IJ.out.1]; exact QQ.out.1, QQ.out.2, .inr ⟨by rw [Int.toNat_natCast]; exact OKB.out, _, _, _, _, rfl, R19.out.fo, R19.out.lo.1, R19.out.lo.2.1, by rw [Int.toNat_natCast]; exact M10.out, R19.out.below⟩⟩)
    · have NO : Hid (preB (rns ls) z (fs.map RV.r) (ts.map RV.r) = false) := hidIt (by
        unfold preB
        by_cases q : 0 ≤ z
        · rw [decide_eq_false (p := z < 3) (fun r => hg ⟨q, r⟩)]; simp
        · rw [decide_eq_false q]; simp)
      have GB : Hid ((decide (0 ≤ z) && decide (z < 3)) = false) := hidIt (by
        by_cases q : 0 ≤ z
        · rw [decide_eq_false (p := z < 3) (fun r => hg ⟨q, r⟩)]; simp
        · rw [decide_eq_false q]; simp)
      clear hm hg
      go_enter Try.func11, Try.ntmps11
      go_wp2_with (first
        | (refine wpList_box_rec rfl 25 (.tmp 1) rfl (plC z (.slice fa fs.length fc) (.slice ta ts.length tc) d) rfl W.heap.size rfl ?_; intro W1 R1 B1 z1; have E1 := hidIt B1; have P1 := hidIt R1; clear R1 B1 z1)
        | (go_at_call 17; refine (lcheck_any L C HA.out.len (HA.out.lvs.below E1.out) (fun x hx => by have := HA.out.few x hx; omega)).mono ?_; rw [MI.out]; rintro e W2 ⟨rfl, hb⟩; have E2 := hidIt (E1.out.trans (hb.mono E1.out.size)); have p0 := ((P1.out.below hb).cel 0 _ rfl).1; clear hb)
        | (go_at_call 18; refine (lmaygo_any _ _).mono ?_; rw [GB.out]; rintro e w3 ⟨rfl, hw⟩; rw [hw]; clear hw w3))
      exact bodyPost_ret (v := .tuple #[.slice none 0 0, .int .i64 2]) (by simp [results, Try.results11, go_sem]) rfl (.inl ⟨NO.out, rfl, E2.out⟩)
  · have MI : Hid (mayI (rns ls) = 2) := hidIt (by unfold mayI; rw [if_neg hm])
    have NO : Hid (preB (rns ls) z (fs.map RV.r) (ts.map RV.r) = false) := hidIt (by unfold preB; rw [Bool.eq_false_iff.2 hm]; simp)
    clear hm
    go_enter Try.func11, Try.ntmps11
    go_wp2_with (first
      | (refine wpList_box_rec rfl 25 (.tmp 1) rfl (plC z (.slice fa fs.length fc) (.slice ta ts.length tc) d) rfl W.heap.size rfl ?_; intro W1 R1 B1 z1; have E1 := hidIt B1; clear R1 B1 z1)
      | (go_at_call 17; refine (lcheck_any L C HA.out.len (HA.out.lvs.below E1.out) (fun x hx => by have := HA.out.few x hx; omega)).mono ?_; rw [MI.out]; rintro e W2 ⟨rfl, hb⟩; have E2 := hidIt (E1.out.trans (hb.mono E1.out.size)); clear hb))
    exact bodyPost_ret (v := .tuple #[.slice none 0 0, .int .i64 2]) (by simp [results, Try.results11, go_sem]) rfl (.inl ⟨NO.out, rfl, E2.out⟩)
end Go.Proofs.Ytelcijfcgflagaa
namespace Go.Proofs.Ytelcijfcgflagaa
open Go.RowKit
attribute [-go_sem] Builtin.append_
theorem eql_two (p q p' q' : Int) (w : World) : (binOp .eql 42 (.agg (twoC p q).toArray) (.agg (twoC p' q').toArray)).run Try.prog w = .ok (.bool (decide (p = p' ∧ q = q'))) w := by
  by_cases h1 : p = p' <;> by_cases h2 : q = q' <;> simp [go_sem, twoC, h1, h2]
theorem guard_ref : Try.prog.eqGuardType Try.prog.depth 42 = false := by kernel_rfl
theorem eql_exec {a : Act} {w : World} {o : Oper} (t' : TypeId) (x y : Operand) (ho : o.op = .binOp .eql 42 x y t') (p q p' q' : Int) (b : Bool) (hx : a.eval x = .agg (twoC p q).toArray) (hy : a.eval y = .agg (twoC p' q').toArray) (hb : decide (p = p' ∧ q = q') = b) : (execOp a.eval o).run Try.prog w = .ok (.value (.bool b)) w := by
  subst hb
  unfold execOp
  simp only [ho, hx, hy, Sem.run_bind, run_eqGuard_agg _ _ _ _ _ _ _ guard_ref, Result.andThen_ok, eql_two]
  rfl
def eqR (x g : Rn) : Bool := decide (x.ad = g.ad ∧ x.st = g.st)
theorem hasR_eq (l : List RV) (g : Rn) : hasR (l.map RV.r) g = l.any fun x => eqR x.r g := by unfold hasR eqR; rw [List.any_map]; rfl
theorem eqR_comm (x g : Rn) : eqR x g = eqR g x := by unfold eqR; congr 1; rw [eq_comm (a := x.ad), eq_comm (a := x.st)]
theorem any_snoc {l : List RV} {k : Nat} {x : RV} (h : l[k]? = some x) (p : RV → Bool) : (l.take (k + 1)).any p = ((l.take k).any p || p x) := by
  obtain ⟨hl, rfl⟩ := List.getElem?_eq_some_iff.1 h
  rw [List.take_succ_eq_append_getElem hl, List.any_append]
  simp
theorem all_snoc {l : List RV} {k : Nat} {x : RV} (h : l[k]? = some x) (p : RV → Bool) : (l.take (k + 1)).all p = ((l.take k).all p && p x) := by
  obtain ⟨hl, rfl⟩ := List.getElem?_eq_some_iff.1 h
  rw [List.take_succ_eq_append_getElem hl, List.all_append]
  simp
theorem root_cells {W : World} {b o : Nat} {x : RV} (h : W.rangeAt b o x.cs) : W.rangeAt b o (twoC x.r.ad x.r.st) := fun j v hj => by
  match j with
  | 0 => exact h 0 v hj
  | 1 => exact h 1 v hj
  | j + 2 => cases hj
/-- The tables that stay. -/
def stayL (ps gs : List RV) : List RV := ps.filter fun x => !gs.any fun g => eqR x.r g.r
theorem stay_map (ps gs : List RV) : (stayL ps gs).map RV.r = restD (ps.map RV.r) (gs.map RV.r) := by
  unfold stayL restD
  rw [List.filter_map]
  congr 1
  apply List.filter_congr
  intro x _
  show _ = !hasR (gs.map RV.r) x.r
  rw [hasR_eq]
  congr 2
  funext g
  exact eqR_comm _ _
structure NoI (W : World) (ps gs : List RV) (k : Nat) (wr : World) (v : Value) : Prop where
  own : OwnR wr 0 v (stayL (ps.take k) gs)
  new : ∀ b, v.ownBlock = some b → W.heap.size ≤ b
  below : Below W.heap.size W wr
theorem NoI.up {W wr w' : World} {ps gs : List RV} {k : Nat} {v : Value} (h : NoI W ps gs k wr v) (hB : Below wr.heap.size wr w') : NoI W ps gs k w' v := ⟨h.own.below hB, h.new, h.below.trans (hB.mono h.below.size)⟩
theorem stay_snoc {ps gs : List RV} {k : Nat} {x : RV} (h : ps[k]? = some x) : stayL (ps.take (k + 1)) gs = stayL (ps.take k) gs ++ (if (gs.any fun g => eqR x.r g.r) then [] else [x]) := by
  obtain ⟨hl, rfl⟩ := List.getElem?_eq_some_iff.1 h
  unfold stayL
  rw [List.take_succ_eq_append_getElem hl, List.filter_append]
  congr 1
  rw [List.filter_cons, List.filter_nil]
  cases (gs.any fun g => eqR ps[k].r g.r) <;> rfl
theorem NoI.skip {W wr : World} {ps gs : List RV} {k : Nat} {v : Value} {x : RV} (h : NoI W ps gs k wr v) (hx : ps[k]? = some x) (hn : (gs.any fun g => eqR x.r g.r) = true) : NoI W ps gs (k + 1) wr v := ⟨by rw [stay_snoc hx, hn]; simpa using h.own, h.new, h.below⟩
theorem NoI.app {W wr w' : World} {ps gs : List RV} {k : Nat} {v v6 : Value} {x : RV} (h : NoI W ps gs k wr v) (hx : ps[k]? = some x) (hn : (gs.any fun g => eqR x.r g.r) = false) (hI : InsR wr v (stayL (ps.take k) gs ++ [x]) v6 w') : NoI W ps gs (k + 1) w' v6 := ⟨by rw [stay_snoc hx, hn]; exact hI.own, fun b hb => by
  rcases hI.blk b hb with q | q
  · exact h.new b q
  · exact Nat.le_trans h.below.size q, h.below.trans (hI.off.below (fun b hb => h.new b (by simpa using hb)) h.below.size)⟩
/-- What without answers. -/
def NwoP (W : World) (ps gs : List RV) (e : Ending) (w' : World) : Prop := ∃ a c, e = .returned (.tuple #[.slice a (stayL ps gs).length c, .bool (gs.all fun g => ps.any fun x => eqR x.r g.r)]) ∧ OwnR w' 0 (.slice a (stayL ps gs).length c) (stayL ps gs) ∧ (∀ b, (Value.slice a (stayL ps gs).length c).ownBlock = some b → W.heap.size ≤ b) ∧ Below W.heap.size W w'
set_option maxRecDepth 100000 in
set_option maxHeartbeats 8000000 in
theorem nwithout_any {W : World} {a b : Option Addr} {ps gs : List RV} (n C m D : Nat) (hn : ps.length = n) (hL : LsR W a ps) (hm : gs.length = m) (hG : LsR W b gs) (hf : n ≤ 50000) (hg : m ≤ 50000) : Calls Try.prog 36 #[.slice a n C, .slice b m D] W (NwoP W ps gs) := by
  have HL := hidIt hL
  have HG := hidIt hG
  have HN := hidIt (And.intro hn (And.intro hm (And.intro hf hg)))
  have E0 : Hid (Below W.heap.size W W) := hidIt (Below.refl _ _)
  clear hn hL hm hG hf hg
  go_enter Try.func36, Try.ntmps36
  go_wp2_with fail
  go_loopw [6, 7] (fun bv iv wr => ∃ k : Nat, k ≤ m ∧ iv = .int .i64 (k : Int) ∧ bv = .bool ((gs.take k).all fun g => ps.any fun x => eqR x.r g.r) ∧ Hid (Below W.heap.size W wr)) (fun _ iv _ => m - (RowKit.intOf iv).toNat)
  case atStart => exact ⟨0, Nat.zero_le _, rfl, by rw [List.take_zero]; rfl, E0⟩
  case round =>
    clear E0
    obtain ⟨k, hk, rfl, rfl, EB⟩ := hrel
    rename World => wr
    by_cases hlt : k < m
    · obtain ⟨y, hy⟩ : ∃ y, gs[k]? = some y := ⟨_, List.getElem?_eq_getElem (by have := HN.out.2.1; omega)⟩
      obtain ⟨gb, go, ha, hr, hb⟩ := HG.out.at k y hy
      subst ha
      have YR : Hid (∀ U, Below W.heap.size W U → U.rangeAt gb (go + k * 5) (twoC y.r.ad y.r.st)) := hidIt (fun U hU => root_cells (fun j v hj => (hU.cell (p := ⟨gb, go + k * 5 + j, none⟩) hb).trans (hr j v hj)))
      have LT := hidIt hlt
      have HY := hidIt hy
      obtain ⟨i0, i1, i2, i3, i4⟩ := tb_ar k m hlt (by have := HN.out.2.2.2; omega)
      have AR := hidIt (And.intro i0 (And.intro i1 (And.intro i2 i3)))
      have GO := hidIt i4
      obtain ⟨ok, hok⟩ : ∃ ok, ok = (gs.take k).all fun g => ps.any fun x => eqR x.r g.r := ⟨_, rfl⟩
      rw [← hok]
      have OK := hidIt hok
      clear hy hlt hk hr hb i4 hok
      go_wp2_with fail
      clear i0 i1 i2 i3
      go_loopw [8, 9] (fun bv iv wr => ∃ j : Nat, j ≤ n ∧ iv = .int .i64 (j : Int) ∧ bv = .bool ((ps.take j).any fun x => eqR x.r y.r) ∧ Hid (Below W.heap.size W wr)) (fun _ iv _ => n - (RowKit.intOf iv).toNat)
      case atStart => exact ⟨0, Nat.zero_le _, rfl, by rw [List.take_zero]; rfl, EB⟩
      case round =>
        clear EB
        obtain ⟨j, hj, rfl, rfl, EB⟩ := hrel
        rename World => wi
        obtain ⟨n0, n1, n2, n3⟩ := AR.out
        by_cases hjt : j < n
        · obtain ⟨x, hx⟩ : ∃ x, ps[j]? = some x := ⟨_, List.getElem?_eq_getElem (by have := HN.out.1; omega)⟩
          obtain ⟨lb, lo, ha, hr, hb⟩ := HL.out.at j x hx
          subst ha
          have XR : Hid (∀ U, Below W.heap.size W U → U.rangeAt lb (lo + j * 5) (twoC x.r.ad x.r.st)) := hidIt (fun U hU => root_cells (fun q v hq => (hU.cell (p := ⟨lb, lo + j * 5 + q, none⟩) hb).trans (hr q v hq)))
          have JT := hidIt hjt
          have AN := hidIt (any_snoc hx fun x => eqR x.r y.r)
          obtain ⟨k0, k1, k2, k3, k4⟩ := tb_ar j n hjt (by have := HN.out.2.2.1; omega)
          have GJ := hidIt k4
          have ED := hidIt EB.out.drew
          clear hx hjt hj hr hb k4
          cases hb8 : (ps.take j).any fun x => eqR x.r y.r with
          | true =>
            have NB : Hid (((ps.take (j + 1)).any fun x => eqR x.r y.r) = true) := hidIt (by rw [AN.out, hb8]; rfl)
            clear hb8
            go_wp2_with fail
            refine wp_region_noPanic ?_
            refine wp_region_held_drew (S := fun _ => True) (by kernel_rfl) ?_ (fun hHeld => ?_)
            · trivial
            refine take_at (i := 0) (v := ?_) (some 26) rfl rfl (by kernel_rfl) (by kernel_rfl) (by kernel_rfl) (fun _ _ _ h => h) (Or.inl ⟨by rfl, ?_⟩) (by assumption) ?_
            rotate_left
            · (intro w hSw; (try dsimp only at hSw); go_simp; try with_reducible rfl)
            simp only [Act.put, List.setIfInBounds_toArray, List.set_cons_zero, List.set_cons_succ]
            refine take_at (i := 1) (v := ?_) (some 27) rfl rfl (by kernel_rfl) (by kernel_rfl) (by kernel_rfl) (fun _ _ _ h => h) (Or.inl ⟨by rfl, ?_⟩) (by assumption) ?_
            rotate_left
            · (intro w hSw; (try dsimp only at hSw); go_simp; try with_reducible rfl)
            simp only [Act.put, List.setIfInBounds_toArray, List.set_cons_zero, List.set_cons_succ]
            refine take_at (i := 2) (v := undef) (some 28) rfl rfl (by kernel_rfl) (by kernel_rfl) (by kernel_rfl) (fun _ _ _ h => h) (Or.inr ⟨by rfl, rfl⟩) (by assumption) ?_
            simp only [Act.put, List.setIfInBounds_toArray, List.set_cons_zero, List.set_cons_succ]
            refine take_at (i := 3) (v := undef) (some 29) rfl rfl (by kernel_rfl) (by kernel_rfl) (by kernel_rfl) (fun _ _ _ h => h) (Or.inr ⟨by rfl, rfl⟩) (by assumption) ?_
            simp only [Act.put, List.setIfInBounds_toArray, List.set_cons_zero, List.set_cons_succ]
            refine take_at (i := 4) (v := undef) (some 30) rfl rfl (by kernel_rfl) (by kernel_rfl) (by kernel_rfl) (fun _ _ _ h => h) (Or.inr ⟨by rfl, rfl⟩) (by assumption) ?_
            simp only [Act.put, List.setIfInBounds_toArray, List.set_cons_zero, List.set_cons_succ]
            refine take_at (i := 5) (v := undef) (some 31) rfl rfl (by kernel_rfl) (by kernel_rfl) (by kernel_rfl) (fun _ _ _ h => h) (Or.inr ⟨by rfl, rfl⟩) (by assumption) ?_
            simp only [Act.put, List.setIfInBounds_toArray, List.set_cons_zero, List.set_cons_succ]
            refine take_at (i := 6) (v := undef) (some 32) rfl rfl (by kernel_rfl) (by kernel_rfl) (by kernel_rfl) (fun _ _ _ h => h) (Or.inr ⟨by rfl, rfl⟩) (by assumption) ?_
            simp only [Act.put, List.setIfInBounds_toArray, List.set_cons_zero, List.set_cons_succ]
            refine take_at (i := 7) (v := undef) (some 33) rfl rfl (by kernel_rfl) (by kernel_rfl) (by kernel_rfl) (fun _ _ _ h => h) (Or.inr ⟨by rfl, rfl⟩) (by assumption) ?_
            simp only [Act.put, List.setIfInBounds_toArray, List.set_cons_zero, List.set_cons_succ]
            refine take_at (i := 8) (v := undef) (some 34) rfl rfl (by kernel_rfl) (by kernel_rfl) (by kernel_rfl) (fun _ _ _ h => h) (Or.inr ⟨by rfl, rfl⟩) (by assumption) ?_
            simp only [Act.put, List.setIfInBounds_toArray, List.set_cons_zero, List.set_cons_succ]
            refine take_at (i := 9) (v := undef) (some 35) rfl rfl (by kernel_rfl) (by kernel_rfl) (by kernel_rfl) (fun _ _ _ h => h) (Or.inr ⟨by rfl, rfl⟩) (by assumption) ?_
            simp only [Act.put, List.setIfInBounds_toArray, List.set_cons_zero, List.set_cons_succ]
            refine take_at (i := 10) (v := undef) (some 36) rfl rfl (by kernel_rfl) (by kernel_rfl) (by kernel_rfl) (fun _ _ _ h => h) (Or.inr ⟨by rfl, rfl⟩) (by assumption) ?_
            simp only [Act.put, List.setIfInBounds_toArray, List.set_cons_zero, List.set_cons_succ]
            refine take_at (i := 11) (v := undef) (some 37) rfl rfl (by kernel_rfl) (by kernel_rfl) (by kernel_rfl) (fun _ _ _ h => h) (Or.inr ⟨by rfl, rfl⟩) (by assumption) ?_
            simp only [Act.put, List.setIfInBounds_toArray, List.set_cons_zero, List.set_cons_succ]
            refine take_at (i := 12) (v := undef) (some 38) rfl rfl (by kernel_rfl) (by kernel_rfl) (by kernel_rfl) (fun _ _ _ h => h) (Or.inr ⟨by rfl, rfl⟩) (by assumption) ?_
            simp only [Act.put, List.setIfInBounds_toArray, List.set_cons_zero, List.set_cons_succ]
            refine take_at (i := 13) (v := ?_) (some 39) rfl rfl (by kernel_rfl) (by kernel_rfl) (by kernel_rfl) (fun _ _ _ h => h) (Or.inl ⟨by rfl, ?_⟩) (by assumption) ?_
            rotate_left
            · (intro w hSw; (try dsimp only at hSw); go_simp; try with_reducible rfl)
            simp only [Act.put, List.setIfInBounds_toArray, List.set_cons_zero, List.set_cons_succ]
            refine take_at (i := 14) (v := ?_) (some 8) rfl rfl (by kernel_rfl) (by kernel_rfl) (by kernel_rfl) (fun _ _ _ h => h) (Or.inl ⟨by rfl, ?_⟩) (by assumption) ?_
            rotate_left
            · (intro w hSw; (try dsimp only at hSw); go_simp; try with_reducible rfl)
            simp only [Act.put, List.setIfInBounds_toArray, List.set_cons_zero, List.set_cons_succ]
            refine wpAnyH_done (by kernel_rfl) ?_ _
            refine NoPanic.normal ?_
            clear hHeld
            go_wp2_with fail
            exact ⟨⟨j + 1, JT.out, rfl, by rw [NB.out], ED⟩, GJ.out⟩
          | false =>
            obtain ⟨eb, heb⟩ : ∃ eb, eb = eqR x.r y.r := ⟨_, rfl⟩
            have NB : Hid (((ps.take (j + 1)).any fun x => eqR x.r y.r) = eb) := hidIt (by rw [AN.out, hb8, heb]; rfl)
            have EQ : Hid (decide (x.r.ad = y.r.ad ∧ x.r.st = y.r.st) = eb) := hidIt (by rw [heb]; rfl)
            clear hb8 heb
            go_wp2_with fail
            refine wp_region_noPanic ?_
            refine wp_region_held_drew (S := fun w' => w'.rangeAt lb (lo + j * 5) (twoC x.r.ad x.r.st) ∧ w'.rangeAt gb (go + k * 5) (twoC y.r.ad y.r.st)) (by kernel_rfl) ?_ (fun hHeld => ?_)
            · exact ⟨XR.out _ ED.out, YR.out _ ED.out⟩
            refine take_at (i := 0) (v := ?_) (some 26) rfl rfl (by kernel_rfl) (by kernel_rfl) (by kernel_rfl) (fun _ _ _ h => h) (Or.inl ⟨by rfl, ?_⟩) (by assumption) ?_
            rotate_left
            · (intro w hSw; (try dsimp only at hSw); go_simp; try with_reducible rfl)
            simp only [Act.put, List.setIfInBounds_toArray, List.set_cons_zero, List.set_cons_succ]
            refine take_at (i := 1) (v := ?_) (some 27) rfl rfl (by kernel_rfl) (by kernel_rfl) (by kernel_rfl) (fun _ _ _ h => h) (Or.inl ⟨by rfl, ?_⟩) (by assumption) ?_
            rotate_left
            · (intro w hSw; (try dsimp only at hSw); go_simp; try with_reducible rfl)
            simp only [Act.put, List.setIfInBounds_toArray, List.set_cons_zero, List.set_cons_succ]
            refine take_at (i := 2) (v := ?_) (some 28) rfl rfl (by kernel_rfl) (by kernel_rfl) (by kernel_rfl) (fun _ _ _ h => h) (Or.inl ⟨by rfl, ?_⟩) (by assumption) ?_
            rotate_left
            · (intro w hSw; (try dsimp only at hSw); go_simp; try with_reducible rfl)
            simp only [Act.put, List.setIfInBounds_toArray, List.set_cons_zero, List.set_cons_succ]
            refine take_at (i := 3) (v := ?_) (some 29) rfl rfl (by kernel_rfl) (by kernel_rfl) (by kernel_rfl) (fun _ _ _ h => h) (Or.inl ⟨by rfl, ?_⟩) (by assumption) ?_
            rotate_left
            · (intro w hSw; (try dsimp only at hSw); go_simp; try with_reducible rfl)
            simp only [Act.put, List.setIfInBounds_toArray, List.set_cons_zero, List.set_cons_succ]
            refine take_at (i := 4) (v := ?_) (some 30) rfl rfl (by kernel_rfl) (by kernel_rfl) (by kernel_rfl) (fun _ _ _ h => h) (Or.inl ⟨by rfl, ?_⟩) (by assumption) ?_
            rotate_left
            · (intro w hSw; (try dsimp only at hSw); go_simp; try with_reducible rfl)
            simp only [Act.put, List.setIfInBounds_toArray, List.set_cons_zero, List.set_cons_succ]
            refine take_at (i := 5) (v := ?_) (some 31) rfl rfl (by kernel_rfl) (by kernel_rfl) (by kernel_rfl) (fun _ _ _ h => h) (Or.inl ⟨by rfl, ?_⟩) (by assumption) ?_
            rotate_left
            · (intro w hSw; (try dsimp only at hSw); go_simp; try with_reducible rfl)
            simp only [Act.put, List.setIfInBounds_toArray, List.set_cons_zero, List.set_cons_succ]
            refine take_at (i := 6) (v := _) (some 32) rfl rfl (by kernel_rfl) (by kernel_rfl) (by kernel_rfl) (fun _ _ _ h => h) (yieldsIf_load_mid (by rfl) _ _ rfl _ _ rfl _ _ (fun w h => h.1) Try.underlying42 rfl (by kernel_rfl)) (by assumption) ?_
            simp only [Act.put, List.setIfInBounds_toArray, List.set_cons_zero, List.set_cons_succ]
            refine take_at (i := 7) (v := ?_) (some 33) rfl rfl (by kernel_rfl) (by kernel_rfl) (by kernel_rfl) (fun _ _ _ h => h) (Or.inl ⟨by rfl, ?_⟩) (by assumption) ?_
            rotate_left
            · (intro w hSw; (try dsimp only at hSw); go_simp; try with_reducible rfl)
            simp only [Act.put, List.setIfInBounds_toArray, List.set_cons_zero, List.set_cons_succ]
            refine take_at (i := 8) (v := ?_) (some 34) rfl rfl (by kernel_rfl) (by kernel_rfl) (by kernel_rfl) (fun _ _ _ h => h) (Or.inl ⟨by rfl, ?_⟩) (by assumption) ?_
            rotate_left
            · (intro w hSw; (try dsimp only at hSw); go_simp; try with_reducible rfl)
            simp only [Act.put, List.setIfInBounds_toArray, List.set_cons_zero, List.set_cons_succ]
            refine take_at (i := 9) (v := ?_) (some 35) rfl rfl (by kernel_rfl) (by kernel_rfl) (by kernel_rfl) (fun _ _ _ h => h) (Or.inl ⟨by rfl, ?_⟩) (by assumption) ?_
            rotate_left
            · (intro w hSw; (try dsimp only at hSw); go_simp; try with_reducible rfl)
            simp only [Act.put, List.setIfInBounds_toArray, List.set_cons_zero, List.set_cons_succ]
            refine take_at (i := 10) (v := ?_) (some 36) rfl rfl (by kernel_rfl) (by kernel_rfl) (by kernel_rfl) (fun _ _ _ h => h) (Or.inl ⟨by rfl, ?_⟩) (by assumption) ?_
            rotate_left
            · (intro w hSw; (try dsimp only at hSw); go_simp; try with_reducible rfl)
            simp only [Act.put, List.setIfInBounds_toArray, List.set_cons_zero, List.set_cons_succ]
            refine take_at (i := 11) (v := _) (some 37) rfl rfl (by kernel_rfl) (by kernel_rfl) (by kernel_rfl) (fun _ _ _ h => h) (yieldsIf_load_mid (by rfl) _ _ rfl _ _ rfl _ _ (fun w h => h.2) Try.underlying42 rfl (by kernel_rfl)) (by assumption) ?_
            simp only [Act.put, List.setIfInBounds_toArray, List.set_cons_zero, List.set_cons_succ]
            refine take_at (i := 12) (v := .bool eb) (some 38) rfl rfl (by kernel_rfl) (by kernel_rfl) (by kernel_rfl) (fun _ _ _ h => h) (Or.inl ⟨by rfl, fun w hSw => eql_exec _ (.tmp 32) (.tmp 37) rfl _ _ _ _ eb rfl rfl EQ.out⟩) (by assumption) ?_
            simp only [Act.put, List.setIfInBounds_toArray, List.set_cons_zero, List.set_cons_succ]
            refine take_at (i := 13) (v := ?_) (some 39) rfl rfl (by kernel_rfl) (by kernel_rfl) (by kernel_rfl) (fun _ _ _ h => h) (Or.inl ⟨by rfl, ?_⟩) (by assumption) ?_
            rotate_left
            · (intro w hSw; (try dsimp only at hSw); go_simp; try with_reducible rfl)
            simp only [Act.put, List.setIfInBounds_toArray, List.set_cons_zero, List.set_cons_succ]
            refine take_at (i := 14) (v := ?_) (some 8) rfl rfl (by kernel_rfl) (by kernel_rfl) (by kernel_rfl) (fun _ _ _ h => h) (Or.inl ⟨by rfl, ?_⟩) (by assumption) ?_
            rotate_left
            · (intro w hSw; (try dsimp only at hSw); go_simp; try with_reducible rfl)
            simp only [Act.put, List.setIfInBounds_toArray, List.set_cons_zero, List.set_cons_succ]
            refine wpAnyH_done (by kernel_rfl) ?_ _
            refine NoPanic.normal ?_
            clear hHeld
            go_wp2_with fail
            exact ⟨⟨j + 1, JT.out, rfl, by rw [NB.out], ED⟩, GJ.out⟩
        · obtain rfl : j = n := by omega
          have k0 : ((j : Int) < (j : Int)) = False := eq_false (by omega)
          have AL : Hid (((ps.take j).any fun x => eqR x.r y.r) = ps.any fun x => eqR x.r y.r) := hidIt (by rw [List.take_of_length_le (by have := HN.out.1; omega)])
          have NK : Hid (((gs.take (k + 1)).all fun g => ps.any fun x => eqR x.r g.r) = (ok && ps.any fun x => eqR x.r y.r)) := hidIt (by rw [all_snoc HY.out, OK.out])
          clear hj hjt
          rw [AL.out]
          cases hok : ok with
          | true =>
            cases hq : ps.any fun x => eqR x.r y.r with
            | true =>
              rw [hok, hq] at NK
              go_wp2_with fail
              exact ⟨⟨k + 1, LT.out, rfl, by rw [NK.out]; rfl, EB⟩, GO.out⟩
            | false =>
              rw [hok, hq] at NK
              go_wp2_with fail
              exact ⟨⟨k + 1, LT.out, rfl, by rw [NK.out]; rfl, EB⟩, GO.out⟩
          | false =>
            rw [hok] at NK
            go_wp2_with fail
            exact ⟨⟨k + 1, LT.out, rfl, by rw [NK.out]; rfl, EB⟩, GO.out⟩
    · obtain rfl : k = m := by omega
      have i0 : ((k : Int) < (k : Int)) = False := eq_false (by omega)
      rw [List.take_of_length_le (l := gs) (by have := HN.out.2.1; omega)]
      clear hk hlt
      obtain ⟨ok, hok⟩ : ∃ ok, ok = gs.all fun g => ps.any fun x => eqR x.r g.r := ⟨_, rfl⟩
      rw [← hok]
      have OK := hidIt hok
      clear hok
      have ST : Hid (NoI W ps gs 0 wr (.slice none 0 0)) := hidIt ⟨by rw [List.take_zero]; exact OwnR.nil _ _, fun b hb => (by cases hb), EB.out⟩
      go_wp2_with fail
      clear i0
      go_loopw [10, 11] (fun lv iv wr => ∃ k : Nat, k ≤ n ∧ iv = .int .i64 (k : Int) ∧ Hid (NoI W ps gs k wr lv)) (fun _ iv _ => n - (RowKit.intOf iv).toNat)
      case atStart => exact ⟨0, Nat.zero_le _, rfl, ST⟩
      case round =>
        clear ST EB
        obtain ⟨q, hq, rfl, NI⟩ := hrel
        rename World => wq
        by_cases hqt : q < n
        · obtain ⟨x, hx⟩ : ∃ x, ps[q]? = some x := ⟨_, List.getElem?_eq_getElem (by have := HN.out.1; omega)⟩
          obtain ⟨lb, lo, ha, hr, hb⟩ := HL.out.at q x hx
          subst ha
          have XA : Hid (∀ U, Below W.heap.size W U → U.rangeAt lb (lo + q * 5) x.cs) := hidIt (fun U hU j v hj => (hU.cell (p := ⟨lb, lo + q * 5 + j, none⟩) hb).trans (hr j v hj))
          have OX := hidIt (HL.out.1 x (List.mem_of_getElem? hx))
          have QT := hidIt hqt
          have HX := hidIt hx
          have FEW : Hid ((stayL (ps.take q) gs).length ≤ 50000) := hidIt (Nat.le_trans (List.length_filter_le _ _) (by rw [List.length_take]; have := HN.out; omega))
          obtain ⟨i0, i1, i2, i3, i4⟩ := tb_ar q n hqt (by have := HN.out.2.2.1; omega)
          have AQ := hidIt (And.intro i0 (And.intro i1 (And.intro i2 i3)))
          have GQ := hidIt i4
          clear hx hqt hq hb hr i4
          go_wp2_with fail
          clear i0 i1 i2 i3
          go_loopw [12, 13] (fun bv iv wr => ∃ j : Nat, j ≤ k ∧ iv = .int .i64 (j : Int) ∧ bv = .bool ((gs.take j).any fun g => eqR x.r g.r) ∧ Hid (NoI W ps gs q wr u10)) (fun _ iv _ => k - (RowKit.intOf iv).toNat)
          case atStart => exact ⟨0, Nat.zero_le _, rfl, by rw [List.take_zero]; rfl, NI⟩
          case round =>
            clear NI
            obtain ⟨j, hj, rfl, rfl, NI⟩ := hrel
            rename World => wi
            obtain ⟨n0, n1, n2, n3⟩ := AQ.out
            by_cases hjt : j < k
            · obtain ⟨y, hy⟩ : ∃ y, gs[j]? = some y := ⟨_, List.getElem?_eq_getElem (by have := HN.out.2.1; omega)⟩
              obtain ⟨gb, go, ha, hr, hb⟩ := HG.out.at j y hy
              subst ha
              have YR : Hid (∀ U, Below W.heap.size W U → U.rangeAt gb (go + j * 5) (twoC y.r.ad y.r.st)) := hidIt (fun U hU => root_cells (fun p v hp => (hU.cell (p := ⟨gb, go + j * 5 + p, none⟩) hb).trans (hr p v hp)))
              have JT := hidIt hjt
              have AN := hidIt (any_snoc hy fun g => eqR x.r g.r)
              obtain ⟨k0, k1, k2, k3, k4⟩ := tb_ar j k hjt (by have := HN.out.2.2.2; omega)
              have GJ := hidIt k4
              have ED := hidIt (NI.out.up (Below.refl _ _).drew)
              clear hy hjt hj hr hb k4
              cases hb8 : (gs.take j).any fun g => eqR x.r g.r with
              | true =>
                have NB : Hid (((gs.take (j + 1)).any fun g => eqR x.r g.r) = true) := hidIt (by rw [AN.out, hb8]; rfl)
                clear hb8
                go_wp2_with fail
                refine wp_region_noPanic ?_
                refine wp_region_held_drew (S := fun _ => True) (by kernel_rfl) ?_ (fun hHeld => ?_)
                · trivial
                refine take_at (i := 0) (v := ?_) (some 56) rfl rfl (by kernel_rfl) (by kernel_rfl) (by kernel_rfl) (fun _ _ _ h => h) (Or.inl ⟨by rfl, ?_⟩) (by assumption) ?_
                rotate_left
                · (intro w hSw; (try dsimp only at hSw); go_simp; try with_reducible rfl)
                simp only [Act.put, List.setIfInBounds_toArray, List.set_cons_zero, List.set_cons_succ]
                refine take_at (i := 1) (v := ?_) (some 57) rfl rfl (by kernel_rfl) (by kernel_rfl) (by kernel_rfl) (fun _ _ _ h => h) (Or.inl ⟨by rfl, ?_⟩) (by assumption) ?_
                rotate_left
                · (intro w hSw; (try dsimp only at hSw); go_simp; try with_reducible rfl)
                simp only [Act.put, List.setIfInBounds_toArray, List.set_cons_zero, List.set_cons_succ]
                refine take_at (i := 2) (v := undef) (some 58) rfl rfl (by kernel_rfl) (by kernel_rfl) (by kernel_rfl) (fun _ _ _ h => h) (Or.inr ⟨by rfl, rfl⟩) (by assumption) ?_
                simp only [Act.put, List.setIfInBounds_toArray, List.set_cons_zero, List.set_cons_succ]
                refine take_at (i := 3) (v := undef) (some 59) rfl rfl (by kernel_rfl) (by kernel_rfl) (by kernel_rfl) (fun _ _ _ h => h) (Or.inr ⟨by rfl, rfl⟩) (by assumption) ?_
                simp only [Act.put, List.setIfInBounds_toArray, List.set_cons_zero, List.set_cons_succ]
                refine take_at (i := 4) (v := undef) (some 60) rfl rfl (by kernel_rfl) (by kernel_rfl) (by kernel_rfl) (fun _ _ _ h => h) (Or.inr ⟨by rfl, rfl⟩) (by assumption) ?_
                simp only [Act.put, List.setIfInBounds_toArray, List.set_cons_zero, List.set_cons_succ]
                refine take_at (i := 5) (v := undef) (some 61) rfl rfl (by kernel_rfl) (by kernel_rfl) (by kernel_rfl) (fun _ _ _ h => h) (Or.inr ⟨by rfl, rfl⟩) (by assumption) ?_
                simp only [Act.put, List.setIfInBounds_toArray, List.set_cons_zero, List.set_cons_succ]
                refine take_at (i := 6) (v := undef) (some 62) rfl rfl (by kernel_rfl) (by kernel_rfl) (by kernel_rfl) (fun _ _ _ h => h) (Or.inr ⟨by rfl, rfl⟩) (by assumption) ?_
                simp only [Act.put, List.setIfInBounds_toArray, List.set_cons_zero, List.set_cons_succ]
                refine take_at (i := 7) (v := undef) (some 63) rfl rfl (by kernel_rfl) (by kernel_rfl) (by kernel_rfl) (fun _ _ _ h => h) (Or.inr ⟨by rfl, rfl⟩) (by assumption) ?_
                simp only [Act.put, List.setIfInBounds_toArray, List.set_cons_zero, List.set_cons_succ]
                refine take_at (i := 8) (v := undef) (some 64) rfl rfl (by kernel_rfl) (by kernel_rfl) (by kernel_rfl) (fun _ _ _ h => h) (Or.inr ⟨by rfl, rfl⟩) (by assumption) ?_
                simp only [Act.put, List.setIfInBounds_toArray, List.set_cons_zero, List.set_cons_succ]
                refine take_at (i := 9) (v := undef) (some 65) rfl rfl (by kernel_rfl) (by kernel_rfl) (by kernel_rfl) (fun _ _ _ h => h) (Or.inr ⟨by rfl, rfl⟩) (by assumption) ?_
                simp only [Act.put, List.setIfInBounds_toArray, List.set_cons_zero, List.set_cons_succ]
                refine take_at (i := 10) (v := undef) (some 66) rfl rfl (by kernel_rfl) (by kernel_rfl) (by kernel_rfl) (fun _ _ _ h => h) (Or.inr ⟨by rfl, rfl⟩) (by assumption) ?_
                simp only [Act.put, List.setIfInBounds_toArray, List.set_cons_zero, List.set_cons_succ]
                refine take_at (i := 11) (v := undef) (some 67) rfl rfl (by kernel_rfl) (by kernel_rfl) (by kernel_rfl) (fun _ _ _ h => h) (Or.inr ⟨by rfl, rfl⟩) (by assumption) ?_
                simp only [Act.put, List.setIfInBounds_toArray, List.set_cons_zero, List.set_cons_succ]
                refine take_at (i := 12) (v := undef) (some 68) rfl rfl (by kernel_rfl) (by kernel_rfl) (by kernel_rfl) (fun _ _ _ h => h) (Or.inr ⟨by rfl, rfl⟩) (by assumption) ?_
                simp only [Act.put, List.setIfInBounds_toArray, List.set_cons_zero, List.set_cons_succ]
                refine take_at (i := 13) (v := ?_) (some 69) rfl rfl (by kernel_rfl) (by kernel_rfl) (by kernel_rfl) (fun _ _ _ h => h) (Or.inl ⟨by rfl, ?_⟩) (by assumption) ?_
                rotate_left
                · (intro w hSw; (try dsimp only at hSw); go_simp; try with_reducible rfl)
                simp only [Act.put, List.setIfInBounds_toArray, List.set_cons_zero, List.set_cons_succ]
                refine take_at (i := 14) (v := ?_) (some 12) rfl rfl (by kernel_rfl) (by kernel_rfl) (by kernel_rfl) (fun _ _ _ h => h) (Or.inl ⟨by rfl, ?_⟩) (by assumption) ?_
                rotate_left
                · (intro w hSw; (try dsimp only at hSw); go_simp; try with_reducible rfl)
                simp only [Act.put, List.setIfInBounds_toArray, List.set_cons_zero, List.set_cons_succ]
                refine wpAnyH_done (by kernel_rfl) ?_ _
                refine NoPanic.normal ?_
                clear hHeld
                go_wp2_with fail
                exact ⟨⟨j + 1, JT.out, rfl, by rw [NB.out], ED⟩, GJ.out⟩
              | false =>
                obtain ⟨eb, heb⟩ : ∃ eb, eb = eqR x.r y.r := ⟨_, rfl⟩
                have NB : Hid (((gs.take (j + 1)).any fun g => eqR x.r g.r) = eb) := hidIt (by rw [AN.out, hb8, heb]; rfl)
                have EQ : Hid (decide (x.r.ad = y.r.ad ∧ x.r.st = y.r.st) = eb) := hidIt (by rw [heb]; rfl)
                clear hb8 heb
                go_wp2_with fail
                refine wp_region_noPanic ?_
                refine wp_region_held_drew (S := fun w' => w'.rangeAt lb (lo + q * 5) (twoC x.r.ad x.r.st) ∧ w'.rangeAt gb (go + j * 5) (twoC y.r.ad y.r.st)) (by kernel_rfl) ?_ (fun hHeld => ?_)
                · exact ⟨root_cells (XA.out _ ED.out.below), YR.out _ ED.out.below⟩
                refine take_at (i := 0) (v := ?_) (some 56) rfl rfl (by kernel_rfl) (by kernel_rfl) (by kernel_rfl) (fun _ _ _ h => h) (Or.inl ⟨by rfl, ?_⟩) (by assumption) ?_
                rotate_left
                · (intro w hSw; (try dsimp only at hSw); go_simp; try with_reducible rfl)
                simp only [Act.put, List.setIfInBounds_toArray, List.set_cons_zero, List.set_cons_succ]
                refine take_at (i := 1) (v := ?_) (some 57) rfl rfl (by kernel_rfl) (by kernel_rfl) (by kernel_rfl) (fun _ _ _ h => h) (Or.inl ⟨by rfl, ?_⟩) (by assumption) ?_
                rotate_left
                · (intro w hSw; (try dsimp only at hSw); go_simp; try with_reducible rfl)
                simp only [Act.put, List.setIfInBounds_toArray, List.set_cons_zero, List.set_cons_succ]
                refine take_at (i := 2) (v := ?_) (some 58) rfl rfl (by kernel_rfl) (by kernel_rfl) (by kernel_rfl) (fun _ _ _ h => h) (Or.inl ⟨by rfl, ?_⟩) (by assumption) ?_
                rotate_left
                · (intro w hSw; (try dsimp only at hSw); go_simp; try with_reducible rfl)
                simp only [Act.put, List.setIfInBounds_toArray, List.set_cons_zero, List.set_cons_succ]
                refine take_at (i := 3) (v := ?_) (some 59) rfl rfl (by kernel_rfl) (by kernel_rfl) (by kernel_rfl) (fun _ _ _ h => h) (Or.inl ⟨by rfl, ?_⟩) (by assumption) ?_
                rotate_left
                · (intro w hSw; (try dsimp only at hSw); go_simp; try with_reducible rfl)
                simp only [Act.put, List.setIfInBounds_toArray, List.set_cons_zero, List.set_cons_succ]
                refine take_at (i := 4) (v := ?_) (some 60) rfl rfl (by kernel_rfl) (by kernel_rfl) (by kernel_rfl) (fun _ _ _ h => h) (Or.inl ⟨by rfl, ?_⟩) (by assumption) ?_
                rotate_left
                · (intro w hSw; (try dsimp only at hSw); go_simp; try with_reducible rfl)
                simp only [Act.put, List.setIfInBounds_toArray, List.set_cons_zero, List.set_cons_succ]
                refine take_at (i := 5) (v := ?_) (some 61) rfl rfl (by kernel_rfl) (by kernel_rfl) (by kernel_rfl) (fun _ _ _ h => h) (Or.inl ⟨by rfl, ?_⟩) (by assumption) ?_
                rotate_left
                · (intro w hSw; (try dsimp only at hSw); go_simp; try with_reducible rfl)
                simp only [Act.put, List.setIfInBounds_toArray, List.set_cons_zero, List.set_cons_succ]
                refine take_at (i := 6) (v := _) (some 62) rfl rfl (by kernel_rfl) (by kernel_rfl) (by kernel_rfl) (fun _ _ _ h => h) (yieldsIf_load_mid (by rfl) _ _ rfl _ _ rfl _ _ (fun w h => h.1) Try.underlying42 rfl (by kernel_rfl)) (by assumption) ?_
                simp only [Act.put, List.setIfInBounds_toArray, List.set_cons_zero, List.set_cons_succ]
                refine take_at (i := 7) (v := ?_) (some 63) rfl rfl (by kernel_rfl) (by kernel_rfl) (by kernel_rfl) (fun _ _ _ h => h) (Or.inl ⟨by rfl, ?_⟩) (by assumption) ?_
                rotate_left
                · (intro w hSw; (try dsimp only at hSw); go_simp; try with_reducible rfl)
                simp only [Act.put, List.setIfInBounds_toArray, List.set_cons_zero, List.set_cons_succ]
                refine take_at (i := 8) (v := ?_) (some 64) rfl rfl (by kernel_rfl) (by kernel_rfl) (by kernel_rfl) (fun _ _ _ h => h) (Or.inl ⟨by rfl, ?_⟩) (by assumption) ?_
                rotate_left
                · (intro w hSw; (try dsimp only at hSw); go_simp; try with_reducible rfl)
                simp only [Act.put, List.setIfInBounds_toArray, List.set_cons_zero, List.set_cons_succ]
                refine take_at (i := 9) (v := ?_) (some 65) rfl rfl (by kernel_rfl) (by kernel_rfl) (by kernel_rfl) (fun _ _ _ h => h) (Or.inl ⟨by rfl, ?_⟩) (by assumption) ?_
                rotate_left
                · (intro w hSw; (try dsimp only at hSw); go_simp; try with_reducible rfl)
                simp only [Act.put, List.setIfInBounds_toArray, List.set_cons_zero, List.set_cons_succ]
                refine take_at (i := 10) (v := ?_) (some 66) rfl rfl (by kernel_rfl) (by kernel_rfl) (by kernel_rfl) (fun _ _ _ h => h) (Or.inl ⟨by rfl, ?_⟩) (by assumption) ?_
                rotate_left
                · (intro w hSw; (try dsimp only at hSw); go_simp; try with_reducible rfl)
                simp only [Act.put, List.setIfInBounds_toArray, List.set_cons_zero, List.set_cons_succ]
                refine take_at (i := 11) (v := _) (some 67) rfl rfl (by kernel_rfl) (by kernel_rfl) (by kernel_rfl) (fun _ _ _ h => h) (yieldsIf_load_mid (by rfl) _ _ rfl _ _ rfl _ _ (fun w h => h.2) Try.underlying42 rfl (by kernel_rfl)) (by assumption) ?_
                simp only [Act.put, List.setIfInBounds_toArray, List.set_cons_zero, List.set_cons_succ]
                refine take_at (i := 12) (v := .bool eb) (some 68) rfl rfl (by kernel_rfl) (by kernel_rfl) (by kernel_rfl) (fun _ _ _ h => h) (Or.inl ⟨by rfl, fun w hSw => eql_exec _ (.tmp 62) (.tmp 67) rfl _ _ _ _ eb rfl rfl EQ.out⟩) (by assumption) ?_
                simp only [Act.put, List.setIfInBounds_toArray, List.set_cons_zero, List.set_cons_succ]
                refine take_at (i := 13) (v := ?_) (some 69) rfl rfl (by kernel_rfl) (by kernel_rfl) (by kernel_rfl) (fun _ _ _ h => h) (Or.inl ⟨by rfl, ?_⟩) (by assumption) ?_
                rotate_left
                · (intro w hSw; (try dsimp only at hSw); go_simp; try with_reducible rfl)
                simp only [Act.put, List.setIfInBounds_toArray, List.set_cons_zero, List.set_cons_succ]
                refine take_at (i := 14) (v := ?_) (some 12) rfl rfl (by kernel_rfl) (by kernel_rfl) (by kernel_rfl) (fun _ _ _ h => h) (Or.inl ⟨by rfl, ?_⟩) (by assumption) ?_
                rotate_left
                · (intro w hSw; (try dsimp only at hSw); go_simp; try with_reducible rfl)
                simp only [Act.put, List.setIfInBounds_toArray, List.set_cons_zero, List.set_cons_succ]
                refine wpAnyH_done (by kernel_rfl) ?_ _
                refine NoPanic.normal ?_
                clear hHeld
                go_wp2_with fail
                exact ⟨⟨j + 1, JT.out, rfl, by rw [NB.out], ED⟩, GJ.out⟩
            · obtain rfl : j = k := by omega
              have k0 : ((j : Int) < (j : Int)) = False := eq_false (by omega)
              have AL : Hid (((gs.take j).any fun g => eqR x.r g.r) = gs.any fun g => eqR x.r g.r) := hidIt (by rw [List.take_of_length_le (by have := HN.out.2.1; omega)])
              clear hj hjt
              rw [AL.out]
              cases hq : gs.any fun g => eqR x.r g.r with
              | true =>
                have NX := hidIt (NI.out.skip HX.out hq)
                clear hq
                go_wp2_with fail
                exact ⟨⟨q + 1, QT.out, rfl, NX⟩, GQ.out⟩
              | false =>
                have xr := XA.out _ NI.out.below
                obtain ⟨W5, hW5⟩ : ∃ W5, W5 = wi.alloc (.cells x.cs.toArray 45) := ⟨_, rfl⟩
                have A5 : Below wi.heap.size wi W5 := by rw [hW5]; exact (Below.refl _ _).alloc (Nat.le_refl _) _
                have R5 : Rec19 W5 wi.heap.size 0 (rcs [x]) := by rw [hW5, rcs_single]; exact Rec19.new wi _ x.cs
                have J5 := NI.out.up A5
                obtain ⟨v6, W6, hr6, I6⟩ := app_runs 23 W5 u10 _ [x] ⟨wi.heap.size, 0, none⟩ 1 J5.own (fun j u hj => by rw [Addr.add_mid]; exact R5.1 j u hj) (by rw [rcs_single]; exact OX.out.one) (by simp) (by have := FEW.out; simp; omega)
                simp only [List.length_singleton] at hr6
                have NX := hidIt (J5.app HX.out hq I6)
                have HW5 := hidIt hW5
                have HR6 := hidIt hr6
                clear hq hW5 A5 R5 J5 I6 hr6
                go_wp2_with (first
                  | (refine wpList_load_mid rfl 45 (.tmp 75) rfl lb (lo + q * 5) rfl x.cs _ xr Try.underlying45 rfl run_size ?_; clear xr)
                  | (refine wpList_run_w (by rfl) (.slice (some ⟨wi.heap.size, 0, none⟩) 1 1) W5 (by rw [HW5.out]; exact bsl_run 23 45 1 _ rfl 5 72 _ _ _ under_runs info_run (by decide) (by decide) rfl (by kernel_rfl)) ?_)
                  | (at_builtin; refine wpList_append_go rfl (.tmp 72) (.tmp 77) 23 23 rfl _ _ rfl rfl HR6.out ?_))
                exact ⟨⟨q + 1, QT.out, rfl, NX⟩, GQ.out⟩
        · obtain rfl : q = n := by omega
          have i0 : ((q : Int) < (q : Int)) = False := eq_false (by omega)
          have hw := NI.out.own
          rw [List.take_of_length_le (by have := HN.out.1; omega)] at hw
          obtain ⟨va, vc, hv, _⟩ := hw.sl
          have FIN : Hid (NwoP W ps gs (.returned (.tuple #[u10, .bool ok])) wq) := hidIt (by
            have nw := NI.out.new
            rw [hv] at hw nw ⊢
            exact ⟨va, vc, by rw [OK.out], hw, nw, NI.out.below⟩)
          clear hq hqt hw hv
          go_wp2_with fail
          exact bodyPost_ret (v := .tuple #[u10, .bool ok]) (by simp [results, Try.results36, go_sem]) rfl FIN.out
end Go.Proofs.Ytelcijfcgflagaa
namespace Go.Proofs.Ytelcijfcgflagaa
open Go.RowKit
attribute [-go_sem] Builtin.append_
theorem slc_lowA (W : World) (a : Option Addr) (ps : List RV) (n C i : Nat) (hn : ps.length = n) (hL : LsR W a ps) (hC : n ≤ C) (hi : i ≤ n) : ∃ a' : Option Addr, (Instr.slice 23 (.slice a n C) (some (.int .i64 (i : Int))) none none).run Try.prog W = .ok (.slice a' (n - i) (C - i)) W ∧ ∀ U, LsR U a ps → LsR U a' (ps.drop i) := by
  obtain ⟨i0, hi0, _, hz1, _⟩ := info_parts info_run
  cases a with
  | none =>
    have h0 : ps = [] := by
      by_cases q : ps = []
      · exact q
      · obtain ⟨b, off, ha, _⟩ := hL.2 q
        cases ha
    subst h0
    obtain rfl : n = 0 := by simpa using hn.symm
    obtain rfl : i = 0 := by omega
    refine ⟨none, ?_, fun _ _ => LsR.nilA _ _⟩
    simp [Instr.slice, Instr.sliceBounds, run_underlying under_runs, Instr.sliceBound, asIntOf, sizeOf, typeInfo, hi0]
  | some p =>
    by_cases e : C = i
    · obtain rfl : i = n := by omega
      refine ⟨some p, ?_, fun _ _ => by rw [List.drop_of_length_le (by omega)]; exact LsR.nilA _ _⟩
      simp [Instr.slice, Instr.sliceBounds, run_underlying under_runs, Instr.sliceBound, asIntOf, e, sizeOf, typeInfo, hi0]
    · by_cases q : i = n
      · subst q
        refine ⟨some (p.add (i * 5)), ?_, fun _ _ => by rw [List.drop_of_length_le (by omega)]; exact LsR.nilA _ _⟩
        simp [Instr.slice, Instr.sliceBounds, run_underlying under_runs, Instr.sliceBound, asIntOf, e, sizeOf, typeInfo, hi0, hz1]
      · obtain ⟨b, off, ha, _, _⟩ := hL.2 (fun z => by subst z; simp at hn; omega)
        injection ha with ha
        subst ha
        refine ⟨some ⟨b, off + i * 5, none⟩, ?_, fun U hU => by have k := hU.seg i (n - i); rwa [List.take_of_length_le (by rw [List.length_drop]; omega)] at k⟩
        simp [Instr.slice, Instr.sliceBounds, run_underlying under_runs, Instr.sliceBound, asIntOf, hi, e, sizeOf, typeInfo, hi0, hz1, Addr.add_mid]
theorem slc_highA (W : World) (a : Option Addr) (ps : List RV) (n C i : Nat) (hn : ps.length = n) (hL : LsR W a ps) (hC : n ≤ C) (hi : i ≤ n) : ∃ a' : Option Addr, (Instr.slice 23 (.slice a n C) none (some (.int .i64 (i : Int))) none).run Try.prog W = .ok (.slice a' i C) W ∧ ∀ U, LsR U a ps → LsR U a' (ps.take i) := by
  obtain ⟨i0, hi0, _, hz1, _⟩ := info_parts info_run
  have hiC : i ≤ C := by omega
  cases a with
  | none =>
    have h0 : ps = [] := by
      by_cases q : ps = []
      · exact q
      · obtain ⟨b, off, ha, _⟩ := hL.2 q
        cases ha
    subst h0
    obtain rfl : n = 0 := by simpa using hn.symm
    obtain rfl : i = 0 := by omega
    refine ⟨none, ?_, fun _ _ => LsR.nilA _ _⟩
    simp [Instr.slice, Instr.sliceBounds, run_underlying under_runs, Instr.sliceBound, asIntOf, sizeOf, typeInfo, hi0]
  | some p =>
    by_cases q : i = 0
    · subst q
      refine ⟨some p, ?_, fun _ _ => by rw [List.take_zero]; exact LsR.nilA _ _⟩
      simp [Instr.slice, Instr.sliceBounds, run_underlying under_runs, Instr.sliceBound, asIntOf, sizeOf, typeInfo, hi0, Addr.add]
    · obtain ⟨b, off, ha, _, _⟩ := hL.2 (fun z => by subst z; simp at hn; omega)
      injection ha with ha
      subst ha
      refine ⟨some ⟨b, off, none⟩, ?_, fun U hU => by have k := hU.seg 0 i; rwa [List.drop_zero, Nat.zero_mul, Nat.add_zero] at k⟩
      simp [Instr.slice, Instr.sliceBounds, run_underlying under_runs, Instr.sliceBound, asIntOf, hiC, sizeOf, typeInfo, hi0, Addr.add]
/-- Where a table is sorted in. -/
def wiD (l : List Rn) (r : Rn) : Nat := (l.takeWhile fun x => decide (cmpB x.f r.f ≤ 0)).length
def withD (l : List Rn) (r : Rn) : List Rn := l.take (wiD l r) ++ [r] ++ l.drop (wiD l r)
def withL (ps : List RV) (y : RV) : List RV := ps.take (wiD (ps.map RV.r) y.r) ++ [y] ++ ps.drop (wiD (ps.map RV.r) y.r)
theorem with_map (ps : List RV) (y : RV) : (withL ps y).map RV.r = withD (ps.map RV.r) y.r := by
  unfold withL withD
  rw [List.map_append, List.map_append, List.map_take, List.map_drop]
  rfl
theorem wi_le (l : List Rn) (r : Rn) : wiD l r ≤ l.length := (List.takeWhile_prefix _).sublist.length_le
theorem wi_of : ∀ (l : List Rn) (r : Rn) (i : Nat), i ≤ l.length → (∀ j x, j < i → l[j]? = some x → cmpB x.f r.f ≤ 0) → (∀ x, l[i]? = some x → ¬ cmpB x.f r.f ≤ 0) → wiD l r = i
  | [], _, i, h, _, _ => by simp at h; subst h; rfl
  | x :: q, r, 0, _, _, h2 => by
    unfold wiD
    rw [List.takeWhile_cons_of_neg (by simpa using h2 x rfl)]
    rfl
  | x :: q, r, i + 1, h, h1, h2 => by
    have e := wi_of q r i (by simpa using h) (fun j y hj hy => h1 (j + 1) y (by omega) hy) (fun y hy => h2 y hy)
    unfold wiD at e ⊢
    rw [List.takeWhile_cons_of_pos (by simpa using h1 0 x (by omega) rfl), List.length_cons, e]
/-- What with answers. -/
def NwiP (W : World) (ps : List RV) (y : RV) (e : Ending) (w' : World) : Prop := ∃ a c, e = .returned (.slice a (withL ps y).length c) ∧ OwnR w' 0 (.slice a (withL ps y).length c) (withL ps y) ∧ (∀ b, (Value.slice a (withL ps y).length c).ownBlock = some b → W.heap.size ≤ b) ∧ Below W.heap.size W w'
theorem InsR.newer {W0 W W' : World} {v v' : Value} {ps : List RV} (hI : InsR W v ps v' W') (hv : ∀ b, v.ownBlock = some b → W0.heap.size ≤ b) (hs : W0.heap.size ≤ W.heap.size) : ∀ b, v'.ownBlock = some b → W0.heap.size ≤ b := fun b hb => by
  rcases hI.blk b hb with q | q
  · exact hv b q
  · exact Nat.le_trans hs q
set_option maxRecDepth 100000 in
set_option maxHeartbeats 8000000 in
theorem nwith_any {W : World} {N : List Nat} {a : Option Addr} {ps : List RV} {y : RV} (n C : Nat) (hn : ps.length = n) (hL : LsR W a ps) (hC : n ≤ C) (hf : n ≤ 50000) (hy : RVOk W N y) : Calls Try.prog 37 #[.slice a n C, .agg y.cs.toArray] W (NwiP W ps y) := by
  have HL := hidIt hL
  have HN := hidIt (And.intro hn (And.intro hf hC))
  have HY := hidIt hy
  clear hn hL hf hy hC
  go_enter Try.func37, Try.ntmps37
  go_wp2_with (refine wpList_box_rec rfl 45 (.tmp 1) rfl y.cs rfl W.heap.size rfl ?_; intro W1 R1 B1 z1; have E1 := hidIt (And.intro B1 z1); have P1 := hidIt R1; clear R1 B1 z1; refine Held.out ?_)
  refine Held.mk ?_
  go_wp2_with fail
  go_loopw [5] (fun iv wr => ∃ k : Nat, k ≤ n ∧ iv = .int .i64 (k : Int) ∧ Hid (Below W.heap.size W wr ∧ Rec19 wr W.heap.size 0 y.cs ∧ ∀ j x, j < k → ps[j]? = some x → cmpB x.r.f y.r.f ≤ 0)) (fun iv _ => n - (RowKit.intOf iv).toNat)
  case atStart => exact ⟨0, Nat.zero_le _, rfl, hidIt ⟨E1.out.1, P1.out, fun j x hj => by omega⟩⟩
  case round =>
    clear P1 E1
    obtain ⟨k, hk, rfl, HI⟩ := hrel
    rename World => wr
    by_cases hlt : k < n
    · obtain ⟨x, hx⟩ : ∃ x, ps[k]? = some x := ⟨_, List.getElem?_eq_getElem (by have := HN.out.1; omega)⟩
      obtain ⟨b, o, ha, hr, hb⟩ := HL.out.at k x hx
      subst ha
      have LT := hidIt hlt
      have HX := hidIt hx
      have XF : Hid (∀ U, Below W.heap.size W U → U.cell? ⟨b, o + k * 5 + 3, none⟩ = some x.f) := hidIt (fun U hU => (hU.cell (p := ⟨b, o + k * 5 + 3, none⟩) hb).trans (hr 3 _ rfl))
      have OX := hidIt (HL.out.1 x (List.mem_of_getElem? hx))
      obtain ⟨i0, i1, i2, i3, i4⟩ := tb_ar k n hlt (by have := HN.out.2.1; omega)
      have GO := hidIt i4
      have ED := hidIt HI.out.1.drew
      have PD := hidIt (HI.out.2.1.below (Below.refl _ _).drew)
      clear hx hlt hk hb hr i4
      by_cases hc : cmpB x.r.f y.r.f ≤ 0
      · have hle : ∀ w, (binOp .leq 9 (.string x.r.f) (.string y.r.f)).run Try.prog w = .ok (.bool true) w := fun w => by rw [leq_str, decide_eq_true hc]
        have NX : Hid (Below W.heap.size W wr.drew ∧ Rec19 wr.drew W.heap.size 0 y.cs ∧ ∀ j x, j < k + 1 → ps[j]? = some x → cmpB x.r.f y.r.f ≤ 0) := hidIt ⟨ED.out, PD.out, fun j z hj hz => by
          by_cases e : j = k
          · subst e
            have h := HX.out
            rw [hz] at h
            injection h with h
            subst h
            exact hc
          · exact HI.out.2.2 j z (by omega) hz⟩
        clear hc
        go_wp2_with fail
        refine wp_region_noPanic ?_
        refine wp_region_held_drew (S := fun w' => w'.cell? ⟨b, o + k * 5 + 3, none⟩ = some x.f ∧ w'.cell? ⟨W.heap.size, 3, none⟩ = some y.f ∧ (convert 43 9 x.f).run Try.prog w' = .ok (.string x.r.f) w' ∧ (convert 43 9 y.f).run Try.prog w' = .ok (.string y.r.f) w') (by kernel_rfl) ?_ (fun hHeld => ?_)
        · exact ⟨XF.out _ ED.out, (PD.out.cel 3 _ rfl).1, conv_ofR (OX.out.1.below ED.out), conv_ofR (HY.out.1.below ED.out)⟩
        refine take_at (i := 0) (v := ?_) (some 7) rfl rfl (by kernel_rfl) (by kernel_rfl) (by kernel_rfl) (fun _ _ _ h => h) (Or.inl ⟨by rfl, ?_⟩) (by assumption) ?_
        rotate_left
        · (intro w hSw; (try dsimp only at hSw); go_simp; try with_reducible rfl)
        simp only [Act.put, List.setIfInBounds_toArray, List.set_cons_zero, List.set_cons_succ]
        refine take_at (i := 1) (v := ?_) (some 8) rfl rfl (by kernel_rfl) (by kernel_rfl) (by kernel_rfl) (fun _ _ _ h => h) (Or.inl ⟨by rfl, ?_⟩) (by assumption) ?_
        rotate_left
        · (intro w hSw; (try dsimp only at hSw); go_simp; try with_reducible rfl)
        simp only [Act.put, List.setIfInBounds_toArray, List.set_cons_zero, List.set_cons_succ]
        refine take_at (i := 2) (v := ?_) (some 9) rfl rfl (by kernel_rfl) (by kernel_rfl) (by kernel_rfl) (fun _ _ _ h => h) (Or.inl ⟨by rfl, ?_⟩) (by assumption) ?_
        rotate_left
        · (intro w hSw; (try dsimp only at hSw); go_simp; try with_reducible rfl)
        simp only [Act.put, List.setIfInBounds_toArray, List.set_cons_zero, List.set_cons_succ]
        refine take_at (i := 3) (v := ?_) (some 10) rfl rfl (by kernel_rfl) (by kernel_rfl) (by kernel_rfl) (fun _ _ _ h => h) (Or.inl ⟨by rfl, ?_⟩) (by assumption) ?_
        rotate_left
        · (intro w hSw; (try dsimp only at hSw); go_simp; try with_reducible rfl)
        simp only [Act.put, List.setIfInBounds_toArray, List.set_cons_zero, List.set_cons_succ]
        refine take_at (i := 4) (v := ?_) (some 11) rfl rfl (by kernel_rfl) (by kernel_rfl) (by kernel_rfl) (fun _ _ _ h => h) (Or.inl ⟨by rfl, ?_⟩) (by assumption) ?_
        rotate_left
        · (intro w hSw; (try dsimp only at hSw); go_simp; try with_reducible rfl)
        simp only [Act.put, List.setIfInBounds_toArray, List.set_cons_zero, List.set_cons_succ]
        refine take_at (i := 5) (v := ?_) (some 12) rfl rfl (by kernel_rfl) (by kernel_rfl) (by kernel_rfl) (fun _ _ _ h => h) (Or.inl ⟨by rfl, ?_⟩) (by assumption) ?_
        rotate_left
        · (intro w hSw; (try dsimp only at hSw); go_simp; try with_reducible rfl)
        simp only [Act.put, List.setIfInBounds_toArray, List.set_cons_zero, List.set_cons_succ]
        refine take_at (i := 6) (v := ?_) (some 13) rfl rfl (by kernel_rfl) (by kernel_rfl) (by kernel_rfl) (fun _ _ _ h => h) (Or.inl ⟨by rfl, ?_⟩) (by assumption) ?_
        rotate_left
        · (intro w hSw; (try dsimp only at hSw); go_simp; try with_reducible rfl)
        simp only [Act.put, List.setIfInBounds_toArray, List.set_cons_zero, List.set_cons_succ]
        refine take_at (i := 7) (v := ?_) (some 14) rfl rfl (by kernel_rfl) (by kernel_rfl) (by kernel_rfl) (fun _ _ _ h => h) (Or.inl ⟨by rfl, ?_⟩) (by assumption) ?_
        rotate_left
        · (intro w hSw; (try dsimp only at hSw); go_simp; try with_reducible rfl)
        simp only [Act.put, List.setIfInBounds_toArray, List.set_cons_zero, List.set_cons_succ]
        refine take_at (i := 8) (v := ?_) (some 15) rfl rfl (by kernel_rfl) (by kernel_rfl) (by kernel_rfl) (fun _ _ _ h => h) (Or.inl ⟨by rfl, ?_⟩) (by assumption) ?_
        rotate_left
        · (intro w hSw; (try dsimp only at hSw); go_simp; try with_reducible rfl)
        simp only [Act.put, List.setIfInBounds_toArray, List.set_cons_zero, List.set_cons_succ]
        refine take_at (i := 9) (v := ?_) (some 16) rfl rfl (by kernel_rfl) (by kernel_rfl) (by kernel_rfl) (fun _ _ _ h => h) (Or.inl ⟨by rfl, ?_⟩) (by assumption) ?_
        rotate_left
        · (intro w hSw; (try dsimp only at hSw); go_simp; try with_reducible rfl)
        simp only [Act.put, List.setIfInBounds_toArray, List.set_cons_zero, List.set_cons_succ]
        refine take_at (i := 10) (v := ?_) (some 17) rfl rfl (by kernel_rfl) (by kernel_rfl) (by kernel_rfl) (fun _ _ _ h => h) (Or.inl ⟨by rfl, ?_⟩) (by assumption) ?_
        rotate_left
        · (intro w hSw; (try dsimp only at hSw); go_simp; try with_reducible rfl)
        simp only [Act.put, List.setIfInBounds_toArray, List.set_cons_zero, List.set_cons_succ]
        refine take_at (i := 11) (v := ?_) (some 18) rfl rfl (by kernel_rfl) (by kernel_rfl) (by kernel_rfl) (fun _ _ _ h => h) (Or.inl ⟨by rfl, ?_⟩) (by assumption) ?_
        rotate_left
        · (intro w hSw; (try dsimp only at hSw); go_simp; try with_reducible rfl)
        simp only [Act.put, List.setIfInBounds_toArray, List.set_cons_zero, List.set_cons_succ]
        refine take_at (i := 12) (v := ?_) (some 19) rfl rfl (by kernel_rfl) (by kernel_rfl) (by kernel_rfl) (fun _ _ _ h => h) (Or.inl ⟨by rfl, ?_⟩) (by assumption) ?_
        rotate_left
        · (intro w hSw; (try dsimp only at hSw); go_simp; try with_reducible rfl)
        simp only [Act.put, List.setIfInBounds_toArray, List.set_cons_zero, List.set_cons_succ]
        refine take_at (i := 13) (v := ?_) (some 20) rfl rfl (by kernel_rfl) (by kernel_rfl) (by kernel_rfl) (fun _ _ _ h => h) (Or.inl ⟨by rfl, ?_⟩) (by assumption) ?_
        rotate_left
        · (intro w hSw; (try dsimp only at hSw); go_simp; try with_reducible rfl)
        simp only [Act.put, List.setIfInBounds_toArray, List.set_cons_zero, List.set_cons_succ]
        refine take_at (i := 14) (v := ?_) (some 21) rfl rfl (by kernel_rfl) (by kernel_rfl) (by kernel_rfl) (fun _ _ _ h => h) (Or.inl ⟨by rfl, ?_⟩) (by assumption) ?_
        rotate_left
        · (intro w hSw; (try dsimp only at hSw); go_simp; try with_reducible rfl)
        simp only [Act.put, List.setIfInBounds_toArray, List.set_cons_zero, List.set_cons_succ]
        refine take_at (i := 15) (v := ?_) (some 22) rfl rfl (by kernel_rfl) (by kernel_rfl) (by kernel_rfl) (fun _ _ _ h => h) (Or.inl ⟨by rfl, ?_⟩) (by assumption) ?_
        rotate_left
        · (intro w hSw; (try dsimp only at hSw); go_simp; try with_reducible rfl)
        simp only [Act.put, List.setIfInBounds_toArray, List.set_cons_zero, List.set_cons_succ]
        refine wpAnyH_done (by kernel_rfl) ?_ _
        refine NoPanic.normal ?_
        clear hHeld hle
        go_wp2_with fail
        exact ⟨⟨k + 1, LT.out, rfl, NX⟩, GO.out⟩
      · have hle : ∀ w, (binOp .leq 9 (.string x.r.f) (.string y.r.f)).run Try.prog w = .ok (.bool false) w := fun w => by rw [leq_str, decide_eq_false hc]
        have WI : Hid (wiD (ps.map RV.r) y.r = k ∧ k ≤ n) := hidIt ⟨wi_of _ _ k (by rw [List.length_map]; have := HN.out.1; have := LT.out; omega) (fun j z hj hz => by
          rw [List.getElem?_map] at hz
          cases q : ps[j]? with
          | none => rw [q] at hz; cases hz
          | some w => rw [q] at hz; injection hz with hz; subst hz; exact HI.out.2.2 j w hj q) (fun z hz => by
          rw [List.getElem?_map, HX.out] at hz
          injection hz with hz
          subst hz
          exact hc), by have := LT.out; omega⟩
        clear hc
        go_wp2_with fail
        refine wp_region_noPanic ?_
        refine wp_region_held_drew (S := fun w' => w'.cell? ⟨b, o + k * 5 + 3, none⟩ = some x.f ∧ w'.cell? ⟨W.heap.size, 3, none⟩ = some y.f ∧ (convert 43 9 x.f).run Try.prog w' = .ok (.string x.r.f) w' ∧ (convert 43 9 y.f).run Try.prog w' = .ok (.string y.r.f) w') (by kernel_rfl) ?_ (fun hHeld => ?_)
        · exact ⟨XF.out _ ED.out, (PD.out.cel 3 _ rfl).1, conv_ofR (OX.out.1.below ED.out), conv_ofR (HY.out.1.below ED.out)⟩
        refine take_at (i := 0) (v := ?_) (some 7) rfl rfl (by kernel_rfl) (by kernel_rfl) (by kernel_rfl) (fun _ _ _ h => h) (Or.inl ⟨by rfl, ?_⟩) (by assumption) ?_
        rotate_left
        · (intro w hSw; (try dsimp only at hSw); go_simp; try with_reducible rfl)
        simp only [Act.put, List.setIfInBounds_toArray, List.set_cons_zero, List.set_cons_succ]
        refine take_at (i := 1) (v := ?_) (some 8) rfl rfl (by kernel_rfl) (by kernel_rfl) (by kernel_rfl) (fun _ _ _ h => h) (Or.inl ⟨by rfl, ?_⟩) (by assumption) ?_
        rotate_left
        · (intro w hSw; (try dsimp only at hSw); go_simp; try with_reducible rfl)
        simp only [Act.put, List.setIfInBounds_toArray, List.set_cons_zero, List.set_cons_succ]
        refine take_at (i := 2) (v := ?_) (some 9) rfl rfl (by kernel_rfl) (by kernel_rfl) (by kernel_rfl) (fun _ _ _ h => h) (Or.inl ⟨by rfl, ?_⟩) (by assumption) ?_
        rotate_left
        · (intro w hSw; (try dsimp only at hSw); go_simp; try with_reducible rfl)
        simp only [Act.put, List.setIfInBounds_toArray, List.set_cons_zero, List.set_cons_succ]
        refine take_at (i := 3) (v := ?_) (some 10) rfl rfl (by kernel_rfl) (by kernel_rfl) (by kernel_rfl) (fun _ _ _ h => h) (Or.inl ⟨by rfl, ?_⟩) (by assumption) ?_
        rotate_left
        · (intro w hSw; (try dsimp only at hSw); go_simp; try with_reducible rfl)
        simp only [Act.put, List.setIfInBounds_toArray, List.set_cons_zero, List.set_cons_succ]
        refine take_at (i := 4) (v := ?_) (some 11) rfl rfl (by kernel_rfl) (by kernel_rfl) (by kernel_rfl) (fun _ _ _ h => h) (Or.inl ⟨by rfl, ?_⟩) (by assumption) ?_
        rotate_left
        · (intro w hSw; (try dsimp only at hSw); go_simp; try with_reducible rfl)
        simp only [Act.put, List.setIfInBounds_toArray, List.set_cons_zero, List.set_cons_succ]
        refine take_at (i := 5) (v := ?_) (some 12) rfl rfl (by kernel_rfl) (by kernel_rfl) (by kernel_rfl) (fun _ _ _ h => h) (Or.inl ⟨by rfl, ?_⟩) (by assumption) ?_
        rotate_left
        · (intro w hSw; (try dsimp only at hSw); go_simp; try with_reducible rfl)
        simp only [Act.put, List.setIfInBounds_toArray, List.set_cons_zero, List.set_cons_succ]
        refine take_at (i := 6) (v := ?_) (some 13) rfl rfl (by kernel_rfl) (by kernel_rfl) (by kernel_rfl) (fun _ _ _ h => h) (Or.inl ⟨by rfl, ?_⟩) (by assumption) ?_
        rotate_left
        · (intro w hSw; (try dsimp only at hSw); go_simp; try with_reducible rfl)
        simp only [Act.put, List.setIfInBounds_toArray, List.set_cons_zero, List.set_cons_succ]
        refine take_at (i := 7) (v := ?_) (some 14) rfl rfl (by kernel_rfl) (by kernel_rfl) (by kernel_rfl) (fun _ _ _ h => h) (Or.inl ⟨by rfl, ?_⟩) (by assumption) ?_
        rotate_left
        · (intro w hSw; (try dsimp only at hSw); go_simp; try with_reducible rfl)
        simp only [Act.put, List.setIfInBounds_toArray, List.set_cons_zero, List.set_cons_succ]
        refine take_at (i := 8) (v := ?_) (some 15) rfl rfl (by kernel_rfl) (by kernel_rfl) (by kernel_rfl) (fun _ _ _ h => h) (Or.inl ⟨by rfl, ?_⟩) (by assumption) ?_
        rotate_left
        · (intro w hSw; (try dsimp only at hSw); go_simp; try with_reducible rfl)
        simp only [Act.put, List.setIfInBounds_toArray, List.set_cons_zero, List.set_cons_succ]
        refine take_at (i := 9) (v := ?_) (some 16) rfl rfl (by kernel_rfl) (by kernel_rfl) (by kernel_rfl) (fun _ _ _ h => h) (Or.inl ⟨by rfl, ?_⟩) (by assumption) ?_
        rotate_left
        · (intro w hSw; (try dsimp only at hSw); go_simp; try with_reducible rfl)
        simp only [Act.put, List.setIfInBounds_toArray, List.set_cons_zero, List.set_cons_succ]
        refine take_at (i := 10) (v := ?_) (some 17) rfl rfl (by kernel_rfl) (by kernel_rfl) (by kernel_rfl) (fun _ _ _ h => h) (Or.inl ⟨by rfl, ?_⟩) (by assumption) ?_
        rotate_left
        · (intro w hSw; (try dsimp only at hSw); go_simp; try with_reducible rfl)
        simp only [Act.put, List.setIfInBounds_toArray, List.set_cons_zero, List.set_cons_succ]
        refine take_at (i := 11) (v := ?_) (some 18) rfl rfl (by kernel_rfl) (by kernel_rfl) (by kernel_rfl) (fun _ _ _ h => h) (Or.inl ⟨by rfl, ?_⟩) (by assumption) ?_
        rotate_left
        · (intro w hSw; (try dsimp only at hSw); go_simp; try with_reducible rfl)
        simp only [Act.put, List.setIfInBounds_toArray, List.set_cons_zero, List.set_cons_succ]
        refine take_at (i := 12) (v := ?_) (some 19) rfl rfl (by kernel_rfl) (by kernel_rfl) (by kernel_rfl) (fun _ _ _ h => h) (Or.inl ⟨by rfl, ?_⟩) (by assumption) ?_
        rotate_left
        · (intro w hSw; (try dsimp only at hSw); go_simp; try with_reducible rfl)
        simp only [Act.put, List.setIfInBounds_toArray, List.set_cons_zero, List.set_cons_succ]
        refine take_at (i := 13) (v := ?_) (some 20) rfl rfl (by kernel_rfl) (by kernel_rfl) (by kernel_rfl) (fun _ _ _ h => h) (Or.inl ⟨by rfl, ?_⟩) (by assumption) ?_
        rotate_left
        · (intro w hSw; (try dsimp only at hSw); go_simp; try with_reducible rfl)
        simp only [Act.put, List.setIfInBounds_toArray, List.set_cons_zero, List.set_cons_succ]
        refine take_at (i := 14) (v := ?_) (some 21) rfl rfl (by kernel_rfl) (by kernel_rfl) (by kernel_rfl) (fun _ _ _ h => h) (Or.inl ⟨by rfl, ?_⟩) (by assumption) ?_
        rotate_left
        · (intro w hSw; (try dsimp only at hSw); go_simp; try with_reducible rfl)
        simp only [Act.put, List.setIfInBounds_toArray, List.set_cons_zero, List.set_cons_succ]
        refine take_at (i := 15) (v := ?_) (some 22) rfl rfl (by kernel_rfl) (by kernel_rfl) (by kernel_rfl) (fun _ _ _ h => h) (Or.inl ⟨by rfl, ?_⟩) (by assumption) ?_
        rotate_left
        · (intro w hSw; (try dsimp only at hSw); go_simp; try with_reducible rfl)
        simp only [Act.put, List.setIfInBounds_toArray, List.set_cons_zero, List.set_cons_succ]
        refine wpAnyH_done (by kernel_rfl) ?_ _
        refine NoPanic.normal ?_
        clear hHeld hle
        obtain ⟨aa, haa⟩ : ∃ aa, aa = (some ⟨b, o, none⟩ : Option Addr) := ⟨_, rfl⟩
        rw [← haa] at HL
        simp only [← haa]
        clear HX XF OX LT GO haa i0 i1 i2 i3 HI
        have A1 : Below wr.drew.heap.size wr.drew (wr.drew.alloc (.cells #[] 45)) := (Below.refl _ _).alloc (Nat.le_refl _) _
        have O1 : OwnR (wr.drew.alloc (.cells #[] 45)) 0 (.slice (some ⟨wr.drew.heap.size, 0, none⟩) 0 0) [] := own_none _ _ (World.alloc_heap_new wr.drew _)
        have nb1 : ∀ b, (Value.slice (some ⟨wr.drew.heap.size, 0, none⟩) 0 0).ownBlock = some b → wr.drew.heap.size ≤ b := fun b hb => by have hb : some wr.drew.heap.size = some b := hb; injection hb with hb; exact Nat.le_of_eq hb
        obtain ⟨ha, hs, hh⟩ := slc_highA (wr.drew.alloc (.cells #[] 45)) aa ps n C k HN.out.1 (HL.out.below (ED.out.trans (A1.mono ED.out.size))) HN.out.2.2 WI.out.2
        obtain ⟨v2, W2, hr2, I2⟩ := app_runs_any 23 (wr.drew.alloc (.cells #[] 45)) _ [] (ps.take k) ha k C (by rw [List.length_take]; have := HN.out.1; have := WI.out.2; omega) O1 (hh _ (HL.out.below (ED.out.trans (A1.mono ED.out.size)))) (by rw [List.length_take]; have := HN.out.2.1; have := WI.out.2; simp; omega)
        rw [List.nil_append] at I2
        have D2 := A1.trans (I2.off.below (fun b hb => nb1 b (by simpa using hb)) A1.size)
        have nb2 := I2.newer (W0 := wr.drew) nb1 A1.size
        have R2 := PD.out.below D2
        obtain ⟨W3, hW3⟩ : ∃ W3, W3 = W2.alloc (.cells y.cs.toArray 45) := ⟨_, rfl⟩
        have A3 : Below W2.heap.size W2 W3 := by rw [hW3]; exact (Below.refl _ _).alloc (Nat.le_refl _) _
        have R3 : Rec19 W3 W2.heap.size 0 (rcs [y]) := by rw [hW3, rcs_single]; exact Rec19.new W2 _ y.cs
        obtain ⟨v4, W4, hr4, I4⟩ := app_runs 23 W3 v2 _ [y] ⟨W2.heap.size, 0, none⟩ 1 (I2.own.below A3) (fun j u hj => by rw [Addr.add_mid]; exact R3.1 j u hj) (by rw [rcs_single]; exact HY.out.one) (by simp) (by rw [List.length_take]; have := HN.out.2.1; have := WI.out.2; simp; omega)
        simp only [List.length_singleton] at hr4
        have D3 := D2.trans (A3.mono D2.size)
        have D4 := D3.trans (I4.off.below (fun b hb => nb2 b (by simpa using hb)) D3.size)
        have nb4 := I4.newer (W0 := wr.drew) nb2 D3.size
        have E4 := ED.out.trans (D4.mono ED.out.size)
        obtain ⟨la, ls, lh⟩ := slc_lowA W4 aa ps n C k HN.out.1 (HL.out.below E4) HN.out.2.2 WI.out.2
        obtain ⟨v6, W6, hr6, I6⟩ := app_runs_any 23 W4 v4 (ps.take k ++ [y]) (ps.drop k) la (n - k) (C - k) (by rw [List.length_drop, HN.out.1]) I4.own (lh _ (HL.out.below E4)) (by rw [List.length_append, List.length_take, List.length_drop]; have := HN.out; have := WI.out.2; simp; omega)
        have D6 := D4.trans (I6.off.below (fun b hb => nb4 b (by simpa using hb)) D4.size)
        have nb6 := I6.newer (W0 := wr.drew) nb4 D4.size
        have FIN : Hid (NwiP W ps y (.returned v6) W6) := hidIt (by
          obtain ⟨va, vc, hv, _⟩ := I6.own.sl
          have ow := I6.own
          rw [hv] at ow nb6
          rw [hv]
          have e : withL ps y = ps.take k ++ [y] ++ ps.drop k := by unfold withL; rw [WI.out.1]
          unfold NwiP
          rw [e]
          exact ⟨va, vc, rfl, ow, fun b hb => Nat.le_trans ED.out.size (nb6 b hb), ED.out.trans (D6.mono ED.out.size)⟩)
        have HS := hidIt hs
        have LS := hidIt ls
        have H2 := hidIt hr2
        have H4 := hidIt hr4
        have H6 := hidIt hr6
        have HW3 := hidIt hW3
        clear hs ls hr2 hr4 hr6 hW3 A1 O1 nb1 hh I2 D2 nb2 A3 R3 I4 D3 D4 nb4 E4 lh I6 D6 nb6 PD ED
        go_wp2_with (first
          | (refine wpList_run_w (by rfl) _ (wr.drew.alloc (.cells #[] 45)) (slc_runh (.tmp 26) (.tmp 27) rfl _ _ aa n C k rfl rfl rfl (by kernel_rfl) HS.out) ?_)
          | (at_builtin; refine wpList_append_go rfl (.tmp 25) (.tmp 28) 23 23 rfl _ _ rfl rfl H2.out ?_)
          | (refine wpList_load_rec rfl 45 (.tmp 3) rfl W.heap.size 0 y.cs rfl _ Try.underlying45 rfl run_size R2 ?_; clear R2)
          | (refine wpList_run_w (by rfl) (.slice (some ⟨W2.heap.size, 0, none⟩) 1 1) W3 (by rw [HW3.out]; exact bsl_run 23 45 1 _ rfl 5 72 _ _ _ under_runs info_run (by decide) (by decide) rfl (by kernel_rfl)) ?_)
          | (at_builtin; refine wpList_append_go rfl (.tmp 30) (.tmp 32) 23 23 rfl _ _ rfl rfl H4.out ?_)
          | (refine wpList_run_w (by rfl) _ W4 (slc_runl (.tmp 35) (.tmp 36) rfl _ _ aa n C k rfl rfl rfl (by kernel_rfl) LS.out) ?_)
          | (at_builtin; refine wpList_append_go rfl (.tmp 34) (.tmp 37) 23 23 rfl _ _ rfl rfl H6.out ?_))
        exact bodyPost_ret (v := v6) (by simp [results, Try.results37, go_sem]) rfl FIN.out
    · obtain rfl : k = n := by omega
      have i0 : ((k : Int) < (k : Int)) = False := eq_false (by omega)
      have WI : Hid (wiD (ps.map RV.r) y.r = k ∧ k ≤ k) := hidIt ⟨wi_of _ _ k (by rw [List.length_map]; have := HN.out.1; omega) (fun j z hj hz => by
        rw [List.getElem?_map] at hz
        cases q : ps[j]? with
        | none => rw [q] at hz; cases hz
        | some w => rw [q] at hz; injection hz with hz; subst hz; exact HI.out.2.2 j w hj q) (fun z hz => by
        rw [List.getElem?_eq_none (by rw [List.length_map]; have := HN.out.1; omega)] at hz
        cases hz), Nat.le_refl _⟩
      have ED := hidIt HI.out.1.drew
      have PD := hidIt (HI.out.2.1.below (Below.refl _ _).drew)
      clear hk hlt
      go_wp2_with fail
      refine wp_region_noPanic ?_
      refine wp_region_held_drew (S := fun _ => True) (by kernel_rfl) ?_ (fun hHeld => ?_)
      · trivial
      refine take_at (i := 0) (v := ?_) (some 7) rfl rfl (by kernel_rfl) (by kernel_rfl) (by kernel_rfl) (fun _ _ _ h => h) (Or.inl ⟨by rfl, ?_⟩) (by assumption) ?_
      rotate_left
      · (intro w hSw; (try dsimp only at hSw); go_simp; try with_reducible rfl)
      simp only [Act.put, List.setIfInBounds_toArray, List.set_cons_zero, List.set_cons_succ]
      refine take_at (i := 1) (v := ?_) (some 8) rfl rfl (by kernel_rfl) (by kernel_rfl) (by kernel_rfl) (fun _ _ _ h => h) (Or.inl ⟨by rfl, ?_⟩) (by assumption) ?_
      rotate_left
      · (intro w hSw; (try dsimp only at hSw); go_simp; try with_reducible rfl)
      simp only [Act.put, List.setIfInBounds_toArray, List.set_cons_zero, List.set_cons_succ]
      refine take_at (i := 2) (v := ?_) (some 9) rfl rfl (by kernel_rfl) (by kernel_rfl) (by kernel_rfl) (fun _ _ _ h => h) (Or.inl ⟨by rfl, ?_⟩) (by assumption) ?_
      rotate_left
      · (intro w hSw; (try dsimp only at hSw); go_simp; try with_reducible rfl)
      simp only [Act.put, List.setIfInBounds_toArray, List.set_cons_zero, List.set_cons_succ]
      refine take_at (i := 3) (v := ?_) (some 10) rfl rfl (by kernel_rfl) (by kernel_rfl) (by kernel_rfl) (fun _ _ _ h => h) (Or.inl ⟨by rfl, ?_⟩) (by assumption) ?_
      rotate_left
      · (intro w hSw; (try dsimp only at hSw); go_simp; try with_reducible rfl)
      simp only [Act.put, List.setIfInBounds_toArray, List.set_cons_zero, List.set_cons_succ]
      refine take_at (i := 4) (v := ?_) (some 11) rfl rfl (by kernel_rfl) (by kernel_rfl) (by kernel_rfl) (fun _ _ _ h => h) (Or.inl ⟨by rfl, ?_⟩) (by assumption) ?_
      rotate_left
      · (intro w hSw; (try dsimp only at hSw); go_simp; try with_reducible rfl)
      simp only [Act.put, List.setIfInBounds_toArray, List.set_cons_zero, List.set_cons_succ]
      refine take_at (i := 5) (v := undef) (some 12) rfl rfl (by kernel_rfl) (by kernel_rfl) (by kernel_rfl) (fun _ _ _ h => h) (Or.inr ⟨by rfl, rfl⟩) (by assumption) ?_
      simp only [Act.put, List.setIfInBounds_toArray, List.set_cons_zero, List.set_cons_succ]
      refine take_at (i := 6) (v := undef) (some 13) rfl rfl (by kernel_rfl) (by kernel_rfl) (by kernel_rfl) (fun _ _ _ h => h) (Or.inr ⟨by rfl, rfl⟩) (by assumption) ?_
      simp only [Act.put, List.setIfInBounds_toArray, List.set_cons_zero, List.set_cons_succ]
      refine take_at (i := 7) (v := undef) (some 14) rfl rfl (by kernel_rfl) (by kernel_rfl) (by kernel_rfl) (fun _ _ _ h => h) (Or.inr ⟨by rfl, rfl⟩) (by assumption) ?_
      simp only [Act.put, List.setIfInBounds_toArray, List.set_cons_zero, List.set_cons_succ]
      refine take_at (i := 8) (v := undef) (some 15) rfl rfl (by kernel_rfl) (by kernel_rfl) (by kernel_rfl) (fun _ _ _ h => h) (Or.inr ⟨by rfl, rfl⟩) (by assumption) ?_
      simp only [Act.put, List.setIfInBounds_toArray, List.set_cons_zero, List.set_cons_succ]
      refine take_at (i := 9) (v := undef) (some 16) rfl rfl (by kernel_rfl) (by kernel_rfl) (by kernel_rfl) (fun _ _ _ h => h) (Or.inr ⟨by rfl, rfl⟩) (by assumption) ?_
      simp only [Act.put, List.setIfInBounds_toArray, List.set_cons_zero, List.set_cons_succ]
      refine take_at (i := 10) (v := undef) (some 17) rfl rfl (by kernel_rfl) (by kernel_rfl) (by kernel_rfl) (fun _ _ _ h => h) (Or.inr ⟨by rfl, rfl⟩) (by assumption) ?_
      simp only [Act.put, List.setIfInBounds_toArray, List.set_cons_zero, List.set_cons_succ]
      refine take_at (i := 11) (v := undef) (some 18) rfl rfl (by kernel_rfl) (by kernel_rfl) (by kernel_rfl) (fun _ _ _ h => h) (Or.inr ⟨by rfl, rfl⟩) (by assumption) ?_
      simp only [Act.put, List.setIfInBounds_toArray, List.set_cons_zero, List.set_cons_succ]
      refine take_at (i := 12) (v := undef) (some 19) rfl rfl (by kernel_rfl) (by kernel_rfl) (by kernel_rfl) (fun _ _ _ h => h) (Or.inr ⟨by rfl, rfl⟩) (by assumption) ?_
      simp only [Act.put, List.setIfInBounds_toArray, List.set_cons_zero, List.set_cons_succ]
      refine take_at (i := 13) (v := undef) (some 20) rfl rfl (by kernel_rfl) (by kernel_rfl) (by kernel_rfl) (fun _ _ _ h => h) (Or.inr ⟨by rfl, rfl⟩) (by assumption) ?_
      simp only [Act.put, List.setIfInBounds_toArray, List.set_cons_zero, List.set_cons_succ]
      refine take_at (i := 14) (v := undef) (some 21) rfl rfl (by kernel_rfl) (by kernel_rfl) (by kernel_rfl) (fun _ _ _ h => h) (Or.inr ⟨by rfl, rfl⟩) (by assumption) ?_
      simp only [Act.put, List.setIfInBounds_toArray, List.set_cons_zero, List.set_cons_succ]
      refine take_at (i := 15) (v := ?_) (some 22) rfl rfl (by kernel_rfl) (by kernel_rfl) (by kernel_rfl) (fun _ _ _ h => h) (Or.inl ⟨by rfl, ?_⟩) (by assumption) ?_
      rotate_left
      · (intro w hSw; (try dsimp only at hSw); go_simp; try with_reducible rfl)
      simp only [Act.put, List.setIfInBounds_toArray, List.set_cons_zero, List.set_cons_succ]
      refine wpAnyH_done (by kernel_rfl) ?_ _
      refine NoPanic.normal ?_
      clear hHeld i0 HI
      have A1 : Below wr.drew.heap.size wr.drew (wr.drew.alloc (.cells #[] 45)) := (Below.refl _ _).alloc (Nat.le_refl _) _
      have O1 : OwnR (wr.drew.alloc (.cells #[] 45)) 0 (.slice (some ⟨wr.drew.heap.size, 0, none⟩) 0 0) [] := own_none _ _ (World.alloc_heap_new wr.drew _)
      have nb1 : ∀ b, (Value.slice (some ⟨wr.drew.heap.size, 0, none⟩) 0 0).ownBlock = some b → wr.drew.heap.size ≤ b := fun b hb => by have hb : some wr.drew.heap.size = some b := hb; injection hb with hb; exact Nat.le_of_eq hb
      obtain ⟨ha, hs, hh⟩ := slc_highA (wr.drew.alloc (.cells #[] 45)) a ps k C k HN.out.1 (HL.out.below (ED.out.trans (A1.mono ED.out.size))) HN.out.2.2 WI.out.2
      obtain ⟨v2, W2, hr2, I2⟩ := app_runs_any 23 (wr.drew.alloc (.cells #[] 45)) _ [] (ps.take k) ha k C (by rw [List.length_take]; have := HN.out.1; have := WI.out.2; omega) O1 (hh _ (HL.out.below (ED.out.trans (A1.mono ED.out.size)))) (by rw [List.length_take]; have := HN.out.2.1; have := WI.out.2; simp; omega)
      rw [List.nil_append] at I2
      have D2 := A1.trans (I2.off.below (fun b hb => nb1 b (by simpa using hb)) A1.size)
      have nb2 := I2.newer (W0 := wr.drew) nb1 A1.size
      have R2 := PD.out.below D2
      obtain ⟨W3, hW3⟩ : ∃ W3, W3 = W2.alloc (.cells y.cs.toArray 45) := ⟨_, rfl⟩
      have A3 : Below W2.heap.size W2 W3 := by rw [hW3]; exact (Below.refl _ _).alloc (Nat.le_refl _) _
      have R3 : Rec19 W3 W2.heap.size 0 (rcs [y]) := by rw [hW3, rcs_single]; exact Rec19.new W2 _ y.cs
      obtain ⟨v4, W4, hr4, I4⟩ := app_runs 23 W3 v2 _ [y] ⟨W2.heap.size, 0, none⟩ 1 (I2.own.below A3) (fun j u hj => by rw [Addr.add_mid]; exact R3.1 j u hj) (by rw [rcs_single]; exact HY.out.one) (by simp) (by rw [List.length_take]; have := HN.out.2.1; have := WI.out.2; simp; omega)
      simp only [List.length_singleton] at hr4
      have D3 := D2.trans (A3.mono D2.size)
      have D4 := D3.trans (I4.off.below (fun b hb => nb2 b (by simpa using hb)) D3.size)
      have nb4 := I4.newer (W0 := wr.drew) nb2 D3.size
      have E4 := ED.out.trans (D4.mono ED.out.size)
      obtain ⟨la, ls, lh⟩ := slc_lowA W4 a ps k C k HN.out.1 (HL.out.below E4) HN.out.2.2 WI.out.2
      obtain ⟨v6, W6, hr6, I6⟩ := app_runs_any 23 W4 v4 (ps.take k ++ [y]) (ps.drop k) la (k - k) (C - k) (by rw [List.length_drop, HN.out.1]) I4.own (lh _ (HL.out.below E4)) (by rw [List.length_append, List.length_take, List.length_drop]; have := HN.out; have := WI.out.2; simp; omega)
      have D6 := D4.trans (I6.off.below (fun b hb => nb4 b (by simpa using hb)) D4.size)
      have nb6 := I6.newer (W0 := wr.drew) nb4 D4.size
      have FIN : Hid (NwiP W ps y (.returned v6) W6) := hidIt (by
        obtain ⟨va, vc, hv, _⟩ := I6.own.sl
        have ow := I6.own
        rw [hv] at ow nb6
        rw [hv]
        have e : withL ps y = ps.take k ++ [y] ++ ps.drop k := by unfold withL; rw [WI.out.1]
        unfold NwiP
        rw [e]
        exact ⟨va, vc, rfl, ow, fun b hb => Nat.le_trans ED.out.size (nb6 b hb), ED.out.trans (D6.mono ED.out.size)⟩)
      have HS := hidIt hs
      have LS := hidIt ls
      have H2 := hidIt hr2
      have H4 := hidIt hr4
      have H6 := hidIt hr6
      have HW3 := hidIt hW3
      clear hs ls hr2 hr4 hr6 hW3 A1 O1 nb1 hh I2 D2 nb2 A3 R3 I4 D3 D4 nb4 E4 lh I6 D6 nb6 PD ED
      go_wp2_with (first
        | (refine wpList_run_w (by rfl) _ (wr.drew.alloc (.cells #[] 45)) (slc_runh (.tmp 26) (.tmp 27) rfl _ _ a k C k rfl rfl rfl (by kernel_rfl) HS.out) ?_)
        | (at_builtin; refine wpList_append_go rfl (.tmp 25) (.tmp 28) 23 23 rfl _ _ rfl rfl H2.out ?_)
        | (refine wpList_load_rec rfl 45 (.tmp 3) rfl W.heap.size 0 y.cs rfl _ Try.underlying45 rfl run_size R2 ?_; clear R2)
        | (refine wpList_run_w (by rfl) (.slice (some ⟨W2.heap.size, 0, none⟩) 1 1) W3 (by rw [HW3.out]; exact bsl_run 23 45 1 _ rfl 5 72 _ _ _ under_runs info_run (by decide) (by decide) rfl (by kernel_rfl)) ?_)
        | (at_builtin; refine wpList_append_go rfl (.tmp 30) (.tmp 32) 23 23 rfl _ _ rfl rfl H4.out ?_)
        | (refine wpList_run_w (by rfl) _ W4 (slc_runl (.tmp 35) (.tmp 36) rfl _ _ a k C k rfl rfl rfl (by kernel_rfl) LS.out) ?_)
        | (at_builtin; refine wpList_append_go rfl (.tmp 34) (.tmp 37) 23 23 rfl _ _ rfl rfl H6.out ?_))
      exact bodyPost_ret (v := v6) (by simp [results, Try.results37, go_sem]) rfl FIN.out
end Go.Proofs.Ytelcijfcgflagaa
namespace Go.Proofs.Ytelcijfcgflagaa
open Go.RowKit
attribute [-go_sem] Builtin.append_
def withsL (ps ts : List RV) : List RV := ts.foldl withL ps
def insD (l ts : List Rn) : List Rn := ts.foldl withD l
theorem withs_map : ∀ (ts ps : List RV), (withsL ps ts).map RV.r = insD (ps.map RV.r) (ts.map RV.r)
  | [], _ => rfl
  | t :: q, ps => by
    show (withsL (withL ps t) q).map RV.r = insD (withD (ps.map RV.r) t.r) (q.map RV.r)
    rw [withs_map q, with_map]
theorem withs_snoc {ps ts : List RV} {k : Nat} {x : RV} (h : ts[k]? = some x) : withsL ps (ts.take (k + 1)) = withL (withsL ps (ts.take k)) x := by
  unfold withsL
  rw [List.take_add_one, h, List.foldl_append]
  rfl
theorem with_mem {ps : List RV} {y x : RV} (h : x ∈ withL ps y) : x ∈ ps ∨ x = y := by
  unfold withL at h
  simp only [List.mem_append, List.mem_singleton] at h
  rcases h with (h | h) | h
  · exact .inl (List.mem_of_mem_take h)
  · exact .inr h
  · exact .inl (List.mem_of_mem_drop h)
theorem withs_mem : ∀ {ts ps : List RV} {x : RV}, x ∈ withsL ps ts → x ∈ ps ∨ x ∈ ts
  | [], _, _, h => .inl h
  | t :: q, ps, x, h => by
    rcases withs_mem (ts := q) (ps := withL ps t) h with h | h
    · rcases with_mem h with h | h
      · exact .inl h
      · exact .inr (h ▸ List.mem_cons_self)
    · exact .inr (List.mem_cons_of_mem _ h)
theorem with_len (ps : List RV) (y : RV) : (withL ps y).length = ps.length + 1 := by
  unfold withL
  have := wi_le (ps.map RV.r) y.r
  rw [List.length_map] at this
  simp only [List.length_append, List.length_take, List.length_drop, List.length_singleton]
  omega
theorem withs_len : ∀ (ts ps : List RV), (withsL ps ts).length = ps.length + ts.length
  | [], _ => rfl
  | t :: q, ps => by
    show (withsL (withL ps t) q).length = _
    rw [withs_len q, with_len, List.length_cons]
    omega
/-- What the loop over the new tables keeps. -/
def NrI (m0 : Nat) (W5 : World) (P rs : List RV) (k : Nat) (wr : World) (a : Option Addr) (n c : Nat) : Prop := (withsL P (rs.take k)).length = n ∧ OwnR wr 0 (.slice a n c) (withsL P (rs.take k)) ∧ (∀ b, (Value.slice a n c).ownBlock = some b → m0 ≤ b) ∧ Below W5.heap.size W5 wr
/-- What the reference's Replace answers. -/
def NrP (W : World) (m : List (List Rn)) (z : Int) (fr to fresh : List Rn) (e : Ending) (w' : World) : Prop :=
  (preB m z fr to = false ∧ e = .returned (.tuple #[.slice none 0 0, .int .i64 2]) ∧ Below W.heap.size W w') ∨
  (preB m z fr to = true ∧ ∃ qs : List Rn, qs = insD (restD ((m[z.toNat + 1]?).getD []) to) fresh ∧
    ((mayB [rpL m z.toNat fr qs 0, rpL m z.toNat fr qs 1, rpL m z.toNat fr qs 2, rpL m z.toNat fr qs 3] = false ∧ e = .returned (.tuple #[.slice none 0 0, .int .i64 2]) ∧ Below W.heap.size W w') ∨
     (mayB [rpL m z.toNat fr qs 0, rpL m z.toNat fr qs 1, rpL m z.toNat fr qs 2, rpL m z.toNat fr qs 3] = true ∧ ∃ g lv, e = .returned (.tuple #[.slice (some ⟨g, 0, none⟩) 4 4, .int .i64 0]) ∧ Four w' g lv ∧ W.heap.size < g ∧ (∀ k, k < 4 → (lv k).rs.map RV.r = rpL m z.toNat fr qs k) ∧ Below W.heap.size W w')))
/-- What is handed to it. -/
structure NrA (W : World) (A : Option Addr) (ls : List LR) (L : Nat) (fa ta ra : Option Addr) (fs ts rs : List RV) : Prop where
  len : ls.length = L
  lvs : Lvs W A ls
  few : ∀ x ∈ ls, x.rs.length ≤ 400
  fls : LsR W fa fs
  tls : LsR W ta ts
  rls : LsR W ra rs
  fn : fs.length ≤ 400
  tn : ts.length ≤ 400
  rn : rs.length ≤ 400
theorem upd4_rs (lv : Nat → LR) (i : Nat) (y : LR) (k : Nat) : (upd4 lv i y k).rs = upd4 (fun j => (lv j).rs) i y.rs k := by
  unfold upd4
  split <;> rfl
theorem four_few {ls : List LR} (h : ∀ x ∈ ls, x.rs.length ≤ 400) (i : Nat) : (fourD (rns ls) i).length ≤ 400 := by
  unfold fourD rns
  rw [List.getElem?_map]
  cases q : ls[i]? with
  | none => simp
  | some x => have := h x (List.mem_of_getElem? q); simpa using this
theorem all_eqR (ps gs : List RV) : (gs.all fun g => ps.any fun x => eqR x.r g.r) = (gs.map RV.r).all (hasR (ps.map RV.r)) := by
  rw [List.all_map]
  congr 1
  funext g
  exact (hasR_eq ps g.r).symm
theorem pre_eq {ls : List LR} {i j : Nat} {lv : Nat → LR} {fs ts : List RV} (hm : mayB (rns ls) = true) (hi : i < 3) (hj : j = i + 1) (h4 : ∀ k, k < 4 → (lv k).rs.map RV.r = fourD (rns ls) k) : preB (rns ls) (i : Int) (fs.map RV.r) (ts.map RV.r) = ((fs.all fun g => (lv i).rs.any fun x => eqR x.r g.r) && (ts.all fun g => (lv j).rs.any fun x => eqR x.r g.r)) := by
  unfold preB
  rw [hm, Int.toNat_natCast, decide_eq_true (show (0 : Int) ≤ (i : Int) by omega), decide_eq_true (show (i : Int) < 3 by omega), all_eqR, all_eqR, h4 i (by omega), h4 j (by omega), hj]
  rfl
/-- The four levels behind it. -/
theorem four_end {m : List (List Rn)} {i j : Nat} {lv : Nat → LR} {fs ts rs : List RV} {y z : LR} (hi : i < 3) (hj : j = i + 1) (h4 : ∀ k, k < 4 → (lv k).rs.map RV.r = fourD m k) (hy : y.rs = stayL (lv i).rs fs) (hz : z.rs = withsL (stayL (lv j).rs ts) rs) : ∀ k, k < 4 → (upd4 (upd4 lv i y) j z k).rs.map RV.r = rpL m i (fs.map RV.r) (insD (restD ((m[j]?).getD []) (ts.map RV.r)) (rs.map RV.r)) k := fun k hk => by
  by_cases e : k = j
  · subst e
    rw [upd4_at, rpL_j m hj, hz, withs_map, stay_map, h4 k hk]
    rfl
  · rw [upd4_ne _ _ e]
    by_cases e2 : k = i
    · subst e2
      rw [upd4_at, rpL_i, hy, stay_map, h4 k hk]
      rfl
    · rw [upd4_ne _ _ e2, h4 k hk]
      unfold rpL fourD
      rw [if_neg e2, if_neg (by omega)]
theorem four_rns2 {lv : Nat → LR} {f : Nat → List Rn} (h : ∀ i, i < 4 → (lv i).rs.map RV.r = f i) : rns [lv 0, lv 1, lv 2, lv 3] = [f 0, f 1, f 2, f 3] := by
  simp [rns, h 0 (by omega), h 1 (by omega), h 2 (by omega), h 3 (by omega)]
set_option maxRecDepth 100000 in
set_option maxHeartbeats 2000000 in
theorem nreplace_any {W : World} {A fa ta ra : Option Addr} {ls : List LR} {fs ts rs : List RV} (L C fc tc rc : Nat) (z : Int) (d : Bool) (hA : NrA W A ls L fa ta ra fs ts rs) : Calls Try.prog 12 #[.slice A L C, .agg (plC z (.slice fa fs.length fc) (.slice ta ts.length tc) d).toArray, .slice ra rs.length rc] W (NrP W (rns ls) z (fs.map RV.r) (ts.map RV.r) (rs.map RV.r)) := by
  have HA := hidIt hA
  clear hA
  by_cases hm : mayB (rns ls) = true
  · have MI : Hid (mayI (rns ls) = 0) := hidIt (by unfold mayI; rw [if_pos hm])
    have L4 : Hid (L ≤ 4) := hidIt (by have := ((mayB_at _).1 hm).1; have := HA.out.len; simp [rns] at *; omega)
    have M1 := hidIt hm
    clear hm
    by_cases hz : 0 ≤ z ∧ z ≤ 2
    · obtain ⟨i, rfl⟩ : ∃ i : Nat, z = (i : Int) := ⟨z.toNat, by omega⟩
      obtain ⟨j, hj⟩ : ∃ j, j = i + 1 := ⟨_, rfl⟩
      have IJ : Hid (j = i + 1 ∧ i < 3 ∧ i < 4 ∧ j < 4 ∧ i ≠ j) := hidIt (by omega)
      have q0 : ((i : Int) < 0) = False := eq_false (by omega)
      have q2 : ((2 : Int) < (i : Int)) = False := eq_false (by omega)
      have w1 : IntKind.i64.wrap ((i : Int) + 1) = (j : Int) := by rw [IntKind.wrap_i64]; omega
      have w1' : wrap64 ((i : Int) + 1) = (j : Int) := by unfold wrap64; omega
      have K4 : ((i : Int) < 4) = True := eq_true (by omega)
      have K4' : (i < 4) = True := eq_true (by omega)
      have J4 : ((j : Int) < 4) = True := eq_true (by omega)
      have J4' : (j < 4) = True := eq_true (by omega)
      have KEEP : Hid (∀ U, Rec19 U W.heap.size 0 (plC (i : Int) (.slice fa fs.length fc) (.slice ta ts.length tc) d) → U.cell? ⟨W.heap.size, 0, none⟩ = some (.int .i64 (i : Int)) ∧ U.cell? ⟨W.heap.size, 1, none⟩ = some (.slice fa fs.length fc) ∧ U.cell? ⟨W.heap.size, 2, none⟩ = some (.slice ta ts.length tc)) := hidIt (fun U p => ⟨(p.cel 0 _ rfl).1, (p.cel 1 _ rfl).1, (p.cel 2 _ rfl).1⟩)
      clear hz hj
      go_enter Try.func12, Try.ntmps12
      go_wp2_with (first
        | (refine wpList_box_rec rfl 25 (.tmp 1) rfl (plC (i : Int) (.slice fa fs.length fc) (.slice ta ts.length tc) d) rfl W.heap.size rfl ?_; intro W1 R1 B1 z1; have E1 : Hid (Below W.heap.size W W1 ∧ W1.heap.size = W.heap.size + 1) := hidIt ⟨B1, z1⟩; have P1 := hidIt R1; clear R1 B1 z1)
        | (go_at_call 22; refine (ncheck_any L C HA.out.len (HA.out.lvs.below E1.out.1) (fun x hx => by have := HA.out.few x hx; omega)).mono ?_; rw [MI.out]; rintro e W2 ⟨rfl, hb⟩; have E2 : Hid (Below W.heap.size W W2 ∧ W.heap.size + 1 ≤ W2.heap.size) := hidIt ⟨E1.out.1.trans (hb.mono E1.out.1.size), by have := hb.size; have := E1.out.2; omega⟩; have P2 := hidIt (P1.out.below hb); have p0 := (P2.out.cel 0 _ rfl).1; clear hb)
        | (go_at_call 23; refine (nfour_any L C HA.out.len (HA.out.lvs.below E2.out.1) L4.out (fun x hx => by have := HA.out.few x hx; omega)).mono ?_; rintro e W3 ⟨g, lv, rfl, hg, hf, hm, hb⟩; have F3 := hidIt hf; have G3 := hidIt hm; have SG : Hid (W.heap.size < g) := hidIt (by have := E2.out.2; omega); have E3 := hidIt (E2.out.1.trans (hb.mono E2.out.1.size)); have P3 := hidIt (P2.out.below hb); clear hf hg hm hb; refine Held.out ?_))
      refine Held.mk ?_
      clear p0 E1 P1 q0 q2 E2 P2
      have E3d : Hid (Below W.heap.size W W3.drew) := hidIt E3.out.drew
      have P3d := hidIt (P3.out.below (Below.refl _ _).drew)
      have F3d := hidIt (F3.out.below (Below.refl _ _).drew)
      have NI : Hid ((lv i).rs.length ≤ 400 ∧ (lv j).rs.length ≤ 400) := hidIt (by
        have a := congrArg List.length (G3.out i IJ.out.2.2.1)
        have b := congrArg List.length (G3.out j IJ.out.2.2.2.1)
        rw [List.length_map] at a b
        rw [a, b]
        exact ⟨four_few HA.out.few i, four_few HA.out.few j⟩)
      have CG : Hid (∀ U k, k < 4 → Four U g lv → U.cell? ⟨g, k, none⟩ = some (.slice (lv k).a (lv k).rs.length (lv k).c)) := hidIt (fun U k hk f => by
        rcases (show k = 0 ∨ k = 1 ∨ k = 2 ∨ k = 3 by omega) with rfl | rfl | rfl | rfl
        · exact (f.rc.cel 0 _ rfl).1
        · exact (f.rc.cel 1 _ rfl).1
        · exact (f.rc.cel 2 _ rfl).1
        · exact (f.rc.cel 3 _ rfl).1)
      have CH : Hid (∀ U (k : Nat) {l : Nat → LR}, k < 4 → Four U g l → _) := hidIt (fun U k l hk f => f.rc.cel k (l k).v (by rcases (show k = 0 ∨ k = 1 ∨ k = 2 ∨ k = 3 by omega) with rfl | rfl | rfl | rfl <;> rfl))
      have LK : Hid (∀ U k, k < 4 → Four U g lv → LsR U (lv k).a (lv k).rs) := hidIt (fun U k hk f => (f.oks k hk).ok.1)
      go_wp2_with fail
      refine wp_region_noPanic ?_
      refine wp_region_held_drew (S := fun w' => w'.cell? ⟨W.heap.size, 0, none⟩ = some (.int .i64 (i : Int)) ∧ w'.cell? ⟨W.heap.size, 1, none⟩ = some (.slice fa fs.length fc) ∧ w'.cell? ⟨g, i, none⟩ = some (.slice (lv i).a (lv i).rs.length (lv i).c)) (by kernel_rfl) ?_ (fun hHeld => ?_)
      · exact ⟨(KEEP.out _ P3d.out).1, (KEEP.out _ P3d.out).2.1, CG.out _ i IJ.out.2.2.1 F3d.out⟩
      refine take_at (i := 0) (v := ?_) (some 30) rfl rfl (by kernel_rfl) (by kernel_rfl) (by kernel_rfl) (fun _ _ _ h => h) (Or.inl ⟨by rfl, ?_⟩) (by assumption) ?_
      rotate_left
      · (intro w hSw; (try dsimp only at hSw); go_simp; try with_reducible rfl)
      simp only [Act.put, List.setIfInBounds_toArray, List.set_cons_zero, List.set_cons_succ]
      refine take_at (i := 1) (v := ?_) (some 31) rfl rfl (by kernel_rfl) (by kernel_rfl) (by kernel_rfl) (fun _ _ _ h => h) (Or.inl ⟨by rfl, ?_⟩) (by assumption) ?_
      rotate_left
      · (intro w hSw; (try dsimp only at hSw); go_simp; try with_reducible rfl)
      simp only [Act.put, List.setIfInBounds_toArray, List.set_cons_zero, List.set_cons_succ]
      refine take_at (i := 2) (v := ?_) (some 32) rfl rfl (by kernel_rfl) (by kernel_rfl) (by kernel_rfl) (fun _ _ _ h => h) (Or.inl ⟨by rfl, ?_⟩) (by assumption) ?_
      rotate_left
      · (intro w hSw; (try dsimp only at hSw); go_simp; try with_reducible rfl)
      simp only [Act.put, List.setIfInBounds_toArray, List.set_cons_zero, List.set_cons_succ]
      refine take_at (i := 3) (v := ?_) (some 33) rfl rfl (by kernel_rfl) (by kernel_rfl) (by kernel_rfl) (fun _ _ _ h => h) (Or.inl ⟨by rfl, ?_⟩) (by assumption) ?_
      rotate_left
      · (intro w hSw; (try dsimp only at hSw); go_simp; try with_reducible rfl)
      simp only [Act.put, List.setIfInBounds_toArray, List.set_cons_zero, List.set_cons_succ]
      refine take_at (i := 4) (v := ?_) (some 34) rfl rfl (by kernel_rfl) (by kernel_rfl) (by kernel_rfl) (fun _ _ _ h => h) (Or.inl ⟨by rfl, ?_⟩) (by assumption) ?_
      rotate_left
      · (intro w hSw; (try dsimp only at hSw); go_simp; try with_reducible rfl)
      simp only [Act.put, List.setIfInBounds_toArray, List.set_cons_zero, List.set_cons_succ]
      refine take_at (i := 5) (v := ?_) (some 35) rfl rfl (by kernel_rfl) (by kernel_rfl) (by kernel_rfl) (fun _ _ _ h => h) (Or.inl ⟨by rfl, ?_⟩) (by assumption) ?_
      rotate_left
      · (intro w hSw; (try dsimp only at hSw); go_simp; try with_reducible rfl)
      simp only [Act.put, List.setIfInBounds_toArray, List.set_cons_zero, List.set_cons_succ]
      refine take_at (i := 6) (v := ?_) (some 36) rfl rfl (by kernel_rfl) (by kernel_rfl) (by kernel_rfl) (fun _ _ _ h => h) (Or.inl ⟨by rfl, ?_⟩) (by assumption) ?_
      rotate_left
      · (intro w hSw; (try dsimp only at hSw); go_simp; try with_reducible rfl)
      simp only [Act.put, List.setIfInBounds_toArray, List.set_cons_zero, List.set_cons_succ]
      refine call_at (i := 7) (some 37) 36 _ _ rfl rfl rfl (by rfl) (by kernel_rfl) #[.slice (lv i).a (lv i).rs.length (lv i).c, .slice fa fs.length fc] rfl Try.func36 (by kernel_rfl) (by kernel_rfl) ?_
      refine (nwithout_any _ _ _ _ rfl (LK.out _ i IJ.out.2.2.1 F3d.out) rfl (HA.out.fls.below E3d.out) (by have := NI.out.1; omega) (by have := HA.out.fn; omega)).mono ?_
      rintro e W4 ⟨a9, c9, rfl, O9, N9, B4⟩
      obtain ⟨n9, hn9⟩ : ∃ n9, n9 = (stayL (lv i).rs fs).length := ⟨_, rfl⟩
      rw [← hn9] at O9 N9
      simp only [← hn9]
      obtain ⟨b1, hb1⟩ : ∃ b1, b1 = fs.all fun g => (lv i).rs.any fun x => eqR x.r g.r := ⟨_, rfl⟩
      simp only [← hb1]
      have H9 := hidIt (And.intro O9 (And.intro N9 hn9))
      have HB1 := hidIt hb1
      have F4 := hidIt (F3d.out.below B4)
      have P4 := hidIt (P3d.out.below B4)
      have E4 := hidIt (E3d.out.trans (B4.mono E3d.out.size))
      have D4 : Hid (Below W3.heap.size W3 W4) := hidIt ((Below.refl _ _).drew.trans B4)
      clear O9 N9 hn9 hb1 B4
      refine ⟨_, rfl, ⟨(KEEP.out _ P4.out).1, (KEEP.out _ P4.out).2.1, CG.out _ i IJ.out.2.2.1 F4.out⟩, fun hHeld => ?_⟩
      simp only [Act.put, List.setIfInBounds_toArray, List.set_cons_zero, List.set_cons_succ]
      refine take_at (i := 8) (v := ?_) (some 29) rfl rfl (by kernel_rfl) (by kernel_rfl) (by kernel_rfl) (fun _ _ _ h => h) (Or.inl ⟨by rfl, ?_⟩) (by assumption) ?_
      rotate_left
      · (intro w hSw; (try dsimp only at hSw); go_simp; try with_reducible rfl)
      simp only [Act.put, List.setIfInBounds_toArray, List.set_cons_zero, List.set_cons_succ]
      refine take_at (i := 9) (v := ?_) (some 38) rfl rfl (by kernel_rfl) (by kernel_rfl) (by kernel_rfl) (fun _ _ _ h => h) (Or.inl ⟨by rfl, ?_⟩) (by assumption) ?_
      rotate_left
      · (intro w hSw; (try dsimp only at hSw); go_simp; try with_reducible rfl)
      simp only [Act.put, List.setIfInBounds_toArray, List.set_cons_zero, List.set_cons_succ]
      refine take_at (i := 10) (v := ?_) (some 39) rfl rfl (by kernel_rfl) (by kernel_rfl) (by kernel_rfl) (fun _ _ _ h => h) (Or.inl ⟨by rfl, ?_⟩) (by assumption) ?_
      rotate_left
      · (intro w hSw; (try dsimp only at hSw); go_simp; try with_reducible rfl)
      simp only [Act.put, List.setIfInBounds_toArray, List.set_cons_zero, List.set_cons_succ]
      refine take_at (i := 11) (v := ?_) (some 9) rfl rfl (by kernel_rfl) (by kernel_rfl) (by kernel_rfl) (fun _ _ _ h => h) (Or.inl ⟨by rfl, ?_⟩) (by assumption) ?_
      rotate_left
      · (intro w hSw; (try dsimp only at hSw); go_simp; try with_reducible rfl)
      simp only [Act.put, List.setIfInBounds_toArray, List.set_cons_zero, List.set_cons_succ]
      refine take_at (i := 12) (v := ?_) (some 10) rfl rfl (by kernel_rfl) (by kernel_rfl) (by kernel_rfl) (fun _ _ _ h => h) (Or.inl ⟨by rfl, ?_⟩) (by assumption) ?_
      rotate_left
      · (intro w hSw; (try dsimp only at hSw); go_simp; try with_reducible rfl)
      simp only [Act.put, List.setIfInBounds_toArray, List.set_cons_zero, List.set_cons_succ]
      refine wpAnyH_done (by kernel_rfl) ?_ _
      refine NoPanic.normal ?_
      clear hHeld
      have E4d : Hid (Below W.heap.size W W4.drew) := hidIt E4.out.drew
      have P4d := hidIt (P4.out.below (Below.refl _ _).drew)
      have F4d := hidIt (F4.out.below (Below.refl _ _).drew)
      go_wp2_with fail
      refine wp_region_noPanic ?_
      refine wp_region_held_drew (S := fun w' => w'.cell? ⟨W.heap.size, 0, none⟩ = some (.int .i64 (i : Int)) ∧ w'.cell? ⟨W.heap.size, 2, none⟩ = some (.slice ta ts.length tc) ∧ w'.cell? ⟨g, j, none⟩ = some (.slice (lv j).a (lv j).rs.length (lv j).c)) (by kernel_rfl) ?_ (fun hHeld => ?_)
      · exact ⟨(KEEP.out _ P4d.out).1, (KEEP.out _ P4d.out).2.2, CG.out _ j IJ.out.2.2.2.1 F4d.out⟩
      refine take_at (i := 0) (v := ?_) (some 41) rfl rfl (by kernel_rfl) (by kernel_rfl) (by kernel_rfl) (fun _ _ _ h => h) (Or.inl ⟨by rfl, ?_⟩) (by assumption) ?_
      rotate_left
      · (intro w hSw; (try dsimp only at hSw); go_simp; try with_reducible rfl)
      simp only [Act.put, List.setIfInBounds_toArray, List.set_cons_zero, List.set_cons_succ]
      refine take_at (i := 1) (v := ?_) (some 42) rfl rfl (by kernel_rfl) (by kernel_rfl) (by kernel_rfl) (fun _ _ _ h => h) (Or.inl ⟨by rfl, ?_⟩) (by assumption) ?_
      rotate_left
      · (intro w hSw; (try dsimp only at hSw); go_simp; try with_reducible rfl)
      simp only [Act.put, List.setIfInBounds_toArray, List.set_cons_zero, List.set_cons_succ]
      refine take_at (i := 2) (v := ?_) (some 43) rfl rfl (by kernel_rfl) (by kernel_rfl) (by kernel_rfl) (fun _ _ _ h => h) (Or.inl ⟨by rfl, ?_⟩) (by assumption) ?_
      rotate_left
      · (intro w hSw; (try dsimp only at hSw); go_simp; try with_reducible rfl)
      simp only [Act.put, List.setIfInBounds_toArray, List.set_cons_zero, List.set_cons_succ]
      refine take_at (i := 3) (v := ?_) (some 44) rfl rfl (by kernel_rfl) (by kernel_rfl) (by kernel_rfl) (fun _ _ _ h => h) (Or.inl ⟨by rfl, ?_⟩) (by assumption) ?_
      rotate_left
      · (intro w hSw; (try dsimp only at hSw); go_simp; try with_reducible rfl)
      simp only [Act.put, List.setIfInBounds_toArray, List.set_cons_zero, List.set_cons_succ]
      refine take_at (i := 4) (v := ?_) (some 45) rfl rfl (by kernel_rfl) (by kernel_rfl) (by kernel_rfl) (fun _ _ _ h => h) (Or.inl ⟨by rfl, ?_⟩) (by assumption) ?_
      rotate_left
      · (intro w hSw; (try dsimp only at hSw); go_simp; try with_reducible rfl)
      simp only [Act.put, List.setIfInBounds_toArray, List.set_cons_zero, List.set_cons_succ]
      refine take_at (i := 5) (v := ?_) (some 46) rfl rfl (by kernel_rfl) (by kernel_rfl) (by kernel_rfl) (fun _ _ _ h => h) (Or.inl ⟨by rfl, ?_⟩) (by assumption) ?_
      rotate_left
      · (intro w hSw; (try dsimp only at hSw); go_simp; try with_reducible rfl)
      simp only [Act.put, List.setIfInBounds_toArray, List.set_cons_zero, List.set_cons_succ]
      refine take_at (i := 6) (v := ?_) (some 47) rfl rfl (by kernel_rfl) (by kernel_rfl) (by kernel_rfl) (fun _ _ _ h => h) (Or.inl ⟨by rfl, ?_⟩) (by assumption) ?_
      rotate_left
      · (intro w hSw; (try dsimp only at hSw); go_simp; try with_reducible rfl)
      simp only [Act.put, List.setIfInBounds_toArray, List.set_cons_zero, List.set_cons_succ]
      refine take_at (i := 7) (v := ?_) (some 48) rfl rfl (by kernel_rfl) (by kernel_rfl) (by kernel_rfl) (fun _ _ _ h => h) (Or.inl ⟨by rfl, ?_⟩) (by assumption) ?_
      rotate_left
      · (intro w hSw; (try dsimp only at hSw); go_simp; try with_reducible rfl)
      simp only [Act.put, List.setIfInBounds_toArray, List.set_cons_zero, List.set_cons_succ]
      refine call_at (i := 8) (some 49) 36 _ _ rfl rfl rfl (by rfl) (by kernel_rfl) #[.slice (lv j).a (lv j).rs.length (lv j).c, .slice ta ts.length tc] rfl Try.func36 (by kernel_rfl) (by kernel_rfl) ?_
      refine (nwithout_any _ _ _ _ rfl (LK.out _ j IJ.out.2.2.2.1 F4d.out) rfl (HA.out.tls.below E4d.out) (by have := NI.out.2; omega) (by have := HA.out.tn; omega)).mono ?_
      rintro e W5 ⟨a7, c7, rfl, O7, N7, B5⟩
      obtain ⟨n7, hn7⟩ : ∃ n7, n7 = (stayL (lv j).rs ts).length := ⟨_, rfl⟩
      rw [← hn7] at O7 N7
      simp only [← hn7]
      obtain ⟨b2, hb2⟩ : ∃ b2, b2 = ts.all fun g => (lv j).rs.any fun x => eqR x.r g.r := ⟨_, rfl⟩
      simp only [← hb2]
      have F5 := hidIt (F4d.out.below B5)
      have P5 := hidIt (P4d.out.below B5)
      have E5 := hidIt (E4d.out.trans (B5.mono E4d.out.size))
      have X5 : Below W4.heap.size W4 W5 := (Below.refl _ _).drew.trans B5
      have D5 : Hid (Below W3.heap.size W3 W5) := hidIt (D4.out.trans (X5.mono D4.out.size))
      have G9 : Hid (OwnR W5 0 (.slice a9 n9 c9) (stayL (lv i).rs fs)) := hidIt (H9.out.1.below X5)
      have ST : Hid (NrI W3.heap.size W5 (stayL (lv j).rs ts) rs 0 W5 a7 n7 c7) := hidIt ⟨by rw [hn7]; rfl, O7, fun b hb => Nat.le_trans D4.out.size (N7 b hb), Below.refl _ _⟩
      have PB : Hid (preB (rns ls) (i : Int) (fs.map RV.r) (ts.map RV.r) = (b1 && b2)) := hidIt (by rw [HB1.out, hb2]; exact pre_eq M1.out IJ.out.2.1 IJ.out.1 G3.out)
      clear O7 N7 hn7 hb2 B5 X5 HB1
      refine ⟨_, rfl, ⟨(KEEP.out _ P5.out).1, (KEEP.out _ P5.out).2.2, CG.out _ j IJ.out.2.2.2.1 F5.out⟩, fun hHeld => ?_⟩
      simp only [Act.put, List.setIfInBounds_toArray, List.set_cons_zero, List.set_cons_succ]
      refine take_at (i := 9) (v := ?_) (some 40) rfl rfl (by kernel_rfl) (by kernel_rfl) (by kernel_rfl) (fun _ _ _ h => h) (Or.inl ⟨by rfl, ?_⟩) (by assumption) ?_
      rotate_left
      · (intro w hSw; (try dsimp only at hSw); go_simp; try with_reducible rfl)
      simp only [Act.put, List.setIfInBounds_toArray, List.set_cons_zero, List.set_cons_succ]
      refine take_at (i := 10) (v := ?_) (some 50) rfl rfl (by kernel_rfl) (by kernel_rfl) (by kernel_rfl) (fun _ _ _ h => h) (Or.inl ⟨by rfl, ?_⟩) (by assumption) ?_
      rotate_left
      · (intro w hSw; (try dsimp only at hSw); go_simp; try with_reducible rfl)
      simp only [Act.put, List.setIfInBounds_toArray, List.set_cons_zero, List.set_cons_succ]
      refine take_at (i := 11) (v := ?_) (some 51) rfl rfl (by kernel_rfl) (by kernel_rfl) (by kernel_rfl) (fun _ _ _ h => h) (Or.inl ⟨by rfl, ?_⟩) (by assumption) ?_
      rotate_left
      · (intro w hSw; (try dsimp only at hSw); go_simp; try with_reducible rfl)
      simp only [Act.put, List.setIfInBounds_toArray, List.set_cons_zero, List.set_cons_succ]
      refine take_at (i := 12) (v := ?_) (some 11) rfl rfl (by kernel_rfl) (by kernel_rfl) (by kernel_rfl) (fun _ _ _ h => h) (Or.inl ⟨by rfl, ?_⟩) (by assumption) ?_
      rotate_left
      · (intro w hSw; (try dsimp only at hSw); go_simp; try with_reducible rfl)
      simp only [Act.put, List.setIfInBounds_toArray, List.set_cons_zero, List.set_cons_succ]
      refine take_at (i := 13) (v := ?_) (some 12) rfl rfl (by kernel_rfl) (by kernel_rfl) (by kernel_rfl) (fun _ _ _ h => h) (Or.inl ⟨by rfl, ?_⟩) (by assumption) ?_
      rotate_left
      · (intro w hSw; (try dsimp only at hSw); go_simp; try with_reducible rfl)
      simp only [Act.put, List.setIfInBounds_toArray, List.set_cons_zero, List.set_cons_succ]
      refine wpAnyH_done (by kernel_rfl) ?_ _
      refine NoPanic.normal ?_
      clear hHeld P3 P3d P4 P4d F3d F4 F4d E3 E3d E4 E4d
      cases b1 with
      | false =>
        go_wp2_with fail
        exact bodyPost_ret (v := .tuple #[.slice none 0 0, .int .i64 2]) (by simp [results, Try.results12, go_sem]) rfl (.inl ⟨PB.out, rfl, E5.out⟩)
      | true =>
        cases b2 with
        | false =>
          go_wp2_with fail
          exact bodyPost_ret (v := .tuple #[.slice none 0 0, .int .i64 2]) (by simp [results, Try.results12, go_sem]) rfl (.inl ⟨PB.out, rfl, E5.out⟩)
        | true =>
          go_wp2_with fail
          have GL : Hid (g < W3.heap.size) := hidIt F3.out.rc.2.2
          go_loopw [11, 13] (fun tv iv wr => ∃ (k : Nat) (a : Option Addr) (n c : Nat), k ≤ rs.length ∧ iv = .int .i64 (k : Int) ∧ tv = .slice a n c ∧ Hid (NrI W3.heap.size W5 (stayL (lv j).rs ts) rs k wr a n c)) (fun _ iv _ => rs.length - (RowKit.intOf iv).toNat)
          case atStart => exact ⟨0, _, _, _, Nat.zero_le _, rfl, rfl, ST⟩
          case round =>
            clear ST
            obtain ⟨k, a, n, c, hk, rfl, rfl, NI2⟩ := hrel
            rename World => wr
            have DW := hidIt NI2.out.2.2.2
            have EW := hidIt (E5.out.trans (DW.out.mono E5.out.size))
            have FW := hidIt (F5.out.below DW.out)
            have PW := hidIt (P5.out.below DW.out)
            have ELS : Hid (∀ x ∈ withsL (stayL (lv j).rs ts) (rs.take k), RVOk wr [g] x) := hidIt (fun x hx => by
              rcases withs_mem hx with hx | hx
              · exact (FW.out.oks j IJ.out.2.2.2.1).1 x (List.mem_filter.1 hx).1
              · exact ((HA.out.rls.1 x (List.mem_of_mem_take hx)).mono (M := [g]) (fun b hb => .inr (by have hb := List.mem_singleton.1 hb; have := SG.out; omega))).below EW.out)
            have NC : Hid (n ≤ 800 ∧ n ≤ c) := hidIt (by
              obtain ⟨a', c', hv, hle⟩ := NI2.out.2.1.sl
              injection hv with _ hn hc
              have h1 := NI2.out.1
              rw [withs_len, List.length_take] at h1
              have := List.length_filter_le (fun x => !ts.any fun g => eqR x.r g.r) (lv j).rs
              have h2 : (stayL (lv j).rs ts).length ≤ (lv j).rs.length := this
              have := NI.out.2
              have := HA.out.rn
              omega)
            by_cases hlt : k < rs.length
            · obtain ⟨y, hy⟩ : ∃ y, rs[k]? = some y := ⟨_, List.getElem?_eq_getElem hlt⟩
              have YO := hidIt ((HA.out.rls.below EW.out).1 y (List.mem_of_getElem? hy))
              obtain ⟨b, o, ha, hr, hb⟩ := (HA.out.rls.below EW.out).at k y hy
              subst ha
              have LT := hidIt hlt
              have HY := hidIt hy
              obtain ⟨i0, i1, i2, i3, i4⟩ := tb_ar k rs.length hlt (by have := HA.out.rn; omega)
              have GO := hidIt i4
              clear hy hlt hk hb i4 w1 w1' K4 K4' J4 J4'
              go_wp2_with (first
                | (refine wpList_load_mid rfl 45 (.tmp 67) rfl b (o + k * 5) rfl y.cs _ hr Try.underlying45 rfl run_size ?_; clear hr)
                | (go_at_call 37; refine (nwith_any n c NI2.out.1 (NI2.out.2.1.ls (fun x hx => (ELS.out x hx).mono (fun b hb => by cases hb))) NC.out.2 (by have := NC.out.1; omega) YO.out).mono ?_; rintro e W7 ⟨a', c', rfl, O', N', B'⟩; have NX : Hid (NrI W3.heap.size W5 (stayL (lv j).rs ts) rs (k + 1) W7 a' (withL (withsL (stayL (lv j).rs ts) (rs.take k)) y).length c') := hidIt ⟨by rw [withs_snoc HY.out], by rw [withs_snoc HY.out]; exact O', fun b hb => Nat.le_trans (Nat.le_trans D5.out.size DW.out.size) (N' b hb), DW.out.trans (B'.mono DW.out.size)⟩; clear O' N' B'))
              exact ⟨⟨k + 1, _, _, _, LT.out, rfl, rfl, NX⟩, GO.out⟩
            · obtain rfl : k = rs.length := by omega
              have i0 : (((rs.length : Nat) : Int) < ((rs.length : Nat) : Int)) = False := eq_false (by omega)
              have TK : Hid (rs.take rs.length = rs) := hidIt (List.take_length)
              have ev9 : (LR.mk a9 c9 (stayL (lv i).rs fs)).v = .slice a9 n9 c9 := by rw [H9.out.2.2]; rfl
              have ev7 : (LR.mk a c (withsL (stayL (lv j).rs ts) rs)).v = .slice a n c := by have h := NI2.out.1; rw [TK.out] at h; rw [← h]; rfl
              have Z9 : LrkN wr [g] ⟨a9, c9, stayL (lv i).rs fs⟩ := own_lrk (G9.out.below DW.out) H9.out.2.2.symm (fun x hx => (FW.out.oks i IJ.out.2.2.1).1 x (List.mem_filter.1 hx).1) (fun b hb q => by
                have q := List.mem_singleton.1 q
                have h : W3.heap.size ≤ b := H9.out.2.1 b hb
                have := GL.out
                omega)
              have Z7 : LrkN wr [g] ⟨a, c, withsL (stayL (lv j).rs ts) rs⟩ := own_lrk (by have h := NI2.out.2.1; rw [TK.out] at h; exact h) (by have h := NI2.out.1; rw [TK.out] at h; exact h) (fun x hx => ELS.out x (by rw [TK.out]; exact hx)) (fun b hb q => by
                have q := List.mem_singleton.1 q
                have h := NI2.out.2.2.1 b hb
                have := GL.out
                omega)
              have f1 := FW.out.set IJ.out.2.2.1 Z9
              have f2 := f1.set IJ.out.2.2.2.1 (Z7.off (Off.but (bs := [g]) (But.set (b := g) wr i _) (by simp)))
              rw [ev9] at f1 f2
              rw [ev7] at f2
              have F8 := hidIt f2
              have M8 : Hid (∀ k, k < 4 → (upd4 (upd4 lv i ⟨a9, c9, stayL (lv i).rs fs⟩) j ⟨a, c, withsL (stayL (lv j).rs ts) rs⟩ k).rs.map RV.r = rpL (rns ls) i (fs.map RV.r) (insD (restD (((rns ls)[j]?).getD []) (ts.map RV.r)) (rs.map RV.r)) k) := hidIt (four_end IJ.out.2.1 IJ.out.1 G3.out rfl rfl)
              obtain ⟨u, hu⟩ : ∃ u, u = upd4 (upd4 lv i ⟨a9, c9, stayL (lv i).rs fs⟩) j ⟨a, c, withsL (stayL (lv j).rs ts) rs⟩ := ⟨_, rfl⟩
              rw [← hu] at F8 M8
              have p8 := (KEEP.out _ PW.out).1
              have p9 := (KEEP.out _ (PW.out.but (But.set (b := g) wr i (.slice a9 n9 c9)) (by have := SG.out; omega))).1
              obtain ⟨g1, g2⟩ := CH.out _ i IJ.out.2.2.1 FW.out
              obtain ⟨g3, g4⟩ := CH.out _ j IJ.out.2.2.2.1 f1
              have RS := hidIt (four_rns2 M8.out)
              have FEW8 : Hid (∀ x ∈ [u 0, u 1, u 2, u 3], x.rs.length ≤ 1000) := hidIt (by
                have one : ∀ k, k < 4 → (u k).rs.length ≤ 1000 := fun k hk => by
                  rw [hu]
                  by_cases e : k = j
                  · subst e
                    rw [upd4_at]
                    show (withsL _ _).length ≤ 1000
                    rw [withs_len]
                    have h2 : (stayL (lv k).rs ts).length ≤ (lv k).rs.length := List.length_filter_le _ _
                    have := NI.out.2
                    have := HA.out.rn
                    omega
                  · rw [upd4_ne _ _ e]
                    by_cases e2 : k = i
                    · subst e2
                      rw [upd4_at]
                      show (stayL _ _).length ≤ 1000
                      have h2 : (stayL (lv k).rs fs).length ≤ (lv k).rs.length := List.length_filter_le _ _
                      have := NI.out.1
                      omega
                    · rw [upd4_ne _ _ e2]
                      have a := congrArg List.length (G3.out k hk)
                      rw [List.length_map] at a
                      rw [a]
                      have := four_few HA.out.few k
                      omega
                intro x hx
                simp only [List.mem_cons, List.not_mem_nil, or_false] at hx
                rcases hx with rfl | rfl | rfl | rfl
                · exact one 0 (by omega)
                · exact one 1 (by omega)
                · exact one 2 (by omega)
                · exact one 3 (by omega))
              have E8 : Hid (Below W.heap.size W ((wr.setCell ⟨g, i, none⟩ (.slice a9 n9 c9)).setCell ⟨g, j, none⟩ (.slice a n c))) := hidIt ((EW.out.trans ((But.set (b := g) wr i _).below (Nat.le_of_lt SG.out) EW.out.size)).trans ((But.set (b := g) _ j _).below (Nat.le_of_lt SG.out) (Nat.le_trans EW.out.size (But.set (b := g) wr i _).size)))
              obtain ⟨mb, hmb⟩ : ∃ mb, mb = mayB [rpL (rns ls) i (fs.map RV.r) (insD (restD (((rns ls)[j]?).getD []) (ts.map RV.r)) (rs.map RV.r)) 0, rpL (rns ls) i (fs.map RV.r) (insD (restD (((rns ls)[j]?).getD []) (ts.map RV.r)) (rs.map RV.r)) 1, rpL (rns ls) i (fs.map RV.r) (insD (restD (((rns ls)[j]?).getD []) (ts.map RV.r)) (rs.map RV.r)) 2, rpL (rns ls) i (fs.map RV.r) (insD (restD (((rns ls)[j]?).getD []) (ts.map RV.r)) (rs.map RV.r)) 3] := ⟨_, rfl⟩
              have HMB := hidIt hmb
              have MI8 : Hid (mayI (rns [u 0, u 1, u 2, u 3]) = if mb then 0 else 2) := hidIt (by rw [RS.out, hmb]; rfl)
              have TN : Hid (((i : Nat) : Int).toNat = i ∧ ((i : Nat) : Int).toNat + 1 = j) := hidIt ⟨by simp, by have := IJ.out.1; simp; omega⟩
              clear hk hlt f1 f2 Z9 Z7 ev9 ev7 hu hmb NI2 ELS
              cases mb with
              | false =>
                go_wp2_with (go_at_call 22; refine (ncheck_any 4 4 rfl F8.out.lvs FEW8.out).mono ?_; rw [MI8.out]; rintro e W9 ⟨rfl, hb⟩; have FIN : Hid (NrP W (rns ls) (i : Int) (fs.map RV.r) (ts.map RV.r) (rs.map RV.r) (.returned (.tuple #[.slice none 0 0, .int .i64 2])) W9) := hidIt (.inr ⟨PB.out, _, rfl, .inl ⟨by rw [TN.out.2, TN.out.1]; exact HMB.out.symm, rfl, E8.out.trans (hb.mono E8.out.size)⟩⟩); clear hb)
                exact bodyPost_ret (v := .tuple #[.slice none 0 0, .int .i64 2]) (by simp [results, Try.results12, go_sem]) rfl FIN.out
              | true =>
                go_wp2_with (go_at_call 22; refine (ncheck_any 4 4 rfl F8.out.lvs FEW8.out).mono ?_; rw [MI8.out]; rintro e W9 ⟨rfl, hb⟩; have FIN : Hid (NrP W (rns ls) (i : Int) (fs.map RV.r) (ts.map RV.r) (rs.map RV.r) (.returned (.tuple #[.slice (some ⟨g, 0, none⟩) 4 4, .int .i64 0])) W9) := hidIt (.inr ⟨PB.out, _, rfl, .inr ⟨by rw [TN.out.2, TN.out.1]; exact HMB.out.symm, g, u, rfl, F8.out.below hb, SG.out, fun k hk => by rw [TN.out.2, TN.out.1]; exact M8.out k hk, E8.out.trans (hb.mono E8.out.size)⟩⟩); clear hb)
                exact bodyPost_ret (v := .tuple #[.slice (some ⟨g, 0, none⟩) 4 4, .int .i64 0]) (by simp [results, Try.results12, go_sem]) rfl FIN.out
    · by_cases h0 : z < 0
      · have q0 : (z < 0) = True := eq_true h0
        have NO : Hid (preB (rns ls) z (fs.map RV.r) (ts.map RV.r) = false) := hidIt (by unfold preB; rw [Bool.and_eq_false_iff]; refine .inl (Bool.and_eq_false_iff.2 (.inl (Bool.and_eq_false_iff.2 (.inl (Bool.and_eq_false_iff.2 (.inr (decide_eq_false (by omega)))))))))
        go_enter Try.func12, Try.ntmps12
        go_wp2_with (first
          | (refine wpList_box_rec rfl 25 (.tmp 1) rfl (plC z (.slice fa fs.length fc) (.slice ta ts.length tc) d) rfl W.heap.size rfl ?_; intro W1 R1 B1 z1; have E1 : Hid (Below W.heap.size W W1) := hidIt B1; have P1 := hidIt R1; clear R1 B1 z1)
          | (go_at_call 22; refine (ncheck_any L C HA.out.len (HA.out.lvs.below E1.out) (fun x hx => by have := HA.out.few x hx; omega)).mono ?_; rw [MI.out]; rintro e W2 ⟨rfl, hb⟩; have E2 : Hid (Below W.heap.size W W2) := hidIt (E1.out.trans (hb.mono E1.out.size)); have P2 := hidIt (P1.out.below hb); have p0 : W2.cell? ⟨W.heap.size, 0, none⟩ = some (.int .i64 z) := (P2.out.cel 0 _ rfl).1; clear hb))
        exact bodyPost_ret (v := .tuple #[.slice none 0 0, .int .i64 2]) (by simp [results, Try.results12, go_sem]) rfl (.inl ⟨NO.out, rfl, E2.out⟩)
      · have q0 : (z < 0) = False := eq_false h0
        have q2 : (2 < z) = True := eq_true (by omega)
        have NO : Hid (preB (rns ls) z (fs.map RV.r) (ts.map RV.r) = false) := hidIt (by unfold preB; rw [Bool.and_eq_false_iff]; refine .inl (Bool.and_eq_false_iff.2 (.inl (Bool.and_eq_false_iff.2 (.inr (decide_eq_false (by omega)))))))
        go_enter Try.func12, Try.ntmps12
        go_wp2_with (first
          | (refine wpList_box_rec rfl 25 (.tmp 1) rfl (plC z (.slice fa fs.length fc) (.slice ta ts.length tc) d) rfl W.heap.size rfl ?_; intro W1 R1 B1 z1; have E1 : Hid (Below W.heap.size W W1) := hidIt B1; have P1 := hidIt R1; clear R1 B1 z1)
          | (go_at_call 22; refine (ncheck_any L C HA.out.len (HA.out.lvs.below E1.out) (fun x hx => by have := HA.out.few x hx; omega)).mono ?_; rw [MI.out]; rintro e W2 ⟨rfl, hb⟩; have E2 : Hid (Below W.heap.size W W2) := hidIt (E1.out.trans (hb.mono E1.out.size)); have P2 := hidIt (P1.out.below hb); have p0 : W2.cell? ⟨W.heap.size, 0, none⟩ = some (.int .i64 z) := (P2.out.cel 0 _ rfl).1; clear hb))
        exact bodyPost_ret (v := .tuple #[.slice none 0 0, .int .i64 2]) (by simp [results, Try.results12, go_sem]) rfl (.inl ⟨NO.out, rfl, E2.out⟩)
  · have MI : Hid (mayI (rns ls) = 2) := hidIt (by unfold mayI; rw [if_neg hm])
    have NO : Hid (preB (rns ls) z (fs.map RV.r) (ts.map RV.r) = false) := hidIt (by unfold preB; rw [Bool.and_eq_false_iff]; refine .inl (Bool.and_eq_false_iff.2 (.inl (Bool.and_eq_false_iff.2 (.inl (Bool.and_eq_false_iff.2 (.inl (by simpa using hm))))))))
    go_enter Try.func12, Try.ntmps12
    go_wp2_with (first
      | (refine wpList_box_rec rfl 25 (.tmp 1) rfl (plC z (.slice fa fs.length fc) (.slice ta ts.length tc) d) rfl W.heap.size rfl ?_; intro W1 R1 B1 z1; have E1 : Hid (Below W.heap.size W W1) := hidIt B1; have P1 := hidIt R1; clear R1 B1 z1)
      | (go_at_call 22; refine (ncheck_any L C HA.out.len (HA.out.lvs.below E1.out) (fun x hx => by have := HA.out.few x hx; omega)).mono ?_; rw [MI.out]; rintro e W2 ⟨rfl, hb⟩; have E2 : Hid (Below W.heap.size W W2) := hidIt (E1.out.trans (hb.mono E1.out.size)); have P2 := hidIt (P1.out.below hb); have p0 : W2.cell? ⟨W.heap.size, 0, none⟩ = some (.int .i64 z) := (P2.out.cel 0 _ rfl).1; clear hb))
    exact bodyPost_ret (v := .tuple #[.slice none 0 0, .int .i64 2]) (by simp [results, Try.results12, go_sem]) rfl (.inl ⟨NO.out, rfl, E2.out⟩)
end Go.Proofs.Ytelcijfcgflagaa
