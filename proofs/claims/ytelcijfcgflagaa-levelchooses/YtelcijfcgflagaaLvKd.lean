/-
  Walks, not a claim by itself: the kit's CopyRuns, CopyLevels. By the verifier.
-/
import Derived.Test.YtelcijfcgflagaaLvKt
import Derived.Test.YtelcijfcgflagaaLvRc
namespace Go.Proofs.Ytelcijfcgflagaa
open Go.RowKit
attribute [-go_sem] Builtin.append_
/-- Are a table's keys few bytes? -/
def SmR (r : Rn) : Prop := r.f.size ≤ 200 ∧ r.l.size ≤ 200
/-- What LargeRuns answers. -/
def LgRs (W : World) (ps : List RV) (m : Nat) (e : Ending) (w' : World) : Prop := ∃ b : Bool, e = .returned (.bool b) ∧ w' = W ∧ (b = false → ps.length ≤ m ∧ ∀ x ∈ ps, SmR x.r)
set_option maxRecDepth 100000 in
set_option maxHeartbeats 1000000 in
theorem largeRuns_any {W : World} {a : Option Addr} {ps : List RV} (n C m : Nat) (z : Int) (hz : z = (m : Int)) (hm : m ≤ 10000) (hn : ps.length = n) (hL : LsR W a ps) : Calls Try.prog 5 #[.slice a n C, .int .i64 z] W (LgRs W ps m) := by
  subst hz
  by_cases hbig : m < n
  · have e1 : ((m : Int) < (n : Int)) = True := eq_true (by omega)
    have e1' : (m < n) = True := eq_true hbig
    clear hbig hL hn hm
    go_enter Try.func5, Try.ntmps5
    go_wp2_with fail
    exact bodyPost_ret (v := .bool true) (by simp [results, Try.results5, go_sem]) rfl ⟨true, rfl, rfl, fun h => by cases h⟩
  · have e1 : ((m : Int) < (n : Int)) = False := eq_false (by omega)
    have e1' : (m < n) = False := eq_false hbig
    have HB := hidIt (show n ≤ m ∧ m ≤ 10000 by omega)
    have HL := hidIt hL
    have HN := hidIt hn
    clear hbig hL hn hm
    go_enter Try.func5, Try.ntmps5
    go_wp2_with fail
    clear e1 e1'
    go_loopw [5] (fun i wr => ∃ k : Nat, k ≤ n ∧ i = .int .i64 (k : Int) ∧ wr = W ∧ Hid (∀ j x, j < k → ps[j]? = some x → SmR x.r)) (fun i _ => n - (RowKit.intOf i).toNat)
    case atStart => exact ⟨0, Nat.zero_le _, rfl, rfl, hidIt (fun j x hj => by omega)⟩
    case round =>
      obtain ⟨k, hk, rfl, hw, hI⟩ := hrel
      subst hw
      by_cases hlt : k < n
      · obtain ⟨x, hx⟩ : ∃ x, ps[k]? = some x := ⟨_, List.getElem?_eq_getElem (by have := HN.out; omega)⟩
        obtain ⟨b1, o1, ha, hr1, _⟩ := HL.out.at k x hx
        have ok := HL.out.1 x (List.mem_of_getElem? hx)
        have HX := hidIt hx
        obtain ⟨xf, xl, xr⟩ := x
        obtain ⟨⟨a1, C1, f1, hxk, _⟩, a2, C2, f2, hxv, _⟩ := ok
        simp only at hxk hxv
        subst ha hxk hxv
        obtain ⟨_, _, _, q1, q2⟩ := five_cells hr1
        have SM : Hid (SmR xr ↔ xr.f.size ≤ 200 ∧ xr.l.size ≤ 200) := hidIt Iff.rfl
        have LT := hidIt hlt
        obtain ⟨i0, i1, i2, i3, i4⟩ := tb_ar k n hlt (by have := HB.out; omega)
        have GO := hidIt i4
        clear hr1 hx hlt hk i4
        simp only at q1 q2
        generalize xr.f.size = kn at *
        generalize xr.l.size = vn at *
        by_cases h1 : 200 < (kn : Int)
        · have c1 : (200 < (kn : Int)) = True := eq_true h1
          clear h1
          go_wp2_with fail
          exact bodyPost_ret (v := .bool true) (by simp [results, Try.results5, go_sem]) rfl ⟨true, rfl, rfl, fun h => by cases h⟩
        · have c1 : (200 < (kn : Int)) = False := eq_false h1
          by_cases h2 : 200 < (vn : Int)
          · have c2 : (200 < (vn : Int)) = True := eq_true h2
            clear h1 h2
            go_wp2_with fail
            exact bodyPost_ret (v := .bool true) (by simp [results, Try.results5, go_sem]) rfl ⟨true, rfl, rfl, fun h => by cases h⟩
          · have c2 : (200 < (vn : Int)) = False := eq_false h2
            have NX := hidIt (SM.out.2 ⟨by omega, by omega⟩)
            clear h1 h2
            go_wp2_with fail
            refine ⟨⟨k + 1, LT.out, rfl, trivial, hidIt (fun j y hj hy => ?_)⟩, GO.out⟩
            by_cases e : j = k
            · subst e
              rw [HX.out] at hy
              injection hy with hy
              rw [← hy]
              exact NX.out
            · exact hI.out j y (by omega) hy
      · have i0 : ((k : Int) < (n : Int)) = False := eq_false (by omega)
        have AL : Hid (ps.length ≤ m ∧ ∀ x ∈ ps, SmR x.r) := hidIt ⟨by have := HN.out; have := HB.out; omega, fun x hx => by
          obtain ⟨j, hj, rfl⟩ := List.getElem_of_mem hx
          exact hI.out j _ (by have := HN.out; omega) (List.getElem?_eq_getElem hj)⟩
        clear hlt hk
        go_wp2_with fail
        exact bodyPost_ret (v := .bool false) (by simp [results, Try.results5, go_sem]) rfl ⟨false, rfl, rfl, fun _ => AL.out⟩
/-- What LargeLevels answers. -/
def LgLv (W : World) (ls : List LR) (m : Nat) (e : Ending) (w' : World) : Prop := ∃ b : Bool, e = .returned (.bool b) ∧ w' = W ∧ (b = false → ls.length ≤ 8 ∧ ∀ x ∈ ls, x.rs.length ≤ m ∧ ∀ y ∈ x.rs, SmR y.r)
set_option maxRecDepth 100000 in
set_option maxHeartbeats 1000000 in
theorem largeLevels_any {W : World} {A : Option Addr} {ls : List LR} (L C m : Nat) (z2 : Int) (hz2 : z2 = (m : Int)) (hm : m ≤ 10000) (hL : ls.length = L) (h : Lvs W A ls) : Calls Try.prog 4 #[.slice A L C, .int .i64 z2] W (LgLv W ls m) := by
  subst hz2
  by_cases hbig : 8 < L
  · have e1 : (8 < (L : Int)) = True := eq_true (by omega)
    have e1' : (8 < L) = True := eq_true hbig
    clear hbig hL h hm
    go_enter Try.func4, Try.ntmps4
    go_wp2_with fail
    exact bodyPost_ret (v := .bool true) (by simp [results, Try.results4, go_sem]) rfl ⟨true, rfl, rfl, fun h => by cases h⟩
  · have e1 : (8 < (L : Int)) = False := eq_false (by omega)
    have e1' : (8 < L) = False := eq_false hbig
    have HB := hidIt (show L ≤ 8 ∧ m ≤ 10000 by omega)
    have HL := hidIt h
    have HN := hidIt hL
    clear hbig hL h hm
    go_enter Try.func4, Try.ntmps4
    go_wp2_with fail
    clear e1 e1'
    go_loopw [5] (fun i wr => ∃ k : Nat, k ≤ L ∧ i = .int .i64 (k : Int) ∧ wr = W ∧ Hid (∀ j x, j < k → ls[j]? = some x → x.rs.length ≤ m ∧ ∀ y ∈ x.rs, SmR y.r)) (fun i _ => L - (RowKit.intOf i).toNat)
    case atStart => exact ⟨0, Nat.zero_le _, rfl, rfl, hidIt (fun j x hj => by omega)⟩
    case round =>
      obtain ⟨k, hk, rfl, hw, hI⟩ := hrel
      subst hw
      by_cases hlt : k < L
      · obtain ⟨x, hx⟩ : ∃ x, ls[k]? = some x := ⟨_, List.getElem?_eq_getElem (by have := HN.out; omega)⟩
        obtain ⟨b, o, ha, hc, hb⟩ := HL.out.at k x hx
        subst ha
        have HX := hidIt hx
        have LT := hidIt hlt
        have G := hidIt (largeRuns_any x.rs.length x.c m _ rfl HB.out.2 rfl (HL.out.1 x (List.mem_of_getElem? hx)).1)
        obtain ⟨i0, i1, i2, i3, i4⟩ := tb_ar k L hlt (by have := HB.out; omega)
        have GO := hidIt i4
        unfold LR.v at hc
        clear hb hx hlt hk i4
        obtain ⟨mm, hmm⟩ : ∃ mm, mm = x.rs.length := ⟨_, rfl⟩
        rw [← hmm] at G hc
        clear hmm
        go_wp2_with (go_at_call 5; refine G.out.mono ?_; rintro e W5 ⟨bb, rfl, hw, hbb⟩; subst hw; have BB := hidIt hbb; clear hbb; refine Held.out ?_)
        cases bb with
        | true =>
          refine Held.mk ?_
          go_wp2_with fail
          exact bodyPost_ret (v := .bool true) (by simp [results, Try.results4, go_sem]) rfl ⟨true, rfl, rfl, fun h => by cases h⟩
        | false =>
          refine Held.mk ?_
          go_wp2_with fail
          refine ⟨⟨k + 1, LT.out, rfl, trivial, hidIt (fun j y hj hy => ?_)⟩, GO.out⟩
          by_cases e : j = k
          · subst e
            rw [HX.out] at hy
            injection hy with hy
            rw [← hy]
            exact BB.out rfl
          · exact hI.out j y (by omega) hy
      · have i0 : ((k : Int) < (L : Int)) = False := eq_false (by omega)
        have AL : Hid (ls.length ≤ 8 ∧ ∀ x ∈ ls, x.rs.length ≤ m ∧ ∀ y ∈ x.rs, SmR y.r) := hidIt ⟨by have := HN.out; have := HB.out; omega, fun x hx => by
          obtain ⟨j, hj, rfl⟩ := List.getElem_of_mem hx
          exact hI.out j _ (by have := HN.out; omega) (List.getElem?_eq_getElem hj)⟩
        clear hlt hk
        go_wp2_with fail
        exact bodyPost_ret (v := .bool false) (by simp [results, Try.results4, go_sem]) rfl ⟨false, rfl, rfl, fun _ => AL.out⟩
end Go.Proofs.Ytelcijfcgflagaa
namespace Go.Proofs.Ytelcijfcgflagaa
open Go.RowKit
attribute [-go_sem] Builtin.append_
/-- The cells of levels. -/
def vcs (ls : List LR) : List Value := ls.map LR.v
theorem vcs_len (ls : List LR) : (vcs ls).length = ls.length * 1 := by simp [vcs]
theorem vcs_app (a b : List LR) : vcs (a ++ b) = vcs a ++ vcs b := by simp [vcs]
theorem vcs_one (ls : List LR) : ∀ v ∈ vcs ls, v.oneCell' = true := by
  intro v hv
  obtain ⟨x, _, rfl⟩ := List.mem_map.1 hv
  rfl
/-- A slice of levels that was made behind base. -/
def OwnV (w : World) (base : Nat) (v : Value) (ls : List LR) : Prop := w.ownsRow base 23 1 v ls.length (vcs ls)
theorem OwnV.nil (w : World) (base : Nat) : OwnV w base (.slice none 0 0) [] := World.ownsRow_nil w base _ 1
theorem OwnV.off {w u : World} {base : Nat} {v : Value} {ls : List LR} {N : List Nat} (h : OwnV w base v ls) (hO : Off N w u) (hn : ∀ g, v.ownBlock = some g → g ∉ N) : OwnV u base v ls := by
  refine ⟨h.1, ?_⟩
  rcases h.2 with h0 | ⟨g, cap, cur, rfl, hb, hg, rest⟩
  · exact .inl h0
  · exact .inr ⟨g, cap, cur, rfl, hb, (hO.block g (Array.getElem?_eq_some_iff.1 hg).1 (hn g rfl)).trans hg, rest⟩
theorem OwnV.below {w u : World} {base : Nat} {v : Value} {ls : List LR} (h : OwnV w base v ls) (hB : Below w.heap.size w u) : OwnV u base v ls := h.off (Off.of (bs := []) hB) (fun _ _ h => by cases h)
theorem OwnV.form {w : World} {base : Nat} {v : Value} {ls : List LR} (h : OwnV w base v ls) : (v = .slice none 0 0 ∧ ls = []) ∨ ∃ g cap, v = .slice (some ⟨g, 0, none⟩) ls.length cap ∧ base ≤ g ∧ ls.length ≤ cap ∧ g < w.heap.size ∧ Rec19 w g 0 (vcs ls) := by
  rcases h.2 with ⟨rfl, h0⟩ | ⟨g, cap, cur, rfl, hbg, hg, hnc, hcm, hsz, htake⟩
  · exact .inl ⟨rfl, List.eq_nil_of_length_eq_zero h0⟩
  · refine .inr ⟨g, cap, rfl, hbg, hnc, (Array.getElem?_eq_some_iff.1 hg).1, fun j u hj => ?_, fun j hj => ?_, (Array.getElem?_eq_some_iff.1 hg).1⟩
    · have := World.ownsRow.cellAt h j (by have := (List.getElem?_eq_some_iff.1 hj).1; rw [vcs_len] at this; exact this)
      rw [Nat.zero_add, this, hj]
    · have := World.ownsRow.cellAt h j (by rw [vcs_len] at hj; exact hj)
      rw [Nat.zero_add]
      exact ⟨by rw [this, List.getElem?_eq_getElem hj]; rfl, World.ownsRow.frozenAt h j⟩
theorem OwnV.sl {w : World} {base : Nat} {v : Value} {ls : List LR} (h : OwnV w base v ls) : ∃ a cap, v = .slice a ls.length cap := by
  rcases h.form with ⟨rfl, rfl⟩ | ⟨g, cap, rfl, _⟩
  · exact ⟨none, 0, rfl⟩
  · exact ⟨_, cap, rfl⟩
theorem OwnV.lvs {W : World} {base : Nat} {ls : List LR} {a : Option Addr} {n cap : Nat} (h : OwnV W base (.slice a n cap) ls) (hp : ∀ x ∈ ls, LROk W x) : Lvs W a ls := by
  refine ⟨hp, fun hne => ?_⟩
  rcases h.form with ⟨_, h0⟩ | ⟨g, cap', hv, _, _, hg, hR⟩
  · exact absurd h0 hne
  · injection hv with hv
    exact ⟨g, 0, hv, hR.1, hg⟩
/-- What becomes of a slice of levels. -/
structure InsV (W : World) (v : Value) (ls' : List LR) (v' : Value) (W' : World) : Prop where
  own : OwnV W' 0 v' ls'
  off : Off v.ownBlock.toList W W'
  blk : ∀ g, v'.ownBlock = some g → v.ownBlock = some g ∨ W.heap.size ≤ g
theorem len_appV (ps qs : List LR) : (vcs ps ++ vcs qs).length = (ps.length + qs.length) * 1 := by rw [List.length_append, vcs_len, vcs_len]; omega
/-- append of pairs onto a slice of its own. -/
theorem app_levels (ty : TypeId) (W : World) (v : Value) (ps qs : List LR) (ad : Addr) (C : Nat) (ho : OwnV W 0 v ps) (hA : ∀ j u, (vcs qs)[j]? = some u → W.cell? (ad.add j) = some u) (h1 : ∀ u ∈ vcs qs, u.oneCell' = true) (hq : 0 < qs.length) (hm : ps.length + qs.length ≤ 100000) :
    ∃ v' W', (Builtin.append_ #[22, 22] ty #[v, .slice (some ad) qs.length C]).run Try.prog W = .ok v' W' ∧ InsV W v (ps ++ qs) v' W' := by
  obtain ⟨i0, hi, hz0, hz1, hz2⟩ := info_parts info_level
  have hl : (vcs qs).length = qs.length * i0.size := by rw [vcs_len, hz1]
  have fin : ∀ C1, ps.length + qs.length ≤ C1 → C1 ≤ maxLen → InsV W v (ps ++ qs) (.slice (some ⟨W.heap.size, 0, none⟩) (ps.length + qs.length) C1) (W.drew.alloc (.cells ((vcs ps).toArray ++ (vcs qs).toArray ++ Builtin.zeroCells (Value.slice none 0 0).cells (C1 - (ps.length + qs.length))) 23)) := by
    intro C1 h2 h3
    refine ⟨⟨by rw [vcs_len], .inr ⟨W.heap.size, C1, _, by rw [List.length_append], Nat.zero_le _, heap_alloc_new W.drew _, by rw [List.length_append]; exact h2, h3, ?_, ?_⟩⟩, Off.of ((Below.refl W.heap.size W).drew.alloc (Nat.le_refl _) _), fun g hg => .inr ?_⟩
    · simp only [Array.size_append, List.size_toArray, size_zeroCells, vcs_len]
      show ps.length * 1 + qs.length * 1 + (C1 - (ps.length + qs.length)) * 1 = _
      omega
    · simp only [Array.toList_append]
      rw [List.length_append, vcs_app, ← len_appV]
      exact List.take_left
    · injection hg with hg
      exact Nat.le_of_eq hg
  rcases ho.2 with ⟨rfl, h0⟩ | ⟨x, cap, cur, rfl, hbg, hg, hnc, hcm, hcs, htake⟩
  · obtain rfl : ps = [] := List.eq_nil_of_length_eq_zero h0
    have hr := run_append_nil (P := Try.prog) W 22 ty 23 i0 (.slice none 0 0) under_levels hi hz0 ad qs.length C (vcs qs) hl hA hq (by simp at hm; omega) (by rw [hz2]; simp at hm; omega)
    have f := fin (grownCap W qs.length 0 23) (by simp; exact grownCap_ge W qs.length 0 _) (grownCap_le_maxLen W qs.length 0 _ (by unfold maxLen; simp at hm; omega))
    simp only [List.length_nil, Nat.zero_add] at f
    refine ⟨_, _, hr, ?_⟩
    simpa [vcs] using f
  · by_cases hroom : ps.length + qs.length ≤ cap
    · have hr := run_append_room (P := Try.prog) W 22 ty 23 i0 under_levels hi x ps.length cap cur hg ad qs.length C (vcs qs) hl hA h1 hroom (by rw [vcs_len, hcs, hz1]; omega)
      refine ⟨_, _, hr, ⟨⟨by rw [vcs_len], .inr ⟨x, cap, _, by rw [List.length_append], Nat.zero_le _, setRow_heap W x cur _ _ _ hg, by rw [List.length_append]; exact hroom, hcm, ?_, ?_⟩⟩, Off.but (setRow_butR W x _) (by simp [Value.ownBlock]), fun g hg => .inl hg⟩⟩
      · simp only [List.size_toArray, List.length_append, List.length_take, List.length_drop, Array.length_toList, vcs_len, hz1]
        omega
      · rw [hz1, htake, List.length_append, vcs_app, ← len_appV]
        exact List.take_left
    · have holds : ∀ j u, (vcs ps)[j]? = some u → W.cell? ((⟨x, 0, none⟩ : Addr).add j) = some u := World.ownsRow.cells (g := x) ho rfl
      have hfit : Builtin.nextslicecap (ps.length + qs.length) cap * i0.bytes ≤ 281474976710656 := growslice_fits (by omega) (by rw [hz2]; omega)
      have hr := run_append_grow (P := Try.prog) W 22 ty 23 i0 (.slice none 0 0) under_levels hi hz0 ⟨x, 0, none⟩ ps.length cap (vcs ps) (by rw [vcs_len, hz1]) holds ad qs.length C (vcs qs) hl hA (by omega) (by omega) hfit
      exact ⟨_, _, hr, fin _ (grownCap_ge W _ cap _) (grownCap_le_maxLen W _ cap _ (by unfold maxLen; omega))⟩
/-- A text copied. -/
theorem copy_txt {W : World} {N M : List Nat} {s : Value} {t : ByteArray} (h : Txt W N s t) (hn : t.size ≤ 1000000) (hM : ∀ b, b ∈ M → b < W.heap.size) : Calls Try.prog 51 #[s] W fun e w' => ∃ a n C, e = .returned (.slice a n C) ∧ Txt w' M (.slice a n C) t ∧ Below W.heap.size W w' := by
  obtain ⟨a, C, f, rfl, hA, ht, _⟩ := h
  have hby := hA.bytes
  refine (copy_any a t.size C f W hA hn).mono ?_
  rintro e w' ⟨v, rfl, hO, hB⟩
  by_cases h0 : t.size = 0
  · have e0 := empty_of t h0
    rcases hO.2 with ⟨rfl, _⟩ | ⟨g, cap, cur, rfl, _⟩
    · refine ⟨_, _, _, rfl, ?_, hB⟩
      rw [e0]
      exact Txt.nil w' M 0
    · refine ⟨_, _, _, rfl, ?_, hB⟩
      exact ⟨_, _, f, rfl, .inl ⟨h0, .inr ⟨_, rfl⟩⟩, ht, fun h => by omega⟩
  · obtain ⟨g, cap, rfl, hg, _, hl⟩ := hO.form (by omega) hby
    refine ⟨_, _, _, rfl, ⟨_, _, f, rfl, .inr ⟨by omega, g, 0, rfl, hl⟩, ht, fun _ q hq hm => ?_⟩, hB⟩
    injection hq with hq
    subst hq
    have := hM _ hm
    simp at this
    omega
end Go.Proofs.Ytelcijfcgflagaa
namespace Go.Proofs.Ytelcijfcgflagaa
open Go.RowKit
attribute [-go_sem] Builtin.append_
/-- What CopyRun answers. -/
def CrPost (W : World) (N : List Nat) (r : Rn) (e : Ending) (w' : World) : Prop := ∃ y : RV, y.r = r ∧ e = .returned (.agg y.cs.toArray) ∧ RVOk w' N y ∧ Below W.heap.size W w'
theorem cr_lt {M : List Nat} {n s : Nat} (h : ∀ b, b ∈ M → b < n) (hs : n + 1 < s) : ∀ b, b ∈ n :: (n + 1) :: M → b < s := fun b hb => by
  rcases List.mem_cons.1 hb with rfl | hb
  · omega
  · rcases List.mem_cons.1 hb with rfl | hb
    · omega
    · have := h b hb; omega
set_option maxRecDepth 100000 in
set_option maxHeartbeats 1000000 in
theorem copyRun_any {W : World} {N M : List Nat} {x : RV} (h : RVOk W N x) (hz : x.r.f.size ≤ 1000000 ∧ x.r.l.size ≤ 1000000) (hM : ∀ b, b ∈ M → b < W.heap.size) : Calls Try.prog 26 #[.agg x.cs.toArray] W (CrPost W M x.r) := by
  have HX := hidIt h
  have HK := hidIt hz
  have HM := hidIt hM
  clear h hz hM
  have t1 : Hid True := trivial
  have t2 : Hid True := trivial
  go_enter Try.func26, Try.ntmps26
  go_wp2_with (first
    | (refine wpList_box_rec rfl 45 (.tmp 0) rfl x.cs rfl W.heap.size rfl ?_; intro W1 R1 B1 z1; have E1 := hidIt B1; have P1 := hidIt R1; have S1 := hidIt z1; clear R1 B1 z1)
    | (refine wpList_alloc_rec rfl 45 rfl _ (W.heap.size + 1) S1.out run_zero ?_; intro W2 R2 B2 z2; have E2 := hidIt (E1.out.trans (B2.mono (by omega))); have P2 := hidIt (P1.out.below (by rw [S1.out]; exact B2)); have Q2 := hidIt R2; have S2 := hidIt z2; have c3 := (P2.out.cel 3 _ rfl).1; have f3 := (P2.out.cel 3 _ rfl).2; clear R2 B2 z2)
    | (go_at_call 51; have _q := t1; clear t1 _q c3 f3; refine (copy_txt (M := W.heap.size :: (W.heap.size + 1) :: M) (HX.out.1.below E2.out) HK.out.1 (cr_lt HM.out (by have := S2.out; omega))).mono ?_; rintro e W3 ⟨ka, kn, kC, rfl, X3, b3⟩; have P3 := hidIt (P2.out.below b3); have Q3 := hidIt (Q2.out.below b3); have E3 := hidIt (E2.out.trans (b3.mono E2.out.size)); have X3' := hidIt X3; have S3 := hidIt (show W.heap.size + 1 < W3.heap.size by have := S2.out; have := b3.size; omega); have c3 := (P3.out.cel 3 _ rfl).1; have f3 := (P3.out.cel 3 _ rfl).2; have c4 := (P3.out.cel 4 _ rfl).1; clear X3 b3)
    | (go_at_call 51; have _q := t2; clear t2 _q c3 f3 c4; have D4 := hidIt (But.set (b := W.heap.size) W3 3 (.slice ka kn kC)); have P4 := hidIt (P3.out.putR 3 (.slice ka kn kC) (by simp [RV.cs])); have O4 := hidIt (Off.but (bs := [W.heap.size]) D4.out (by simp)); have E4 := hidIt (E3.out.trans (O4.out.below (by simp) E3.out.size)); have S4 := hidIt (Nat.lt_of_lt_of_le S3.out O4.out.size); have Q4 := hidIt (Q3.out.but D4.out (by omega)); have X4 := hidIt (X3'.out.both (X3'.out.mono (M := [W.heap.size]) (fun b hb => .inl (by rcases List.mem_singleton.1 hb with rfl; exact List.mem_cons_self))) O4.out); generalize W3.setCell ⟨W.heap.size, 3, none⟩ (.slice ka kn kC) = W4 at *; refine (copy_txt (M := W.heap.size :: (W.heap.size + 1) :: M) (HX.out.2.below E4.out) HK.out.2 (cr_lt HM.out S4.out)).mono ?_; rintro e W5 ⟨va, vn, vC, rfl, X5, b5⟩; have P5 := hidIt (P4.out.below b5); have Q5 := hidIt (Q4.out.below b5); have E5 := hidIt (E4.out.trans (b5.mono E4.out.size)); have Y5 := hidIt (And.intro (X4.out.below b5) X5); have S5 := hidIt (Nat.lt_of_lt_of_le S4.out b5.size); have c4 := (P5.out.cel 4 x.l rfl).1; have f4 := (P5.out.cel 4 x.l rfl).2; clear X5 b5 X4 P4 Q4 O4 D4)
    | (have _q := c4; have D6 := hidIt (But.set (b := W.heap.size) W5 4 (.slice va vn vC)); have P6 : Hid (Rec19 (W5.setCell ⟨W.heap.size, 4, none⟩ (.slice va vn vC)) W.heap.size 0 (RV.mk (.slice ka kn kC) (.slice va vn vC) x.r).cs) := hidIt (P5.out.putR 4 (.slice va vn vC) (by simp [RV.cs])); have O6 := hidIt (Off.but (bs := [W.heap.size]) D6.out (by simp)); have E6 := hidIt (E5.out.trans (O6.out.below (by simp) E5.out.size)); have Q6 := hidIt (Q5.out.but D6.out (by omega)); have S6 := hidIt (Nat.lt_of_lt_of_le S5.out O6.out.size); have K6 : Hid (RVOk (W5.setCell ⟨W.heap.size, 4, none⟩ (.slice va vn vC)) (W.heap.size :: (W.heap.size + 1) :: M) (RV.mk (.slice ka kn kC) (.slice va vn vC) x.r)) := hidIt ⟨Y5.out.1.both (Y5.out.1.mono (M := [W.heap.size]) (fun b hb => .inl (by rcases List.mem_singleton.1 hb with rfl; exact List.mem_cons_self))) O6.out, Y5.out.2.both (Y5.out.2.mono (M := [W.heap.size]) (fun b hb => .inl (by rcases List.mem_singleton.1 hb with rfl; exact List.mem_cons_self))) O6.out⟩; generalize W5.setCell ⟨W.heap.size, 4, none⟩ (.slice va vn vC) = W6 at *; refine wpList_load_rec rfl 45 (.tmp 1) rfl W.heap.size 0 (RV.mk (.slice ka kn kC) (.slice va vn vC) x.r).cs rfl _ Try.underlying45 rfl run_size P6.out ?_; clear c4 _q f4 D6)
    | (refine wpList_store_rec rfl 45 (.tmp 2) (.tmp 11) rfl (W.heap.size + 1) 0 _ (RV.mk (.slice ka kn kC) (.slice va vn vC) x.r).cs rfl rfl Q6.out rfl run_size K6.out.one ?_; intro W7 R7 B7; have RR := hidIt R7; have FIN : Hid (CrPost W M x.r (.returned (.agg (RV.mk (.slice ka kn kC) (.slice va vn vC) x.r).cs.toArray)) W7) := hidIt ⟨RV.mk (.slice ka kn kC) (.slice va vn vC) x.r, rfl, rfl, (K6.out.mono (M := M) (fun b hb => .inl (List.mem_cons_of_mem _ (List.mem_cons_of_mem _ hb)))).both (K6.out.mono (M := [W.heap.size + 1]) (fun b hb => .inl (by rcases List.mem_singleton.1 hb with rfl; exact List.mem_cons_of_mem _ List.mem_cons_self))) (Off.but (bs := [W.heap.size + 1]) B7 (by simp)), E6.out.trans (B7.below (by omega) E6.out.size)⟩; clear R7 B7))
  have hl := RR.out.run_load 45 _ Try.underlying45 rfl run_size
  exact bodyPost_ret (v := .agg (RV.mk (.slice ka kn kC) (.slice va vn vC) x.r).cs.toArray) (by simp [results, Try.results26, asAddr, Act.put, hl]) rfl FIN.out
end Go.Proofs.Ytelcijfcgflagaa
namespace Go.Proofs.Ytelcijfcgflagaa
open Go.RowKit
attribute [-go_sem] Builtin.append_
/-- A list that lies in none of the blocks N. -/
def LrkN (W : World) (N : List Nat) (x : LR) : Prop := (∀ y ∈ x.rs, RVOk W N y) ∧ (x.rs ≠ [] → ∃ b off, x.a = some ⟨b, off, none⟩ ∧ b ∉ N ∧ W.rangeAt b off (rcs x.rs) ∧ b < W.heap.size) ∧ x.rs.length ≤ x.c
theorem LrkN.ok {W : World} {N : List Nat} {x : LR} (h : LrkN W N x) : LROk W x := ⟨⟨fun y hy => (h.1 y hy).mono (fun b hb => by cases hb), fun hne => by obtain ⟨b, off, ha, _, hr, hb⟩ := h.2.1 hne; exact ⟨b, off, ha, hr, hb⟩⟩, h.2.2⟩
theorem LrkN.off {W W' : World} {N : List Nat} {x : LR} (h : LrkN W N x) (hO : Off N W W') : LrkN W' N x := ⟨fun y hy => (h.1 y hy).off hO, fun hne => by
  obtain ⟨b, off, ha, hn, hr, hb⟩ := h.2.1 hne
  exact ⟨b, off, ha, hn, fun j v hj => (hO.cell (p := ⟨b, off + j, none⟩) hb hn).trans (hr j v hj), Nat.lt_of_lt_of_le hb hO.size⟩, h.2.2⟩
theorem LrkN.below {W W' : World} {N : List Nat} {x : LR} (h : LrkN W N x) (hB : Below W.heap.size W W') : LrkN W' N x := ⟨fun y hy => (h.1 y hy).below hB, fun hne => by
  obtain ⟨b, off, ha, hn, hr, hb⟩ := h.2.1 hne
  exact ⟨b, off, ha, hn, fun j v hj => (hB.cell (p := ⟨b, off + j, none⟩) hb).trans (hr j v hj), Nat.lt_of_lt_of_le hb hB.size⟩, h.2.2⟩
theorem LrkN.mono {W : World} {N M : List Nat} {x : LR} (h : LrkN W N x) (hM : ∀ b, b ∈ M → b ∈ N ∨ W.heap.size ≤ b) : LrkN W M x := ⟨fun y hy => (h.1 y hy).mono hM, fun hne => by
  obtain ⟨b, off, ha, hn, hr, hb⟩ := h.2.1 hne
  exact ⟨b, off, ha, fun q => (hM b q).elim hn (fun z => by omega), hr, hb⟩, h.2.2⟩
/-- A list of its own: where it lies. -/
theorem own_lrk {W : World} {N : List Nat} {a : Option Addr} {n C : Nat} {qs : List RV} (h : OwnR W 0 (.slice a n C) qs) (hn : qs.length = n) (hp : ∀ x ∈ qs, RVOk W N x) (hb : ∀ g, (Value.slice a n C).ownBlock = some g → g ∉ N) : LrkN W N ⟨a, C, qs⟩ := by
  refine ⟨hp, fun hne => ?_, ?_⟩
  · rcases h.form with ⟨_, h0⟩ | ⟨g, cap, hv, _, _, _, hg, hR⟩
    · exact absurd h0 hne
    · injection hv with hv
      subst hv
      exact ⟨g, 0, rfl, hb g rfl, hR.1, hg⟩
  · rcases h.form with ⟨_, h0⟩ | ⟨g, cap, hv, _, hc, _⟩
    · subst h0; exact Nat.zero_le _
    · injection hv with _ _ hv
      subst hv
      exact hc
/-- What holds at the head of CopyRuns' loop. -/
structure CrI (N : List Nat) (W : World) (ps : List RV) (k : Nat) (wr : World) (v : Value) (os : List RV) : Prop where
  own : OwnR wr 0 v os
  new : ∀ b, v.ownBlock = some b → W.heap.size ≤ b
  oks : ∀ x ∈ os, RVOk wr (v.ownBlock.toList ++ N) x
  eq : os.map RV.r = (ps.map RV.r).take k
  below : Below W.heap.size W wr
theorem CrI.below' {N : List Nat} {W wr w' : World} {ps : List RV} {k : Nat} {v : Value} {os : List RV} (h : CrI N W ps k wr v os) (hB : Below wr.heap.size wr w') : CrI N W ps k w' v os := ⟨h.own.below hB, h.new, fun x hx => (h.oks x hx).below hB, h.eq, h.below.trans (hB.mono h.below.size)⟩
theorem CrI.step {N : List Nat} {W wr w' : World} {ps : List RV} {k : Nat} {v v' : Value} {os : List RV} {x z : RV} (h : CrI N W ps k wr v os) (hx : ps[k]? = some x) (hz : z.r = x.r) (hzk : RVOk wr (v.ownBlock.toList ++ N) z) (hI : InsR wr v (os ++ [z]) v' w') : CrI N W ps (k + 1) w' v' (os ++ [z]) := by
  have n6 : ∀ b, b ∈ v'.ownBlock.toList ++ N → b ∈ v.ownBlock.toList ++ N ∨ wr.heap.size ≤ b := fun b hb => by
    rcases List.mem_append.1 hb with hb | hb
    · rcases hI.blk b (by simpa using hb) with q | q
      · exact .inl (List.mem_append_left _ (by simpa using q))
      · exact .inr q
    · exact .inl (List.mem_append_right _ hb)
  have st : ∀ y, RVOk wr (v.ownBlock.toList ++ N) y → RVOk w' (v'.ownBlock.toList ++ N) y := fun y hy => (hy.mono n6).both (hy.mono (fun b hb => .inl (List.mem_append_left _ hb))) hI.off
  refine ⟨hI.own, fun b hb => ?_, fun y hy => ?_, ?_, h.below.trans (hI.off.below (fun b hb => h.new b (by simpa using hb)) h.below.size)⟩
  · rcases hI.blk b hb with q | q
    · exact h.new b q
    · exact Nat.le_trans h.below.size q
  · rcases List.mem_append.1 hy with hy | hy
    · exact st y (h.oks y hy)
    · rcases List.mem_singleton.1 hy with rfl
      exact st y hzk
  · obtain ⟨hk, rfl⟩ := List.getElem?_eq_some_iff.1 hx
    rw [List.map_append, h.eq, List.take_succ_eq_append_getElem (by simpa using hk)]
    simp [hz]
/-- What CopyRuns answers. -/
def CrsPost (W : World) (N : List Nat) (ps : List RV) (e : Ending) (w' : World) : Prop := ∃ a C os, e = .returned (.slice a (os : List RV).length C) ∧ os.length = ps.length ∧ os.map RV.r = ps.map RV.r ∧ LrkN w' N ⟨a, C, os⟩ ∧ Below W.heap.size W w'
set_option maxRecDepth 100000 in
set_option maxHeartbeats 2000000 in
theorem copyRuns_any {W : World} {N : List Nat} {a : Option Addr} {ps : List RV} (n C : Nat) (hn : ps.length = n) (hL : LsR W a ps) (hf : n ≤ 10000) (hs : ∀ x ∈ ps, SmR x.r) (hNN : ∀ b ∈ N, b < W.heap.size) : Calls Try.prog 10 #[.slice a n C] W (CrsPost W N ps) := by
  have HL := hidIt hL
  have HN := hidIt (And.intro hn (And.intro hf (And.intro hs hNN)))
  have st : Hid (CrI N W ps 0 W (.slice none 0 0) []) := hidIt ⟨OwnR.nil _ _, fun b hb => (by cases hb), fun x hx => (by cases hx), rfl, Below.refl _ _⟩
  clear hn hL hf hs hNN
  go_enter Try.func10, Try.ntmps10
  go_wp2_with fail
  go_loopw [3, 4] (fun lv iv wr => ∃ (k : Nat) (os : List RV), k ≤ n ∧ iv = .int .i64 (k : Int) ∧ Hid (CrI N W ps k wr lv os)) (fun _ iv _ => n - (RowKit.intOf iv).toNat)
  case atStart => exact ⟨0, [], Nat.zero_le _, rfl, st⟩
  case round =>
    clear st
    obtain ⟨k, os, hk, rfl, hI⟩ := hrel
    by_cases hlt : k < n
    · obtain ⟨x, hx⟩ : ∃ x, ps[k]? = some x := ⟨_, List.getElem?_eq_getElem (by have := HN.out.1; omega)⟩
      obtain ⟨b, o, ha, hr, hb⟩ := (HL.out.below hI.out.below).at k x hx
      subst ha
      have LT := hidIt hlt
      have HX := hidIt hx
      have OX := hidIt ((HL.out.1 x (List.mem_of_getElem? hx)).below hI.out.below)
      have SX := hidIt (HN.out.2.2.1 x (List.mem_of_getElem? hx))
      have OL : Hid (os.length ≤ 10000) := hidIt (by have := congrArg List.length hI.out.eq; rw [List.length_map, List.length_take] at this; have := HN.out.2.1; omega)
      rename World => wr
      have ow : Hid (∀ g, g ∈ u3.ownBlock.toList ++ N → g < wr.heap.size) := hidIt (fun g hg => by
        rcases List.mem_append.1 hg with hg | hg
        · exact hI.out.own.lt (by simpa using hg)
        · exact Nat.lt_of_lt_of_le (HN.out.2.2.2 g hg) hI.out.below.size)
      obtain ⟨i0, i1, i2, i3, i4⟩ := tb_ar k n hlt (by have := HN.out.2.1; omega)
      have GO := hidIt i4
      clear hx hlt hk hb i4
      go_wp2_with (first
        | (refine wpList_load_mid rfl 45 (.tmp 14) rfl b (o + k * 5) rfl x.cs _ hr Try.underlying45 rfl run_size ?_; clear hr)
        | (go_at_call 26; refine (copyRun_any (M := u3.ownBlock.toList ++ N) OX.out (by have := SX.out; unfold SmR at this; omega) ow.out).mono ?_; rintro e W4 ⟨z, hz, rfl, KZ, B4⟩; have HZ := hidIt hz; have E4 := hidIt B4; have K4 := hidIt KZ; clear hz KZ B4; obtain ⟨W5, hW5⟩ : ∃ W5, W5 = W4.alloc (.cells z.cs.toArray 45) := ⟨_, rfl⟩; have A5 : Below W4.heap.size W4 W5 := (by rw [hW5]; exact (Below.refl _ _).alloc (Nat.le_refl _) _); have E5 := hidIt (E4.out.trans (A5.mono E4.out.size)); have R5 : Rec19 W5 W4.heap.size 0 (rcs [z]) := (by rw [hW5, rcs_single]; exact Rec19.new W4 _ z.cs); have OZ := hidIt (K4.out.below A5); obtain ⟨v6, W6, hr6, I6⟩ := app_runs 23 W5 u3 os [z] ⟨W4.heap.size, 0, none⟩ 1 (hI.out.own.below E5.out) (fun j u hj => by rw [Addr.add_mid]; exact R5.1 j u hj) (by rw [rcs_single]; exact OZ.out.one) (by simp) (by have := OL.out; simp; omega); simp only [List.length_singleton] at hr6; have NX := hidIt ((hI.out.below' E5.out).step HX.out HZ.out OZ.out I6); have HW5 := hidIt hW5; clear hW5 A5 R5 I6)
        | (refine wpList_run_w (by rfl) (.slice (some ⟨W4.heap.size, 0, none⟩) 1 1) W5 (by rw [HW5.out]; exact bsl_run 23 45 1 _ rfl 5 72 _ _ _ under_runs info_run (by decide) (by decide) rfl (by kernel_rfl)) ?_)
        | (at_builtin; refine wpList_append_go rfl (.tmp 11) (.tmp 17) 23 23 rfl _ _ rfl rfl hr6 ?_))
      exact ⟨⟨k + 1, _, LT.out, rfl, NX⟩, GO.out⟩
    · obtain rfl : k = n := by omega
      have i0 : ((k : Int) < (k : Int)) = False := eq_false (by omega)
      obtain ⟨va, vc, hv, _⟩ := hI.out.own.sl
      rename World => wr
      have FIN : Hid (CrsPost W N ps (.returned u3) wr) := hidIt (by
        have hh := hI.out
        rw [hv] at hh ⊢
        refine ⟨va, vc, os, rfl, ?_, by rw [hh.eq, List.take_of_length_le (by have := HN.out.1; simp; omega)], own_lrk hh.own rfl (fun x hx => (hh.oks x hx).mono (fun b hb => .inl (List.mem_append_right _ hb))) (fun g hg q => ?_), hh.below⟩
        · have := congrArg List.length hh.eq
          rw [List.length_map, List.length_take, List.length_map] at this
          have := HN.out.1
          omega
        · have := hh.new g hg
          have := HN.out.2.2.2 g q
          omega)
      clear hk hlt hI hv
      go_wp2_with fail
      exact bodyPost_ret (v := u3) (by simp [results, Try.results10, go_sem]) rfl FIN.out
/-- What holds at the head of CopyLevels' loop. -/
structure CvI (W : World) (N : List Nat) (ls : List LR) (k : Nat) (wr : World) (v : Value) (os : List LR) : Prop where
  own : OwnV wr 0 v os
  new : ∀ g, v.ownBlock = some g → W.heap.size ≤ g
  oks : ∀ x ∈ os, LrkN wr (v.ownBlock.toList ++ N) x
  rns : rns os = rns (ls.take k)
  len : os.length = k
  below : Below W.heap.size W wr
theorem LrkN.bothL {W W' : World} {N M : List Nat} {x : LR} (h : LrkN W M x) (k : LrkN W N x) (hO : Off N W W') : LrkN W' M x := by
  have a := k.off hO
  refine ⟨fun y hy => (h.1 y hy).both (k.1 y hy) hO, fun hne => ?_, h.2.2⟩
  obtain ⟨b, off, ha, hn, _, _⟩ := h.2.1 hne
  obtain ⟨b', off', ha', _, hr, hb⟩ := a.2.1 hne
  rw [ha] at ha'
  injection ha' with ha'
  injection ha' with h1 h2
  subst h1 h2
  exact ⟨b, off, ha, hn, hr, hb⟩
theorem rns_take {ls : List LR} {k : Nat} {x : LR} (h : ls[k]? = some x) : rns (ls.take (k + 1)) = rns (ls.take k) ++ [x.rs.map RV.r] := by
  obtain ⟨hk, rfl⟩ := List.getElem?_eq_some_iff.1 h
  unfold Go.Proofs.Ytelcijfcgflagaa.rns
  rw [List.take_succ_eq_append_getElem hk, List.map_append]
  rfl
theorem CvI.step {W W4 W5 W6 : World} {N : List Nat} {ls os : List LR} {k : Nat} {v v6 : Value} {x y : LR} (h : CvI W N ls k W4 v os) (hB : Below W4.heap.size W4 W5) (hy : LrkN W5 (v.ownBlock.toList ++ N) y) (hI : InsV W5 v (os ++ [y]) v6 W6) (hx : ls[k]? = some x) (hp : y.rs.map RV.r = x.rs.map RV.r) : CvI W N ls (k + 1) W6 v6 (os ++ [y]) := by
  have s5 := Nat.le_trans h.below.size hB.size
  have n6 : ∀ b, b ∈ v6.ownBlock.toList ++ N → b ∈ v.ownBlock.toList ++ N ∨ W5.heap.size ≤ b := fun b hb => by
    rcases List.mem_append.1 hb with hb | hb
    · cases e : v6.ownBlock with
      | none => rw [e] at hb; cases hb
      | some g =>
        rw [e] at hb
        simp at hb
        subst hb
        rcases hI.blk _ e with q | q
        · exact .inl (by rw [q]; simp)
        · exact .inr q
    · exact .inl (List.mem_append_right _ hb)
  refine ⟨hI.own, fun g hg => ?_, fun z hz => ?_, ?_, by simp [h.len], (h.below.trans (hB.mono h.below.size)).trans (hI.off.below (fun b hb => ?_) s5)⟩
  · rcases hI.blk g hg with q | q
    · exact h.new g q
    · omega
  · have a : LrkN W5 (v.ownBlock.toList ++ N) z := by
      rcases List.mem_append.1 hz with hz | hz
      · exact (h.oks z hz).below hB
      · rcases List.mem_singleton.1 hz with rfl
        exact hy
    exact (a.mono n6).bothL (a.mono (fun b hb => .inl (List.mem_append_left _ hb))) hI.off
  · rw [rns_take hx, ← h.rns, ← hp]
    simp [Go.Proofs.Ytelcijfcgflagaa.rns]
  · cases e : v.ownBlock with
    | none => rw [e] at hb; cases hb
    | some g => rw [e] at hb; simp at hb; subst hb; exact h.new _ e
/-- What CopyLevels answers. -/
def CvPost (W : World) (ls : List LR) (e : Ending) (w' : World) : Prop := ∃ A C os, e = .returned (.slice A os.length C) ∧ os.length = ls.length ∧ rns os = rns ls ∧ Lvs w' A os ∧ Below W.heap.size W w'
set_option maxRecDepth 100000 in
set_option maxHeartbeats 1000000 in
theorem copyLevels_any {W : World} {N : List Nat} {A : Option Addr} {ls : List LR} (L C : Nat) (hL : ls.length = L) (h : Lvs W A ls) (hf : L ≤ 1000) (hs : ∀ x ∈ ls, x.rs.length ≤ 10000 ∧ ∀ y ∈ x.rs, SmR y.r) (hN : ∀ b ∈ N, b < W.heap.size) : Calls Try.prog 6 #[.slice A L C] W (CvPost W ls) := by
  have HL := hidIt h
  have HN := hidIt (And.intro hL (And.intro hf (And.intro hs hN)))
  have st : Hid (CvI W N ls 0 W (.slice none 0 0) []) := hidIt ⟨OwnV.nil _ _, fun g hg => (by cases hg), fun x hx => (by cases hx), rfl, rfl, Below.refl _ _⟩
  clear h hL hf hs hN
  go_enter Try.func6, Try.ntmps6
  go_wp2_with fail
  go_loopw [3, 4] (fun lv i wr => ∃ (k : Nat) (os : List LR), k ≤ L ∧ i = .int .i64 (k : Int) ∧ Hid (CvI W N ls k wr lv os)) (fun _ i _ => L - (RowKit.intOf i).toNat)
  case atStart => exact ⟨0, _, Nat.zero_le _, rfl, st⟩
  case round =>
    clear st
    obtain ⟨k, os, hk, rfl, hI⟩ := hrel
    by_cases hlt : k < L
    · obtain ⟨x, hx⟩ : ∃ x, ls[k]? = some x := ⟨_, List.getElem?_eq_getElem (by have := HN.out.1; omega)⟩
      obtain ⟨b, o, ha, hc, hb⟩ := (HL.out.below hI.out.below).at k x hx
      subst ha
      have HX := hidIt hx
      have LT := hidIt hlt
      have ow : Hid (∀ g, g ∈ u3.ownBlock.toList ++ N → g < wr.heap.size) := hidIt (fun g hg => by
        rcases List.mem_append.1 hg with hg | hg
        · cases e : u3.ownBlock with
          | none => rw [e] at hg; cases hg
          | some q => rw [e] at hg; simp at hg; subst hg; exact (World.ownsRow.lt hI.out.own _ e).2
        · exact Nat.lt_of_lt_of_le (HN.out.2.2.2 g hg) hI.out.below.size)
      have G := hidIt (copyRuns_any (N := u3.ownBlock.toList ++ N) x.rs.length x.c rfl ((HL.out.below hI.out.below).1 x (List.mem_of_getElem? hx)).1 (HN.out.2.2.1 x (List.mem_of_getElem? hx)).1 (HN.out.2.2.1 x (List.mem_of_getElem? hx)).2 ow.out)
      obtain ⟨i0, i1, i2, i3, i4⟩ := tb_ar k L hlt (by have := HN.out.2.1; omega)
      have GO := hidIt i4
      unfold LR.v at hc
      clear hb hx hlt hk
      obtain ⟨mm, hmm⟩ : ∃ mm, mm = x.rs.length := ⟨_, rfl⟩
      rw [← hmm] at G hc
      clear hmm
      go_wp2_with (go_at_call 10; refine G.out.mono ?_; rintro e W2 ⟨ya, yc, yps, rfl, hq, hp, hl, b2⟩; clear hq; have Y2 := hidIt hl; have P2 := hidIt hp; have B2 := hidIt b2; clear hl hp b2; refine Held.out ?_)
      obtain ⟨W5, hW5, hl5, b5⟩ := bs_levels W2 [⟨ya, yc, yps⟩] (by intro z hz; rcases List.mem_singleton.1 hz with rfl; exact Y2.out.ok)
      obtain ⟨yn, hyn⟩ : ∃ yn, yn = yps.length := ⟨_, rfl⟩
      have dB : Below wr.heap.size wr W5 := B2.out.trans (b5.mono B2.out.size)
      have R5 : Rec19 W5 W2.heap.size 0 [.slice ya yps.length yc] := by rw [hW5]; exact Rec19.new W2 _ _
      obtain ⟨v6, W6, hr6, I6⟩ := app_levels 22 W5 u3 os [⟨ya, yc, yps⟩] ⟨W2.heap.size, 0, none⟩ 1 (hI.out.own.below dB) (fun j u hj => by rw [Addr.add_mid]; exact R5.1 j u hj) (vcs_one _) (by simp) (by have := hI.out.len; have := LT.out; have := HN.out.2.1; simp; omega)
      simp only [List.length_singleton] at hr6
      have NX : Hid (CvI W N ls (k + 1) W6 v6 (os ++ [⟨ya, yc, yps⟩])) := hidIt (hI.out.step dB (Y2.out.below b5) I6 HX.out P2.out)
      have HW5 : Hid (W5 = W2.alloc (.cells #[.slice ya yn yc] 23)) := hidIt (by rw [hW5, hyn]; rfl)
      rw [← hyn]
      clear hW5 hl5 b5 dB R5 I6 ow G hyn
      refine Held.mk ?_
      go_wp2_with (first
        | (refine wpList_run_w (by rfl) (.slice (some ⟨W2.heap.size, 0, none⟩) 1 1) W5 (by rw [HW5.out]; exact bsl_run 22 23 1 _ rfl 1 24 _ _ _ under_levels info_level (by decide) (by decide) rfl (by kernel_rfl)) ?_)
        | (at_builtin; refine wpList_append_go rfl (.tmp 11) (.tmp 17) 22 22 rfl _ _ rfl rfl hr6 ?_))
      exact ⟨⟨k + 1, _, LT.out, rfl, NX⟩, GO.out⟩
    · obtain rfl : k = L := by omega
      have i0 : ((k : Int) < (k : Int)) = False := eq_false (by omega)
      obtain ⟨ua, uc, hu⟩ := hI.out.own.sl
      have FIN : Hid (CvPost W ls (.returned u3) wr) := hidIt ⟨ua, uc, os, by rw [hu], by rw [hI.out.len, HN.out.1], by rw [hI.out.rns, List.take_of_length_le (by have := HN.out.1; omega)], OwnV.lvs (a := ua) (n := os.length) (cap := uc) (hu ▸ hI.out.own) (fun x hx => (hI.out.oks x hx).ok), hI.out.below⟩
      clear hlt hk hu
      go_wp2_with fail
      exact bodyPost_ret (v := u3) (by simp [results, Try.results6, go_sem]) rfl FIN.out
end Go.Proofs.Ytelcijfcgflagaa
