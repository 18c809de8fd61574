
/-
  Walks, not a claim by itself: the kit's OverBytes and OverRuns of what was told. By the verifier.
-/
import Derived.Test.YtelcijfcgflagaaLvKd
import Derived.Test.YtelcijfcgflagaaBCopy
namespace Go.Proofs.Ytelcijfcgflagaa
open Go.RowKit
attribute [-go_sem] Builtin.append_
/-- How many tables a level has. -/
def lenD (m : List (List Rn)) (i : Nat) : Nat := ((m[i]?).getD []).length
/-- What Over answers. -/
def ovD (m : List (List Rn)) : Int × Bool := if mayB m then (if 4 < lenD m 0 then (0, true) else if 8 < lenD m 1 then (1, true) else if 16 < lenD m 2 then (2, true) else (0, false)) else (0, false)
theorem lenD_at {ls : List LR} {i : Nat} {x : LR} (h : ls[i]? = some x) : lenD (rns ls) i = x.rs.length := by
  unfold lenD rns
  rw [List.getElem?_map, h]
  simp
theorem lenD_none {ls : List LR} {i : Nat} (h : ls.length ≤ i) : lenD (rns ls) i = 0 := by
  unfold lenD rns
  rw [List.getElem?_eq_none (by simpa using h)]
  rfl
/-- The program's own table of how many tables a level may have. -/
def Room (W : World) : Prop := W.rangeAt 0 0 [.int .i64 4, .int .i64 8, .int .i64 16] ∧ 0 < W.heap.size
theorem Room.below {W W' : World} (h : Room W) (hB : Below W.heap.size W W') : Room W' := ⟨fun j v hj => (hB.cell (p := ⟨0, 0 + j, none⟩) h.2).trans (h.1 j v hj), Nat.lt_of_lt_of_le h.2 hB.size⟩
set_option maxRecDepth 100000 in
theorem lof_any {W : World} {A : Option Addr} {ls : List LR} (L C i : Nat) (hL : ls.length = L) (h : Lvs W A ls) (hl : L ≤ 1000) : Calls Try.prog 19 #[.slice A L C, .int .i64 (i : Int)] W fun e w' => (∃ a c, e = .returned (.slice a (lenD (rns ls) i) c)) ∧ w' = W := by
  by_cases hi : L ≤ i
  · have N := hidIt (lenD_none (ls := ls) (i := i) (by omega))
    have c1 : ((L : Int) ≤ (i : Int)) = True := eq_true (by omega)
    have c1' : (L ≤ i) = True := eq_true hi
    clear hi h hL
    go_enter Try.func19, Try.ntmps19
    go_wp2_with fail
    exact bodyPost_ret (v := .slice none 0 0) (by simp [results, Try.results19, go_sem]) rfl ⟨⟨none, 0, by rw [N.out]⟩, rfl⟩
  · obtain ⟨x, hx⟩ : ∃ x, ls[i]? = some x := ⟨_, List.getElem?_eq_getElem (by omega)⟩
    have N := hidIt (lenD_at hx)
    obtain ⟨b, o, ha, hc, hb⟩ := h.at i x hx
    subst ha
    have c1 : ((L : Int) ≤ (i : Int)) = False := eq_false (by omega)
    have c1' : (L ≤ i) = False := eq_false hi
    obtain ⟨i0, i1, _⟩ := tb_ar i L (by omega) (by omega)
    unfold LR.v at hc
    clear hi h hL hb hx
    go_enter Try.func19, Try.ntmps19
    go_wp2_with fail
    exact bodyPost_ret (v := .slice x.a x.rs.length x.c) (by simp [results, Try.results19, go_sem]) rfl ⟨⟨x.a, x.c, by rw [N.out]⟩, rfl⟩
theorem ovD_no {m : List (List Rn)} (h : mayB m = false) : ovD m = (0, false) := by unfold ovD; rw [h]; rfl
theorem ovD_0 {m : List (List Rn)} (h : mayB m = true) (h0 : 4 < lenD m 0) : ovD m = (0, true) := by unfold ovD; rw [if_pos h, if_pos h0]
theorem ovD_1 {m : List (List Rn)} (h : mayB m = true) (h0 : ¬ 4 < lenD m 0) (h1 : 8 < lenD m 1) : ovD m = (1, true) := by unfold ovD; rw [if_pos h, if_neg h0, if_pos h1]
theorem ovD_2 {m : List (List Rn)} (h : mayB m = true) (h0 : ¬ 4 < lenD m 0) (h1 : ¬ 8 < lenD m 1) (h2 : 16 < lenD m 2) : ovD m = (2, true) := by unfold ovD; rw [if_pos h, if_neg h0, if_neg h1, if_pos h2]
theorem ovD_3 {m : List (List Rn)} (h : mayB m = true) (h0 : ¬ 4 < lenD m 0) (h1 : ¬ 8 < lenD m 1) (h2 : ¬ 16 < lenD m 2) : ovD m = (0, false) := by unfold ovD; rw [if_pos h, if_neg h0, if_neg h1, if_neg h2]
/-- What both answer. -/
def OvPost (W : World) (m : List (List Rn)) (e : Ending) (w' : World) : Prop := e = .returned (.tuple #[.int .i64 (ovD m).1, .bool (ovD m).2]) ∧ Below W.heap.size W w'
end Go.Proofs.Ytelcijfcgflagaa
namespace Go.Proofs.Ytelcijfcgflagaa
open Go.RowKit
attribute [-go_sem] Builtin.append_
/-- The limits, in memory. -/
def Lims (W : World) (b : Nat) : Prop := Rec19 W b 0 [.int .i64 4, .int .i64 8, .int .i64 16]
end Go.Proofs.Ytelcijfcgflagaa
namespace Go.Proofs.Ytelcijfcgflagaa
open Go.RowKit
attribute [-go_sem] Builtin.append_
theorem app_runs_any (ty : TypeId) (W : World) (v : Value) (ps qs : List RV) (a : Option Addr) (n C : Nat) (hn : qs.length = n) (ho : OwnR W 0 v ps) (hL : LsR W a qs) (hm : ps.length + qs.length ≤ 100000) :
    ∃ v' W', (Builtin.append_ #[23, 23] ty #[v, .slice a n C]).run Try.prog W = .ok v' W' ∧ InsR W v (ps ++ qs) v' W' := by
  subst hn
  by_cases h0 : qs = []
  · subst h0
    obtain ⟨i0, hi, hz0, hz1, hz2⟩ := info_parts info_run
    refine ⟨v, W, ?_, by rw [List.append_nil]; exact ho, Off.of (Below.refl _ _), fun g hg => .inl hg⟩
    rcases ho.form with ⟨rfl, rfl⟩ | ⟨g, cap, rfl, _, hnc, _, _, _⟩
    · cases a with
      | none => simp [Builtin.append_, run_underlying under_runs, sizeOf, typeInfo, hi, Builtin.lenOf, Builtin.firstCells]
      | some p =>
        have hl := run_loadCells_list (P := Try.prog) W p [] (by simp)
        simp at hl
        simp [Builtin.append_, run_underlying under_runs, sizeOf, typeInfo, hi, Builtin.lenOf, Builtin.firstCells, hl]
    · cases a with
      | none => simp [Builtin.append_, run_underlying under_runs, sizeOf, typeInfo, hi, Builtin.lenOf, Builtin.firstCells, hnc, storeCells]
      | some p =>
        have hl := run_loadCells_list (P := Try.prog) W p [] (by simp)
        simp at hl
        simp [Builtin.append_, run_underlying under_runs, sizeOf, typeInfo, hi, Builtin.lenOf, Builtin.firstCells, hnc, storeCells, hl]
  · obtain ⟨b, off, rfl, hr, _⟩ := hL.2 h0
    exact app_runs ty W v ps qs _ C ho (fun j u hj => by rw [Addr.add_mid]; exact hr j u hj) (rcs_one hL.1) (by cases qs with | nil => exact absurd rfl h0 | cons _ _ => simp) hm
/-- No table, in a block of its own. -/
theorem own_none (W : World) (b : Nat) (h : W.heap[b]? = some (.cells #[] 45 (0, 0))) : OwnR W 0 (.slice (some ⟨b, 0, none⟩) 0 0) [] :=
  ⟨rfl, .inr ⟨b, 0, #[], rfl, Nat.zero_le _, h, Nat.le_refl _, Nat.zero_le _, rfl, rfl⟩⟩
/-- Four levels that lie apart from the array that holds them. -/
structure Four (W : World) (g : Nat) (lv : Nat → LR) : Prop where
  rc : Rec19 W g 0 [(lv 0).v, (lv 1).v, (lv 2).v, (lv 3).v]
  oks : ∀ i, i < 4 → LrkN W [g] (lv i)
theorem Four.below {W W' : World} {g : Nat} {lv : Nat → LR} (h : Four W g lv) (hB : Below W.heap.size W W') : Four W' g lv := ⟨h.rc.below hB, fun i hi => (h.oks i hi).below hB⟩
theorem Four.set {W : World} {g i : Nat} {lv : Nat → LR} {y : LR} (h : Four W g lv) (hi : i < 4) (hy : LrkN W [g] y) : Four (W.setCell ⟨g, i, none⟩ y.v) g (upd4 lv i y) := by
  have BS := But.set (b := g) W i y.v
  have O := Off.but (bs := [g]) BS (by simp)
  refine ⟨?_, fun j hj => ?_⟩
  · have := h.rc.putR i y.v (by simpa using hi)
    rcases (show i = 0 ∨ i = 1 ∨ i = 2 ∨ i = 3 by omega) with rfl | rfl | rfl | rfl <;> simpa [upd4] using this
  · by_cases e : j = i
    · subst e
      rw [upd4_at]
      exact hy.off O
    · rw [upd4_ne _ _ e]
      exact (h.oks j hj).off O
theorem Four.lvs {W : World} {g : Nat} {lv : Nat → LR} (h : Four W g lv) : Lvs W (some ⟨g, 0, none⟩) [lv 0, lv 1, lv 2, lv 3] := by
  refine ⟨fun x hx => ?_, fun _ => ⟨g, 0, rfl, h.rc.1, h.rc.2.2⟩⟩
  simp only [List.mem_cons, List.not_mem_nil, or_false] at hx
  rcases hx with rfl | rfl | rfl | rfl
  · exact (h.oks 0 (by omega)).ok
  · exact (h.oks 1 (by omega)).ok
  · exact (h.oks 2 (by omega)).ok
  · exact (h.oks 3 (by omega)).ok
/-- What four answers. -/
def NfPost (W : World) (m : List (List Rn)) (e : Ending) (w' : World) : Prop := ∃ g lv, e = .returned (.slice (some ⟨g, 0, none⟩) 4 4) ∧ W.heap.size ≤ g ∧ Four w' g lv ∧ (∀ i, i < 4 → (lv i).rs.map RV.r = fourD m i) ∧ Below W.heap.size W w'
/-- What holds at the head of its loop. -/
structure NfI (W0 : World) (m : List (List Rn)) (k : Nat) (W : World) : Prop where
  fo : ∃ lv, Four W W0.heap.size lv ∧ ∀ i, i < 4 → (lv i).rs.map RV.r = if i < k then fourD m i else []
  old : Below W0.heap.size W0 W
theorem fourD_at {ls : List LR} {i : Nat} {x : LR} (h : ls[i]? = some x) : fourD (rns ls) i = x.rs.map RV.r := by
  unfold fourD rns
  rw [List.getElem?_map, h]
  rfl
theorem fourD_none {ls : List LR} {i : Nat} (h : ls.length ≤ i) : fourD (rns ls) i = [] := by
  unfold fourD rns
  rw [List.getElem?_eq_none (by simpa using h)]
  rfl
theorem LROk.apart {W : World} {x : LR} {g : Nat} (h : LROk W x) (hg : W.heap.size ≤ g) : LrkN W [g] x := ⟨fun y hy => (h.1.1 y hy).mono (fun b hb => .inr (by rcases List.mem_singleton.1 hb with rfl; exact hg)), fun hne => by
  obtain ⟨b, off, ha, hr, hb⟩ := h.1.2 hne
  exact ⟨b, off, ha, fun q => by rcases List.mem_singleton.1 q with rfl; omega, hr, hb⟩, h.2⟩
/-- One more level. -/
theorem NfI.step {W0 W W5 W6 : World} {A : Option Addr} {ls : List LR} {k : Nat} {lv : Nat → LR} {x : LR} {v6 : Value} {b : Nat} (h : NfI W0 (rns ls) k W) (hf : Four W W0.heap.size lv) (hm : ∀ i, i < 4 → (lv i).rs.map RV.r = if i < k then fourD (rns ls) i else []) (hx : ls[k]? = some x) (hk : k < 4) (hl : Lvs W0 A ls) (hB : Below W.heap.size W W5) (hb : W.heap.size ≤ b) (hI : InsR W5 (.slice (some ⟨b, 0, none⟩) 0 0) x.rs v6 W6) : ∃ y : LR, v6 = y.v ∧ NfI W0 (rns ls) (k + 1) (W6.setCell ⟨W0.heap.size, k, none⟩ y.v) := by
  have f5 := hf.below hB
  have sg := hf.rc.2.2
  have s0 := h.old.size
  have hO : Off [b] W5 W6 := hI.off
  have f6 : Four W6 W0.heap.size lv := ⟨f5.rc.off hO (by simp; omega), fun i hi => by
    have a := ((hf.oks i hi).mono (M := [W0.heap.size, b]) (fun c hc => by
      simp only [List.mem_cons, List.not_mem_nil, or_false] at hc
      rcases hc with rfl | rfl
      · exact .inl (by simp)
      · exact .inr hb)).below hB
    exact (a.mono (M := [W0.heap.size]) (fun c hc => .inl (by simp at hc; simp [hc]))).bothL (a.mono (M := [b]) (fun c hc => .inl (by simp at hc; simp [hc]))) hO⟩
  obtain ⟨a6, c6, hv, hc6⟩ := hI.own.sl
  have hB0 : Below W0.heap.size W0 W5 := h.old.trans (hB.mono s0)
  have tx : ∀ y ∈ x.rs, RVOk W6 [W0.heap.size] y := fun y hy => by
    have a := ((((hl.1 x (List.mem_of_getElem? hx)).1.1 y hy).mono (M := [W0.heap.size, b]) (fun c hc => .inr (by
      simp only [List.mem_cons, List.not_mem_nil, or_false] at hc
      rcases hc with rfl | rfl
      · exact Nat.le_refl _
      · omega)))).below hB0
    exact (a.mono (M := [W0.heap.size]) (fun c hc => .inl (by simp at hc; simp [hc]))).both (a.mono (M := [b]) (fun c hc => .inl (by simp at hc; simp [hc]))) hO
  have hy : LrkN W6 [W0.heap.size] ⟨a6, c6, x.rs⟩ := own_lrk (hv ▸ hI.own) rfl tx (fun g hg q => by
    have q := List.mem_singleton.1 q
    rcases hI.blk g (by rw [hv]; exact hg) with z | z
    · simp [Value.ownBlock] at z; omega
    · have := hB.size; omega)
  refine ⟨⟨a6, c6, x.rs⟩, hv, ⟨upd4 lv k ⟨a6, c6, x.rs⟩, f6.set hk hy, fun i hi => ?_⟩, ?_⟩
  · by_cases e : i = k
    · subst e
      rw [upd4_at, if_pos (by omega), fourD_at hx]
    · rw [upd4_ne _ _ e, hm i hi]
      by_cases e2 : i < k
      · rw [if_pos e2, if_pos (by omega)]
      · rw [if_neg e2, if_neg (by omega)]
  · exact (hB0.trans (hO.below (by simp; omega) hB0.size)).trans ((But.set (b := W0.heap.size) W6 k _).below (Nat.le_refl _) (Nat.le_trans hB0.size hO.size))
set_option maxRecDepth 100000 in
set_option maxHeartbeats 1000000 in
theorem nfour_any {W0 : World} {A : Option Addr} {ls : List LR} (L C : Nat) (hL : ls.length = L) (h : Lvs W0 A ls) (h4 : L ≤ 4) (hs : ∀ x ∈ ls, x.rs.length ≤ 1000) : Calls Try.prog 23 #[.slice A L C] W0 (NfPost W0 (rns ls)) := by
  have HL := hidIt h
  have HN := hidIt (And.intro hL (And.intro h4 hs))
  have hmk := make_four W0
  obtain ⟨W1, hW1⟩ : ∃ W1, W1 = W0.alloc (.cells #[.slice none 0 0, .slice none 0 0, .slice none 0 0, .slice none 0 0] 23) := ⟨_, rfl⟩
  rw [← hW1] at hmk
  have ST : Hid (NfI W0 (rns ls) 0 W1) := hidIt (by
    rw [hW1]
    exact ⟨⟨fun _ => ⟨none, 0, []⟩, ⟨Rec19.new W0 _ [.slice none 0 0, .slice none 0 0, .slice none 0 0, .slice none 0 0], fun i _ => ⟨fun y hy => (by cases hy), fun hne => absurd rfl hne, Nat.le_refl _⟩⟩, fun i hi => by rw [if_neg (by omega)]; rfl⟩, (Below.refl _ _).alloc (Nat.le_refl _) _⟩)
  clear hW1 h hL h4 hs
  go_enter Try.func23, Try.ntmps23
  go_wp2_with fail
  clear hmk
  go_loopw [4] (fun iv wr => ∃ k : Nat, k ≤ L ∧ iv = .int .i64 (k : Int) ∧ Hid (NfI W0 (rns ls) k wr)) (fun iv _ => L - (RowKit.intOf iv).toNat)
  case atStart => exact ⟨0, Nat.zero_le _, rfl, ST⟩
  case round =>
    clear ST
    obtain ⟨k, hk, rfl, hI⟩ := hrel
    rename World => wr
    by_cases hlt : k < L
    · obtain ⟨x, hx⟩ : ∃ x, ls[k]? = some x := ⟨_, List.getElem?_eq_getElem (by have := HN.out.1; omega)⟩
      obtain ⟨lv, hf, hm⟩ := hI.out.fo
      have HF := hidIt (And.intro hf hm)
      have A5 : Below wr.heap.size wr (wr.alloc (.cells #[] 45)) := (Below.refl _ _).alloc (Nat.le_refl _) _
      have B0 := hI.out.old.trans (A5.mono hI.out.old.size)
      obtain ⟨b, o, ha, hc, hb⟩ := (HL.out.below B0).at k x hx
      subst ha
      have O5 : OwnR (wr.alloc (.cells #[] 45)) 0 (.slice (some ⟨wr.heap.size, 0, none⟩) 0 0) [] := own_none _ _ (World.alloc_heap_new wr _)
      obtain ⟨v6, W6, hr6, I6⟩ := app_runs_any 23 _ _ [] x.rs x.a x.rs.length x.c rfl O5 ((HL.out.below B0).1 x (List.mem_of_getElem? hx)).1 (by have := HN.out.2.2 x (List.mem_of_getElem? hx); simp; omega)
      rw [List.nil_append] at I6
      obtain ⟨y, hy, NX⟩ := hI.out.step hf hm hx (by have := HN.out.2.1; omega) HL.out A5 (Nat.le_refl _) I6
      subst hy
      have NXH : Hid (NfI W0 (rns ls) (k + 1) (W6.setCell ⟨W0.heap.size, k, none⟩ (.slice y.a y.rs.length y.c))) := hidIt NX
      unfold LR.v at hr6
      have G6 : Hid (Rec19 W6 W0.heap.size 0 [(lv 0).v, (lv 1).v, (lv 2).v, (lv 3).v]) := hidIt ((hf.below A5).rc.off I6.off (by have := hf.rc.2.2; simp [Value.ownBlock]; omega))
      have hg6 := (G6.out.cel k ((lv k).v) (by rcases (show k = 0 ∨ k = 1 ∨ k = 2 ∨ k = 3 by have := HN.out.2.1; omega) with rfl | rfl | rfl | rfl <;> rfl))
      obtain ⟨g1, g2⟩ := hg6
      have K4 : ((k : Int) < 4) = True := eq_true (by have := HN.out.2.1; omega)
      have K4' : (k < 4) = True := eq_true (by have := HN.out.2.1; omega)
      obtain ⟨i0, i1, i2, i3, i4⟩ := tb_ar k L hlt (by have := HN.out.2.1; omega)
      have GO := hidIt i4
      have LT := hidIt hlt
      unfold LR.v at hc
      clear hx hlt hk hb i4 I6 O5 A5 B0 hf hm NX
      go_wp2_with (at_builtin; refine wpList_append_go rfl (.tmp 14) (.tmp 18) 23 23 rfl _ _ rfl rfl hr6 ?_)
      exact ⟨⟨k + 1, LT.out, rfl, NXH⟩, GO.out⟩
    · obtain rfl : k = L := by omega
      have i0 : ((k : Int) < (k : Int)) = False := eq_false (by omega)
      have FIN : Hid (NfPost W0 (rns ls) (.returned (.slice (some ⟨W0.heap.size, 0, none⟩) 4 4)) wr) := hidIt (by
        obtain ⟨lv, hf, hm⟩ := hI.out.fo
        refine ⟨_, lv, rfl, Nat.le_refl _, hf, fun i hi => ?_, hI.out.old⟩
        rw [hm i hi]
        by_cases e : i < k
        · rw [if_pos e]
        · rw [if_neg e, fourD_none (by have := HN.out.1; omega)])
      clear hk hlt hI
      go_wp2_with fail
      exact bodyPost_ret (v := .slice (some ⟨W0.heap.size, 0, none⟩) 4 4) (by simp [results, Try.results23, go_sem]) rfl FIN.out
end Go.Proofs.Ytelcijfcgflagaa
namespace Go.Proofs.Ytelcijfcgflagaa
open Go.RowKit
attribute [-go_sem] Builtin.append_
theorem may_fourD {m : List (List Rn)} (h : mayB m = true) (i : Nat) : (fourD m i).all sndR = true ∧ (0 < i → chnR (fourD m i) = true) := by
  unfold mayB at h
  simp only [Bool.and_eq_true] at h
  obtain ⟨⟨_, h1⟩, h2⟩ := h
  unfold fourD
  cases e : m[i]? with
  | none => exact ⟨rfl, fun _ => rfl⟩
  | some l =>
    refine ⟨List.all_eq_true.1 h1 l (List.mem_of_getElem? e), fun h0 => List.all_eq_true.1 h2 l ?_⟩
    refine List.mem_of_getElem? (i := i - 1) ?_
    rw [List.getElem?_drop, show 1 + (i - 1) = i by omega]
    exact e
/-- May four levels be, with one table more at the front? -/
theorem may_front {m : List (List Rn)} (h : mayB m = true) (r : Rn) : mayB [r :: fourD m 0, fourD m 1, fourD m 2, fourD m 3] = sndR r := by
  have a := fun i => may_fourD h i
  unfold mayB
  simp [(a 0).1, (a 1).1, (a 2).1, (a 3).1, (a 1).2 (by omega), (a 2).2 (by omega), (a 3).2 (by omega)]
/-- Four levels, when something was put behind a new block. -/
theorem Four.app {W W6 : World} {g b : Nat} {lv : Nat → LR} (h : Four W g lv) (hg : g ≠ b) (hO : Off [b] W W6) (hb : ∀ i, i < 4 → LrkN W [g, b] (lv i)) : Four W6 g lv := ⟨h.rc.off hO (by simpa using hg), fun i hi => ((hb i hi).mono (M := [g]) (fun c hc => .inl (by simp at hc; simp [hc]))).bothL ((hb i hi).mono (M := [b]) (fun c hc => .inl (by simp at hc; simp [hc]))) hO⟩
theorem Four.more {W W5 : World} {g b : Nat} {lv : Nat → LR} (h : Four W g lv) (hb : W.heap.size ≤ b) (hB : Below W.heap.size W W5) : ∀ i, i < 4 → LrkN W5 [g, b] (lv i) := fun i hi => ((h.oks i hi).mono (M := [g, b]) (fun c hc => by
  simp only [List.mem_cons, List.not_mem_nil, or_false] at hc
  rcases hc with rfl | rfl
  · exact .inl (by simp)
  · exact .inr hb)).below hB
/-- What Add answers, the reference's. -/
def NaPost (W : World) (m : List (List Rn)) (r : Rn) (e : Ending) (w' : World) : Prop := Below W.heap.size W w' ∧ (((mayB m && sndR r) = false ∧ e = .returned (.tuple #[.slice none 0 0, .int .i64 2])) ∨ ((mayB m && sndR r) = true ∧ ∃ g lv, e = .returned (.tuple #[.slice (some ⟨g, 0, none⟩) 4 4, .int .i64 0]) ∧ Four w' g lv ∧ ∀ i, i < 4 → (lv i).rs.map RV.r = if i = 0 then r :: fourD m 0 else fourD m i))
theorem four_rns {m : List (List Rn)} {r : Rn} {lv : Nat → LR} (h : ∀ i, i < 4 → (lv i).rs.map RV.r = if i = 0 then r :: fourD m 0 else fourD m i) : rns [lv 0, lv 1, lv 2, lv 3] = [r :: fourD m 0, fourD m 1, fourD m 2, fourD m 3] := by
  have h0 := h 0 (by omega)
  have h1 := h 1 (by omega)
  have h2 := h 2 (by omega)
  have h3 := h 3 (by omega)
  simp at h0 h1 h2 h3
  simp [rns, h0, h1, h2, h3]
theorem own_one {W W5 : World} {y : RV} (hW : W5 = W.alloc (.cells y.cs.toArray 45)) : OwnR W5 0 (.slice (some ⟨W.heap.size, 0, none⟩) 1 1) [y] := by
  subst hW
  exact ⟨by rw [rcs_single]; rfl, .inr ⟨W.heap.size, 1, y.cs.toArray, rfl, Nat.zero_le _, World.alloc_heap_new W _, Nat.le_refl _, by decide, rfl, by simp [rcs_single, RV.cs]⟩⟩
/-- What stands when the new first level was put in its place. -/
theorem na_put {W W4 W5 W6 : World} {m : List (List Rn)} {g b : Nat} {lv : Nat → LR} {y : RV} {v6 : Value} {N : List Nat} (hf : Four W4 g lv) (hy : RVOk W N y) (hE : Below W.heap.size W W4) (hg : W.heap.size ≤ g) (hb : W4.heap.size ≤ b) (hB : Below W4.heap.size W4 W5) (hm : ∀ i, i < 4 → (lv i).rs.map RV.r = fourD m i) (hI : InsR W5 (.slice (some ⟨b, 0, none⟩) 1 1) (y :: (lv 0).rs) v6 W6) : ∃ z : LR, v6 = z.v ∧ Four (W6.setCell ⟨g, 0, none⟩ z.v) g (upd4 lv 0 z) ∧ (∀ i, i < 4 → (upd4 lv 0 z i).rs.map RV.r = if i = 0 then y.r :: fourD m 0 else fourD m i) ∧ Below W.heap.size W (W6.setCell ⟨g, 0, none⟩ z.v) := by
  have sg := hf.rc.2.2
  have hO : Off [b] W5 W6 := hI.off
  have f6 := (hf.below hB).app (b := b) (by omega) hO (hf.more hb hB)
  obtain ⟨a6, c6, hv, _⟩ := hI.own.sl
  have tx : ∀ x ∈ y :: (lv 0).rs, RVOk W6 [g] x := fun x hx => by
    have a : RVOk W5 [g, b] x := by
      rcases List.mem_cons.1 hx with rfl | hx
      · exact ((hy.mono (M := [g, b]) (fun c hc => .inr (by
          simp only [List.mem_cons, List.not_mem_nil, or_false] at hc
          have := hE.size
          rcases hc with rfl | rfl <;> omega))).below hE).below hB
      · exact (hf.more hb hB 0 (by omega)).1 x hx
    exact (a.mono (M := [g]) (fun c hc => .inl (by simp at hc; simp [hc]))).both (a.mono (M := [b]) (fun c hc => .inl (by simp at hc; simp [hc]))) hO
  have hz : LrkN W6 [g] ⟨a6, c6, y :: (lv 0).rs⟩ := own_lrk (hv ▸ hI.own) rfl tx (fun q hq z => by
    have z := List.mem_singleton.1 z
    rcases hI.blk q (by rw [hv]; exact hq) with e | e
    · simp [Value.ownBlock] at e; omega
    · have := hB.size; omega)
  refine ⟨⟨a6, c6, y :: (lv 0).rs⟩, hv, f6.set (by omega) hz, fun i hi => ?_, ?_⟩
  · by_cases e : i = 0
    · subst e
      rw [upd4_at, if_pos rfl, List.map_cons, hm 0 (by omega)]
    · rw [upd4_ne _ _ e, if_neg e, hm i hi]
  · have b5 : Below W.heap.size W W5 := hE.trans (hB.mono hE.size)
    exact (b5.trans (hO.below (by have := hE.size; simp; omega) b5.size)).trans ((But.set (b := g) W6 0 _).below hg (Nat.le_trans b5.size hO.size))
end Go.Proofs.Ytelcijfcgflagaa
namespace Go.Proofs.Ytelcijfcgflagaa
open Go.RowKit
/-- A byte written over. -/
def ov (x : Int) : Int := bits .xor .u8 x 90
theorem ov_ov (x : Int) (h : 0 ≤ x ∧ x < 256) : ov (ov x) = x := by
  unfold ov
  rw [u8_xor x 90 h.1 h.2 (by omega) (by omega)]
  have h1 : x.toNat ^^^ (90 : Int).toNat < 2 ^ 8 := Nat.xor_lt_two_pow (by omega) (by decide)
  rw [u8_xor _ 90 (by omega) (by omega) (by omega) (by omega), Int.toNat_natCast, Nat.xor_assoc, Nat.xor_self, Nat.xor_zero]
  omega
theorem ov_byte (x : Int) (h : 0 ≤ x ∧ x < 256) : 0 ≤ ov x ∧ ov x < 256 := by
  unfold ov
  rw [u8_xor x 90 h.1 h.2 (by omega) (by omega)]
  have h1 : x.toNat ^^^ (90 : Int).toNat < 2 ^ 8 := Nat.xor_lt_two_pow (by omega) (by decide)
  omega
/-- The first k bytes written over. -/
def ovF (F : Nat → Int) (k j : Nat) : Int := if j < k then ov (F j) else F j
theorem ovF_step (F : Nat → Int) (k : Nat) : upd (ovF F k) k (ov (F k)) = ovF F (k + 1) := by
  funext j
  unfold upd ovF
  by_cases h : j = k
  · subst h; rw [if_pos rfl, if_pos (by omega)]
  · rw [if_neg h]
    by_cases g : j < k
    · rw [if_pos g, if_pos (by omega)]
    · rw [if_neg g, if_neg (by omega)]
theorem ovF_at (F : Nat → Int) (k : Nat) : ovF F k k = F k := by unfold ovF; rw [if_neg (by omega)]
def ovRel (w : World) (g C : Nat) (F : Nat → Int) (i : Value) (wr : World) : Prop := ∃ k : Nat, k ≤ C ∧ i = .int .i64 k ∧ IRow wr g .u8 C (ovF F k) ∧ But g w wr
set_option maxRecDepth 100000 in
set_option maxHeartbeats 1000000 in
theorem over_any (g n C : Nat) (F : Nat → Int) (w : World) (h : IRow w g .u8 C F) (hn : n ≤ C) (hC : C ≤ 1000000) :
    Calls Try.prog 38 #[.slice (some ⟨g, 0, none⟩) n C] w fun e w' => e = .returned (.tuple #[]) ∧ IRow w' g .u8 C (fun j => ov (F j)) ∧ But g w w' := by
  have ST : Hid (ovRel w g C F (.int .i64 0) w) := ⟨0, by omega, rfl, h.congr (fun j _ => by unfold ovF; rw [if_neg (by omega)]), But.refl _ _⟩
  clear h
  have e0 : (0 : Int) ≤ (C : Int) := by omega
  have e1 : (n : Int) ≤ C := by omega
  go_enter Try.func38, Try.ntmps38
  go_wp2_with fail
  go_loopw [3] (fun i wr => ovRel w g C F i wr) (fun i _ => C - (intOf i).toNat)
  case atStart => exact ST.out
  case round =>
    obtain ⟨k, hk, rfl, hR, hB⟩ := hrel
    clear ST
    have RR : Hid (IRow wr g .u8 C (ovF F k)) := hR
    have BE : Hid (But g w wr) := hB
    clear hB
    by_cases hlt : k < C
    · have c := hR.1 k hlt
      rw [ovF_at] at c
      have fr := hR.2.1 k
      clear hR
      have i0 : (k : Int) < C := by omega
      have i1 : (0 : Int) ≤ (k : Int) := by omega
      have eo : bits .xor .u8 (F k) 90 = ov (F k) := rfl
      go_wp2_with fail
      exact ⟨⟨k + 1, by omega, by go_num, by rw [← ovF_step]; exact RR.out.set k _, BE.out.trans (But.set _ _ _)⟩, by simp [intOf]; omega⟩
    · obtain rfl : k = C := by omega
      clear hR
      go_wp2_with fail
      exact bodyPost_end (by simp [results, Try.results38, go_sem]) rfl ⟨rfl, RR.out.congr (fun j hj => by unfold ovF; rw [if_pos hj]), BE.out⟩
set_option maxHeartbeats 1000000 in
theorem over_nil (w : World) : Calls Try.prog 38 #[.slice none 0 0] w fun e w' => e = .returned (.tuple #[]) ∧ w' = w := by
  go_enter Try.func38, Try.ntmps38
  go_wp2_with fail
  refine wp_loop_rounds 1 ?_
  rw [rounds_succ]
  go_wp2_with fail
  exact bodyPost_end (by simp [results, Try.results38, go_sem]) rfl ⟨rfl, rfl⟩
end Go.Proofs.Ytelcijfcgflagaa
namespace Go.Proofs.Ytelcijfcgflagaa
open Go.RowKit
theorem hsz_set {W : World} {g i : Nat} {u v : Value} (h : W.cell? ⟨g, i, none⟩ = some u) : hsz (W.setCell ⟨g, i, none⟩ v) g = hsz W g := by
  obtain ⟨o, ho, hc⟩ := cell_cells h
  cases o with
  | cells cur t fr =>
    have hg : W.heap[g]? = some (.cells cur t fr) := ho
    rw [setCell_eq_setRow W g i cur t fr v hg]
    unfold hsz
    rw [setRow_heap W g cur _ _ _ hg, hg]
    simp
  | _ => cases hc
def ovRelH (w : World) (g C : Nat) (F : Nat → Int) (i : Value) (wr : World) : Prop := ovRel w g C F i wr ∧ hsz wr g = hsz w g
set_option maxRecDepth 100000 in
set_option maxHeartbeats 1000000 in
theorem over_big (g n C : Nat) (F : Nat → Int) (w : World) (h : IRow w g .u8 C F) (hn : n ≤ C) (hC : C ≤ maxLen) :
    Calls Try.prog 38 #[.slice (some ⟨g, 0, none⟩) n C] w fun e w' => e = .returned (.tuple #[]) ∧ IRow w' g .u8 C (fun j => ov (F j)) ∧ But g w w' ∧ hsz w' g = hsz w g := by
  have ST : Hid (ovRelH w g C F (.int .i64 0) w) := ⟨⟨0, by omega, rfl, h.congr (fun j _ => by unfold ovF; rw [if_neg (by omega)]), But.refl _ _⟩, rfl⟩
  unfold maxLen at hC
  clear h
  have e0 : (0 : Int) ≤ (C : Int) := by omega
  have e1 : (n : Int) ≤ C := by omega
  go_enter Try.func38, Try.ntmps38
  go_wp2_with fail
  go_loopw [3] (fun i wr => ovRelH w g C F i wr) (fun i _ => C - (intOf i).toNat)
  case atStart => exact ST.out
  case round =>
    obtain ⟨⟨k, hk, rfl, hR, hB⟩, hz⟩ := hrel
    have HZ := hidIt hz
    clear ST hz
    have RR : Hid (IRow wr g .u8 C (ovF F k)) := hR
    have BE : Hid (But g w wr) := hB
    clear hB
    by_cases hlt : k < C
    · have c := hR.1 k hlt
      rw [ovF_at] at c
      have fr := hR.2.1 k
      have HS : Hid (∀ v, hsz (wr.setCell ⟨g, k, none⟩ v) g = hsz wr g) := hidIt (fun v => hsz_set c)
      clear hR
      have i0 : (k : Int) < C := by omega
      have i1 : (0 : Int) ≤ (k : Int) := by omega
      have i2 : wrap64 ((k : Int) + 1) = (k : Int) + 1 := by unfold wrap64; omega
      have i3 : IntKind.i64.wrap ((k : Int) + 1) = (k : Int) + 1 := by rw [IntKind.wrap_i64]; omega
      have eo : bits .xor .u8 (F k) 90 = ov (F k) := rfl
      go_wp2_with fail
      exact ⟨⟨⟨k + 1, by omega, by go_num, by rw [← ovF_step]; exact RR.out.set k _, BE.out.trans (But.set _ _ _)⟩, (HS.out _).trans HZ.out⟩, by simp [intOf]; omega⟩
    · obtain rfl : k = C := by omega
      clear hR
      go_wp2_with fail
      exact bodyPost_end (by simp [results, Try.results38, go_sem]) rfl ⟨rfl, RR.out.congr (fun j hj => by unfold ovF; rw [if_pos hj]), BE.out, HZ.out⟩
/-- The worlds are the same but for blocks of S and new ones. -/
structure OfS (S : Nat → Prop) (w w' : World) : Prop where
  os : w'.os = w.os
  tape : w'.tape = w.tape
  output : w'.output = w.output
  size : w.heap.size ≤ w'.heap.size
  block : ∀ k, k < w.heap.size → ¬ S k → w'.heap[k]? = w.heap[k]?
theorem OfS.refl (S : Nat → Prop) (w : World) : OfS S w w := ⟨rfl, rfl, rfl, Nat.le_refl _, fun _ _ _ => rfl⟩
theorem OfS.trans {S : Nat → Prop} {u v w : World} (h : OfS S u v) (k : OfS S v w) : OfS S u w := ⟨k.os.trans h.os, k.tape.trans h.tape, k.output.trans h.output, Nat.le_trans h.size k.size, fun i hi hn => (k.block i (Nat.lt_of_lt_of_le hi h.size) hn).trans (h.block i hi hn)⟩
theorem OfS.but {S : Nat → Prop} {b : Nat} {w w' : World} (h : But b w w') (hb : S b) : OfS S w w' := ⟨h.os, h.tape, h.output, h.size, fun k hk hn => h.block k hk (fun q => hn (q ▸ hb))⟩
theorem OfS.below {S : Nat → Prop} {B : Nat} {w w' : World} (h : OfS S w w') (h1 : ∀ b, S b → B ≤ b) (h2 : B ≤ w.heap.size) : Below B w w' := ⟨h.os, h.tape, h.output, h.size, fun k hk => h.block k (Nat.lt_of_lt_of_le hk h2) (fun q => by have := h1 k q; omega)⟩
theorem OfS.mono {S T : Nat → Prop} {w w' : World} (h : OfS S w w') (hs : ∀ b, S b → T b) : OfS T w w' := ⟨h.os, h.tape, h.output, h.size, fun k hk hn => h.block k hk (fun q => hn (hs k q))⟩
theorem over_zero (q : Addr) (w : World) : Calls Try.prog 38 #[.slice (some q) 0 0] w fun e w' => e = .returned (.tuple #[]) ∧ w' = w := by
  go_enter Try.func38, Try.ntmps38
  go_wp2
  refine wp_loop_rounds 1 ?_
  rw [rounds_succ]
  go_wp2
  exact bodyPost_end (by simp [results, Try.results38, go_sem]) rfl ⟨rfl, rfl⟩
/-- Bytes that may be written over, apart from the blocks of T. -/
def OvS (W : World) (S T : Nat → Prop) (s : Value) : Prop := (s = .slice none 0 0 ∨ ∃ q, s = .slice (some q) 0 0) ∨ ∃ g n F, s = .slice (some ⟨g, 0, none⟩) n (hsz W g) ∧ S g ∧ ¬ T g ∧ n ≤ hsz W g ∧ hsz W g ≤ maxLen ∧ IRow W g .u8 (hsz W g) F
theorem OvS.of {W : World} {S T : Nat → Prop} {base : Nat} {s : Value} {t : ByteArray} {N : List Nat} (h : FrC W base s t) (k : Txt W N s t) (hT : ∀ b, T b → b ∈ N) (hS : ∀ b, base ≤ b → b < W.heap.size → S b) : OvS W S T s := by
  rcases h with (⟨_, h⟩ | ⟨g, F, hs, hb, h0, h1, h2, hR, _, _⟩) | ⟨_, g, h⟩
  · exact .inl (.inl h)
  · refine .inr ⟨g, t.size, F, hs, hS g hb hR.2.2, fun q => ?_, h1, h2, hR⟩
    obtain ⟨a, C, f, hs', _, _, hn⟩ := k
    rw [hs] at hs'
    injection hs' with ha
    exact hn h0 _ ha.symm (hT g q)
  · exact .inl (.inr ⟨_, h⟩)
/-- What writing over does to the world. -/
def OvR (S T : Nat → Prop) (W W' : World) : Prop := W' = W ∨ ∃ g F, S g ∧ ¬ T g ∧ But g W W' ∧ hsz W' g = hsz W g ∧ IRow W' g .u8 (hsz W g) F
theorem OvS.keep {S T : Nat → Prop} {W W' : World} {s : Value} (h : OvS W S T s) (k : OvR S T W W') : OvS W' S T s := by
  rcases k with rfl | ⟨g, F, hb, hl, hB, hz, hR⟩
  · exact h
  · rcases h with h | ⟨g2, n, F2, hs, hb2, hl2, h1, h2, hR2⟩
    · exact .inl h
    · by_cases e : g2 = g
      · subst e
        exact .inr ⟨g2, n, F, by rw [hz]; exact hs, hb2, hl2, by rw [hz]; exact h1, by rw [hz]; exact h2, by rw [hz]; exact hR⟩
      · have q : hsz W' g2 = hsz W g2 := hsz_eq (hB.block g2 hR2.2.2 e)
        exact .inr ⟨g2, n, F2, by rw [q]; exact hs, hb2, hl2, by rw [q]; exact h1, by rw [q]; exact h2, by rw [q]; exact hR2.but hB e⟩
theorem OvR.ofs {S T : Nat → Prop} {W W' : World} (k : OvR S T W W') : OfS S W W' := by
  rcases k with rfl | ⟨g, F, hg, _, hB, _⟩
  · exact OfS.refl _ _
  · exact OfS.but hB hg
theorem OvR.blk {S T : Nat → Prop} {W W' : World} (k : OvR S T W W') {M : Nat} (hM : T M) (hs : M < W.heap.size) : W'.heap[M]? = W.heap[M]? := by
  rcases k with rfl | ⟨g, F, _, hl, hB, _⟩
  · rfl
  · exact hB.block M hs (fun q => hl (q ▸ hM))
theorem OvR.rec {S T : Nat → Prop} {L : Nat} {W W' : World} {cs : List Value} (k : OvR S T W W') (hL : T L) (h : Rec19 W L 0 cs) : Rec19 W' L 0 cs := by
  rcases k with rfl | ⟨g, F, _, hl, hB, _⟩
  · exact h
  · exact h.but hB (fun q => hl (q ▸ hL))
theorem over_s {S T : Nat → Prop} {W : World} {s : Value} (h : OvS W S T s) : Calls Try.prog 38 #[s] W fun e w' => e = .returned (.tuple #[]) ∧ OvR S T W w' := by
  rcases h with (rfl | ⟨q, rfl⟩) | ⟨g, n, F, rfl, hb, hl, h1, h2, hR⟩
  · refine (over_nil W).mono ?_
    rintro e w' ⟨rfl, rfl⟩
    exact ⟨rfl, .inl rfl⟩
  · refine (over_zero q W).mono ?_
    rintro e w' ⟨rfl, rfl⟩
    exact ⟨rfl, .inl rfl⟩
  · refine (over_big g n _ F W hR h1 h2).mono ?_
    rintro e w' ⟨rfl, h3, h4, h5⟩
    exact ⟨rfl, .inr ⟨g, _, hb, hl, h4, h5, h3⟩⟩
theorem laidL_hi (cs : List Value) (o : Nat) (vs : List Value) (h : o + vs.length ≤ cs.length) (j : Nat) (hj : o + vs.length ≤ j) : (laidL cs o vs)[j]? = cs[j]? := by
  unfold laidL
  have hl : (cs.take o ++ vs).length = o + vs.length := by rw [List.length_append, List.length_take]; omega
  rw [List.getElem?_append_right (by omega), hl, List.getElem?_drop]
  congr 1
  omega
theorem OvS.but {S T : Nat → Prop} {L : Nat} {W W' : World} {s : Value} (h : OvS W S T s) (hL : T L) (hB : But L W W') : OvS W' S T s := by
  rcases h with h | ⟨g2, n, F2, hs, hb2, hl2, h1, h2, hR2⟩
  · exact .inl h
  · have e : g2 ≠ L := fun q => hl2 (q ▸ hL)
    have q : hsz W' g2 = hsz W g2 := hsz_eq (hB.block g2 hR2.2.2 e)
    exact .inr ⟨g2, n, F2, by rw [q]; exact hs, hb2, hl2, by rw [q]; exact h1, by rw [q]; exact h2, by rw [q]; exact hR2.but hB e⟩
def zrn : List Value := [.int .i64 0, .int .i64 0, .int .i64 0, .slice none 0 0, .slice none 0 0]
/-- What OverRuns keeps of the rest. -/
structure OvK (S T : Nat → Prop) (L : Nat) (W W' : World) : Prop where
  ofs : OfS S W W'
  keep : ∀ s, OvS W S T s → OvS W' S T s
  blk : ∀ M, T M → M ≠ L → M < W.heap.size → W'.heap[M]? = W.heap[M]?
theorem OvK.refl (S T : Nat → Prop) (L : Nat) (W : World) : OvK S T L W W := ⟨OfS.refl _ _, fun _ h => h, fun _ _ _ _ => rfl⟩
theorem OvK.over {S T : Nat → Prop} {L : Nat} {W wr w' : World} (h : OvK S T L W wr) (hR : OvR S T wr w') : OvK S T L W w' := ⟨h.ofs.trans hR.ofs, fun s hs => (h.keep s hs).keep hR, fun M hM hn hs => (hR.blk hM (Nat.lt_of_lt_of_le hs h.ofs.size)).trans (h.blk M hM hn hs)⟩
theorem OvK.but {S T : Nat → Prop} {L : Nat} {W wr w' : World} (h : OvK S T L W wr) (hL : T L) (hS : S L) (hB : But L wr w') : OvK S T L W w' := ⟨h.ofs.trans (OfS.but hB hS), fun s hs => (h.keep s hs).but hL hB, fun M hM hn hs => (hB.block M (Nat.lt_of_lt_of_le hs h.ofs.size) hn).trans (h.blk M hM hn hs)⟩
/-- What OverRuns' loop keeps. -/
structure OpI (S T : Nat → Prop) (L : Nat) (W : World) (os : List RV) (k : Nat) (wr : World) (cs : List Value) : Prop where
  rc : Rec19 wr L 0 cs
  len : cs.length = os.length * 5
  is : ∀ j x q, k ≤ j → os[j]? = some x → q < 5 → cs[j * 5 + q]? = x.cs[q]?
  ovs : ∀ x ∈ os, OvS wr S T x.f ∧ OvS wr S T x.l
  ok : OvK S T L W wr
theorem OpI.over {S T : Nat → Prop} {L : Nat} {W wr w' : World} {os : List RV} {k : Nat} {cs : List Value} (h : OpI S T L W os k wr cs) (hL : T L) (hR : OvR S T wr w') : OpI S T L W os k w' cs :=
  ⟨hR.rec hL h.rc, h.len, h.is, fun x hx => ⟨(h.ovs x hx).1.keep hR, (h.ovs x hx).2.keep hR⟩, h.ok.over hR⟩
theorem OpI.next {S T : Nat → Prop} {L : Nat} {W wr w' : World} {os : List RV} {k : Nat} {cs : List Value} (h : OpI S T L W os k wr cs) (hk : k < os.length) (hT : T L) (hL : S L) (hR : Rec19 w' L 0 (laidL cs (k * 5) zrn)) (hB : But L wr w') : OpI S T L W os (k + 1) w' (laidL cs (k * 5) zrn) := by
  have hl : k * 5 + zrn.length ≤ cs.length := by rw [h.len]; show k * 5 + 5 ≤ _; omega
  refine ⟨hR, by rw [laidL_len _ _ _ hl]; exact h.len, fun j x q hj hx hq => ?_, fun x hx => ⟨(h.ovs x hx).1.but hT hB, (h.ovs x hx).2.but hT hB⟩, h.ok.but hT hL hB⟩
  rw [laidL_hi _ _ _ hl _ (by show k * 5 + 5 ≤ _; omega)]
  exact h.is j x q (by omega) hx hq
set_option maxRecDepth 100000 in
set_option maxHeartbeats 2000000 in
theorem overRuns_any {S T : Nat → Prop} {W : World} {a : Option Addr} {os : List RV} (n C L : Nat) (hn : os.length = n) (hf : n ≤ 100000) (hA : os ≠ [] → a = some ⟨L, 0, none⟩ ∧ S L ∧ T L ∧ Rec19 W L 0 (rcs os) ∧ ∀ x ∈ os, OvS W S T x.f ∧ OvS W S T x.l) : Calls Try.prog 14 #[.slice a n C] W fun e w' => e = .returned (.tuple #[]) ∧ OvK S T L W w' := by
  by_cases h0 : os = []
  · subst h0
    obtain rfl : n = 0 := by simpa using hn.symm
    clear hA hn hf
    go_enter Try.func14, Try.ntmps14
    go_wp2_with fail
    refine wp_loop_rounds 1 ?_
    rw [rounds_succ]
    go_wp2_with fail
    exact bodyPost_end (by simp [results, Try.results14, go_sem]) rfl ⟨rfl, OvK.refl _ _ _ _⟩
  · obtain ⟨rfl, hL, hT, hR, hO⟩ := hA h0
    have st : Hid (OpI S T L W os 0 W (rcs os)) := hidIt ⟨hR, rcs_len os, fun j x q _ hx hq => rcs_at os j q x hx hq, hO, OvK.refl _ _ _ _⟩
    have HN := hidIt hn
    have HF := hidIt hf
    have HL := hidIt (And.intro hL hT)
    clear hA h0 hR hO hn hf hL hT
    go_enter Try.func14, Try.ntmps14
    go_wp2_with fail
    go_loopw [2] (fun i wr => ∃ (k : Nat) (cs : List Value), k ≤ n ∧ i = .int .i64 (k : Int) ∧ Hid (OpI S T L W os k wr cs)) (fun i _ => n - (RowKit.intOf i).toNat)
    case atStart => exact ⟨0, _, Nat.zero_le _, rfl, st⟩
    case round =>
      clear st
      obtain ⟨k, cs, hk, rfl, hI⟩ := hrel
      by_cases hlt : k < n
      · obtain ⟨x, hx⟩ : ∃ x, os[k]? = some x := ⟨_, List.getElem?_eq_getElem (by have := HN.out; omega)⟩
        have HX := hidIt hx
        have LT := hidIt hlt
        have CE : Hid (∀ U, OpI S T L W os k U cs → U.cell? ⟨L, k * 5 + 3, none⟩ = some x.f ∧ U.cell? ⟨L, k * 5 + 4, none⟩ = some x.l) := hidIt (fun U hU => by
          have h0 := hU.is k x 3 (Nat.le_refl _) HX.out (by omega)
          have h1 := hU.is k x 4 (Nat.le_refl _) HX.out (by omega)
          exact ⟨(hU.rc.cel (k * 5 + 3) x.f h0).1, (hU.rc.cel (k * 5 + 4) x.l h1).1⟩)
        obtain ⟨i0, i1, i2, i3, i4⟩ := tb_ar k n hlt HF.out
        have GO := hidIt i4
        obtain ⟨c0, _⟩ := CE.out _ hI.out
        have na : Hid True := trivial
        clear hx hlt hk i4
        go_wp2_with (first
          | (go_at_call 38; have _q := na; clear na _q; refine (over_s (hI.out.ovs x (List.mem_of_getElem? HX.out)).1).mono ?_; rintro e W2 ⟨rfl, hr⟩; have I2 := hidIt (hI.out.over HL.out.2 hr); clear hr c0; obtain ⟨_, c1⟩ := CE.out _ I2.out)
          | (go_at_call 38; refine (over_s (I2.out.ovs x (List.mem_of_getElem? HX.out)).2).mono ?_; rintro e W3 ⟨rfl, hr⟩; have I3 := hidIt (I2.out.over HL.out.2 hr); clear hr c1)
          | (refine wpList_put_rec rfl 45 (.tmp 24) (.tmp 23) rfl L (k * 5) cs zrn _ _ rfl rfl rfl I3.out.rc (by show k * 5 + 5 ≤ cs.length; rw [I3.out.len]; have := LT.out; have := HN.out; omega) rfl (by kernel_rfl) (by intro u hu; simp only [zrn, List.mem_cons, List.not_mem_nil, or_false] at hu; rcases hu with rfl | rfl | rfl | rfl | rfl <;> rfl) ?_; intro W4 R4 B4 z4; have I4 := hidIt (I3.out.next (by have := LT.out; have := HN.out; omega) HL.out.2 HL.out.1 R4 B4); clear R4 B4 z4))
        exact ⟨⟨k + 1, _, LT.out, rfl, I4⟩, GO.out⟩
      · have i0 : ((k : Int) < (n : Int)) = False := eq_false (by omega)
        have BF := hidIt hI.out.ok
        clear hlt hk
        go_wp2_with fail
        exact bodyPost_end (by simp [results, Try.results14, go_sem]) rfl ⟨rfl, BF.out⟩
end Go.Proofs.Ytelcijfcgflagaa
