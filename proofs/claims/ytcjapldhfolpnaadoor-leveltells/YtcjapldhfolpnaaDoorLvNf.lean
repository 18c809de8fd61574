/-
  Walks, not a claim by itself: the reference's four. By the verifier.
-/
import Derived.Test.YtcjapldhfolpnaaDoorLvOb
namespace Go.Proofs.YtcjapldhfolpnaaDoor
open Go.RowKit
attribute [-go_sem] Builtin.append_
theorem app_runs_any (ty : TypeId) (W : World) (v : Value) (ps qs : List RV) (a : Option Addr) (n C : Nat) (hn : qs.length = n) (ho : OwnR W 0 v ps) (hL : LsR W a qs) (hm : ps.length + qs.length ≤ 100000) :
    ∃ v' W', (Builtin.append_ #[36, 36] ty #[v, .slice a n C]).run Tryd.prog W = .ok v' W' ∧ InsR W v (ps ++ qs) v' W' := by
  subst hn
  by_cases h0 : qs = []
  · subst h0
    obtain ⟨i0, hi, hz0, hz1, hz2⟩ := info_parts info_run
    refine ⟨v, W, ?_, by rw [List.append_nil]; exact ho, Off.of (Below.refl _ _), fun g hg => .inl hg⟩
    rcases ho.form with ⟨rfl, rfl⟩ | ⟨g, cap, rfl, _, hnc, _, _, _⟩
    · cases a with
      | none => simp [Builtin.append_, run_underlying under_runs, sizeOf, typeInfo, hi, Builtin.lenOf, Builtin.firstCells]
      | some p =>
        have hl := run_loadCells_list (P := Tryd.prog) W p [] (by simp)
        simp at hl
        simp [Builtin.append_, run_underlying under_runs, sizeOf, typeInfo, hi, Builtin.lenOf, Builtin.firstCells, hl]
    · cases a with
      | none => simp [Builtin.append_, run_underlying under_runs, sizeOf, typeInfo, hi, Builtin.lenOf, Builtin.firstCells, hnc, storeCells]
      | some p =>
        have hl := run_loadCells_list (P := Tryd.prog) W p [] (by simp)
        simp at hl
        simp [Builtin.append_, run_underlying under_runs, sizeOf, typeInfo, hi, Builtin.lenOf, Builtin.firstCells, hnc, storeCells, hl]
  · obtain ⟨b, off, rfl, hr, _⟩ := hL.2 h0
    exact app_runs ty W v ps qs _ C ho (fun j u hj => by rw [Addr.add_mid]; exact hr j u hj) (rcs_one hL.1) (by cases qs with | nil => exact absurd rfl h0 | cons _ _ => simp) hm
/-- No table, in a block of its own. -/
theorem own_none (W : World) (b : Nat) (h : W.heap[b]? = some (.cells #[] 27 (0, 0))) : OwnR W 0 (.slice (some ⟨b, 0, none⟩) 0 0) [] :=
  ⟨rfl, .inr ⟨b, 0, #[], rfl, Nat.zero_le _, h, Nat.le_refl _, Nat.zero_le _, rfl, rfl⟩⟩
/-- Four levels that lie apart from the array that holds them. -/
structure Four (W : World) (g : Nat) (lv : Nat → LR) : Prop where
  rc : Rec19 W g 0 [(lv 0).v, (lv 1).v, (lv 2).v, (lv 3).v]
  oks : ∀ i, i < 4 → LrkN W [g] (lv i)
theorem Four.below {W W' : World} {g : Nat} {lv : Nat → LR} (h : Four W g lv) (hB : Below W.heap.size W W') : Four W' g lv := ⟨h.rc.below hB, fun i hi => (h.oks i hi).below hB⟩
theorem Four.set {W : World} {g i : Nat} {lv : Nat → LR} {y : LR} (h : Four W g lv) (hi : i < 4) (hy : LrkN W [g] y) : Four (W.setCell ⟨g, i, none⟩ y.v) g (upd4 lv i y) := by
  have BS := But.set (b := g) W i y.v
  have O := Off.but (bs := [g]) BS (by simp)
  refine ⟨?_, fun j hj => ?_⟩
  · have := h.rc.putR i y.v (by simpa using hi)
    rcases (show i = 0 ∨ i = 1 ∨ i = 2 ∨ i = 3 by omega) with rfl | rfl | rfl | rfl <;> simpa [upd4] using this
  · by_cases e : j = i
    · subst e
      rw [upd4_at]
      exact hy.off O
    · rw [upd4_ne _ _ e]
      exact (h.oks j hj).off O
theorem Four.lvs {W : World} {g : Nat} {lv : Nat → LR} (h : Four W g lv) : Lvs W (some ⟨g, 0, none⟩) [lv 0, lv 1, lv 2, lv 3] := by
  refine ⟨fun x hx => ?_, fun _ => ⟨g, 0, rfl, h.rc.1, h.rc.2.2⟩⟩
  simp only [List.mem_cons, List.not_mem_nil, or_false] at hx
  rcases hx with rfl | rfl | rfl | rfl
  · exact (h.oks 0 (by omega)).ok
  · exact (h.oks 1 (by omega)).ok
  · exact (h.oks 2 (by omega)).ok
  · exact (h.oks 3 (by omega)).ok
/-- What four answers. -/
def NfPost (W : World) (m : List (List Rn)) (e : Ending) (w' : World) : Prop := ∃ g lv, e = .returned (.slice (some ⟨g, 0, none⟩) 4 4) ∧ W.heap.size ≤ g ∧ Four w' g lv ∧ (∀ i, i < 4 → (lv i).rs.map RV.r = fourD m i) ∧ Below W.heap.size W w'
/-- What holds at the head of its loop. -/
structure NfI (W0 : World) (m : List (List Rn)) (k : Nat) (W : World) : Prop where
  fo : ∃ lv, Four W W0.heap.size lv ∧ ∀ i, i < 4 → (lv i).rs.map RV.r = if i < k then fourD m i else []
  old : Below W0.heap.size W0 W
theorem fourD_at {ls : List LR} {i : Nat} {x : LR} (h : ls[i]? = some x) : fourD (rns ls) i = x.rs.map RV.r := by
  unfold fourD rns
  rw [List.getElem?_map, h]
  rfl
theorem fourD_none {ls : List LR} {i : Nat} (h : ls.length ≤ i) : fourD (rns ls) i = [] := by
  unfold fourD rns
  rw [List.getElem?_eq_none (by simpa using h)]
  rfl
theorem LROk.apart {W : World} {x : LR} {g : Nat} (h : LROk W x) (hg : W.heap.size ≤ g) : LrkN W [g] x := ⟨fun y hy => (h.1.1 y hy).mono (fun b hb => .inr (by rcases List.mem_singleton.1 hb with rfl; exact hg)), fun hne => by
  obtain ⟨b, off, ha, hr, hb⟩ := h.1.2 hne
  exact ⟨b, off, ha, fun q => by rcases List.mem_singleton.1 q with rfl; omega, hr, hb⟩, h.2⟩
/-- One more level. -/
theorem NfI.step {W0 W W5 W6 : World} {A : Option Addr} {ls : List LR} {k : Nat} {lv : Nat → LR} {x : LR} {v6 : Value} {b : Nat} (h : NfI W0 (rns ls) k W) (hf : Four W W0.heap.size lv) (hm : ∀ i, i < 4 → (lv i).rs.map RV.r = if i < k then fourD (rns ls) i else []) (hx : ls[k]? = some x) (hk : k < 4) (hl : Lvs W0 A ls) (hB : Below W.heap.size W W5) (hb : W.heap.size ≤ b) (hI : InsR W5 (.slice (some ⟨b, 0, none⟩) 0 0) x.rs v6 W6) : ∃ y : LR, v6 = y.v ∧ NfI W0 (rns ls) (k + 1) (W6.setCell ⟨W0.heap.size, k, none⟩ y.v) := by
  have f5 := hf.below hB
  have sg := hf.rc.2.2
  have s0 := h.old.size
  have hO : Off [b] W5 W6 := hI.off
  have f6 : Four W6 W0.heap.size lv := ⟨f5.rc.off hO (by simp; omega), fun i hi => by
    have a := ((hf.oks i hi).mono (M := [W0.heap.size, b]) (fun c hc => by
      simp only [List.mem_cons, List.not_mem_nil, or_false] at hc
      rcases hc with rfl | rfl
      · exact .inl (by simp)
      · exact .inr hb)).below hB
    exact (a.mono (M := [W0.heap.size]) (fun c hc => .inl (by simp at hc; simp [hc]))).bothL (a.mono (M := [b]) (fun c hc => .inl (by simp at hc; simp [hc]))) hO⟩
  obtain ⟨a6, c6, hv, hc6⟩ := hI.own.sl
  have hB0 : Below W0.heap.size W0 W5 := h.old.trans (hB.mono s0)
  have tx : ∀ y ∈ x.rs, RVOk W6 [W0.heap.size] y := fun y hy => by
    have a := ((((hl.1 x (List.mem_of_getElem? hx)).1.1 y hy).mono (M := [W0.heap.size, b]) (fun c hc => .inr (by
      simp only [List.mem_cons, List.not_mem_nil, or_false] at hc
      rcases hc with rfl | rfl
      · exact Nat.le_refl _
      · omega)))).below hB0
    exact (a.mono (M := [W0.heap.size]) (fun c hc => .inl (by simp at hc; simp [hc]))).both (a.mono (M := [b]) (fun c hc => .inl (by simp at hc; simp [hc]))) hO
  have hy : LrkN W6 [W0.heap.size] ⟨a6, c6, x.rs⟩ := own_lrk (hv ▸ hI.own) rfl tx (fun g hg q => by
    have q := List.mem_singleton.1 q
    rcases hI.blk g (by rw [hv]; exact hg) with z | z
    · simp [Value.ownBlock] at z; omega
    · have := hB.size; omega)
  refine ⟨⟨a6, c6, x.rs⟩, hv, ⟨upd4 lv k ⟨a6, c6, x.rs⟩, f6.set hk hy, fun i hi => ?_⟩, ?_⟩
  · by_cases e : i = k
    · subst e
      rw [upd4_at, if_pos (by omega), fourD_at hx]
    · rw [upd4_ne _ _ e, hm i hi]
      by_cases e2 : i < k
      · rw [if_pos e2, if_pos (by omega)]
      · rw [if_neg e2, if_neg (by omega)]
  · exact (hB0.trans (hO.below (by simp; omega) hB0.size)).trans ((But.set (b := W0.heap.size) W6 k _).below (Nat.le_refl _) (Nat.le_trans hB0.size hO.size))
set_option maxRecDepth 100000 in
set_option maxHeartbeats 1000000 in
theorem nfour_any {W0 : World} {A : Option Addr} {ls : List LR} (L C : Nat) (hL : ls.length = L) (h : Lvs W0 A ls) (h4 : L ≤ 4) (hs : ∀ x ∈ ls, x.rs.length ≤ 1000) : Calls Tryd.prog 33 #[.slice A L C] W0 (NfPost W0 (rns ls)) := by
  have HL := hidIt h
  have HN := hidIt (And.intro hL (And.intro h4 hs))
  have hmk := make_four W0
  obtain ⟨W1, hW1⟩ : ∃ W1, W1 = W0.alloc (.cells #[.slice none 0 0, .slice none 0 0, .slice none 0 0, .slice none 0 0] 36) := ⟨_, rfl⟩
  rw [← hW1] at hmk
  have ST : Hid (NfI W0 (rns ls) 0 W1) := hidIt (by
    rw [hW1]
    exact ⟨⟨fun _ => ⟨none, 0, []⟩, ⟨Rec19.new W0 _ [.slice none 0 0, .slice none 0 0, .slice none 0 0, .slice none 0 0], fun i _ => ⟨fun y hy => (by cases hy), fun hne => absurd rfl hne, Nat.le_refl _⟩⟩, fun i hi => by rw [if_neg (by omega)]; rfl⟩, (Below.refl _ _).alloc (Nat.le_refl _) _⟩)
  clear hW1 h hL h4 hs
  go_enter Tryd.func33, Tryd.ntmps33
  go_wp2_with fail
  clear hmk
  go_loopw [4] (fun iv wr => ∃ k : Nat, k ≤ L ∧ iv = .int .i64 (k : Int) ∧ Hid (NfI W0 (rns ls) k wr)) (fun iv _ => L - (RowKit.intOf iv).toNat)
  case atStart => exact ⟨0, Nat.zero_le _, rfl, ST⟩
  case round =>
    clear ST
    obtain ⟨k, hk, rfl, hI⟩ := hrel
    rename World => wr
    by_cases hlt : k < L
    · obtain ⟨x, hx⟩ : ∃ x, ls[k]? = some x := ⟨_, List.getElem?_eq_getElem (by have := HN.out.1; omega)⟩
      obtain ⟨lv, hf, hm⟩ := hI.out.fo
      have HF := hidIt (And.intro hf hm)
      have A5 : Below wr.heap.size wr (wr.alloc (.cells #[] 27)) := (Below.refl _ _).alloc (Nat.le_refl _) _
      have B0 := hI.out.old.trans (A5.mono hI.out.old.size)
      obtain ⟨b, o, ha, hc, hb⟩ := (HL.out.below B0).at k x hx
      subst ha
      have O5 : OwnR (wr.alloc (.cells #[] 27)) 0 (.slice (some ⟨wr.heap.size, 0, none⟩) 0 0) [] := own_none _ _ (World.alloc_heap_new wr _)
      obtain ⟨v6, W6, hr6, I6⟩ := app_runs_any 36 _ _ [] x.rs x.a x.rs.length x.c rfl O5 ((HL.out.below B0).1 x (List.mem_of_getElem? hx)).1 (by have := HN.out.2.2 x (List.mem_of_getElem? hx); simp; omega)
      rw [List.nil_append] at I6
      obtain ⟨y, hy, NX⟩ := hI.out.step hf hm hx (by have := HN.out.2.1; omega) HL.out A5 (Nat.le_refl _) I6
      subst hy
      have NXH : Hid (NfI W0 (rns ls) (k + 1) (W6.setCell ⟨W0.heap.size, k, none⟩ (.slice y.a y.rs.length y.c))) := hidIt NX
      unfold LR.v at hr6
      have G6 : Hid (Rec19 W6 W0.heap.size 0 [(lv 0).v, (lv 1).v, (lv 2).v, (lv 3).v]) := hidIt ((hf.below A5).rc.off I6.off (by have := hf.rc.2.2; simp [Value.ownBlock]; omega))
      have hg6 := (G6.out.cel k ((lv k).v) (by rcases (show k = 0 ∨ k = 1 ∨ k = 2 ∨ k = 3 by have := HN.out.2.1; omega) with rfl | rfl | rfl | rfl <;> rfl))
      obtain ⟨g1, g2⟩ := hg6
      have K4 : ((k : Int) < 4) = True := eq_true (by have := HN.out.2.1; omega)
      have K4' : (k < 4) = True := eq_true (by have := HN.out.2.1; omega)
      obtain ⟨i0, i1, i2, i3, i4⟩ := tb_ar k L hlt (by have := HN.out.2.1; omega)
      have GO := hidIt i4
      have LT := hidIt hlt
      unfold LR.v at hc
      clear hx hlt hk hb i4 I6 O5 A5 B0 hf hm NX
      go_wp2_with (at_builtin; refine wpList_append_go rfl (.tmp 14) (.tmp 18) 36 36 rfl _ _ rfl rfl hr6 ?_)
      exact ⟨⟨k + 1, LT.out, rfl, NXH⟩, GO.out⟩
    · obtain rfl : k = L := by omega
      have i0 : ((k : Int) < (k : Int)) = False := eq_false (by omega)
      have FIN : Hid (NfPost W0 (rns ls) (.returned (.slice (some ⟨W0.heap.size, 0, none⟩) 4 4)) wr) := hidIt (by
        obtain ⟨lv, hf, hm⟩ := hI.out.fo
        refine ⟨_, lv, rfl, Nat.le_refl _, hf, fun i hi => ?_, hI.out.old⟩
        rw [hm i hi]
        by_cases e : i < k
        · rw [if_pos e]
        · rw [if_neg e, fourD_none (by have := HN.out.1; omega)])
      clear hk hlt hI
      go_wp2_with fail
      exact bodyPost_ret (v := .slice (some ⟨W0.heap.size, 0, none⟩) 4 4) (by simp [results, Tryd.results33, go_sem]) rfl FIN.out
end Go.Proofs.YtcjapldhfolpnaaDoor
