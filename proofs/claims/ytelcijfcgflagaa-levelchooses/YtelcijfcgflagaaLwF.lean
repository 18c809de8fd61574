/-
  Walks, not a claim by itself: the reference's Choose. By the verifier.
-/
import Derived.Test.YtelcijfcgflagaaLwD
import Derived.Test.YtelcijfcgflagaaLwB
import Derived.Test.YtelcijfcgflagaaLwS
import Derived.Test.YtelcijfcgflagaaLwE
import Derived.Test.YtelcijfcgflagaaLwA
import Derived.Test.YtelcijfcgflagaaLwC
namespace Go.Proofs.Ytelcijfcgflagaa
open Go.RowKit
def rn0 : Rn := ⟨0, 0, 0, .empty, .empty⟩
def mFp (l : List Rn) : Nat → Rn
  | 0 => l.getD 0 rn0
  | k + 1 => if cmpB (l.getD k rn0).f (mFp l k).f < 0 then l.getD k rn0 else mFp l k
def mLp (l : List Rn) : Nat → Rn
  | 0 => l.getD 0 rn0
  | k + 1 => if 0 < cmpB (l.getD k rn0).l (mLp l k).l then l.getD k rn0 else mLp l k
theorem getD_map (ps : List RV) (k : Nat) : (ps.map RV.r).getD k rn0 = (ps.getD k rv0).r := by
  rw [List.getD_eq_getElem?_getD, List.getD_eq_getElem?_getD, List.getElem?_map]
  cases ps[k]? <;> rfl
theorem mF_map (ps : List RV) : ∀ k, (mF ps k).r = mFp (ps.map RV.r) k
  | 0 => (getD_map ps 0).symm
  | k + 1 => by
    unfold mF mFp
    rw [getD_map, ← mF_map ps k]
    split <;> rfl
theorem mL_map (ps : List RV) : ∀ k, (mL ps k).r = mLp (ps.map RV.r) k
  | 0 => (getD_map ps 0).symm
  | k + 1 => by
    unfold mL mLp
    rw [getD_map, ← mL_map ps k]
    split <;> rfl
/-- The tables of a level that meet what is spanned. -/
def metP (l : List Rn) (f t : ByteArray) : List Rn := l.filter (metB f t)
theorem met_map (ps : List RV) (f t : ByteArray) : (metL ps f t).map RV.r = metP (ps.map RV.r) f t := by
  unfold metL metP
  rw [List.filter_map]
  rfl
/-- How many of a level a table meets. -/
def keyP (l nx : List Rn) (i : Nat) : Nat := match l[i]? with
  | some x => (metP nx x.f x.l).length
  | none => 0
theorem key_map (ps nx : List RV) (i : Nat) : keyM ps nx i = keyP (ps.map RV.r) (nx.map RV.r) i := by
  unfold keyM keyP
  rw [List.getElem?_map]
  cases ps[i]? with
  | none => rfl
  | some x =>
    show (metL nx x.r.f x.r.l).length = (metP (nx.map RV.r) x.r.f x.r.l).length
    rw [← met_map, List.length_map]
/-- A level's tables. -/
def lvP (m : List (List Rn)) (i : Nat) : List Rn := (m[i]?).getD []
def froP (m : List (List Rn)) (i : Nat) : List Rn := if i = 0 then lvP m 0 else ((lvP m i)[bst (keyP (lvP m i) (lvP m (i + 1))) (lvP m i).length]?).toList
theorem fro_map (ls : List LR) (i : Nat) : (froL ls i).map RV.r = froP (rns ls) i := by
  unfold froL froP lvP
  rw [← lvR_map, ← lvR_map, ← lvR_map]
  split
  · rfl
  · rw [List.length_map, List.getElem?_map]
    have e : keyM (lvR ls i) (lvR ls (i + 1)) = keyP ((lvR ls i).map RV.r) ((lvR ls (i + 1)).map RV.r) := funext fun k => key_map _ _ k
    rw [← e]
    cases (lvR ls i)[bst (keyM (lvR ls i) (lvR ls (i + 1))) (lvR ls i).length]? <;> rfl
def fF (m : List (List Rn)) (i : Nat) : ByteArray := (mFp (froP m i) (froP m i).length).f
def fT (m : List (List Rn)) (i : Nat) : ByteArray := (mLp (froP m i) (froP m i).length).l
theorem fF_map (ls : List LR) (i : Nat) : froF ls i = fF (rns ls) i := by
  unfold froF fF
  rw [mF_map, fro_map, ← List.length_map (f := RV.r), fro_map]
theorem fT_map (ls : List LR) (i : Nat) : froT ls i = fT (rns ls) i := by
  unfold froT fT
  rw [mL_map, fro_map, ← List.length_map (f := RV.r), fro_map]
def intP (m : List (List Rn)) (i : Nat) : List Rn := metP (lvP m (i + 1)) (fF m i) (fT m i)
theorem int_map (ls : List LR) (i : Nat) : (intL ls i).map RV.r = intP (rns ls) i := by
  unfold intL intP lvP
  rw [met_map, lvR_map, fF_map, fT_map]
def drpP (m : List (List Rn)) (i j : Nat) : Bool := (List.range j).all fun k => decide (k < i + 2) || (metP (lvP m k) (fF m i) (fT m i)).isEmpty
theorem drp_map (ls : List LR) (i j : Nat) : drpB ls i j = drpP (rns ls) i j := by
  unfold drpB drpP lvP
  congr 1
  funext k
  rw [fF_map, fT_map, ← lvR_map, ← met_map]
  cases metL (lvR ls k) (fF (rns ls) i) (fT (rns ls) i) <;> rfl
def choP (m : List (List Rn)) (z : Int) : Bool := mayB m && decide (0 ≤ z) && decide (z < 3) && decide (0 < (lvP m z.toNat).length)
theorem cho_map (ls : List LR) (z : Int) : choB ls z = choP (rns ls) z := by
  unfold choB choP lvP
  rw [← lvR_map, List.length_map]
end Go.Proofs.Ytelcijfcgflagaa
namespace Go.Proofs.Ytelcijfcgflagaa
open Go.RowKit
attribute [-go_sem] Builtin.append_
theorem slc_two (W : World) (b o n c k : Nat) (hk : k < n) (hc : n ≤ c) : (Instr.slice 23 (.slice (some ⟨b, o, none⟩) n c) (some (.int .i64 (k : Int))) (some (.int .i64 ((k : Int) + 1))) none).run Try.prog W = .ok (.slice (some ⟨b, o + k * 5, none⟩) 1 (c - k)) W := by
  obtain ⟨i0, hi0, _, hz1, _⟩ := info_parts info_run
  have a : k + 1 ≤ c := by omega
  have e : ¬ c = k := by omega
  have e1 : ((k : Int) + 1) = ((k + 1 : Nat) : Int) := by omega
  rw [e1]
  have z : ((k + 1 : Nat) : Int).toNat = k + 1 := by simp
  simp [Instr.slice, Instr.sliceBounds, run_underlying under_runs, Instr.sliceBound, asIntOf, e, sizeOf, typeInfo, hi0, hz1, Addr.add_mid]
  omega
theorem slc_runb {a : Act} {w : World} {o : Oper} (x y z : Operand) (ho : o.op = .slice 23 x (some y) (some z) none) (v v' : Value) (ad : Option Addr) (n C : Nat) (i j : Int) (hv : v = .slice ad n C) (hx : a.eval x = v) (hy : a.eval y = .int .i64 i) (hz : a.eval z = .int .i64 j) (he : Try.prog.underlying 23 = some (.slice (Try.prog.elem 23))) (hr : (Instr.slice 23 v (some (.int .i64 i)) (some (.int .i64 j)) none).run Try.prog w = .ok v' w) : (execOp a.eval o).run Try.prog w = .ok (.value v') w := by
  subst hv
  unfold execOp
  simp only [ho, hx, Option.map_some, Option.map_none, hy, hz, Sem.run_bind, run_sliceAt_slice _ _ _ _ _ _ he, hr, Result.andThen_ok]
  rfl
/-- What the reference's Choose answers. -/
def NcP (W : World) (ls : List LR) (z : Int) (e : Ending) (w' : World) : Prop :=
  (choB ls z = false ∧ e = .returned (.tuple #[.agg (plC 0 (.slice none 0 0) (.slice none 0 0) false).toArray, .int .i64 2]) ∧ Below W.heap.size W w') ∨
  (choB ls z = true ∧ ∃ a c os a2 c2 os2, e = .returned (.tuple #[.agg (plC z (.slice a (os : List RV).length c) (.slice a2 (os2 : List RV).length c2) (drpB ls z.toNat 4)).toArray, .int .i64 0]) ∧ LsR w' a os ∧ LsR w' a2 os2 ∧ os.map RV.r = (froL ls z.toNat).map RV.r ∧ os2.map RV.r = (intL ls z.toNat).map RV.r ∧ Below W.heap.size W w')
/-- What the loop over the later levels keeps. -/
structure NcI (W3 wr : World) (i s : Nat) (fr to : Value) (d : Bool) (y : RV) (a2 : Option Addr) (os2 : List RV) : Prop where
  rc : Rec19 wr W3.heap.size 0 (plC (i : Int) fr to d)
  sp : Rec19 wr s 0 y.cs
  ne : W3.heap.size < s
  own : OwnR wr 0 to os2
  new : ∀ b, to.ownBlock = some b → W3.heap.size < b
  below : Below W3.heap.size W3 wr
theorem NcI.up {W3 wr w' : World} {i s : Nat} {fr to : Value} {d : Bool} {y : RV} {a2 : Option Addr} {os2 : List RV} (h : NcI W3 wr i s fr to d y a2 os2) (hB : Below wr.heap.size wr w') : NcI W3 w' i s fr to d y a2 os2 := ⟨h.rc.below hB, h.sp.below hB, h.ne, h.own.below hB, h.new, h.below.trans (hB.mono h.below.size)⟩
theorem NcI.put {W3 wr : World} {i s : Nat} {fr to : Value} {d : Bool} {y : RV} {a2 : Option Addr} {os2 : List RV} (h : NcI W3 wr i s fr to d y a2 os2) (d' : Bool) : NcI W3 (wr.setCell ⟨W3.heap.size, 3, none⟩ (.bool d')) i s fr to d' y a2 os2 := by
  have st : But W3.heap.size wr (wr.setCell ⟨W3.heap.size, 3, none⟩ (.bool d')) := But.set wr 3 _
  exact ⟨h.rc.put 3 (.bool d'), h.sp.but st (by have := h.ne; omega), h.ne, h.own.off (Off.set (bs := [W3.heap.size]) _ _ _ (by simp)) (fun g hg q => by have := h.new g hg; have := List.mem_singleton.1 q; omega), h.new, h.below.trans (st.below (Nat.le_refl _) h.below.size)⟩
theorem lvR_four {lv : Nat → LR} {k : Nat} (hk : k < 4) : lvR [lv 0, lv 1, lv 2, lv 3] k = (lv k).rs := by
  rcases (show k = 0 ∨ k = 1 ∨ k = 2 ∨ k = 3 by omega) with rfl | rfl | rfl | rfl <;> rfl
theorem lvP_four {m : List (List Rn)} {lv : Nat → LR} (h : m.length ≤ 4) (h4 : ∀ k, k < 4 → (lv k).rs.map RV.r = fourD m k) (k : Nat) : lvP (rns [lv 0, lv 1, lv 2, lv 3]) k = lvP m k := by
  rw [four_rns2 h4]
  unfold lvP fourD
  by_cases hk : k < 4
  · rcases (show k = 0 ∨ k = 1 ∨ k = 2 ∨ k = 3 by omega) with rfl | rfl | rfl | rfl <;> rfl
  · rw [List.getElem?_eq_none (by simp; omega), List.getElem?_eq_none (by omega)]
theorem froP_of {m m' : List (List Rn)} (h : ∀ k, lvP m' k = lvP m k) (i : Nat) : froP m' i = froP m i := by unfold froP; simp only [h]
theorem fF_of {m m' : List (List Rn)} (h : ∀ k, lvP m' k = lvP m k) (i : Nat) : fF m' i = fF m i := by unfold fF; simp only [froP_of h]
theorem fT_of {m m' : List (List Rn)} (h : ∀ k, lvP m' k = lvP m k) (i : Nat) : fT m' i = fT m i := by unfold fT; simp only [froP_of h]
theorem intP_of {m m' : List (List Rn)} (h : ∀ k, lvP m' k = lvP m k) (i : Nat) : intP m' i = intP m i := by unfold intP; simp only [fF_of h, fT_of h, h]
theorem drpP_of {m m' : List (List Rn)} (h : ∀ k, lvP m' k = lvP m k) (i j : Nat) : drpP m' i j = drpP m i j := by unfold drpP; simp only [fF_of h, fT_of h, h]
/-- What holds of the levels in the copy. -/
structure NcQ (W : World) (ls qs : List LR) (i : Nat) : Prop where
  fro : (froL qs i).map RV.r = (froL ls i).map RV.r
  int : (intL qs i).map RV.r = (intL ls i).map RV.r
  drp : drpB qs i 4 = drpB ls i 4
theorem ncQ {W : World} {ls qs : List LR} (h : ∀ k, lvP (rns qs) k = lvP (rns ls) k) (i : Nat) : NcQ W ls qs i := ⟨by rw [fro_map, fro_map, froP_of h], by rw [int_map, int_map, intP_of h], by rw [drp_map, drp_map, drpP_of h]⟩
end Go.Proofs.Ytelcijfcgflagaa
namespace Go.Proofs.Ytelcijfcgflagaa
open Go.RowKit
attribute [-go_sem] Builtin.append_
/-- What four answers. -/
def NgPost (W : World) (ls : List LR) (e : Ending) (w' : World) : Prop := ∃ g lv, e = .returned (.slice (some ⟨g, 0, none⟩) 4 4) ∧ W.heap.size ≤ g ∧ Four w' g lv ∧ (∀ i, i < 4 → (lv i).rs = lvR ls i) ∧ (∀ i, i < 4 → ∀ q, (lv i).a = some q → W.heap.size ≤ q.block) ∧ Below W.heap.size W w'
/-- What holds at the head of its loop. -/
structure NgI (W0 : World) (ls : List LR) (k : Nat) (W : World) : Prop where
  fo : ∃ lv, Four W W0.heap.size lv ∧ (∀ i, i < 4 → (lv i).rs = if i < k then lvR ls i else []) ∧ ∀ i, i < 4 → ∀ q, (lv i).a = some q → W0.heap.size ≤ q.block
  old : Below W0.heap.size W0 W
/-- One more level. -/
theorem NgI.step {W0 W W5 W6 : World} {A : Option Addr} {ls : List LR} {k : Nat} {lv : Nat → LR} {x : LR} {v6 : Value} {b : Nat} (h : NgI W0 ls k W) (hf : Four W W0.heap.size lv) (hm : ∀ i, i < 4 → (lv i).rs = if i < k then lvR ls i else []) (hn : ∀ i, i < 4 → ∀ q, (lv i).a = some q → W0.heap.size ≤ q.block) (hx : ls[k]? = some x) (hk : k < 4) (hl : Lvs W0 A ls) (hB : Below W.heap.size W W5) (hb : W.heap.size ≤ b) (hI : InsR W5 (.slice (some ⟨b, 0, none⟩) 0 0) x.rs v6 W6) : ∃ y : LR, v6 = y.v ∧ NgI W0 ls (k + 1) (W6.setCell ⟨W0.heap.size, k, none⟩ y.v) := by
  have f5 := hf.below hB
  have sg := hf.rc.2.2
  have s0 := h.old.size
  have hO : Off [b] W5 W6 := hI.off
  have f6 : Four W6 W0.heap.size lv := ⟨f5.rc.off hO (by simp; omega), fun i hi => by
    have a := ((hf.oks i hi).mono (M := [W0.heap.size, b]) (fun c hc => by
      simp only [List.mem_cons, List.not_mem_nil, or_false] at hc
      rcases hc with rfl | rfl
      · exact .inl (by simp)
      · exact .inr hb)).below hB
    exact (a.mono (M := [W0.heap.size]) (fun c hc => .inl (by simp at hc; simp [hc]))).bothL (a.mono (M := [b]) (fun c hc => .inl (by simp at hc; simp [hc]))) hO⟩
  obtain ⟨a6, c6, hv, hc6⟩ := hI.own.sl
  have hB0 : Below W0.heap.size W0 W5 := h.old.trans (hB.mono s0)
  have tx : ∀ y ∈ x.rs, RVOk W6 [W0.heap.size] y := fun y hy => by
    have a := ((((hl.1 x (List.mem_of_getElem? hx)).1.1 y hy).mono (M := [W0.heap.size, b]) (fun c hc => .inr (by
      simp only [List.mem_cons, List.not_mem_nil, or_false] at hc
      rcases hc with rfl | rfl
      · exact Nat.le_refl _
      · omega)))).below hB0
    exact (a.mono (M := [W0.heap.size]) (fun c hc => .inl (by simp at hc; simp [hc]))).both (a.mono (M := [b]) (fun c hc => .inl (by simp at hc; simp [hc]))) hO
  have hy : LrkN W6 [W0.heap.size] ⟨a6, c6, x.rs⟩ := own_lrk (hv ▸ hI.own) rfl tx (fun g hg q => by
    have q := List.mem_singleton.1 q
    rcases hI.blk g (by rw [hv]; exact hg) with z | z
    · simp [Value.ownBlock] at z; omega
    · have := hB.size; omega)
  refine ⟨⟨a6, c6, x.rs⟩, hv, ⟨upd4 lv k ⟨a6, c6, x.rs⟩, f6.set hk hy, fun i hi => ?_, fun i hi q hq => ?_⟩, ?_⟩
  · by_cases e : i = k
    · subst e
      rw [upd4_at, if_pos (by omega), lvR_at hx]
    · rw [upd4_ne _ _ e, hm i hi]
      by_cases e2 : i < k
      · rw [if_pos e2, if_pos (by omega)]
      · rw [if_neg e2, if_neg (by omega)]
  · by_cases e : i = k
    · subst e
      rw [upd4_at] at hq
      have hq : a6 = some q := hq
      subst hq
      rcases hI.blk q.block (by rw [hv]; rfl) with z | z
      · have z : some b = some q.block := z
        injection z with z
        omega
      · have := hB.size; omega
    · rw [upd4_ne _ _ e] at hq
      exact hn i hi q hq
  · exact (hB0.trans (hO.below (by simp; omega) hB0.size)).trans ((But.set (b := W0.heap.size) W6 k _).below (Nat.le_refl _) (Nat.le_trans hB0.size hO.size))
set_option maxRecDepth 100000 in
set_option maxHeartbeats 1000000 in
theorem nfour2_any {W0 : World} {A : Option Addr} {ls : List LR} (L C : Nat) (hL : ls.length = L) (h : Lvs W0 A ls) (h4 : L ≤ 4) (hs : ∀ x ∈ ls, x.rs.length ≤ 1000) : Calls Try.prog 23 #[.slice A L C] W0 (NgPost W0 ls) := by
  have HL := hidIt h
  have HN := hidIt (And.intro hL (And.intro h4 hs))
  have hmk := make_four W0
  obtain ⟨W1, hW1⟩ : ∃ W1, W1 = W0.alloc (.cells #[.slice none 0 0, .slice none 0 0, .slice none 0 0, .slice none 0 0] 23) := ⟨_, rfl⟩
  rw [← hW1] at hmk
  have ST : Hid (NgI W0 ls 0 W1) := hidIt (by
    rw [hW1]
    exact ⟨⟨fun _ => ⟨none, 0, []⟩, ⟨Rec19.new W0 _ [.slice none 0 0, .slice none 0 0, .slice none 0 0, .slice none 0 0], fun i _ => ⟨fun y hy => (by cases hy), fun hne => absurd rfl hne, Nat.le_refl _⟩⟩, fun i hi => by rw [if_neg (by omega)], fun i hi q hq => by cases hq⟩, (Below.refl _ _).alloc (Nat.le_refl _) _⟩)
  clear hW1 h hL h4 hs
  go_enter Try.func23, Try.ntmps23
  go_wp2_with fail
  clear hmk
  go_loopw [4] (fun iv wr => ∃ k : Nat, k ≤ L ∧ iv = .int .i64 (k : Int) ∧ Hid (NgI W0 ls k wr)) (fun iv _ => L - (RowKit.intOf iv).toNat)
  case atStart => exact ⟨0, Nat.zero_le _, rfl, ST⟩
  case round =>
    clear ST
    obtain ⟨k, hk, rfl, hI⟩ := hrel
    rename World => wr
    by_cases hlt : k < L
    · obtain ⟨x, hx⟩ : ∃ x, ls[k]? = some x := ⟨_, List.getElem?_eq_getElem (by have := HN.out.1; omega)⟩
      obtain ⟨lv, hf, hm, hnw⟩ := hI.out.fo
      have HF := hidIt (And.intro hf hm)
      have A5 : Below wr.heap.size wr (wr.alloc (.cells #[] 45)) := (Below.refl _ _).alloc (Nat.le_refl _) _
      have B0 := hI.out.old.trans (A5.mono hI.out.old.size)
      obtain ⟨b, o, ha, hc, hb⟩ := (HL.out.below B0).at k x hx
      subst ha
      have O5 : OwnR (wr.alloc (.cells #[] 45)) 0 (.slice (some ⟨wr.heap.size, 0, none⟩) 0 0) [] := own_none _ _ (World.alloc_heap_new wr _)
      obtain ⟨v6, W6, hr6, I6⟩ := app_runs_any 23 _ _ [] x.rs x.a x.rs.length x.c rfl O5 ((HL.out.below B0).1 x (List.mem_of_getElem? hx)).1 (by have := HN.out.2.2 x (List.mem_of_getElem? hx); simp; omega)
      rw [List.nil_append] at I6
      obtain ⟨y, hy, NX⟩ := hI.out.step hf hm hnw hx (by have := HN.out.2.1; omega) HL.out A5 (Nat.le_refl _) I6
      subst hy
      have NXH : Hid (NgI W0 ls (k + 1) (W6.setCell ⟨W0.heap.size, k, none⟩ (.slice y.a y.rs.length y.c))) := hidIt NX
      unfold LR.v at hr6
      have G6 : Hid (Rec19 W6 W0.heap.size 0 [(lv 0).v, (lv 1).v, (lv 2).v, (lv 3).v]) := hidIt ((hf.below A5).rc.off I6.off (by have := hf.rc.2.2; simp [Value.ownBlock]; omega))
      have hg6 := (G6.out.cel k ((lv k).v) (by rcases (show k = 0 ∨ k = 1 ∨ k = 2 ∨ k = 3 by have := HN.out.2.1; omega) with rfl | rfl | rfl | rfl <;> rfl))
      obtain ⟨g1, g2⟩ := hg6
      have K4 : ((k : Int) < 4) = True := eq_true (by have := HN.out.2.1; omega)
      have K4' : (k < 4) = True := eq_true (by have := HN.out.2.1; omega)
      obtain ⟨i0, i1, i2, i3, i4⟩ := tb_ar k L hlt (by have := HN.out.2.1; omega)
      have GO := hidIt i4
      have LT := hidIt hlt
      unfold LR.v at hc
      clear hx hlt hk hb i4 I6 O5 A5 B0 hf hm hnw NX
      go_wp2_with (at_builtin; refine wpList_append_go rfl (.tmp 14) (.tmp 18) 23 23 rfl _ _ rfl rfl hr6 ?_)
      exact ⟨⟨k + 1, LT.out, rfl, NXH⟩, GO.out⟩
    · obtain rfl : k = L := by omega
      have i0 : ((k : Int) < (k : Int)) = False := eq_false (by omega)
      have FIN : Hid (NgPost W0 ls (.returned (.slice (some ⟨W0.heap.size, 0, none⟩) 4 4)) wr) := hidIt (by
        obtain ⟨lv, hf, hm, hnw⟩ := hI.out.fo
        refine ⟨_, lv, rfl, Nat.le_refl _, hf, fun i hi => ?_, hnw, hI.out.old⟩
        rw [hm i hi]
        by_cases e : i < k
        · rw [if_pos e]
        · rw [if_neg e]
          unfold lvR
          rw [List.getElem?_eq_none (by have := HN.out.1; omega)]
          rfl)
      clear hk hlt hI
      go_wp2_with fail
      exact bodyPost_ret (v := .slice (some ⟨W0.heap.size, 0, none⟩) 4 4) (by simp [results, Try.results23, go_sem]) rfl FIN.out
end Go.Proofs.Ytelcijfcgflagaa
namespace Go.Proofs.Ytelcijfcgflagaa
open Go.RowKit
attribute [-go_sem] Builtin.append_
set_option maxRecDepth 100000 in
set_option maxHeartbeats 2000000 in
theorem nchoose_any {W : World} {A : Option Addr} {ls : List LR} (L C : Nat) (z : Int) (hL : ls.length = L) (h : Lvs W A ls) (hs : ∀ x ∈ ls, x.rs.length ≤ 400) : Calls Try.prog 8 #[.slice A L C, .int .i64 z] W (NcP W ls z) := by
  have HL := hidIt (And.intro hL h)
  have HS := hidIt hs
  clear hL h hs
  have A1 : Hid True := trivial
  by_cases hm : mayB (rns ls) = true
  · have MI : Hid (mayI (rns ls) = 0) := hidIt (by unfold mayI; rw [if_pos hm])
    have L4 : Hid (L ≤ 4) := hidIt (by have := ((mayB_at _).1 hm).1; have := HL.out.1; simp [rns] at *; omega)
    by_cases hz : 0 ≤ z ∧ z ≤ 2
    · obtain ⟨i, rfl⟩ : ∃ i : Nat, z = (i : Int) := ⟨z.toNat, by omega⟩
      obtain ⟨j, hj⟩ : ∃ j, j = i + 1 := ⟨_, rfl⟩
      have IJ : Hid (j = i + 1 ∧ i < 3 ∧ j < 4 ∧ i < 4 ∧ i ≠ j) := hidIt (by omega)
      have q1 : ((i : Int) < 0) = False := eq_false (by omega)
      have q2 : ((2 : Int) < (i : Int)) = False := eq_false (by omega)
      have w1 : IntKind.i64.wrap ((i : Int) + 1) = (j : Int) := by rw [IntKind.wrap_i64]; omega
      have w1' : wrap64 ((i : Int) + 1) = (j : Int) := by unfold wrap64; omega
      have v2 : IntKind.i64.wrap ((i : Int) + 2) = (i : Int) + 2 := by rw [IntKind.wrap_i64]; omega
      have v2' : wrap64 ((i : Int) + 2) = (i : Int) + 2 := by unfold wrap64; omega
      have K4 : ((i : Int) < 4) = True := eq_true (by omega)
      have K4' : (i < 4) = True := eq_true (by omega)
      have J4 : ((j : Int) < 4) = True := eq_true (by omega)
      have J4' : (j < 4) = True := eq_true (by omega)
      have MB := hidIt hm
      clear hz hj hm
      go_enter Try.func8, Try.ntmps8
      go_wp2_with (first
        | (have _q := A1; clear A1 _q; refine wpList_alloc_rec rfl 25 rfl _ W.heap.size rfl zero_plan ?_; intro W1 R1 B1 z1; have E1 : Hid (Below W.heap.size W W1 ∧ W1.heap.size = W.heap.size + 1) := hidIt ⟨B1, z1⟩; have P1 := hidIt R1; clear R1 B1 z1)
        | (go_at_call 22; refine (ncheck_any L C HL.out.1 (HL.out.2.below E1.out.1) (fun x hx => by have := HS.out x hx; omega)).mono ?_; rw [MI.out]; rintro e W2 ⟨rfl, hb⟩; have E2 : Hid (Below W.heap.size W W2 ∧ W.heap.size + 1 ≤ W2.heap.size) := hidIt ⟨E1.out.1.trans (hb.mono E1.out.1.size), by have := hb.size; have := E1.out.2; omega⟩; have P2 := hidIt (P1.out.below hb); clear hb)
        | (go_at_call 23; refine (nfour2_any L C HL.out.1 (HL.out.2.below E2.out.1) L4.out (fun x hx => by have := HS.out x hx; omega)).mono ?_; rintro e W3 ⟨g, lv, rfl, hg, hf, hm, hw, hb⟩; have F3 := hidIt hf; have G3 := hidIt hm; have N3 := hidIt hw; have SG : Hid (W.heap.size < g) := hidIt (by have := E2.out.2; omega); have E3 := hidIt (E2.out.1.trans (hb.mono E2.out.1.size)); have P3 := hidIt (P2.out.below hb); clear hf hg hm hw hb; refine Held.out ?_))
      refine Held.mk ?_
      clear E1 P1 q1 q2
      have CG : Hid (∀ U k, k < 4 → Four U g lv → U.cell? ⟨g, k, none⟩ = some (.slice (lv k).a (lv k).rs.length (lv k).c)) := hidIt (fun U k hk f => by
        rcases (show k = 0 ∨ k = 1 ∨ k = 2 ∨ k = 3 by omega) with rfl | rfl | rfl | rfl
        · exact (f.rc.cel 0 _ rfl).1
        · exact (f.rc.cel 1 _ rfl).1
        · exact (f.rc.cel 2 _ rfl).1
        · exact (f.rc.cel 3 _ rfl).1)
      have LK : Hid (∀ U k, k < 4 → Four U g lv → LsR U (lv k).a (lv k).rs) := hidIt (fun U k hk f => (f.oks k hk).ok.1)
      have NF : Hid (∀ k, k < 4 → (lv k).rs.length ≤ 400) := hidIt (fun k hk => by rw [G3.out k hk]; exact lvR_bound HS.out k)
      have YR : Hid (∀ k, k < 4 → ∀ x ∈ (lv k).rs, RVOk W3 [W.heap.size] x) := hidIt (fun k hk x hx => by
        rw [G3.out k hk] at hx
        exact ((lvR_ok HL.out.2 k x hx).mono (M := [W.heap.size]) (fun b hb => .inr (Nat.le_of_eq (List.mem_singleton.1 hb).symm))).below E3.out)
      have c3 := CG.out W3 i IJ.out.2.2.2.1 F3.out
      by_cases hn : (lv i).rs.length = 0
      · have NO : Hid (choB ls (i : Int) = false) := hidIt (by unfold choB; rw [Int.toNat_natCast, ← G3.out i IJ.out.2.2.2.1, decide_eq_false (p := 0 < (lv i).rs.length) (by omega)]; simp)
        have c0 : (((lv i).rs.length : Int) == 0) = true := by rw [zero_of, decide_eq_true hn]
        clear hn
        go_wp2_with (refine wpList_store_rec rfl 25 (.tmp 4) (.tmp 32) rfl W.heap.size 0 _ (plC 0 (.slice none 0 0) (.slice none 0 0) false) rfl rfl P3.out rfl plan_size (plC_one _ _ rfl rfl) ?_; intro W4 R4 B4; have RR := hidIt R4; have E4 := hidIt (E3.out.trans (B4.below (Nat.le_refl _) E3.out.size)); clear R4 B4)
        have hl := RR.out.run_load 25 _ Try.underlying25 rfl plan_size
        exact bodyPost_ret (v := .tuple #[.agg (plC 0 (.slice none 0 0) (.slice none 0 0) false).toArray, .int .i64 2]) (by simp [results, Try.results8, asAddr, hl]) rfl (.inl ⟨NO.out, rfl, E4.out⟩)
      · have YES : Hid (choB ls (i : Int) = true) := hidIt (by unfold choB; rw [MB.out, Int.toNat_natCast, ← G3.out i IJ.out.2.2.2.1]; have := IJ.out.2.1; simp; omega)
        have c0 : (((lv i).rs.length : Int) == 0) = false := by rw [zero_of, decide_eq_false hn]
        have NE : Hid (0 < (lv i).rs.length) := hidIt (by omega)
        have LKI : Hid (LrkN W3 [W.heap.size] ⟨(lv i).a, (lv i).c, (lv i).rs⟩) := hidIt ⟨fun y hy => YR.out i IJ.out.2.2.2.1 y hy, fun hne => by
          obtain ⟨b, off, ha, _, hr, hb⟩ := (F3.out.oks i IJ.out.2.2.2.1).2.1 hne
          exact ⟨b, off, ha, fun q => by have q := List.mem_singleton.1 q; have := N3.out i IJ.out.2.2.2.1 _ ha; have this : _ ≤ b := this; have := E2.out.2; omega, hr, hb⟩, (F3.out.oks i IJ.out.2.2.2.1).2.2⟩
        have hne : (lv i).rs ≠ [] := fun q => by rw [q] at hn; exact hn rfl
        obtain ⟨b, o, A0, bn, _, bl⟩ := LKI.out.2.1 hne
        have A0 : (lv i).a = some ⟨b, o, none⟩ := A0
        have BN := hidIt bn
        have BNL := hidIt bl
        have CAP : Hid ((lv i).rs.length ≤ (lv i).c) := hidIt LKI.out.2.2
        have XF : Hid (∀ k x, (lv i).rs[k]? = some x → ∀ U, Below W3.heap.size W3 U → U.rangeAt b (o + k * 5) x.cs) := hidIt (fun k x hx U hU => by
          have l := LK.out U i IJ.out.2.2.2.1 (F3.out.below hU)
          obtain ⟨b', o', ha, hr, _⟩ := l.at k x hx
          rw [A0] at ha
          injection ha with ha
          injection ha with h1 h2 h3
          subst h1 h2
          exact hr)
        rw [A0] at c3
        clear hn hne bn bl E2 P2
        by_cases h0 : i = 0
        · have q0 : ((0 : Int) < (i : Int)) = False := eq_false (by omega)
          have q0' : (0 < i) = False := eq_false (by omega)
          have HOS : Hid (froL ls i = (lv i).rs) := hidIt (by unfold froL; rw [if_pos h0, G3.out i (by omega), h0])
          have HM : Hid ((lv i).rs.length = (lv i).rs.length ∧ 0 < (lv i).rs.length ∧ (lv i).rs.length ≤ 400) := hidIt ⟨rfl, NE.out, NF.out i (by omega)⟩
          have LFO : Hid (LrkN W3 [W.heap.size] ⟨some ⟨b, o, none⟩, (lv i).c, (lv i).rs⟩) := hidIt (A0 ▸ LKI.out)
          have LF : Hid (∀ U, Below W3.heap.size W3 U → LsR U (some ⟨b, o, none⟩) (lv i).rs) := hidIt (fun U hU => (LFO.out.below hU).ok.1)
          have YO : Hid (∀ U, Below W3.heap.size W3 U → RVOk U [] (spK (lv i).rs ((lv i).rs).length)) := hidIt (fun U hU => spK_ok (LF.out U hU).1 (by have := HM.out; omega) _ (Nat.le_refl _))
          have YN : Hid (∀ v ∈ (spK (lv i).rs ((lv i).rs).length).cs, v.oneCell' = true) := hidIt (YO.out _ (Below.refl _ _)).one
          clear h0
          go_wp2_with (first
            | (refine wpList_alloc_rec rfl 25 rfl _ W3.heap.size rfl zero_plan ?_; intro W4 R4 B4 z4; have D4 := hidIt B4; have P4 := hidIt R4; clear R4 B4 z4)
            | (refine wpList_store_rec rfl 25 (.tmp 7) (.tmp 38) rfl W3.heap.size 0 _ (plC (i : Int) (.slice (some ⟨b, o, none⟩) (lv i).rs.length (lv i).c) (.slice none 0 0) false) rfl rfl P4.out rfl plan_size (plC_one _ _ rfl rfl) ?_; intro W5 R5 B5; have P5 := hidIt R5; have D5 := hidIt (D4.out.trans (B5.below (Nat.le_refl _) D4.out.size)); have pc := (R5.cel 1 _ rfl).1; clear R5 B5)
            | (go_at_call 25; refine (nspan_any (lv i).rs.length (lv i).c HM.out.1 (LF.out _ D5.out) HM.out.2.1 (by have := HM.out.2.2; omega)).mono ?_; rintro e W6 ⟨rfl, hb⟩; have D6 := hidIt (D5.out.trans (hb.mono D5.out.size)); have P6 := hidIt (P5.out.below hb); clear hb)
            | (refine wpList_alloc_rec rfl 45 rfl _ W6.heap.size rfl run_zero ?_; intro W7 R7 B7 z7; have D7 := hidIt (D6.out.trans (B7.mono D6.out.size)); have P7 := hidIt (P6.out.below B7); have S7 := hidIt R7; clear R7 B7 z7)
            | (refine wpList_store_rec rfl 45 (.tmp 10) (.tmp 91) rfl W6.heap.size 0 _ (spK (lv i).rs ((lv i).rs).length).cs rfl rfl S7.out rfl run_size YN.out ?_; intro W8 R8 B8; have S8 := hidIt R8; have P8 := hidIt (P7.out.but B8 (by have := P6.out.2.2; omega)); have D8 := hidIt (D7.out.trans (B8.below D6.out.size D7.out.size)); clear R8 B8; refine Held.out ?_))
          refine Held.mk ?_
          have SP8 : Hid (W3.heap.size < W6.heap.size) := hidIt P6.out.2.2
          obtain ⟨s, hs⟩ : ∃ s, s = W6.heap.size := ⟨_, rfl⟩
          rw [← hs] at S8 SP8
          simp only [← hs]
          clear hs P7 S7 D7 P6 D6 P5 D5 pc
          have P8d := hidIt (P8.out.below (Below.refl _ _).drew)
          have D8d : Hid (Below W3.heap.size W3 W8.drew) := hidIt D8.out.drew
          have S8d := hidIt (S8.out.below (Below.refl _ _).drew)
          go_wp2_with fail
          refine wp_region_noPanic ?_
          refine wp_region_held_drew (S := fun w' => w'.cell? ⟨g, j, none⟩ = some (.slice (lv j).a (lv j).rs.length (lv j).c) ∧ w'.rangeAt s 0 (spK (lv i).rs ((lv i).rs).length).cs) (by kernel_rfl) ?_ (fun hHeld => ?_)
          · exact ⟨CG.out _ j IJ.out.2.2.1 (F3.out.below D8d.out), S8d.out.1⟩
          refine take_at (i := 0) (v := ?_) (some 92) rfl rfl (by kernel_rfl) (by kernel_rfl) (by kernel_rfl) (fun _ _ _ h => h) (Or.inl ⟨by rfl, ?_⟩) (by assumption) ?_
          rotate_left
          · (intro w hSw; (try dsimp only at hSw); go_simp; try with_reducible rfl)
          simp only [Act.put, List.setIfInBounds_toArray, List.set_cons_zero, List.set_cons_succ]
          refine take_at (i := 1) (v := ?_) (some 93) rfl rfl (by kernel_rfl) (by kernel_rfl) (by kernel_rfl) (fun _ _ _ h => h) (Or.inl ⟨by rfl, ?_⟩) (by assumption) ?_
          rotate_left
          · (intro w hSw; (try dsimp only at hSw); go_simp; try with_reducible rfl)
          simp only [Act.put, List.setIfInBounds_toArray, List.set_cons_zero, List.set_cons_succ]
          refine take_at (i := 2) (v := ?_) (some 94) rfl rfl (by kernel_rfl) (by kernel_rfl) (by kernel_rfl) (fun _ _ _ h => h) (Or.inl ⟨by rfl, ?_⟩) (by assumption) ?_
          rotate_left
          · (intro w hSw; (try dsimp only at hSw); go_simp; try with_reducible rfl)
          simp only [Act.put, List.setIfInBounds_toArray, List.set_cons_zero, List.set_cons_succ]
          refine take_at (i := 3) (v := ?_) (some 95) rfl rfl (by kernel_rfl) (by kernel_rfl) (by kernel_rfl) (fun _ _ _ h => h) (Or.inl ⟨by rfl, ?_⟩) (by assumption) ?_
          rotate_left
          · (intro w hSw; (try dsimp only at hSw); go_simp; try with_reducible rfl)
          simp only [Act.put, List.setIfInBounds_toArray, List.set_cons_zero, List.set_cons_succ]
          refine take_at (i := 4) (v := ?_) (some 96) rfl rfl (by kernel_rfl) (by kernel_rfl) (by kernel_rfl) (fun _ _ _ h => h) (Or.inl ⟨by rfl, ?_⟩) (by assumption) ?_
          rotate_left
          · (intro w hSw; (try dsimp only at hSw); go_simp; try with_reducible rfl)
          simp only [Act.put, List.setIfInBounds_toArray, List.set_cons_zero, List.set_cons_succ]
          refine take_at (i := 5) (v := _) (some 97) rfl rfl (by kernel_rfl) (by kernel_rfl) (by kernel_rfl) (fun _ _ _ h => h) (yieldsIf_load_mid (by rfl) _ _ rfl _ _ rfl _ _ (fun w h => h.2) Try.underlying45 rfl (by kernel_rfl)) (by assumption) ?_
          simp only [Act.put, List.setIfInBounds_toArray, List.set_cons_zero, List.set_cons_succ]
          refine call_at (i := 6) (some 98) 24 _ _ rfl rfl rfl (by rfl) (by kernel_rfl) #[.slice (lv j).a (lv j).rs.length (lv j).c, .agg (spK (lv i).rs ((lv i).rs).length).cs.toArray] rfl Try.func24 (by kernel_rfl) (by kernel_rfl) ?_
          refine (nmeet_any (N := []) _ _ rfl (LK.out _ j IJ.out.2.2.1 (F3.out.below D8d.out)) (by have := NF.out j IJ.out.2.2.1; omega) (YO.out _ D8d.out)).mono ?_
          rintro e W9 ⟨a2, c2, rfl, O2, N2, _, B9⟩
          have P9 := hidIt (P8d.out.below B9)
          have S9 := hidIt (S8d.out.below B9)
          have D9 := hidIt (D8d.out.trans (B9.mono D8d.out.size))
          have O9 := hidIt (And.intro O2 N2)
          clear O2 N2 B9
          refine ⟨_, rfl, ⟨CG.out _ j IJ.out.2.2.1 (F3.out.below D9.out), S9.out.1⟩, fun hHeld => ?_⟩
          simp only [Act.put, List.setIfInBounds_toArray, List.set_cons_zero, List.set_cons_succ]
          refine take_at (i := 7) (v := ?_) (some 99) rfl rfl (by kernel_rfl) (by kernel_rfl) (by kernel_rfl) (fun _ _ _ h => h) (Or.inl ⟨by rfl, ?_⟩) (by assumption) ?_
          rotate_left
          · (intro w hSw; (try dsimp only at hSw); go_simp; try with_reducible rfl)
          simp only [Act.put, List.setIfInBounds_toArray, List.set_cons_zero, List.set_cons_succ]
          obtain ⟨ol, hol⟩ : ∃ ol, ol = metL (lv j).rs (spK (lv i).rs ((lv i).rs).length).r.f (spK (lv i).rs ((lv i).rs).length).r.l := ⟨_, rfl⟩
          rw [← hol] at O9
          simp only [← hol]
          have b9 := P9.out.cel 2 _ rfl
          have hr := store_v 23 (by kernel_rfl) (v := .slice a2 ol.length c2) rfl rfl b9.1 b9.2
          have BT : But W3.heap.size W9 (W9.setCell ⟨W3.heap.size, 2, none⟩ (.slice a2 ol.length c2)) := But.set W9 2 _
          have NB : ∀ b, (Value.slice a2 ol.length c2).ownBlock = some b → W3.heap.size < b := fun b hb => by
            have h := O9.out.2 b hb
            have := P8d.out.2.2
            omega
          have NX0 : Hid (NcI W3 (W9.setCell ⟨W3.heap.size, 2, none⟩ (.slice a2 ol.length c2)) i s (.slice (some ⟨b, o, none⟩) (lv i).rs.length (lv i).c) (.slice a2 ol.length c2) false (spK (lv i).rs ((lv i).rs).length) a2 ol) := hidIt ⟨P9.out.put 2 (.slice a2 ol.length c2), S9.out.but BT (by have := SP8.out; omega), SP8.out, O9.out.1.off (Off.set (bs := [W3.heap.size]) _ _ _ (by simp)) (fun b hb q => by have := NB b hb; have := List.mem_singleton.1 q; omega), NB, D9.out.trans (BT.below (Nat.le_refl _) D9.out.size)⟩
          have HOL := hidIt hol
          clear b9 BT NB hol
          generalize W9.setCell ⟨W3.heap.size, 2, none⟩ (.slice a2 ol.length c2) = W10 at *
          refine mute_at (i := 8) none rfl rfl (by rfl) (by kernel_rfl) W10 (put_mute 23 (.tmp 99) (.tmp 98) rfl _ _ rfl rfl hr) ⟨CG.out _ j IJ.out.2.2.1 (F3.out.below NX0.out.below), NX0.out.sp.1⟩ (fun hHeld => ?_)
          simp only [Act.put]
          clear hr
          refine wpAnyH_done (by kernel_rfl) ?_ _
          refine NoPanic.normal ?_
          clear hHeld P8 P8d D8 D8d S8 S8d P9 S9 D9 O9 SP8
          have MET : Hid (∀ k, k < 4 → metL (lv k).rs (spK (lv i).rs ((lv i).rs).length).r.f (spK (lv i).rs ((lv i).rs).length).r.l = metL (lvR ls k) (froF ls i) (froT ls i)) := hidIt (fun k hk => by
            unfold froF froT
            rw [HOS.out, G3.out k hk]
            rfl)
          have INT : Hid (ol = intL ls i) := hidIt (by rw [HOL.out, MET.out j IJ.out.2.2.1, IJ.out.1]; rfl)
          obtain ⟨y, hy⟩ : ∃ y, y = spK (lv i).rs ((lv i).rs).length := ⟨_, rfl⟩
          rw [← hy] at NX0 YO MET
          simp only [← hy]
          have OLS : Hid (∀ x ∈ ol, x ∈ (lv j).rs) := hidIt (fun x hx => by rw [HOL.out] at hx; exact (List.mem_filter.1 hx).1)
          obtain ⟨cl, cf⟩ := NX0.out.rc.cel 3 _ rfl
          have NX1 : Hid (NcI W3 (W10.setCell ⟨W3.heap.size, 3, none⟩ (.bool true)) i s (.slice (some ⟨b, o, none⟩) (lv i).rs.length (lv i).c) (.slice a2 ol.length c2) (drpB ls i (i + 2)) y a2 ol) := hidIt (by rw [drpB_start]; exact NX0.out.put true)
          clear NX0 hy HOL
          go_wp2_with fail
          clear cl cf
          go_loopw [11] (fun iv wr => ∃ k : Nat, i + 2 ≤ k ∧ k ≤ 4 ∧ iv = .int .i64 (k : Int) ∧ Hid (NcI W3 wr i s (.slice (some ⟨b, o, none⟩) (lv i).rs.length (lv i).c) (.slice a2 ol.length c2) (drpB ls i k) y a2 ol)) (fun iv _ => 4 - (RowKit.intOf iv).toNat)
          case atStart => exact ⟨i + 2, Nat.le_refl _, by have := IJ.out.2.1; omega, rfl, NX1⟩
          case round =>
            clear NX1 v2 v2'
            obtain ⟨k, hk2, hkm, rfl, HJ⟩ := hrel
            rename World => wr
            by_cases hk4 : k < 4
            · obtain ⟨_, _, i2, i3, i4⟩ := tb_ar k 4 hk4 (by omega)
              have i0 : ((k : Int) < 4) = True := eq_true (by omega)
              have i0' : (k < 4) = True := eq_true hk4
              have GO := hidIt i4
              clear i4 K4 K4' J4 J4'
              have ED := hidIt (HJ.out.up (Below.refl _ _).drew)
              have DX : Hid (drpB ls i (k + 1) = (drpB ls i k && (metL (lv k).rs y.r.f y.r.l).isEmpty)) := hidIt (by rw [drpB_next ls i k hk2, MET.out k hk4])
              cases hd : drpB ls i k with
              | true =>
                rw [hd] at ED
                by_cases hq : (metL (lv k).rs y.r.f y.r.l).length = 0
                · have C9 : Hid ((((metL (lv k).rs y.r.f y.r.l).length : Int) == 0) = true) := hidIt (by rw [zero_of, decide_eq_true hq])
                  have DN : Hid (drpB ls i (k + 1) = true) := hidIt (by rw [DX.out, hd, List.eq_nil_of_length_eq_zero hq]; rfl)
                  clear hq hd DX HJ
                  have cl := (ED.out.rc.cel 3 _ rfl).1
                  go_wp2_with fail
                  refine wp_region_noPanic ?_
                  refine wp_region_held_drew (S := fun w' => w'.cell? ⟨g, k, none⟩ = some (.slice (lv k).a (lv k).rs.length (lv k).c) ∧ w'.rangeAt s 0 y.cs) (by kernel_rfl) ?_ (fun hHeld => ?_)
                  · exact ⟨CG.out _ k hk4 (F3.out.below ED.out.below), ED.out.sp.1⟩
                  refine take_at (i := 0) (v := ?_) (some 109) rfl rfl (by kernel_rfl) (by kernel_rfl) (by kernel_rfl) (fun _ _ _ h => h) (Or.inl ⟨by rfl, ?_⟩) (by assumption) ?_
                  rotate_left
                  · (intro w hSw; (try dsimp only at hSw); go_simp; try with_reducible rfl)
                  simp only [Act.put, List.setIfInBounds_toArray, List.set_cons_zero, List.set_cons_succ]
                  refine step_at (i := 1) (some 110) rfl rfl (by rfl) (by kernel_rfl) (.bool true) wr.drew (by go_simp) hHeld (fun hHeld => ?_)
                  clear cl
                  simp only [Act.put, List.setIfInBounds_toArray, List.set_cons_zero, List.set_cons_succ]
                  refine take_at (i := 2) (v := ?_) (some 111) rfl rfl (by kernel_rfl) (by kernel_rfl) (by kernel_rfl) (fun _ _ _ h => h) (Or.inl ⟨by rfl, ?_⟩) (by assumption) ?_
                  rotate_left
                  · (intro w hSw; (try dsimp only at hSw); go_simp; try with_reducible rfl)
                  simp only [Act.put, List.setIfInBounds_toArray, List.set_cons_zero, List.set_cons_succ]
                  refine take_at (i := 3) (v := ?_) (some 112) rfl rfl (by kernel_rfl) (by kernel_rfl) (by kernel_rfl) (fun _ _ _ h => h) (Or.inl ⟨by rfl, ?_⟩) (by assumption) ?_
                  rotate_left
                  · (intro w hSw; (try dsimp only at hSw); go_simp; try with_reducible rfl)
                  simp only [Act.put, List.setIfInBounds_toArray, List.set_cons_zero, List.set_cons_succ]
                  refine take_at (i := 4) (v := ?_) (some 113) rfl rfl (by kernel_rfl) (by kernel_rfl) (by kernel_rfl) (fun _ _ _ h => h) (Or.inl ⟨by rfl, ?_⟩) (by assumption) ?_
                  rotate_left
                  · (intro w hSw; (try dsimp only at hSw); go_simp; try with_reducible rfl)
                  simp only [Act.put, List.setIfInBounds_toArray, List.set_cons_zero, List.set_cons_succ]
                  refine take_at (i := 5) (v := ?_) (some 114) rfl rfl (by kernel_rfl) (by kernel_rfl) (by kernel_rfl) (fun _ _ _ h => h) (Or.inl ⟨by rfl, ?_⟩) (by assumption) ?_
                  rotate_left
                  · (intro w hSw; (try dsimp only at hSw); go_simp; try with_reducible rfl)
                  simp only [Act.put, List.setIfInBounds_toArray, List.set_cons_zero, List.set_cons_succ]
                  refine take_at (i := 6) (v := ?_) (some 115) rfl rfl (by kernel_rfl) (by kernel_rfl) (by kernel_rfl) (fun _ _ _ h => h) (Or.inl ⟨by rfl, ?_⟩) (by assumption) ?_
                  rotate_left
                  · (intro w hSw; (try dsimp only at hSw); go_simp; try with_reducible rfl)
                  simp only [Act.put, List.setIfInBounds_toArray, List.set_cons_zero, List.set_cons_succ]
                  refine take_at (i := 7) (v := _) (some 116) rfl rfl (by kernel_rfl) (by kernel_rfl) (by kernel_rfl) (fun _ _ _ h => h) (yieldsIf_load_mid (by rfl) _ _ rfl _ _ rfl _ _ (fun w h => h.2) Try.underlying45 rfl (by kernel_rfl)) (by assumption) ?_
                  simp only [Act.put, List.setIfInBounds_toArray, List.set_cons_zero, List.set_cons_succ]
                  refine call_at (i := 8) (some 117) 24 _ _ rfl rfl rfl (by rfl) (by kernel_rfl) #[.slice (lv k).a (lv k).rs.length (lv k).c, .agg y.cs.toArray] rfl Try.func24 (by kernel_rfl) (by kernel_rfl) ?_
                  refine (nmeet_any (N := []) _ _ rfl (LK.out _ k hk4 (F3.out.below ED.out.below)) (by have := NF.out k hk4; omega) (YO.out _ ED.out.below)).mono ?_
                  rintro e W5 ⟨a5, c5, rfl, _, _, _, hb⟩
                  have D5 := hidIt (ED.out.up hb)
                  clear hb
                  refine ⟨_, rfl, ⟨CG.out _ k hk4 (F3.out.below D5.out.below), D5.out.sp.1⟩, fun hHeld => ?_⟩
                  simp only [Act.put, List.setIfInBounds_toArray, List.set_cons_zero, List.set_cons_succ]
                  have c9 : (((metL (lv k).rs y.r.f y.r.l).length : Int) == 0) = true := C9.out
                  refine take_at (i := 9) (v := ?_) (some 118) rfl rfl (by kernel_rfl) (by kernel_rfl) (by kernel_rfl) (fun _ _ _ h => h) (Or.inl ⟨by rfl, ?_⟩) (by assumption) ?_
                  rotate_left
                  · (intro w hSw; (try dsimp only at hSw); go_simp; try with_reducible rfl)
                  simp only [Act.put, List.setIfInBounds_toArray, List.set_cons_zero, List.set_cons_succ]
                  refine take_at (i := 10) (v := ?_) (some 119) rfl rfl (by kernel_rfl) (by kernel_rfl) (by kernel_rfl) (fun _ _ _ h => h) (Or.inl ⟨by rfl, ?_⟩) (by assumption) ?_
                  rotate_left
                  · (intro w hSw; (try dsimp only at hSw); go_simp; try with_reducible rfl)
                  simp only [Act.put, List.setIfInBounds_toArray, List.set_cons_zero, List.set_cons_succ]
                  refine take_at (i := 11) (v := ?_) (some 120) rfl rfl (by kernel_rfl) (by kernel_rfl) (by kernel_rfl) (fun _ _ _ h => h) (Or.inl ⟨by rfl, ?_⟩) (by assumption) ?_
                  rotate_left
                  · (intro w hSw; (try dsimp only at hSw); go_simp; try with_reducible rfl)
                  simp only [Act.put, List.setIfInBounds_toArray, List.set_cons_zero, List.set_cons_succ]
                  refine take_at (i := 12) (v := ?_) (some 121) rfl rfl (by kernel_rfl) (by kernel_rfl) (by kernel_rfl) (fun _ _ _ h => h) (Or.inl ⟨by rfl, ?_⟩) (by assumption) ?_
                  rotate_left
                  · (intro w hSw; (try dsimp only at hSw); go_simp; try with_reducible rfl)
                  simp only [Act.put, List.setIfInBounds_toArray, List.set_cons_zero, List.set_cons_succ]
                  clear c9
                  have b5 := D5.out.rc.cel 3 _ rfl
                  have hr := store_v 4 (by kernel_rfl) (v := .bool true) rfl rfl b5.1 b5.2
                  have NX : Hid (NcI W3 (W5.setCell ⟨W3.heap.size, 3, none⟩ (.bool true)) i s (.slice (some ⟨b, o, none⟩) (lv i).rs.length (lv i).c) (.slice a2 ol.length c2) (drpB ls i (k + 1)) y a2 ol) := hidIt (by rw [DN.out]; exact D5.out.put true)
                  clear b5
                  generalize W5.setCell ⟨W3.heap.size, 3, none⟩ (.bool true) = W6 at *
                  refine mute_at (i := 13) none rfl rfl (by rfl) (by kernel_rfl) W6 (put_mute 4 (.tmp 121) (.tmp 120) rfl _ _ rfl rfl hr) ⟨CG.out _ k hk4 (F3.out.below NX.out.below), NX.out.sp.1⟩ (fun hHeld => ?_)
                  simp only [Act.put]
                  clear hr
                  refine wpAnyH_done (by kernel_rfl) ?_ _
                  refine NoPanic.normal ?_
                  clear hHeld
                  go_wp2_with fail
                  exact ⟨⟨k + 1, by omega, by omega, rfl, NX⟩, GO.out⟩
                · have C9 : Hid ((((metL (lv k).rs y.r.f y.r.l).length : Int) == 0) = false) := hidIt (by rw [zero_of, decide_eq_false hq])
                  have DN : Hid (drpB ls i (k + 1) = false) := hidIt (by
                    rw [DX.out, hd]
                    cases qe : metL (lv k).rs y.r.f y.r.l with
                    | nil => rw [qe] at hq; exact absurd rfl hq
                    | cons _ _ => rfl)
                  clear hq hd DX HJ
                  have cl := (ED.out.rc.cel 3 _ rfl).1
                  go_wp2_with fail
                  refine wp_region_noPanic ?_
                  refine wp_region_held_drew (S := fun w' => w'.cell? ⟨g, k, none⟩ = some (.slice (lv k).a (lv k).rs.length (lv k).c) ∧ w'.rangeAt s 0 y.cs) (by kernel_rfl) ?_ (fun hHeld => ?_)
                  · exact ⟨CG.out _ k hk4 (F3.out.below ED.out.below), ED.out.sp.1⟩
                  refine take_at (i := 0) (v := ?_) (some 109) rfl rfl (by kernel_rfl) (by kernel_rfl) (by kernel_rfl) (fun _ _ _ h => h) (Or.inl ⟨by rfl, ?_⟩) (by assumption) ?_
                  rotate_left
                  · (intro w hSw; (try dsimp only at hSw); go_simp; try with_reducible rfl)
                  simp only [Act.put, List.setIfInBounds_toArray, List.set_cons_zero, List.set_cons_succ]
                  refine step_at (i := 1) (some 110) rfl rfl (by rfl) (by kernel_rfl) (.bool true) wr.drew (by go_simp) hHeld (fun hHeld => ?_)
                  clear cl
                  simp only [Act.put, List.setIfInBounds_toArray, List.set_cons_zero, List.set_cons_succ]
                  refine take_at (i := 2) (v := ?_) (some 111) rfl rfl (by kernel_rfl) (by kernel_rfl) (by kernel_rfl) (fun _ _ _ h => h) (Or.inl ⟨by rfl, ?_⟩) (by assumption) ?_
                  rotate_left
                  · (intro w hSw; (try dsimp only at hSw); go_simp; try with_reducible rfl)
                  simp only [Act.put, List.setIfInBounds_toArray, List.set_cons_zero, List.set_cons_succ]
                  refine take_at (i := 3) (v := ?_) (some 112) rfl rfl (by kernel_rfl) (by kernel_rfl) (by kernel_rfl) (fun _ _ _ h => h) (Or.inl ⟨by rfl, ?_⟩) (by assumption) ?_
                  rotate_left
                  · (intro w hSw; (try dsimp only at hSw); go_simp; try with_reducible rfl)
                  simp only [Act.put, List.setIfInBounds_toArray, List.set_cons_zero, List.set_cons_succ]
                  refine take_at (i := 4) (v := ?_) (some 113) rfl rfl (by kernel_rfl) (by kernel_rfl) (by kernel_rfl) (fun _ _ _ h => h) (Or.inl ⟨by rfl, ?_⟩) (by assumption) ?_
                  rotate_left
                  · (intro w hSw; (try dsimp only at hSw); go_simp; try with_reducible rfl)
                  simp only [Act.put, List.setIfInBounds_toArray, List.set_cons_zero, List.set_cons_succ]
                  refine take_at (i := 5) (v := ?_) (some 114) rfl rfl (by kernel_rfl) (by kernel_rfl) (by kernel_rfl) (fun _ _ _ h => h) (Or.inl ⟨by rfl, ?_⟩) (by assumption) ?_
                  rotate_left
                  · (intro w hSw; (try dsimp only at hSw); go_simp; try with_reducible rfl)
                  simp only [Act.put, List.setIfInBounds_toArray, List.set_cons_zero, List.set_cons_succ]
                  refine take_at (i := 6) (v := ?_) (some 115) rfl rfl (by kernel_rfl) (by kernel_rfl) (by kernel_rfl) (fun _ _ _ h => h) (Or.inl ⟨by rfl, ?_⟩) (by assumption) ?_
                  rotate_left
                  · (intro w hSw; (try dsimp only at hSw); go_simp; try with_reducible rfl)
                  simp only [Act.put, List.setIfInBounds_toArray, List.set_cons_zero, List.set_cons_succ]
                  refine take_at (i := 7) (v := _) (some 116) rfl rfl (by kernel_rfl) (by kernel_rfl) (by kernel_rfl) (fun _ _ _ h => h) (yieldsIf_load_mid (by rfl) _ _ rfl _ _ rfl _ _ (fun w h => h.2) Try.underlying45 rfl (by kernel_rfl)) (by assumption) ?_
                  simp only [Act.put, List.setIfInBounds_toArray, List.set_cons_zero, List.set_cons_succ]
                  refine call_at (i := 8) (some 117) 24 _ _ rfl rfl rfl (by rfl) (by kernel_rfl) #[.slice (lv k).a (lv k).rs.length (lv k).c, .agg y.cs.toArray] rfl Try.func24 (by kernel_rfl) (by kernel_rfl) ?_
                  refine (nmeet_any (N := []) _ _ rfl (LK.out _ k hk4 (F3.out.below ED.out.below)) (by have := NF.out k hk4; omega) (YO.out _ ED.out.below)).mono ?_
                  rintro e W5 ⟨a5, c5, rfl, _, _, _, hb⟩
                  have D5 := hidIt (ED.out.up hb)
                  clear hb
                  refine ⟨_, rfl, ⟨CG.out _ k hk4 (F3.out.below D5.out.below), D5.out.sp.1⟩, fun hHeld => ?_⟩
                  simp only [Act.put, List.setIfInBounds_toArray, List.set_cons_zero, List.set_cons_succ]
                  have c9 : (((metL (lv k).rs y.r.f y.r.l).length : Int) == 0) = false := C9.out
                  refine take_at (i := 9) (v := ?_) (some 118) rfl rfl (by kernel_rfl) (by kernel_rfl) (by kernel_rfl) (fun _ _ _ h => h) (Or.inl ⟨by rfl, ?_⟩) (by assumption) ?_
                  rotate_left
                  · (intro w hSw; (try dsimp only at hSw); go_simp; try with_reducible rfl)
                  simp only [Act.put, List.setIfInBounds_toArray, List.set_cons_zero, List.set_cons_succ]
                  refine take_at (i := 10) (v := ?_) (some 119) rfl rfl (by kernel_rfl) (by kernel_rfl) (by kernel_rfl) (fun _ _ _ h => h) (Or.inl ⟨by rfl, ?_⟩) (by assumption) ?_
                  rotate_left
                  · (intro w hSw; (try dsimp only at hSw); go_simp; try with_reducible rfl)
                  simp only [Act.put, List.setIfInBounds_toArray, List.set_cons_zero, List.set_cons_succ]
                  refine take_at (i := 11) (v := ?_) (some 120) rfl rfl (by kernel_rfl) (by kernel_rfl) (by kernel_rfl) (fun _ _ _ h => h) (Or.inl ⟨by rfl, ?_⟩) (by assumption) ?_
                  rotate_left
                  · (intro w hSw; (try dsimp only at hSw); go_simp; try with_reducible rfl)
                  simp only [Act.put, List.setIfInBounds_toArray, List.set_cons_zero, List.set_cons_succ]
                  refine take_at (i := 12) (v := ?_) (some 121) rfl rfl (by kernel_rfl) (by kernel_rfl) (by kernel_rfl) (fun _ _ _ h => h) (Or.inl ⟨by rfl, ?_⟩) (by assumption) ?_
                  rotate_left
                  · (intro w hSw; (try dsimp only at hSw); go_simp; try with_reducible rfl)
                  simp only [Act.put, List.setIfInBounds_toArray, List.set_cons_zero, List.set_cons_succ]
                  clear c9
                  have b5 := D5.out.rc.cel 3 _ rfl
                  have hr := store_v 4 (by kernel_rfl) (v := .bool false) rfl rfl b5.1 b5.2
                  have NX : Hid (NcI W3 (W5.setCell ⟨W3.heap.size, 3, none⟩ (.bool false)) i s (.slice (some ⟨b, o, none⟩) (lv i).rs.length (lv i).c) (.slice a2 ol.length c2) (drpB ls i (k + 1)) y a2 ol) := hidIt (by rw [DN.out]; exact D5.out.put false)
                  clear b5
                  generalize W5.setCell ⟨W3.heap.size, 3, none⟩ (.bool false) = W6 at *
                  refine mute_at (i := 13) none rfl rfl (by rfl) (by kernel_rfl) W6 (put_mute 4 (.tmp 121) (.tmp 120) rfl _ _ rfl rfl hr) ⟨CG.out _ k hk4 (F3.out.below NX.out.below), NX.out.sp.1⟩ (fun hHeld => ?_)
                  simp only [Act.put]
                  clear hr
                  refine wpAnyH_done (by kernel_rfl) ?_ _
                  refine NoPanic.normal ?_
                  clear hHeld
                  go_wp2_with fail
                  exact ⟨⟨k + 1, by omega, by omega, rfl, NX⟩, GO.out⟩
              | false =>
                rw [hd] at ED
                have DN : Hid (drpB ls i (k + 1) = false) := hidIt (by rw [DX.out, hd]; rfl)
                clear hd DX HJ
                have cl := (ED.out.rc.cel 3 _ rfl).1
                go_wp2_with fail
                refine wp_region_noPanic ?_
                refine wp_region_held_drew (S := fun w' => True) (by kernel_rfl) ?_ (fun hHeld => ?_)
                · trivial
                refine take_at (i := 0) (v := ?_) (some 109) rfl rfl (by kernel_rfl) (by kernel_rfl) (by kernel_rfl) (fun _ _ _ h => h) (Or.inl ⟨by rfl, ?_⟩) (by assumption) ?_
                rotate_left
                · (intro w hSw; (try dsimp only at hSw); go_simp; try with_reducible rfl)
                simp only [Act.put, List.setIfInBounds_toArray, List.set_cons_zero, List.set_cons_succ]
                refine step_at (i := 1) (some 110) rfl rfl (by rfl) (by kernel_rfl) (.bool false) wr.drew (by go_simp) trivial (fun hHeld => ?_)
                clear cl
                simp only [Act.put, List.setIfInBounds_toArray, List.set_cons_zero, List.set_cons_succ]
                refine take_at (i := 2) (v := ?_) (some 111) rfl rfl (by kernel_rfl) (by kernel_rfl) (by kernel_rfl) (fun _ _ _ h => h) (Or.inl ⟨by rfl, ?_⟩) (by assumption) ?_
                rotate_left
                · (intro w hSw; (try dsimp only at hSw); go_simp; try with_reducible rfl)
                simp only [Act.put, List.setIfInBounds_toArray, List.set_cons_zero, List.set_cons_succ]
                refine take_at (i := 3) (v := undef) (some 112) rfl rfl (by kernel_rfl) (by kernel_rfl) (by kernel_rfl) (fun _ _ _ h => h) (Or.inr ⟨by rfl, rfl⟩) (by assumption) ?_
                simp only [Act.put, List.setIfInBounds_toArray, List.set_cons_zero, List.set_cons_succ]
                refine take_at (i := 4) (v := undef) (some 113) rfl rfl (by kernel_rfl) (by kernel_rfl) (by kernel_rfl) (fun _ _ _ h => h) (Or.inr ⟨by rfl, rfl⟩) (by assumption) ?_
                simp only [Act.put, List.setIfInBounds_toArray, List.set_cons_zero, List.set_cons_succ]
                refine take_at (i := 5) (v := undef) (some 114) rfl rfl (by kernel_rfl) (by kernel_rfl) (by kernel_rfl) (fun _ _ _ h => h) (Or.inr ⟨by rfl, rfl⟩) (by assumption) ?_
                simp only [Act.put, List.setIfInBounds_toArray, List.set_cons_zero, List.set_cons_succ]
                refine take_at (i := 6) (v := undef) (some 115) rfl rfl (by kernel_rfl) (by kernel_rfl) (by kernel_rfl) (fun _ _ _ h => h) (Or.inr ⟨by rfl, rfl⟩) (by assumption) ?_
                simp only [Act.put, List.setIfInBounds_toArray, List.set_cons_zero, List.set_cons_succ]
                refine take_at (i := 7) (v := undef) (some 116) rfl rfl (by kernel_rfl) (by kernel_rfl) (by kernel_rfl) (fun _ _ _ h => h) (Or.inr ⟨by rfl, rfl⟩) (by assumption) ?_
                simp only [Act.put, List.setIfInBounds_toArray, List.set_cons_zero, List.set_cons_succ]
                refine take_at (i := 8) (v := undef) (some 117) rfl rfl (by kernel_rfl) (by kernel_rfl) (by kernel_rfl) (fun _ _ _ h => h) (Or.inr ⟨by rfl, rfl⟩) (by assumption) ?_
                simp only [Act.put, List.setIfInBounds_toArray, List.set_cons_zero, List.set_cons_succ]
                refine take_at (i := 9) (v := undef) (some 118) rfl rfl (by kernel_rfl) (by kernel_rfl) (by kernel_rfl) (fun _ _ _ h => h) (Or.inr ⟨by rfl, rfl⟩) (by assumption) ?_
                simp only [Act.put, List.setIfInBounds_toArray, List.set_cons_zero, List.set_cons_succ]
                refine take_at (i := 10) (v := undef) (some 119) rfl rfl (by kernel_rfl) (by kernel_rfl) (by kernel_rfl) (fun _ _ _ h => h) (Or.inr ⟨by rfl, rfl⟩) (by assumption) ?_
                simp only [Act.put, List.setIfInBounds_toArray, List.set_cons_zero, List.set_cons_succ]
                refine take_at (i := 11) (v := ?_) (some 120) rfl rfl (by kernel_rfl) (by kernel_rfl) (by kernel_rfl) (fun _ _ _ h => h) (Or.inl ⟨by rfl, ?_⟩) (by assumption) ?_
                rotate_left
                · (intro w hSw; (try dsimp only at hSw); go_simp; try with_reducible rfl)
                simp only [Act.put, List.setIfInBounds_toArray, List.set_cons_zero, List.set_cons_succ]
                refine take_at (i := 12) (v := ?_) (some 121) rfl rfl (by kernel_rfl) (by kernel_rfl) (by kernel_rfl) (fun _ _ _ h => h) (Or.inl ⟨by rfl, ?_⟩) (by assumption) ?_
                rotate_left
                · (intro w hSw; (try dsimp only at hSw); go_simp; try with_reducible rfl)
                simp only [Act.put, List.setIfInBounds_toArray, List.set_cons_zero, List.set_cons_succ]
                have b5 := ED.out.rc.cel 3 _ rfl
                have hr := store_v 4 (by kernel_rfl) (v := .bool false) rfl rfl b5.1 b5.2
                have NX : Hid (NcI W3 (wr.drew.setCell ⟨W3.heap.size, 3, none⟩ (.bool false)) i s (.slice (some ⟨b, o, none⟩) (lv i).rs.length (lv i).c) (.slice a2 ol.length c2) (drpB ls i (k + 1)) y a2 ol) := hidIt (by rw [DN.out]; exact ED.out.put false)
                clear b5
                generalize wr.drew.setCell ⟨W3.heap.size, 3, none⟩ (.bool false) = W6 at *
                refine mute_at (i := 13) none rfl rfl (by rfl) (by kernel_rfl) W6 (put_mute 4 (.tmp 121) (.tmp 120) rfl _ _ rfl rfl hr) trivial (fun hHeld => ?_)
                simp only [Act.put]
                clear hr
                refine wpAnyH_done (by kernel_rfl) ?_ _
                refine NoPanic.normal ?_
                clear hHeld
                go_wp2_with fail
                exact ⟨⟨k + 1, by omega, by omega, rfl, NX⟩, GO.out⟩
            · obtain rfl : k = 4 := by omega
              have i0 : (((4 : Nat) : Int) < 4) = False := eq_false (by omega)
              have PW := hidIt (P3.out.below HJ.out.below)
              clear hk2 hkm hk4 K4 K4' J4 J4'
              go_wp2_with (first
                | (refine wpList_load_rec rfl 25 (.tmp 7) rfl W3.heap.size 0 (plC (i : Int) (.slice (some ⟨b, o, none⟩) (lv i).rs.length (lv i).c) (.slice a2 ol.length c2) (drpB ls i 4)) rfl _ Try.underlying25 rfl plan_size HJ.out.rc ?_)
                | (refine wpList_store_rec rfl 25 (.tmp 4) (.tmp 122) rfl W.heap.size 0 _ (plC (i : Int) (.slice (some ⟨b, o, none⟩) (lv i).rs.length (lv i).c) (.slice a2 ol.length c2) (drpB ls i 4)) rfl rfl PW.out rfl plan_size (plC_one _ _ rfl rfl) ?_; intro W6 R6 B6; have RR := hidIt R6; have B6' := hidIt B6; clear R6 B6))
              have FIN : Hid (NcP W ls (i : Int) (.returned (.tuple #[.agg (plC (i : Int) (.slice (some ⟨b, o, none⟩) (lv i).rs.length (lv i).c) (.slice a2 ol.length c2) (drpB ls i 4)).toArray, .int .i64 0])) W6) := hidIt (by
                have lt : W.heap.size < W3.heap.size := P3.out.2.2
                have bw : Below W.heap.size W W6 := (E3.out.trans (HJ.out.below.mono E3.out.size)).trans (B6'.out.below (Nat.le_refl _) (Nat.le_trans E3.out.size HJ.out.below.size))
                have of : Off [W.heap.size] wr W6 := Off.but B6'.out (by simp)
                have lo := HJ.out.own.off of (fun b hb q => by have := HJ.out.new b hb; have := List.mem_singleton.1 q; omega)
                have lf := (LFO.out.below HJ.out.below).off of
                exact .inr ⟨YES.out, (some ⟨b, o, none⟩), (lv i).c, (lv i).rs, a2, c2, ol, by rw [Int.toNat_natCast] <;> rfl, lf.ok.1, lo.ls (fun x hx => (((YR.out j IJ.out.2.2.1 x (OLS.out x hx)).below HJ.out.below).off of).mono (fun b hb => by cases hb)), by rw [Int.toNat_natCast, HOS.out], by rw [Int.toNat_natCast, INT.out], bw⟩)
              have hl := RR.out.run_load 25 _ Try.underlying25 rfl plan_size
              exact bodyPost_ret (v := .tuple #[.agg (plC (i : Int) (.slice (some ⟨b, o, none⟩) (lv i).rs.length (lv i).c) (.slice a2 ol.length c2) (drpB ls i 4)).toArray, .int .i64 0]) (by simp [results, Try.results8, asAddr, hl]) rfl FIN.out
        · have q0 : ((0 : Int) < (i : Int)) = True := eq_true (by omega)
          have q0' : (0 < i) = True := eq_true (by omega)
          obtain ⟨x1, hx1⟩ : ∃ x1, (lv i).rs[bst (keyM (lv i).rs (lv j).rs) (lv i).rs.length]? = some x1 := ⟨_, List.getElem?_eq_getElem (bst_lt _ _ NE.out)⟩
          have HOS : Hid (froL ls i = [x1]) := hidIt (by unfold froL; rw [if_neg h0, ← G3.out i (by have := IJ.out; omega), ← IJ.out.1, ← G3.out j (by have := IJ.out; omega), hx1]; rfl)
          have HM : Hid ([x1].length = 1 ∧ 0 < 1 ∧ 1 ≤ 400) := hidIt (by simp)
          have BL : Hid (bst (keyM (lv i).rs (lv j).rs) (lv i).rs.length < (lv i).rs.length) := hidIt (bst_lt _ _ NE.out)
          have LFO : Hid (LrkN W3 [W.heap.size] ⟨(some ⟨b, o + bst (keyM (lv i).rs (lv j).rs) (lv i).rs.length * 5, none⟩), ((lv i).c - bst (keyM (lv i).rs (lv j).rs) (lv i).rs.length), [x1]⟩) := hidIt ⟨fun y hy => by rw [List.mem_singleton.1 hy]; exact YR.out i (by have := IJ.out; omega) x1 (List.mem_of_getElem? hx1), fun _ => ⟨b, _, rfl, BN.out, by rw [rcs_single]; exact XF.out _ _ hx1 _ (Below.refl _ _), BNL.out⟩, by have := CAP.out; have := BL.out; simp; omega⟩
          have LF : Hid (∀ U, Below W3.heap.size W3 U → LsR U (some ⟨b, o + bst (keyM (lv i).rs (lv j).rs) (lv i).rs.length * 5, none⟩) [x1]) := hidIt (fun U hU => (LFO.out.below hU).ok.1)
          have YO : Hid (∀ U, Below W3.heap.size W3 U → RVOk U [] (spK [x1] ([x1]).length)) := hidIt (fun U hU => spK_ok (LF.out U hU).1 (by have := HM.out; omega) _ (Nat.le_refl _))
          have YN : Hid (∀ v ∈ (spK [x1] ([x1]).length).cs, v.oneCell' = true) := hidIt (YO.out _ (Below.refl _ _)).one
          clear h0 hx1
          go_wp2_with (first
            | (refine wpList_alloc_rec rfl 25 rfl _ W3.heap.size rfl zero_plan ?_; intro W4 R4 B4 z4; have D4 := hidIt B4; have P4 := hidIt R4; clear R4 B4 z4)
            | (refine wpList_store_rec rfl 25 (.tmp 7) (.tmp 38) rfl W3.heap.size 0 _ (plC (i : Int) (.slice (some ⟨b, o, none⟩) (lv i).rs.length (lv i).c) (.slice none 0 0) false) rfl rfl P4.out rfl plan_size (plC_one _ _ rfl rfl) ?_; intro W5 R5 B5; have PS := hidIt R5; have DS := hidIt (D4.out.trans (B5.below (Nat.le_refl _) D4.out.size)); clear R5 B5))
          clear q0 q0' P4 D4
          go_loopw [8, 9] (fun bv iv wr => ∃ k : Nat, 1 ≤ k ∧ k ≤ (lv i).rs.length ∧ iv = .int .i64 (k : Int) ∧ bv = .int .i64 (bst (keyM (lv i).rs (lv j).rs) k : Int) ∧ Hid (Rec19 wr W3.heap.size 0 (plC (i : Int) (.slice (some ⟨b, o, none⟩) (lv i).rs.length (lv i).c) (.slice none 0 0) false) ∧ Below W3.heap.size W3 wr)) (fun _ iv _ => (lv i).rs.length - (RowKit.intOf iv).toNat)
          case atStart => exact ⟨1, Nat.le_refl _, NE.out, rfl, by unfold bst bst; split <;> rfl, hidIt ⟨PS.out, DS.out⟩⟩
          case round =>
            clear PS DS
            obtain ⟨k, h1k, hk, rfl, rfl, HK⟩ := hrel
            rename World => wr
            have cg := CG.out wr i IJ.out.2.2.2.1 (F3.out.below HK.out.2)
            rw [A0] at cg
            by_cases hlt : k < (lv i).rs.length
            · obtain ⟨x, hx⟩ : ∃ x, (lv i).rs[k]? = some x := ⟨_, List.getElem?_eq_getElem hlt⟩
              have hbl := bst_lt (keyM (lv i).rs (lv j).rs) k (by omega)
              obtain ⟨y, hy⟩ : ∃ y, (lv i).rs[bst (keyM (lv i).rs (lv j).rs) k]? = some y := ⟨_, List.getElem?_eq_getElem (by omega)⟩
              have kx := keyM_at (nx := (lv j).rs) hx
              have ky := keyM_at (nx := (lv j).rs) hy
              have NXT : Hid (∀ c : Bool, decide ((metL (lv j).rs x.r.f x.r.l).length < (metL (lv j).rs y.r.f y.r.l).length) = c → bst (keyM (lv i).rs (lv j).rs) (k + 1) = if c then k else bst (keyM (lv i).rs (lv j).rs) k) := hidIt (fun c hc => by
                rw [← kx, ← ky] at hc
                show (if (keyM (lv i).rs (lv j).rs) k < (keyM (lv i).rs (lv j).rs) (bst (keyM (lv i).rs (lv j).rs) k) then k else bst (keyM (lv i).rs (lv j).rs) k) = _
                rw [← hc]
                by_cases q : (keyM (lv i).rs (lv j).rs) k < (keyM (lv i).rs (lv j).rs) (bst (keyM (lv i).rs (lv j).rs) k)
                · rw [if_pos q, decide_eq_true q]; rfl
                · rw [if_neg q, decide_eq_false q]; rfl)
              have XX := hidIt (XF.out k x hx)
              have XY := hidIt (XF.out _ y hy)
              have OX : Hid (∀ U, Below W3.heap.size W3 U → RVOk U [] x) := hidIt (fun U hU => ((YR.out i IJ.out.2.2.2.1 x (List.mem_of_getElem? hx)).below hU).mono (fun b hb => by cases hb))
              have OY : Hid (∀ U, Below W3.heap.size W3 U → RVOk U [] y) := hidIt (fun U hU => ((YR.out i IJ.out.2.2.2.1 y (List.mem_of_getElem? hy)).below hU).mono (fun b hb => by cases hb))
              obtain ⟨m, hm⟩ : ∃ m, m = bst (keyM (lv i).rs (lv j).rs) k := ⟨_, rfl⟩
              rw [← hm] at hbl XY
              simp only [← hm]
              have HMM := hidIt hm
              obtain ⟨i0, i1, i2, i3, i4⟩ := tb_ar k (lv i).rs.length hlt (by have := NF.out i IJ.out.2.2.2.1; omega)
              obtain ⟨j0, j1, _, _, _⟩ := tb_ar m (lv i).rs.length (Nat.lt_trans hbl hlt) (by have := NF.out i IJ.out.2.2.2.1; omega)
              have GO := hidIt i4
              have LT := hidIt hlt
              have ED : Hid (Rec19 wr.drew W3.heap.size 0 (plC (i : Int) (.slice (some ⟨b, o, none⟩) (lv i).rs.length (lv i).c) (.slice none 0 0) false) ∧ Below W3.heap.size W3 wr.drew) := hidIt ⟨HK.out.1.below (Below.refl _ _).drew, HK.out.2.drew⟩
              clear hx hy kx ky hm hbl hlt hk h1k i4 HK
              go_wp2_with fail
              clear cg
              refine wp_region_noPanic ?_
              refine wp_region_held_drew (S := fun w' => w'.cell? ⟨g, i, none⟩ = some (.slice (some ⟨b, o, none⟩) (lv i).rs.length (lv i).c) ∧ w'.cell? ⟨g, j, none⟩ = some (.slice (lv j).a (lv j).rs.length (lv j).c) ∧ w'.rangeAt b (o + k * 5) x.cs ∧ w'.rangeAt b (o + m * 5) y.cs) (by kernel_rfl) ?_ (fun hHeld => ?_)
              · exact ⟨by rw [← A0]; exact CG.out _ i IJ.out.2.2.2.1 (F3.out.below ED.out.2), CG.out _ j IJ.out.2.2.1 (F3.out.below ED.out.2), XX.out _ ED.out.2, XY.out _ ED.out.2⟩
              refine take_at (i := 0) (v := ?_) (some 50) rfl rfl (by kernel_rfl) (by kernel_rfl) (by kernel_rfl) (fun _ _ _ h => h) (Or.inl ⟨by rfl, ?_⟩) (by assumption) ?_
              rotate_left
              · (intro w hSw; (try dsimp only at hSw); go_simp; try with_reducible rfl)
              simp only [Act.put, List.setIfInBounds_toArray, List.set_cons_zero, List.set_cons_succ]
              refine take_at (i := 1) (v := ?_) (some 51) rfl rfl (by kernel_rfl) (by kernel_rfl) (by kernel_rfl) (fun _ _ _ h => h) (Or.inl ⟨by rfl, ?_⟩) (by assumption) ?_
              rotate_left
              · (intro w hSw; (try dsimp only at hSw); go_simp; try with_reducible rfl)
              simp only [Act.put, List.setIfInBounds_toArray, List.set_cons_zero, List.set_cons_succ]
              refine take_at (i := 2) (v := ?_) (some 52) rfl rfl (by kernel_rfl) (by kernel_rfl) (by kernel_rfl) (fun _ _ _ h => h) (Or.inl ⟨by rfl, ?_⟩) (by assumption) ?_
              rotate_left
              · (intro w hSw; (try dsimp only at hSw); go_simp; try with_reducible rfl)
              simp only [Act.put, List.setIfInBounds_toArray, List.set_cons_zero, List.set_cons_succ]
              refine take_at (i := 3) (v := ?_) (some 53) rfl rfl (by kernel_rfl) (by kernel_rfl) (by kernel_rfl) (fun _ _ _ h => h) (Or.inl ⟨by rfl, ?_⟩) (by assumption) ?_
              rotate_left
              · (intro w hSw; (try dsimp only at hSw); go_simp; try with_reducible rfl)
              simp only [Act.put, List.setIfInBounds_toArray, List.set_cons_zero, List.set_cons_succ]
              refine take_at (i := 4) (v := ?_) (some 54) rfl rfl (by kernel_rfl) (by kernel_rfl) (by kernel_rfl) (fun _ _ _ h => h) (Or.inl ⟨by rfl, ?_⟩) (by assumption) ?_
              rotate_left
              · (intro w hSw; (try dsimp only at hSw); go_simp; try with_reducible rfl)
              simp only [Act.put, List.setIfInBounds_toArray, List.set_cons_zero, List.set_cons_succ]
              refine take_at (i := 5) (v := ?_) (some 55) rfl rfl (by kernel_rfl) (by kernel_rfl) (by kernel_rfl) (fun _ _ _ h => h) (Or.inl ⟨by rfl, ?_⟩) (by assumption) ?_
              rotate_left
              · (intro w hSw; (try dsimp only at hSw); go_simp; try with_reducible rfl)
              simp only [Act.put, List.setIfInBounds_toArray, List.set_cons_zero, List.set_cons_succ]
              refine take_at (i := 6) (v := ?_) (some 56) rfl rfl (by kernel_rfl) (by kernel_rfl) (by kernel_rfl) (fun _ _ _ h => h) (Or.inl ⟨by rfl, ?_⟩) (by assumption) ?_
              rotate_left
              · (intro w hSw; (try dsimp only at hSw); go_simp; try with_reducible rfl)
              simp only [Act.put, List.setIfInBounds_toArray, List.set_cons_zero, List.set_cons_succ]
              refine take_at (i := 7) (v := ?_) (some 57) rfl rfl (by kernel_rfl) (by kernel_rfl) (by kernel_rfl) (fun _ _ _ h => h) (Or.inl ⟨by rfl, ?_⟩) (by assumption) ?_
              rotate_left
              · (intro w hSw; (try dsimp only at hSw); go_simp; try with_reducible rfl)
              simp only [Act.put, List.setIfInBounds_toArray, List.set_cons_zero, List.set_cons_succ]
              refine take_at (i := 8) (v := ?_) (some 58) rfl rfl (by kernel_rfl) (by kernel_rfl) (by kernel_rfl) (fun _ _ _ h => h) (Or.inl ⟨by rfl, ?_⟩) (by assumption) ?_
              rotate_left
              · (intro w hSw; (try dsimp only at hSw); go_simp; try with_reducible rfl)
              simp only [Act.put, List.setIfInBounds_toArray, List.set_cons_zero, List.set_cons_succ]
              refine take_at (i := 9) (v := ?_) (some 59) rfl rfl (by kernel_rfl) (by kernel_rfl) (by kernel_rfl) (fun _ _ _ h => h) (Or.inl ⟨by rfl, ?_⟩) (by assumption) ?_
              rotate_left
              · (intro w hSw; (try dsimp only at hSw); go_simp; try with_reducible rfl)
              simp only [Act.put, List.setIfInBounds_toArray, List.set_cons_zero, List.set_cons_succ]
              refine take_at (i := 10) (v := ?_) (some 60) rfl rfl (by kernel_rfl) (by kernel_rfl) (by kernel_rfl) (fun _ _ _ h => h) (Or.inl ⟨by rfl, ?_⟩) (by assumption) ?_
              rotate_left
              · (intro w hSw; (try dsimp only at hSw); go_simp; try with_reducible rfl)
              simp only [Act.put, List.setIfInBounds_toArray, List.set_cons_zero, List.set_cons_succ]
              refine take_at (i := 11) (v := _) (some 61) rfl rfl (by kernel_rfl) (by kernel_rfl) (by kernel_rfl) (fun _ _ _ h => h) (yieldsIf_load_mid (by rfl) _ _ rfl _ _ rfl _ _ (fun w h => h.2.2.1) Try.underlying45 rfl (by kernel_rfl)) (by assumption) ?_
              simp only [Act.put, List.setIfInBounds_toArray, List.set_cons_zero, List.set_cons_succ]
              refine take_at (i := 14) (v := ?_) (some 64) rfl rfl (by kernel_rfl) (by kernel_rfl) (by kernel_rfl) (fun _ _ _ h => h) (Or.inl ⟨by rfl, ?_⟩) (by assumption) ?_
              rotate_left
              · (intro w hSw; (try dsimp only at hSw); go_simp; try with_reducible rfl)
              simp only [Act.put, List.setIfInBounds_toArray, List.set_cons_zero, List.set_cons_succ]
              refine take_at (i := 15) (v := ?_) (some 65) rfl rfl (by kernel_rfl) (by kernel_rfl) (by kernel_rfl) (fun _ _ _ h => h) (Or.inl ⟨by rfl, ?_⟩) (by assumption) ?_
              rotate_left
              · (intro w hSw; (try dsimp only at hSw); go_simp; try with_reducible rfl)
              simp only [Act.put, List.setIfInBounds_toArray, List.set_cons_zero, List.set_cons_succ]
              refine take_at (i := 16) (v := ?_) (some 66) rfl rfl (by kernel_rfl) (by kernel_rfl) (by kernel_rfl) (fun _ _ _ h => h) (Or.inl ⟨by rfl, ?_⟩) (by assumption) ?_
              rotate_left
              · (intro w hSw; (try dsimp only at hSw); go_simp; try with_reducible rfl)
              simp only [Act.put, List.setIfInBounds_toArray, List.set_cons_zero, List.set_cons_succ]
              refine take_at (i := 17) (v := ?_) (some 67) rfl rfl (by kernel_rfl) (by kernel_rfl) (by kernel_rfl) (fun _ _ _ h => h) (Or.inl ⟨by rfl, ?_⟩) (by assumption) ?_
              rotate_left
              · (intro w hSw; (try dsimp only at hSw); go_simp; try with_reducible rfl)
              simp only [Act.put, List.setIfInBounds_toArray, List.set_cons_zero, List.set_cons_succ]
              refine take_at (i := 18) (v := ?_) (some 68) rfl rfl (by kernel_rfl) (by kernel_rfl) (by kernel_rfl) (fun _ _ _ h => h) (Or.inl ⟨by rfl, ?_⟩) (by assumption) ?_
              rotate_left
              · (intro w hSw; (try dsimp only at hSw); go_simp; try with_reducible rfl)
              simp only [Act.put, List.setIfInBounds_toArray, List.set_cons_zero, List.set_cons_succ]
              refine take_at (i := 19) (v := ?_) (some 69) rfl rfl (by kernel_rfl) (by kernel_rfl) (by kernel_rfl) (fun _ _ _ h => h) (Or.inl ⟨by rfl, ?_⟩) (by assumption) ?_
              rotate_left
              · (intro w hSw; (try dsimp only at hSw); go_simp; try with_reducible rfl)
              simp only [Act.put, List.setIfInBounds_toArray, List.set_cons_zero, List.set_cons_succ]
              refine take_at (i := 20) (v := ?_) (some 70) rfl rfl (by kernel_rfl) (by kernel_rfl) (by kernel_rfl) (fun _ _ _ h => h) (Or.inl ⟨by rfl, ?_⟩) (by assumption) ?_
              rotate_left
              · (intro w hSw; (try dsimp only at hSw); go_simp; try with_reducible rfl)
              simp only [Act.put, List.setIfInBounds_toArray, List.set_cons_zero, List.set_cons_succ]
              refine take_at (i := 21) (v := ?_) (some 71) rfl rfl (by kernel_rfl) (by kernel_rfl) (by kernel_rfl) (fun _ _ _ h => h) (Or.inl ⟨by rfl, ?_⟩) (by assumption) ?_
              rotate_left
              · (intro w hSw; (try dsimp only at hSw); go_simp; try with_reducible rfl)
              simp only [Act.put, List.setIfInBounds_toArray, List.set_cons_zero, List.set_cons_succ]
              refine take_at (i := 22) (v := ?_) (some 72) rfl rfl (by kernel_rfl) (by kernel_rfl) (by kernel_rfl) (fun _ _ _ h => h) (Or.inl ⟨by rfl, ?_⟩) (by assumption) ?_
              rotate_left
              · (intro w hSw; (try dsimp only at hSw); go_simp; try with_reducible rfl)
              simp only [Act.put, List.setIfInBounds_toArray, List.set_cons_zero, List.set_cons_succ]
              refine take_at (i := 23) (v := ?_) (some 73) rfl rfl (by kernel_rfl) (by kernel_rfl) (by kernel_rfl) (fun _ _ _ h => h) (Or.inl ⟨by rfl, ?_⟩) (by assumption) ?_
              rotate_left
              · (intro w hSw; (try dsimp only at hSw); go_simp; try with_reducible rfl)
              simp only [Act.put, List.setIfInBounds_toArray, List.set_cons_zero, List.set_cons_succ]
              refine take_at (i := 24) (v := ?_) (some 74) rfl rfl (by kernel_rfl) (by kernel_rfl) (by kernel_rfl) (fun _ _ _ h => h) (Or.inl ⟨by rfl, ?_⟩) (by assumption) ?_
              rotate_left
              · (intro w hSw; (try dsimp only at hSw); go_simp; try with_reducible rfl)
              simp only [Act.put, List.setIfInBounds_toArray, List.set_cons_zero, List.set_cons_succ]
              refine take_at (i := 25) (v := _) (some 75) rfl rfl (by kernel_rfl) (by kernel_rfl) (by kernel_rfl) (fun _ _ _ h => h) (yieldsIf_load_mid (by rfl) _ _ rfl _ _ rfl _ _ (fun w h => h.2.2.2) Try.underlying45 rfl (by kernel_rfl)) (by assumption) ?_
              simp only [Act.put, List.setIfInBounds_toArray, List.set_cons_zero, List.set_cons_succ]
              refine call_at (i := 12) (some 62) 24 _ _ rfl rfl rfl (by rfl) (by kernel_rfl) #[.slice (lv j).a (lv j).rs.length (lv j).c, .agg x.cs.toArray] rfl Try.func24 (by kernel_rfl) (by kernel_rfl) ?_
              refine (nmeet_any (N := []) _ _ rfl (LK.out _ j IJ.out.2.2.1 (F3.out.below ED.out.2)) (by have := NF.out j IJ.out.2.2.1; omega) (OX.out _ ED.out.2)).mono ?_
              rintro e W6 ⟨a6, c6, rfl, _, _, _, hb⟩
              have E6 := hidIt (And.intro (ED.out.1.below hb) (ED.out.2.trans (hb.mono ED.out.2.size)))
              clear hb
              refine ⟨_, rfl, ⟨by rw [← A0]; exact CG.out _ i IJ.out.2.2.2.1 (F3.out.below E6.out.2), CG.out _ j IJ.out.2.2.1 (F3.out.below E6.out.2), XX.out _ E6.out.2, XY.out _ E6.out.2⟩, fun hHeld => ?_⟩
              simp only [Act.put, List.setIfInBounds_toArray, List.set_cons_zero, List.set_cons_succ]
              refine take_at (i := 13) (v := ?_) (some 63) rfl rfl (by kernel_rfl) (by kernel_rfl) (by kernel_rfl) (fun _ _ _ h => h) (Or.inl ⟨by rfl, ?_⟩) (by assumption) ?_
              rotate_left
              · (intro w hSw; (try dsimp only at hSw); go_simp; try with_reducible rfl)
              simp only [Act.put, List.setIfInBounds_toArray, List.set_cons_zero, List.set_cons_succ]
              refine call_at (i := 26) (some 76) 24 _ _ rfl rfl rfl (by rfl) (by kernel_rfl) #[.slice (lv j).a (lv j).rs.length (lv j).c, .agg y.cs.toArray] rfl Try.func24 (by kernel_rfl) (by kernel_rfl) ?_
              refine (nmeet_any (N := []) _ _ rfl (LK.out _ j IJ.out.2.2.1 (F3.out.below E6.out.2)) (by have := NF.out j IJ.out.2.2.1; omega) (OY.out _ E6.out.2)).mono ?_
              rintro e W7 ⟨a7, c7, rfl, _, _, _, hb⟩
              have E7 := hidIt (And.intro (E6.out.1.below hb) (E6.out.2.trans (hb.mono E6.out.2.size)))
              clear hb
              refine ⟨_, rfl, ⟨by rw [← A0]; exact CG.out _ i IJ.out.2.2.2.1 (F3.out.below E7.out.2), CG.out _ j IJ.out.2.2.1 (F3.out.below E7.out.2), XX.out _ E7.out.2, XY.out _ E7.out.2⟩, fun hHeld => ?_⟩
              simp only [Act.put, List.setIfInBounds_toArray, List.set_cons_zero, List.set_cons_succ]
              by_cases hc : (metL (lv j).rs x.r.f x.r.l).length < (metL (lv j).rs y.r.f y.r.l).length
              · have cc : (((metL (lv j).rs x.r.f x.r.l).length : Int) < ((metL (lv j).rs y.r.f y.r.l).length : Int)) = True := eq_true (by omega)
                have NB := hidIt (NXT.out true (decide_eq_true hc))
                clear hc
                refine take_at (i := 27) (v := ?_) (some 77) rfl rfl (by kernel_rfl) (by kernel_rfl) (by kernel_rfl) (fun _ _ _ h => h) (Or.inl ⟨by rfl, ?_⟩) (by assumption) ?_
                rotate_left
                · (intro w hSw; (try dsimp only at hSw); go_simp; try with_reducible rfl)
                simp only [Act.put, List.setIfInBounds_toArray, List.set_cons_zero, List.set_cons_succ]
                refine take_at (i := 28) (v := ?_) (some 78) rfl rfl (by kernel_rfl) (by kernel_rfl) (by kernel_rfl) (fun _ _ _ h => h) (Or.inl ⟨by rfl, ?_⟩) (by assumption) ?_
                rotate_left
                · (intro w hSw; (try dsimp only at hSw); go_simp; try with_reducible rfl)
                simp only [Act.put, List.setIfInBounds_toArray, List.set_cons_zero, List.set_cons_succ]
                refine wpAnyH_done (by kernel_rfl) ?_ _
                refine NoPanic.normal ?_
                clear hHeld cc
                go_wp2_with fail
                exact ⟨⟨k + 1, by omega, LT.out, rfl, by rw [NB.out]; rfl, E7⟩, GO.out⟩
              · have cc : (((metL (lv j).rs x.r.f x.r.l).length : Int) < ((metL (lv j).rs y.r.f y.r.l).length : Int)) = False := eq_false (by omega)
                have NB := hidIt (NXT.out false (decide_eq_false hc))
                clear hc
                refine take_at (i := 27) (v := ?_) (some 77) rfl rfl (by kernel_rfl) (by kernel_rfl) (by kernel_rfl) (fun _ _ _ h => h) (Or.inl ⟨by rfl, ?_⟩) (by assumption) ?_
                rotate_left
                · (intro w hSw; (try dsimp only at hSw); go_simp; try with_reducible rfl)
                simp only [Act.put, List.setIfInBounds_toArray, List.set_cons_zero, List.set_cons_succ]
                refine take_at (i := 28) (v := ?_) (some 78) rfl rfl (by kernel_rfl) (by kernel_rfl) (by kernel_rfl) (fun _ _ _ h => h) (Or.inl ⟨by rfl, ?_⟩) (by assumption) ?_
                rotate_left
                · (intro w hSw; (try dsimp only at hSw); go_simp; try with_reducible rfl)
                simp only [Act.put, List.setIfInBounds_toArray, List.set_cons_zero, List.set_cons_succ]
                refine wpAnyH_done (by kernel_rfl) ?_ _
                refine NoPanic.normal ?_
                clear hHeld cc
                go_wp2_with fail
                exact ⟨⟨k + 1, by omega, LT.out, rfl, by rw [NB.out, HMM.out]; rfl, E7⟩, GO.out⟩
            · obtain rfl : k = (lv i).rs.length := by omega
              have i0 : ((((lv i).rs.length : Nat) : Int) < (((lv i).rs.length : Nat) : Int)) = False := eq_false (by omega)
              obtain ⟨s1, s2⟩ := HK.out.1.cel 1 _ rfl
              have P5 := hidIt (HK.out.1.put 1 (.slice (some ⟨b, o + bst (keyM (lv i).rs (lv j).rs) (lv i).rs.length * 5, none⟩) 1 ((lv i).c - bst (keyM (lv i).rs (lv j).rs) (lv i).rs.length)))
              have BT : But W3.heap.size wr (wr.setCell ⟨W3.heap.size, 1, none⟩ (.slice (some ⟨b, o + bst (keyM (lv i).rs (lv j).rs) (lv i).rs.length * 5, none⟩) 1 ((lv i).c - bst (keyM (lv i).rs (lv j).rs) (lv i).rs.length))) := But.set wr 1 _
              have D5 : Hid (Below W3.heap.size W3 (wr.setCell ⟨W3.heap.size, 1, none⟩ (.slice (some ⟨b, o + bst (keyM (lv i).rs (lv j).rs) (lv i).rs.length * 5, none⟩) 1 ((lv i).c - bst (keyM (lv i).rs (lv j).rs) (lv i).rs.length)))) := hidIt (HK.out.2.trans (BT.below (Nat.le_refl _) HK.out.2.size))
              have pc := (P5.out.cel 1 _ rfl).1
              have SL := hidIt (slc_two wr b o (lv i).rs.length (lv i).c (bst (keyM (lv i).rs (lv j).rs) (lv i).rs.length) BL.out CAP.out)
              have w9 : IntKind.i64.wrap ((bst (keyM (lv i).rs (lv j).rs) (lv i).rs.length : Int) + 1) = (bst (keyM (lv i).rs (lv j).rs) (lv i).rs.length : Int) + 1 := by rw [IntKind.wrap_i64]; have := BL.out; have := NF.out i IJ.out.2.2.2.1; omega
              have w9' : wrap64 ((bst (keyM (lv i).rs (lv j).rs) (lv i).rs.length : Int) + 1) = (bst (keyM (lv i).rs (lv j).rs) (lv i).rs.length : Int) + 1 := by unfold wrap64; have := BL.out; have := NF.out i IJ.out.2.2.2.1; omega
              clear hk hlt h1k BT
              go_wp2_with (first
                | (refine wpList_run_w (by rfl) _ wr (slc_runb (.tmp 83) (.tmp 84) (.tmp 86) rfl _ _ (some ⟨b, o, none⟩) (lv i).rs.length (lv i).c _ _ rfl rfl rfl rfl (by kernel_rfl) SL.out) ?_)
                | (go_at_call 25; refine (nspan_any 1 ((lv i).c - bst (keyM (lv i).rs (lv j).rs) (lv i).rs.length) HM.out.1 (LF.out _ D5.out) HM.out.2.1 (by have := HM.out.2.2; omega)).mono ?_; rintro e W6 ⟨rfl, hb⟩; have D6 := hidIt (D5.out.trans (hb.mono D5.out.size)); have P6 := hidIt (P5.out.below hb); clear hb)
                | (refine wpList_alloc_rec rfl 45 rfl _ W6.heap.size rfl run_zero ?_; intro W7 R7 B7 z7; have D7 := hidIt (D6.out.trans (B7.mono D6.out.size)); have P7 := hidIt (P6.out.below B7); have S7 := hidIt R7; clear R7 B7 z7)
                | (refine wpList_store_rec rfl 45 (.tmp 10) (.tmp 91) rfl W6.heap.size 0 _ (spK [x1] ([x1]).length).cs rfl rfl S7.out rfl run_size YN.out ?_; intro W8 R8 B8; have S8 := hidIt R8; have P8 := hidIt (P7.out.but B8 (by have := P6.out.2.2; omega)); have D8 := hidIt (D7.out.trans (B8.below D6.out.size D7.out.size)); clear R8 B8; refine Held.out ?_))
              refine Held.mk ?_
              have SP8 : Hid (W3.heap.size < W6.heap.size) := hidIt P6.out.2.2
              obtain ⟨s, hs⟩ : ∃ s, s = W6.heap.size := ⟨_, rfl⟩
              rw [← hs] at S8 SP8
              simp only [← hs]
              clear hs P7 S7 D7 P6 D6 P5 D5 pc
              have P8d := hidIt (P8.out.below (Below.refl _ _).drew)
              have D8d : Hid (Below W3.heap.size W3 W8.drew) := hidIt D8.out.drew
              have S8d := hidIt (S8.out.below (Below.refl _ _).drew)
              go_wp2_with fail
              refine wp_region_noPanic ?_
              refine wp_region_held_drew (S := fun w' => w'.cell? ⟨g, j, none⟩ = some (.slice (lv j).a (lv j).rs.length (lv j).c) ∧ w'.rangeAt s 0 (spK [x1] ([x1]).length).cs) (by kernel_rfl) ?_ (fun hHeld => ?_)
              · exact ⟨CG.out _ j IJ.out.2.2.1 (F3.out.below D8d.out), S8d.out.1⟩
              refine take_at (i := 0) (v := ?_) (some 92) rfl rfl (by kernel_rfl) (by kernel_rfl) (by kernel_rfl) (fun _ _ _ h => h) (Or.inl ⟨by rfl, ?_⟩) (by assumption) ?_
              rotate_left
              · (intro w hSw; (try dsimp only at hSw); go_simp; try with_reducible rfl)
              simp only [Act.put, List.setIfInBounds_toArray, List.set_cons_zero, List.set_cons_succ]
              refine take_at (i := 1) (v := ?_) (some 93) rfl rfl (by kernel_rfl) (by kernel_rfl) (by kernel_rfl) (fun _ _ _ h => h) (Or.inl ⟨by rfl, ?_⟩) (by assumption) ?_
              rotate_left
              · (intro w hSw; (try dsimp only at hSw); go_simp; try with_reducible rfl)
              simp only [Act.put, List.setIfInBounds_toArray, List.set_cons_zero, List.set_cons_succ]
              refine take_at (i := 2) (v := ?_) (some 94) rfl rfl (by kernel_rfl) (by kernel_rfl) (by kernel_rfl) (fun _ _ _ h => h) (Or.inl ⟨by rfl, ?_⟩) (by assumption) ?_
              rotate_left
              · (intro w hSw; (try dsimp only at hSw); go_simp; try with_reducible rfl)
              simp only [Act.put, List.setIfInBounds_toArray, List.set_cons_zero, List.set_cons_succ]
              refine take_at (i := 3) (v := ?_) (some 95) rfl rfl (by kernel_rfl) (by kernel_rfl) (by kernel_rfl) (fun _ _ _ h => h) (Or.inl ⟨by rfl, ?_⟩) (by assumption) ?_
              rotate_left
              · (intro w hSw; (try dsimp only at hSw); go_simp; try with_reducible rfl)
              simp only [Act.put, List.setIfInBounds_toArray, List.set_cons_zero, List.set_cons_succ]
              refine take_at (i := 4) (v := ?_) (some 96) rfl rfl (by kernel_rfl) (by kernel_rfl) (by kernel_rfl) (fun _ _ _ h => h) (Or.inl ⟨by rfl, ?_⟩) (by assumption) ?_
              rotate_left
              · (intro w hSw; (try dsimp only at hSw); go_simp; try with_reducible rfl)
              simp only [Act.put, List.setIfInBounds_toArray, List.set_cons_zero, List.set_cons_succ]
              refine take_at (i := 5) (v := _) (some 97) rfl rfl (by kernel_rfl) (by kernel_rfl) (by kernel_rfl) (fun _ _ _ h => h) (yieldsIf_load_mid (by rfl) _ _ rfl _ _ rfl _ _ (fun w h => h.2) Try.underlying45 rfl (by kernel_rfl)) (by assumption) ?_
              simp only [Act.put, List.setIfInBounds_toArray, List.set_cons_zero, List.set_cons_succ]
              refine call_at (i := 6) (some 98) 24 _ _ rfl rfl rfl (by rfl) (by kernel_rfl) #[.slice (lv j).a (lv j).rs.length (lv j).c, .agg (spK [x1] ([x1]).length).cs.toArray] rfl Try.func24 (by kernel_rfl) (by kernel_rfl) ?_
              refine (nmeet_any (N := []) _ _ rfl (LK.out _ j IJ.out.2.2.1 (F3.out.below D8d.out)) (by have := NF.out j IJ.out.2.2.1; omega) (YO.out _ D8d.out)).mono ?_
              rintro e W9 ⟨a2, c2, rfl, O2, N2, _, B9⟩
              have P9 := hidIt (P8d.out.below B9)
              have S9 := hidIt (S8d.out.below B9)
              have D9 := hidIt (D8d.out.trans (B9.mono D8d.out.size))
              have O9 := hidIt (And.intro O2 N2)
              clear O2 N2 B9
              refine ⟨_, rfl, ⟨CG.out _ j IJ.out.2.2.1 (F3.out.below D9.out), S9.out.1⟩, fun hHeld => ?_⟩
              simp only [Act.put, List.setIfInBounds_toArray, List.set_cons_zero, List.set_cons_succ]
              refine take_at (i := 7) (v := ?_) (some 99) rfl rfl (by kernel_rfl) (by kernel_rfl) (by kernel_rfl) (fun _ _ _ h => h) (Or.inl ⟨by rfl, ?_⟩) (by assumption) ?_
              rotate_left
              · (intro w hSw; (try dsimp only at hSw); go_simp; try with_reducible rfl)
              simp only [Act.put, List.setIfInBounds_toArray, List.set_cons_zero, List.set_cons_succ]
              obtain ⟨ol, hol⟩ : ∃ ol, ol = metL (lv j).rs (spK [x1] ([x1]).length).r.f (spK [x1] ([x1]).length).r.l := ⟨_, rfl⟩
              rw [← hol] at O9
              simp only [← hol]
              have b9 := P9.out.cel 2 _ rfl
              have hr := store_v 23 (by kernel_rfl) (v := .slice a2 ol.length c2) rfl rfl b9.1 b9.2
              have BT : But W3.heap.size W9 (W9.setCell ⟨W3.heap.size, 2, none⟩ (.slice a2 ol.length c2)) := But.set W9 2 _
              have NB : ∀ b, (Value.slice a2 ol.length c2).ownBlock = some b → W3.heap.size < b := fun b hb => by
                have h := O9.out.2 b hb
                have := P8d.out.2.2
                omega
              have NX0 : Hid (NcI W3 (W9.setCell ⟨W3.heap.size, 2, none⟩ (.slice a2 ol.length c2)) i s (.slice (some ⟨b, o + bst (keyM (lv i).rs (lv j).rs) (lv i).rs.length * 5, none⟩) 1 ((lv i).c - bst (keyM (lv i).rs (lv j).rs) (lv i).rs.length)) (.slice a2 ol.length c2) false (spK [x1] ([x1]).length) a2 ol) := hidIt ⟨P9.out.put 2 (.slice a2 ol.length c2), S9.out.but BT (by have := SP8.out; omega), SP8.out, O9.out.1.off (Off.set (bs := [W3.heap.size]) _ _ _ (by simp)) (fun b hb q => by have := NB b hb; have := List.mem_singleton.1 q; omega), NB, D9.out.trans (BT.below (Nat.le_refl _) D9.out.size)⟩
              have HOL := hidIt hol
              clear b9 BT NB hol
              generalize W9.setCell ⟨W3.heap.size, 2, none⟩ (.slice a2 ol.length c2) = W10 at *
              refine mute_at (i := 8) none rfl rfl (by rfl) (by kernel_rfl) W10 (put_mute 23 (.tmp 99) (.tmp 98) rfl _ _ rfl rfl hr) ⟨CG.out _ j IJ.out.2.2.1 (F3.out.below NX0.out.below), NX0.out.sp.1⟩ (fun hHeld => ?_)
              simp only [Act.put]
              clear hr
              refine wpAnyH_done (by kernel_rfl) ?_ _
              refine NoPanic.normal ?_
              clear hHeld P8 P8d D8 D8d S8 S8d P9 S9 D9 O9 SP8
              have MET : Hid (∀ k, k < 4 → metL (lv k).rs (spK [x1] ([x1]).length).r.f (spK [x1] ([x1]).length).r.l = metL (lvR ls k) (froF ls i) (froT ls i)) := hidIt (fun k hk => by
                unfold froF froT
                rw [HOS.out, G3.out k hk]
                rfl)
              have INT : Hid (ol = intL ls i) := hidIt (by rw [HOL.out, MET.out j IJ.out.2.2.1, IJ.out.1]; rfl)
              obtain ⟨y, hy⟩ : ∃ y, y = spK [x1] ([x1]).length := ⟨_, rfl⟩
              rw [← hy] at NX0 YO MET
              simp only [← hy]
              have OLS : Hid (∀ x ∈ ol, x ∈ (lv j).rs) := hidIt (fun x hx => by rw [HOL.out] at hx; exact (List.mem_filter.1 hx).1)
              obtain ⟨cl, cf⟩ := NX0.out.rc.cel 3 _ rfl
              have NX1 : Hid (NcI W3 (W10.setCell ⟨W3.heap.size, 3, none⟩ (.bool true)) i s (.slice (some ⟨b, o + bst (keyM (lv i).rs (lv j).rs) (lv i).rs.length * 5, none⟩) 1 ((lv i).c - bst (keyM (lv i).rs (lv j).rs) (lv i).rs.length)) (.slice a2 ol.length c2) (drpB ls i (i + 2)) y a2 ol) := hidIt (by rw [drpB_start]; exact NX0.out.put true)
              clear NX0 hy HOL
              go_wp2_with fail
              clear cl cf
              go_loopw [11] (fun iv wr => ∃ k : Nat, i + 2 ≤ k ∧ k ≤ 4 ∧ iv = .int .i64 (k : Int) ∧ Hid (NcI W3 wr i s (.slice (some ⟨b, o + bst (keyM (lv i).rs (lv j).rs) (lv i).rs.length * 5, none⟩) 1 ((lv i).c - bst (keyM (lv i).rs (lv j).rs) (lv i).rs.length)) (.slice a2 ol.length c2) (drpB ls i k) y a2 ol)) (fun iv _ => 4 - (RowKit.intOf iv).toNat)
              case atStart => exact ⟨i + 2, Nat.le_refl _, by have := IJ.out.2.1; omega, rfl, NX1⟩
              case round =>
                clear NX1 v2 v2'
                obtain ⟨k, hk2, hkm, rfl, HJ⟩ := hrel
                rename World => wr
                by_cases hk4 : k < 4
                · obtain ⟨_, _, i2, i3, i4⟩ := tb_ar k 4 hk4 (by omega)
                  have i0 : ((k : Int) < 4) = True := eq_true (by omega)
                  have i0' : (k < 4) = True := eq_true hk4
                  have GO := hidIt i4
                  clear i4 K4 K4' J4 J4'
                  have ED := hidIt (HJ.out.up (Below.refl _ _).drew)
                  have DX : Hid (drpB ls i (k + 1) = (drpB ls i k && (metL (lv k).rs y.r.f y.r.l).isEmpty)) := hidIt (by rw [drpB_next ls i k hk2, MET.out k hk4])
                  cases hd : drpB ls i k with
                  | true =>
                    rw [hd] at ED
                    by_cases hq : (metL (lv k).rs y.r.f y.r.l).length = 0
                    · have C9 : Hid ((((metL (lv k).rs y.r.f y.r.l).length : Int) == 0) = true) := hidIt (by rw [zero_of, decide_eq_true hq])
                      have DN : Hid (drpB ls i (k + 1) = true) := hidIt (by rw [DX.out, hd, List.eq_nil_of_length_eq_zero hq]; rfl)
                      clear hq hd DX HJ
                      have cl := (ED.out.rc.cel 3 _ rfl).1
                      go_wp2_with fail
                      refine wp_region_noPanic ?_
                      refine wp_region_held_drew (S := fun w' => w'.cell? ⟨g, k, none⟩ = some (.slice (lv k).a (lv k).rs.length (lv k).c) ∧ w'.rangeAt s 0 y.cs) (by kernel_rfl) ?_ (fun hHeld => ?_)
                      · exact ⟨CG.out _ k hk4 (F3.out.below ED.out.below), ED.out.sp.1⟩
                      refine take_at (i := 0) (v := ?_) (some 109) rfl rfl (by kernel_rfl) (by kernel_rfl) (by kernel_rfl) (fun _ _ _ h => h) (Or.inl ⟨by rfl, ?_⟩) (by assumption) ?_
                      rotate_left
                      · (intro w hSw; (try dsimp only at hSw); go_simp; try with_reducible rfl)
                      simp only [Act.put, List.setIfInBounds_toArray, List.set_cons_zero, List.set_cons_succ]
                      refine step_at (i := 1) (some 110) rfl rfl (by rfl) (by kernel_rfl) (.bool true) wr.drew (by go_simp) hHeld (fun hHeld => ?_)
                      clear cl
                      simp only [Act.put, List.setIfInBounds_toArray, List.set_cons_zero, List.set_cons_succ]
                      refine take_at (i := 2) (v := ?_) (some 111) rfl rfl (by kernel_rfl) (by kernel_rfl) (by kernel_rfl) (fun _ _ _ h => h) (Or.inl ⟨by rfl, ?_⟩) (by assumption) ?_
                      rotate_left
                      · (intro w hSw; (try dsimp only at hSw); go_simp; try with_reducible rfl)
                      simp only [Act.put, List.setIfInBounds_toArray, List.set_cons_zero, List.set_cons_succ]
                      refine take_at (i := 3) (v := ?_) (some 112) rfl rfl (by kernel_rfl) (by kernel_rfl) (by kernel_rfl) (fun _ _ _ h => h) (Or.inl ⟨by rfl, ?_⟩) (by assumption) ?_
                      rotate_left
                      · (intro w hSw; (try dsimp only at hSw); go_simp; try with_reducible rfl)
                      simp only [Act.put, List.setIfInBounds_toArray, List.set_cons_zero, List.set_cons_succ]
                      refine take_at (i := 4) (v := ?_) (some 113) rfl rfl (by kernel_rfl) (by kernel_rfl) (by kernel_rfl) (fun _ _ _ h => h) (Or.inl ⟨by rfl, ?_⟩) (by assumption) ?_
                      rotate_left
                      · (intro w hSw; (try dsimp only at hSw); go_simp; try with_reducible rfl)
                      simp only [Act.put, List.setIfInBounds_toArray, List.set_cons_zero, List.set_cons_succ]
                      refine take_at (i := 5) (v := ?_) (some 114) rfl rfl (by kernel_rfl) (by kernel_rfl) (by kernel_rfl) (fun _ _ _ h => h) (Or.inl ⟨by rfl, ?_⟩) (by assumption) ?_
                      rotate_left
                      · (intro w hSw; (try dsimp only at hSw); go_simp; try with_reducible rfl)
                      simp only [Act.put, List.setIfInBounds_toArray, List.set_cons_zero, List.set_cons_succ]
                      refine take_at (i := 6) (v := ?_) (some 115) rfl rfl (by kernel_rfl) (by kernel_rfl) (by kernel_rfl) (fun _ _ _ h => h) (Or.inl ⟨by rfl, ?_⟩) (by assumption) ?_
                      rotate_left
                      · (intro w hSw; (try dsimp only at hSw); go_simp; try with_reducible rfl)
                      simp only [Act.put, List.setIfInBounds_toArray, List.set_cons_zero, List.set_cons_succ]
                      refine take_at (i := 7) (v := _) (some 116) rfl rfl (by kernel_rfl) (by kernel_rfl) (by kernel_rfl) (fun _ _ _ h => h) (yieldsIf_load_mid (by rfl) _ _ rfl _ _ rfl _ _ (fun w h => h.2) Try.underlying45 rfl (by kernel_rfl)) (by assumption) ?_
                      simp only [Act.put, List.setIfInBounds_toArray, List.set_cons_zero, List.set_cons_succ]
                      refine call_at (i := 8) (some 117) 24 _ _ rfl rfl rfl (by rfl) (by kernel_rfl) #[.slice (lv k).a (lv k).rs.length (lv k).c, .agg y.cs.toArray] rfl Try.func24 (by kernel_rfl) (by kernel_rfl) ?_
                      refine (nmeet_any (N := []) _ _ rfl (LK.out _ k hk4 (F3.out.below ED.out.below)) (by have := NF.out k hk4; omega) (YO.out _ ED.out.below)).mono ?_
                      rintro e W5 ⟨a5, c5, rfl, _, _, _, hb⟩
                      have D5 := hidIt (ED.out.up hb)
                      clear hb
                      refine ⟨_, rfl, ⟨CG.out _ k hk4 (F3.out.below D5.out.below), D5.out.sp.1⟩, fun hHeld => ?_⟩
                      simp only [Act.put, List.setIfInBounds_toArray, List.set_cons_zero, List.set_cons_succ]
                      have c9 : (((metL (lv k).rs y.r.f y.r.l).length : Int) == 0) = true := C9.out
                      refine take_at (i := 9) (v := ?_) (some 118) rfl rfl (by kernel_rfl) (by kernel_rfl) (by kernel_rfl) (fun _ _ _ h => h) (Or.inl ⟨by rfl, ?_⟩) (by assumption) ?_
                      rotate_left
                      · (intro w hSw; (try dsimp only at hSw); go_simp; try with_reducible rfl)
                      simp only [Act.put, List.setIfInBounds_toArray, List.set_cons_zero, List.set_cons_succ]
                      refine take_at (i := 10) (v := ?_) (some 119) rfl rfl (by kernel_rfl) (by kernel_rfl) (by kernel_rfl) (fun _ _ _ h => h) (Or.inl ⟨by rfl, ?_⟩) (by assumption) ?_
                      rotate_left
                      · (intro w hSw; (try dsimp only at hSw); go_simp; try with_reducible rfl)
                      simp only [Act.put, List.setIfInBounds_toArray, List.set_cons_zero, List.set_cons_succ]
                      refine take_at (i := 11) (v := ?_) (some 120) rfl rfl (by kernel_rfl) (by kernel_rfl) (by kernel_rfl) (fun _ _ _ h => h) (Or.inl ⟨by rfl, ?_⟩) (by assumption) ?_
                      rotate_left
                      · (intro w hSw; (try dsimp only at hSw); go_simp; try with_reducible rfl)
                      simp only [Act.put, List.setIfInBounds_toArray, List.set_cons_zero, List.set_cons_succ]
                      refine take_at (i := 12) (v := ?_) (some 121) rfl rfl (by kernel_rfl) (by kernel_rfl) (by kernel_rfl) (fun _ _ _ h => h) (Or.inl ⟨by rfl, ?_⟩) (by assumption) ?_
                      rotate_left
                      · (intro w hSw; (try dsimp only at hSw); go_simp; try with_reducible rfl)
                      simp only [Act.put, List.setIfInBounds_toArray, List.set_cons_zero, List.set_cons_succ]
                      clear c9
                      have b5 := D5.out.rc.cel 3 _ rfl
                      have hr := store_v 4 (by kernel_rfl) (v := .bool true) rfl rfl b5.1 b5.2
                      have NX : Hid (NcI W3 (W5.setCell ⟨W3.heap.size, 3, none⟩ (.bool true)) i s (.slice (some ⟨b, o + bst (keyM (lv i).rs (lv j).rs) (lv i).rs.length * 5, none⟩) 1 ((lv i).c - bst (keyM (lv i).rs (lv j).rs) (lv i).rs.length)) (.slice a2 ol.length c2) (drpB ls i (k + 1)) y a2 ol) := hidIt (by rw [DN.out]; exact D5.out.put true)
                      clear b5
                      generalize W5.setCell ⟨W3.heap.size, 3, none⟩ (.bool true) = W6 at *
                      refine mute_at (i := 13) none rfl rfl (by rfl) (by kernel_rfl) W6 (put_mute 4 (.tmp 121) (.tmp 120) rfl _ _ rfl rfl hr) ⟨CG.out _ k hk4 (F3.out.below NX.out.below), NX.out.sp.1⟩ (fun hHeld => ?_)
                      simp only [Act.put]
                      clear hr
                      refine wpAnyH_done (by kernel_rfl) ?_ _
                      refine NoPanic.normal ?_
                      clear hHeld
                      go_wp2_with fail
                      exact ⟨⟨k + 1, by omega, by omega, rfl, NX⟩, GO.out⟩
                    · have C9 : Hid ((((metL (lv k).rs y.r.f y.r.l).length : Int) == 0) = false) := hidIt (by rw [zero_of, decide_eq_false hq])
                      have DN : Hid (drpB ls i (k + 1) = false) := hidIt (by
                        rw [DX.out, hd]
                        cases qe : metL (lv k).rs y.r.f y.r.l with
                        | nil => rw [qe] at hq; exact absurd rfl hq
                        | cons _ _ => rfl)
                      clear hq hd DX HJ
                      have cl := (ED.out.rc.cel 3 _ rfl).1
                      go_wp2_with fail
                      refine wp_region_noPanic ?_
                      refine wp_region_held_drew (S := fun w' => w'.cell? ⟨g, k, none⟩ = some (.slice (lv k).a (lv k).rs.length (lv k).c) ∧ w'.rangeAt s 0 y.cs) (by kernel_rfl) ?_ (fun hHeld => ?_)
                      · exact ⟨CG.out _ k hk4 (F3.out.below ED.out.below), ED.out.sp.1⟩
                      refine take_at (i := 0) (v := ?_) (some 109) rfl rfl (by kernel_rfl) (by kernel_rfl) (by kernel_rfl) (fun _ _ _ h => h) (Or.inl ⟨by rfl, ?_⟩) (by assumption) ?_
                      rotate_left
                      · (intro w hSw; (try dsimp only at hSw); go_simp; try with_reducible rfl)
                      simp only [Act.put, List.setIfInBounds_toArray, List.set_cons_zero, List.set_cons_succ]
                      refine step_at (i := 1) (some 110) rfl rfl (by rfl) (by kernel_rfl) (.bool true) wr.drew (by go_simp) hHeld (fun hHeld => ?_)
                      clear cl
                      simp only [Act.put, List.setIfInBounds_toArray, List.set_cons_zero, List.set_cons_succ]
                      refine take_at (i := 2) (v := ?_) (some 111) rfl rfl (by kernel_rfl) (by kernel_rfl) (by kernel_rfl) (fun _ _ _ h => h) (Or.inl ⟨by rfl, ?_⟩) (by assumption) ?_
                      rotate_left
                      · (intro w hSw; (try dsimp only at hSw); go_simp; try with_reducible rfl)
                      simp only [Act.put, List.setIfInBounds_toArray, List.set_cons_zero, List.set_cons_succ]
                      refine take_at (i := 3) (v := ?_) (some 112) rfl rfl (by kernel_rfl) (by kernel_rfl) (by kernel_rfl) (fun _ _ _ h => h) (Or.inl ⟨by rfl, ?_⟩) (by assumption) ?_
                      rotate_left
                      · (intro w hSw; (try dsimp only at hSw); go_simp; try with_reducible rfl)
                      simp only [Act.put, List.setIfInBounds_toArray, List.set_cons_zero, List.set_cons_succ]
                      refine take_at (i := 4) (v := ?_) (some 113) rfl rfl (by kernel_rfl) (by kernel_rfl) (by kernel_rfl) (fun _ _ _ h => h) (Or.inl ⟨by rfl, ?_⟩) (by assumption) ?_
                      rotate_left
                      · (intro w hSw; (try dsimp only at hSw); go_simp; try with_reducible rfl)
                      simp only [Act.put, List.setIfInBounds_toArray, List.set_cons_zero, List.set_cons_succ]
                      refine take_at (i := 5) (v := ?_) (some 114) rfl rfl (by kernel_rfl) (by kernel_rfl) (by kernel_rfl) (fun _ _ _ h => h) (Or.inl ⟨by rfl, ?_⟩) (by assumption) ?_
                      rotate_left
                      · (intro w hSw; (try dsimp only at hSw); go_simp; try with_reducible rfl)
                      simp only [Act.put, List.setIfInBounds_toArray, List.set_cons_zero, List.set_cons_succ]
                      refine take_at (i := 6) (v := ?_) (some 115) rfl rfl (by kernel_rfl) (by kernel_rfl) (by kernel_rfl) (fun _ _ _ h => h) (Or.inl ⟨by rfl, ?_⟩) (by assumption) ?_
                      rotate_left
                      · (intro w hSw; (try dsimp only at hSw); go_simp; try with_reducible rfl)
                      simp only [Act.put, List.setIfInBounds_toArray, List.set_cons_zero, List.set_cons_succ]
                      refine take_at (i := 7) (v := _) (some 116) rfl rfl (by kernel_rfl) (by kernel_rfl) (by kernel_rfl) (fun _ _ _ h => h) (yieldsIf_load_mid (by rfl) _ _ rfl _ _ rfl _ _ (fun w h => h.2) Try.underlying45 rfl (by kernel_rfl)) (by assumption) ?_
                      simp only [Act.put, List.setIfInBounds_toArray, List.set_cons_zero, List.set_cons_succ]
                      refine call_at (i := 8) (some 117) 24 _ _ rfl rfl rfl (by rfl) (by kernel_rfl) #[.slice (lv k).a (lv k).rs.length (lv k).c, .agg y.cs.toArray] rfl Try.func24 (by kernel_rfl) (by kernel_rfl) ?_
                      refine (nmeet_any (N := []) _ _ rfl (LK.out _ k hk4 (F3.out.below ED.out.below)) (by have := NF.out k hk4; omega) (YO.out _ ED.out.below)).mono ?_
                      rintro e W5 ⟨a5, c5, rfl, _, _, _, hb⟩
                      have D5 := hidIt (ED.out.up hb)
                      clear hb
                      refine ⟨_, rfl, ⟨CG.out _ k hk4 (F3.out.below D5.out.below), D5.out.sp.1⟩, fun hHeld => ?_⟩
                      simp only [Act.put, List.setIfInBounds_toArray, List.set_cons_zero, List.set_cons_succ]
                      have c9 : (((metL (lv k).rs y.r.f y.r.l).length : Int) == 0) = false := C9.out
                      refine take_at (i := 9) (v := ?_) (some 118) rfl rfl (by kernel_rfl) (by kernel_rfl) (by kernel_rfl) (fun _ _ _ h => h) (Or.inl ⟨by rfl, ?_⟩) (by assumption) ?_
                      rotate_left
                      · (intro w hSw; (try dsimp only at hSw); go_simp; try with_reducible rfl)
                      simp only [Act.put, List.setIfInBounds_toArray, List.set_cons_zero, List.set_cons_succ]
                      refine take_at (i := 10) (v := ?_) (some 119) rfl rfl (by kernel_rfl) (by kernel_rfl) (by kernel_rfl) (fun _ _ _ h => h) (Or.inl ⟨by rfl, ?_⟩) (by assumption) ?_
                      rotate_left
                      · (intro w hSw; (try dsimp only at hSw); go_simp; try with_reducible rfl)
                      simp only [Act.put, List.setIfInBounds_toArray, List.set_cons_zero, List.set_cons_succ]
                      refine take_at (i := 11) (v := ?_) (some 120) rfl rfl (by kernel_rfl) (by kernel_rfl) (by kernel_rfl) (fun _ _ _ h => h) (Or.inl ⟨by rfl, ?_⟩) (by assumption) ?_
                      rotate_left
                      · (intro w hSw; (try dsimp only at hSw); go_simp; try with_reducible rfl)
                      simp only [Act.put, List.setIfInBounds_toArray, List.set_cons_zero, List.set_cons_succ]
                      refine take_at (i := 12) (v := ?_) (some 121) rfl rfl (by kernel_rfl) (by kernel_rfl) (by kernel_rfl) (fun _ _ _ h => h) (Or.inl ⟨by rfl, ?_⟩) (by assumption) ?_
                      rotate_left
                      · (intro w hSw; (try dsimp only at hSw); go_simp; try with_reducible rfl)
                      simp only [Act.put, List.setIfInBounds_toArray, List.set_cons_zero, List.set_cons_succ]
                      clear c9
                      have b5 := D5.out.rc.cel 3 _ rfl
                      have hr := store_v 4 (by kernel_rfl) (v := .bool false) rfl rfl b5.1 b5.2
                      have NX : Hid (NcI W3 (W5.setCell ⟨W3.heap.size, 3, none⟩ (.bool false)) i s (.slice (some ⟨b, o + bst (keyM (lv i).rs (lv j).rs) (lv i).rs.length * 5, none⟩) 1 ((lv i).c - bst (keyM (lv i).rs (lv j).rs) (lv i).rs.length)) (.slice a2 ol.length c2) (drpB ls i (k + 1)) y a2 ol) := hidIt (by rw [DN.out]; exact D5.out.put false)
                      clear b5
                      generalize W5.setCell ⟨W3.heap.size, 3, none⟩ (.bool false) = W6 at *
                      refine mute_at (i := 13) none rfl rfl (by rfl) (by kernel_rfl) W6 (put_mute 4 (.tmp 121) (.tmp 120) rfl _ _ rfl rfl hr) ⟨CG.out _ k hk4 (F3.out.below NX.out.below), NX.out.sp.1⟩ (fun hHeld => ?_)
                      simp only [Act.put]
                      clear hr
                      refine wpAnyH_done (by kernel_rfl) ?_ _
                      refine NoPanic.normal ?_
                      clear hHeld
                      go_wp2_with fail
                      exact ⟨⟨k + 1, by omega, by omega, rfl, NX⟩, GO.out⟩
                  | false =>
                    rw [hd] at ED
                    have DN : Hid (drpB ls i (k + 1) = false) := hidIt (by rw [DX.out, hd]; rfl)
                    clear hd DX HJ
                    have cl := (ED.out.rc.cel 3 _ rfl).1
                    go_wp2_with fail
                    refine wp_region_noPanic ?_
                    refine wp_region_held_drew (S := fun w' => True) (by kernel_rfl) ?_ (fun hHeld => ?_)
                    · trivial
                    refine take_at (i := 0) (v := ?_) (some 109) rfl rfl (by kernel_rfl) (by kernel_rfl) (by kernel_rfl) (fun _ _ _ h => h) (Or.inl ⟨by rfl, ?_⟩) (by assumption) ?_
                    rotate_left
                    · (intro w hSw; (try dsimp only at hSw); go_simp; try with_reducible rfl)
                    simp only [Act.put, List.setIfInBounds_toArray, List.set_cons_zero, List.set_cons_succ]
                    refine step_at (i := 1) (some 110) rfl rfl (by rfl) (by kernel_rfl) (.bool false) wr.drew (by go_simp) trivial (fun hHeld => ?_)
                    clear cl
                    simp only [Act.put, List.setIfInBounds_toArray, List.set_cons_zero, List.set_cons_succ]
                    refine take_at (i := 2) (v := ?_) (some 111) rfl rfl (by kernel_rfl) (by kernel_rfl) (by kernel_rfl) (fun _ _ _ h => h) (Or.inl ⟨by rfl, ?_⟩) (by assumption) ?_
                    rotate_left
                    · (intro w hSw; (try dsimp only at hSw); go_simp; try with_reducible rfl)
                    simp only [Act.put, List.setIfInBounds_toArray, List.set_cons_zero, List.set_cons_succ]
                    refine take_at (i := 3) (v := undef) (some 112) rfl rfl (by kernel_rfl) (by kernel_rfl) (by kernel_rfl) (fun _ _ _ h => h) (Or.inr ⟨by rfl, rfl⟩) (by assumption) ?_
                    simp only [Act.put, List.setIfInBounds_toArray, List.set_cons_zero, List.set_cons_succ]
                    refine take_at (i := 4) (v := undef) (some 113) rfl rfl (by kernel_rfl) (by kernel_rfl) (by kernel_rfl) (fun _ _ _ h => h) (Or.inr ⟨by rfl, rfl⟩) (by assumption) ?_
                    simp only [Act.put, List.setIfInBounds_toArray, List.set_cons_zero, List.set_cons_succ]
                    refine take_at (i := 5) (v := undef) (some 114) rfl rfl (by kernel_rfl) (by kernel_rfl) (by kernel_rfl) (fun _ _ _ h => h) (Or.inr ⟨by rfl, rfl⟩) (by assumption) ?_
                    simp only [Act.put, List.setIfInBounds_toArray, List.set_cons_zero, List.set_cons_succ]
                    refine take_at (i := 6) (v := undef) (some 115) rfl rfl (by kernel_rfl) (by kernel_rfl) (by kernel_rfl) (fun _ _ _ h => h) (Or.inr ⟨by rfl, rfl⟩) (by assumption) ?_
                    simp only [Act.put, List.setIfInBounds_toArray, List.set_cons_zero, List.set_cons_succ]
                    refine take_at (i := 7) (v := undef) (some 116) rfl rfl (by kernel_rfl) (by kernel_rfl) (by kernel_rfl) (fun _ _ _ h => h) (Or.inr ⟨by rfl, rfl⟩) (by assumption) ?_
                    simp only [Act.put, List.setIfInBounds_toArray, List.set_cons_zero, List.set_cons_succ]
                    refine take_at (i := 8) (v := undef) (some 117) rfl rfl (by kernel_rfl) (by kernel_rfl) (by kernel_rfl) (fun _ _ _ h => h) (Or.inr ⟨by rfl, rfl⟩) (by assumption) ?_
                    simp only [Act.put, List.setIfInBounds_toArray, List.set_cons_zero, List.set_cons_succ]
                    refine take_at (i := 9) (v := undef) (some 118) rfl rfl (by kernel_rfl) (by kernel_rfl) (by kernel_rfl) (fun _ _ _ h => h) (Or.inr ⟨by rfl, rfl⟩) (by assumption) ?_
                    simp only [Act.put, List.setIfInBounds_toArray, List.set_cons_zero, List.set_cons_succ]
                    refine take_at (i := 10) (v := undef) (some 119) rfl rfl (by kernel_rfl) (by kernel_rfl) (by kernel_rfl) (fun _ _ _ h => h) (Or.inr ⟨by rfl, rfl⟩) (by assumption) ?_
                    simp only [Act.put, List.setIfInBounds_toArray, List.set_cons_zero, List.set_cons_succ]
                    refine take_at (i := 11) (v := ?_) (some 120) rfl rfl (by kernel_rfl) (by kernel_rfl) (by kernel_rfl) (fun _ _ _ h => h) (Or.inl ⟨by rfl, ?_⟩) (by assumption) ?_
                    rotate_left
                    · (intro w hSw; (try dsimp only at hSw); go_simp; try with_reducible rfl)
                    simp only [Act.put, List.setIfInBounds_toArray, List.set_cons_zero, List.set_cons_succ]
                    refine take_at (i := 12) (v := ?_) (some 121) rfl rfl (by kernel_rfl) (by kernel_rfl) (by kernel_rfl) (fun _ _ _ h => h) (Or.inl ⟨by rfl, ?_⟩) (by assumption) ?_
                    rotate_left
                    · (intro w hSw; (try dsimp only at hSw); go_simp; try with_reducible rfl)
                    simp only [Act.put, List.setIfInBounds_toArray, List.set_cons_zero, List.set_cons_succ]
                    have b5 := ED.out.rc.cel 3 _ rfl
                    have hr := store_v 4 (by kernel_rfl) (v := .bool false) rfl rfl b5.1 b5.2
                    have NX : Hid (NcI W3 (wr.drew.setCell ⟨W3.heap.size, 3, none⟩ (.bool false)) i s (.slice (some ⟨b, o + bst (keyM (lv i).rs (lv j).rs) (lv i).rs.length * 5, none⟩) 1 ((lv i).c - bst (keyM (lv i).rs (lv j).rs) (lv i).rs.length)) (.slice a2 ol.length c2) (drpB ls i (k + 1)) y a2 ol) := hidIt (by rw [DN.out]; exact ED.out.put false)
                    clear b5
                    generalize wr.drew.setCell ⟨W3.heap.size, 3, none⟩ (.bool false) = W6 at *
                    refine mute_at (i := 13) none rfl rfl (by rfl) (by kernel_rfl) W6 (put_mute 4 (.tmp 121) (.tmp 120) rfl _ _ rfl rfl hr) trivial (fun hHeld => ?_)
                    simp only [Act.put]
                    clear hr
                    refine wpAnyH_done (by kernel_rfl) ?_ _
                    refine NoPanic.normal ?_
                    clear hHeld
                    go_wp2_with fail
                    exact ⟨⟨k + 1, by omega, by omega, rfl, NX⟩, GO.out⟩
                · obtain rfl : k = 4 := by omega
                  have i0 : (((4 : Nat) : Int) < 4) = False := eq_false (by omega)
                  have PW := hidIt (P3.out.below HJ.out.below)
                  clear hk2 hkm hk4 K4 K4' J4 J4'
                  go_wp2_with (first
                    | (refine wpList_load_rec rfl 25 (.tmp 7) rfl W3.heap.size 0 (plC (i : Int) (.slice (some ⟨b, o + bst (keyM (lv i).rs (lv j).rs) (lv i).rs.length * 5, none⟩) 1 ((lv i).c - bst (keyM (lv i).rs (lv j).rs) (lv i).rs.length)) (.slice a2 ol.length c2) (drpB ls i 4)) rfl _ Try.underlying25 rfl plan_size HJ.out.rc ?_)
                    | (refine wpList_store_rec rfl 25 (.tmp 4) (.tmp 122) rfl W.heap.size 0 _ (plC (i : Int) (.slice (some ⟨b, o + bst (keyM (lv i).rs (lv j).rs) (lv i).rs.length * 5, none⟩) 1 ((lv i).c - bst (keyM (lv i).rs (lv j).rs) (lv i).rs.length)) (.slice a2 ol.length c2) (drpB ls i 4)) rfl rfl PW.out rfl plan_size (plC_one _ _ rfl rfl) ?_; intro W6 R6 B6; have RR := hidIt R6; have B6' := hidIt B6; clear R6 B6))
                  have FIN : Hid (NcP W ls (i : Int) (.returned (.tuple #[.agg (plC (i : Int) (.slice (some ⟨b, o + bst (keyM (lv i).rs (lv j).rs) (lv i).rs.length * 5, none⟩) 1 ((lv i).c - bst (keyM (lv i).rs (lv j).rs) (lv i).rs.length)) (.slice a2 ol.length c2) (drpB ls i 4)).toArray, .int .i64 0])) W6) := hidIt (by
                    have lt : W.heap.size < W3.heap.size := P3.out.2.2
                    have bw : Below W.heap.size W W6 := (E3.out.trans (HJ.out.below.mono E3.out.size)).trans (B6'.out.below (Nat.le_refl _) (Nat.le_trans E3.out.size HJ.out.below.size))
                    have of : Off [W.heap.size] wr W6 := Off.but B6'.out (by simp)
                    have lo := HJ.out.own.off of (fun b hb q => by have := HJ.out.new b hb; have := List.mem_singleton.1 q; omega)
                    have lf := (LFO.out.below HJ.out.below).off of
                    exact .inr ⟨YES.out, (some ⟨b, o + bst (keyM (lv i).rs (lv j).rs) (lv i).rs.length * 5, none⟩), ((lv i).c - bst (keyM (lv i).rs (lv j).rs) (lv i).rs.length), [x1], a2, c2, ol, by rw [Int.toNat_natCast] <;> rfl, lf.ok.1, lo.ls (fun x hx => (((YR.out j IJ.out.2.2.1 x (OLS.out x hx)).below HJ.out.below).off of).mono (fun b hb => by cases hb)), by rw [Int.toNat_natCast, HOS.out], by rw [Int.toNat_natCast, INT.out], bw⟩)
                  have hl := RR.out.run_load 25 _ Try.underlying25 rfl plan_size
                  exact bodyPost_ret (v := .tuple #[.agg (plC (i : Int) (.slice (some ⟨b, o + bst (keyM (lv i).rs (lv j).rs) (lv i).rs.length * 5, none⟩) 1 ((lv i).c - bst (keyM (lv i).rs (lv j).rs) (lv i).rs.length)) (.slice a2 ol.length c2) (drpB ls i 4)).toArray, .int .i64 0]) (by simp [results, Try.results8, asAddr, hl]) rfl FIN.out
    · by_cases h0 : z < 0
      · have q0 : (z < 0) = True := eq_true h0
        have NO : Hid (choB ls z = false) := hidIt (by unfold choB; rw [decide_eq_false (p := 0 ≤ z) (by omega)]; simp)
        clear hm hz h0
        go_enter Try.func8, Try.ntmps8
        go_wp2_with (first
          | (have _q := A1; clear A1 _q; refine wpList_alloc_rec rfl 25 rfl _ W.heap.size rfl zero_plan ?_; intro W1 R1 B1 z1; have E1 := hidIt B1; have P1 := hidIt R1; clear R1 B1 z1)
          | (go_at_call 22; refine (ncheck_any L C HL.out.1 (HL.out.2.below E1.out) (fun x hx => by have := HS.out x hx; omega)).mono ?_; rw [MI.out]; rintro e W2 ⟨rfl, hb⟩; have E2 := hidIt (E1.out.trans (hb.mono E1.out.size)); have P2 := hidIt (P1.out.below hb); clear hb)
          | (refine wpList_store_rec rfl 25 (.tmp 4) (.tmp 23) rfl W.heap.size 0 _ (plC 0 (.slice none 0 0) (.slice none 0 0) false) rfl rfl P2.out rfl plan_size (plC_one _ _ rfl rfl) ?_; intro W3 R3 B3; have RR := hidIt R3; have E3 := hidIt (E2.out.trans (B3.below (Nat.le_refl _) E2.out.size)); clear R3 B3))
        have hl := RR.out.run_load 25 _ Try.underlying25 rfl plan_size
        exact bodyPost_ret (v := .tuple #[.agg (plC 0 (.slice none 0 0) (.slice none 0 0) false).toArray, .int .i64 2]) (by simp [results, Try.results8, asAddr, hl]) rfl (.inl ⟨NO.out, rfl, E3.out⟩)
      · have q0 : (z < 0) = False := eq_false h0
        have q2 : (2 < z) = True := eq_true (by omega)
        have NO : Hid (choB ls z = false) := hidIt (by unfold choB; rw [decide_eq_false (p := z < 3) (by omega)]; simp)
        clear hm hz h0
        go_enter Try.func8, Try.ntmps8
        go_wp2_with (first
          | (have _q := A1; clear A1 _q; refine wpList_alloc_rec rfl 25 rfl _ W.heap.size rfl zero_plan ?_; intro W1 R1 B1 z1; have E1 := hidIt B1; have P1 := hidIt R1; clear R1 B1 z1)
          | (go_at_call 22; refine (ncheck_any L C HL.out.1 (HL.out.2.below E1.out) (fun x hx => by have := HS.out x hx; omega)).mono ?_; rw [MI.out]; rintro e W2 ⟨rfl, hb⟩; have E2 := hidIt (E1.out.trans (hb.mono E1.out.size)); have P2 := hidIt (P1.out.below hb); clear hb)
          | (refine wpList_store_rec rfl 25 (.tmp 4) (.tmp 23) rfl W.heap.size 0 _ (plC 0 (.slice none 0 0) (.slice none 0 0) false) rfl rfl P2.out rfl plan_size (plC_one _ _ rfl rfl) ?_; intro W3 R3 B3; have RR := hidIt R3; have E3 := hidIt (E2.out.trans (B3.below (Nat.le_refl _) E2.out.size)); clear R3 B3))
        have hl := RR.out.run_load 25 _ Try.underlying25 rfl plan_size
        exact bodyPost_ret (v := .tuple #[.agg (plC 0 (.slice none 0 0) (.slice none 0 0) false).toArray, .int .i64 2]) (by simp [results, Try.results8, asAddr, hl]) rfl (.inl ⟨NO.out, rfl, E3.out⟩)
  · have MI : Hid (mayI (rns ls) = 2) := hidIt (by unfold mayI; rw [if_neg hm])
    have NO : Hid (choB ls z = false) := hidIt (by unfold choB; rw [show mayB (rns ls) = false by simpa using hm]; simp)
    clear hm
    go_enter Try.func8, Try.ntmps8
    go_wp2_with (first
      | (have _q := A1; clear A1 _q; refine wpList_alloc_rec rfl 25 rfl _ W.heap.size rfl zero_plan ?_; intro W1 R1 B1 z1; have E1 := hidIt B1; have P1 := hidIt R1; clear R1 B1 z1)
      | (go_at_call 22; refine (ncheck_any L C HL.out.1 (HL.out.2.below E1.out) (fun x hx => by have := HS.out x hx; omega)).mono ?_; rw [MI.out]; rintro e W2 ⟨rfl, hb⟩; have E2 := hidIt (E1.out.trans (hb.mono E1.out.size)); have P2 := hidIt (P1.out.below hb); clear hb)
      | (refine wpList_store_rec rfl 25 (.tmp 4) (.tmp 23) rfl W.heap.size 0 _ (plC 0 (.slice none 0 0) (.slice none 0 0) false) rfl rfl P2.out rfl plan_size (plC_one _ _ rfl rfl) ?_; intro W3 R3 B3; have RR := hidIt R3; have E3 := hidIt (E2.out.trans (B3.below (Nat.le_refl _) E2.out.size)); clear R3 B3))
    have hl := RR.out.run_load 25 _ Try.underlying25 rfl plan_size
    exact bodyPost_ret (v := .tuple #[.agg (plC 0 (.slice none 0 0) (.slice none 0 0) false).toArray, .int .i64 2]) (by simp [results, Try.results8, asAddr, hl]) rfl (.inl ⟨NO.out, rfl, E3.out⟩)
end Go.Proofs.Ytelcijfcgflagaa
