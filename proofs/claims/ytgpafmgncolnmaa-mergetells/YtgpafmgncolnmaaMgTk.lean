/-
  Walks, not a claim by itself: the first pair is taken from a heap. By the verifier.
-/
import Derived.Test.YtgpafmgncolnmaaMgSk
namespace Go.Proofs.Ytgpafmgncolnmaa
open Go.RowKit
/-- V, but for one list. -/
def updV (V : Nat → LV) (s : Nat) (x : LV) (t : Nat) : LV := if t = s then x else V t
theorem updV_same (V : Nat → LV) (s : Nat) (x : LV) : updV V s x s = x := if_pos rfl
theorem updV_other (V : Nat → LV) (s : Nat) (x : LV) {t : Nat} (h : t ≠ s) : updV V s x t = V t := if_neg h
/-- What take leaves. -/
def TkPost (W0 W : World) (hb pb : Nat) (V : Nat → LV) (hs : List Nat) (s : Nat) (e : Ending) (w' : World) : Prop := ∃ x r, (V s).ps = x :: r ∧ e = .returned (.agg x.cs.toArray) ∧ PVOk W0 [] x ∧ ∃ hs', HpF (kys (updV V s (V s).tl)) hs' 0 ∧ HS W0 w' hb pb (updV V s (V s).tl) hs' ∧ hs'.Nodup ∧ (∀ t, t ∈ hs' ↔ t ∈ hs ∧ (t = s → r ≠ [])) ∧ Off [hb, pb] W w'
theorem plc_tl (V : Nat → LV) (s : Nat) (q : List Nat) (x : LV) (h : s ∉ q) : laidL (plc V (s :: q)) 0 [x.v] = plc (updV V s x) (s :: q) := by
  have e : plc V q = plc (updV V s x) q := plc_congr _ _ _ fun t ht => (updV_other V s x (fun e => h (e ▸ ht))).symm
  show [x.v] ++ (Value.int .i64 (s : Int) :: plc V q) = [(updV V s x s).v, Value.int .i64 (s : Int)] ++ plc (updV V s x) q
  rw [updV_same, ← e]
  rfl
/-- The list goes on. -/
theorem HS.cut1 {W0 W W2 : World} {hb pb s : Nat} {V : Nat → LV} {q : List Nat} {x y : PV} {r : List PV} (h : HS W0 W hb pb V (s :: q)) (hn : (s :: q).Nodup) (hx : (V s).ps = x :: y :: r) (hF : HpF (kys V) (s :: q) 0) (hR : Rec19 W2 pb 0 (plc (updV V s (V s).tl) (s :: q))) (hO : Off [pb] W W2) :
    HS W0 W2 hb pb (updV V s (V s).tl) (s :: q) ∧ HpF (kys (updV V s (V s).tl)) (s :: q) 1 := by
  obtain ⟨ne, ⟨a, cap, bx, hc, ha⟩, rw⟩ := h.hp
  have hlp := h.lp
  have hsz := h.old.size
  refine ⟨⟨h.old.trans (hO.below (fun b hb => by simp at hb; omega) hsz), ⟨ne, ⟨a, cap, bx.off hO (by simp; omega), hc, ha⟩, fun _ => hR⟩, h.lh, h.lp, fun t ht => ?_, h.few⟩, fun i c u t hi hc' e1 e2 => ?_⟩
  · by_cases e : t = s
    · subst e
      rw [updV_same]
      exact ⟨(h.oks t (by simp)).1.tail hx, y, r, by simp [LV.tl, hx]⟩
    · rw [updV_other _ _ _ e]
      exact h.oks t ht
  · have hk : ∀ i u, 1 ≤ i → (s :: q)[i]? = some u → u ≠ s := fun i u hi e => by
      cases i with
      | zero => omega
      | succ i =>
        rw [List.getElem?_cons_succ] at e
        exact fun z => (List.nodup_cons.1 hn).1 (z ▸ List.mem_of_getElem? e)
    have := hF i c u t (by omega) hc' e1 e2
    unfold kys at this ⊢
    rw [updV_other _ _ _ (hk i u hi e1), updV_other _ _ _ (hk c t (by omega) e2)]
    exact this
/-- The list is done: the last place comes up. -/
theorem HS.cut2 {W0 W W2 : World} {hb pb s l n cap : Nat} {V : Nat → LV} {q : List Nat} (h : HS W0 W hb pb V (s :: q)) (hn : (s :: q).Nodup) (hl : (s :: q)[n]? = some l) (hq : q.length = n) (hF : HpF (kys V) (s :: q) 0) (hR : Rec19 W2 pb 0 (plc (updV V s (V s).tl) ((s :: q).set 0 l))) (hB : Rec19 W2 hb 0 [.slice (some ⟨pb, 0, none⟩) n cap]) (hcap : n ≤ cap) (hO : Off [hb, pb] W W2) :
    HS W0 W2 hb pb (updV V s (V s).tl) (((s :: q).set 0 l).take n) ∧ HpF (kys (updV V s (V s).tl)) (((s :: q).set 0 l).take n) 1 ∧ (((s :: q).set 0 l).take n).Nodup ∧ (∀ t, t ∈ ((s :: q).set 0 l).take n ↔ t ∈ s :: q ∧ (t = s → False)) := by
  have hlp := h.lp
  have hlh := h.lh
  have hsz := h.old.size
  have hnot := (List.nodup_cons.1 hn).1
  have hqn := (List.nodup_cons.1 hn).2
  have len : (((s :: q).set 0 l).take n).length = n := by simp; omega
  have perm : (((s :: q).set 0 l).take n).Perm q := by
    rcases List.eq_nil_or_concat q with rfl | ⟨m, z, rfl⟩
    · simp at hq; subst hq; simp
    · rw [List.concat_eq_append, List.length_append, List.length_singleton] at hq
      subst hq
      rw [List.concat_eq_append] at *
      have : l = z := by
        rw [List.getElem?_cons_succ, List.getElem?_append_right (Nat.le_refl _)] at hl
        simpa using hl.symm
      subst this
      simp only [List.set_cons_zero, List.take_succ_cons]
      rw [List.take_left]
      exact (List.perm_append_singleton l m).symm
  have mem : ∀ t, t ∈ ((s :: q).set 0 l).take n ↔ t ∈ s :: q ∧ (t = s → False) := fun t => by
    rw [perm.mem_iff]
    refine ⟨fun ht => ⟨List.mem_cons_of_mem _ ht, fun e => hnot (e ▸ ht)⟩, fun ⟨h1, h2⟩ => (List.mem_cons.1 h1).resolve_left h2⟩
  have few := h.few
  refine ⟨⟨h.old.trans (hO.below (fun b hb => by simp at hb; omega) hsz), ⟨h.hp.ne, ⟨_, cap, by rw [len]; exact hB, by rw [len]; exact hcap, fun _ => rfl⟩, fun _ => by rw [← plc_take]; exact hR.pre _⟩, h.lh, h.lp, fun t ht => ?_, ?_⟩, fun i c u t hi hc' e1 e2 => ?_, perm.nodup_iff.2 hqn, mem⟩
  · have := (mem t).1 ht
    rw [updV_other _ _ _ this.2]
    exact h.oks t this.1
  · rw [len]; simp at few; omega
  · have m1 := (mem u).1 (List.mem_of_getElem? e1)
    have m2 := (mem t).1 (List.mem_of_getElem? e2)
    have g : ∀ i u, 1 ≤ i → (((s :: q).set 0 l).take n)[i]? = some u → (s :: q)[i]? = some u := fun i u hi e => by
      rw [List.getElem?_take] at e
      split at e
      · rw [List.getElem?_set, if_neg (by omega)] at e; exact e
      · cases e
    have := hF i c u t (by omega) hc' (g i u hi e1) (g c t (by omega) e2)
    unfold kys at this ⊢
    rw [updV_other _ _ _ m1.2, updV_other _ _ _ m2.2]
    exact this
theorem Off.tk {hb pb : Nat} {W V U : World} (h : Off [hb, pb] W V) (k : But W.heap.size V U) : Off [hb, pb] W U :=
  ⟨k.os.trans h.os, k.tape.trans h.tape, k.output.trans h.output, Nat.le_trans h.size k.size, fun i hi hn => (k.block i (Nat.lt_of_lt_of_le hi h.size) (by omega)).trans (h.block i hi hn)⟩
theorem plc_range {W : World} {pb : Nat} {V : Nat → LV} {hs : List Nat} (h : Rec19 W pb 0 (plc V hs)) {i t : Nat} (hi : hs[i]? = some t) : W.rangeAt pb (i * 2) (plV (V t) t) := fun j v hj => by
  have := h.1 (i * 2 + j) v (by rw [plc_at V hs i j t hi (List.getElem?_eq_some_iff.1 hj).1]; exact hj)
  rwa [Nat.zero_add] at this
theorem tk_ar (n : Nat) (hn : n ≤ 32) : IntKind.i64.wrap (((n + 1 : Nat) : Int) - 1) = (n : Int) ∧ wrap64 (((n + 1 : Nat) : Int) - 1) = (n : Int) ∧ ((n + 1 : Nat) : Int) - 1 = (n : Int) ∧ IntKind.i64.wrap (n : Int) = (n : Int) ∧ wrap64 (n : Int) = (n : Int) := ⟨by rw [IntKind.wrap_i64]; omega, by unfold wrap64; omega, by omega, by rw [IntKind.wrap_i64]; omega, by unfold wrap64; omega⟩
set_option maxRecDepth 100000 in
set_option maxHeartbeats 2000000 in
theorem take_any {W0 W : World} {hb pb s : Nat} {V : Nat → LV} {q : List Nat} (h : HS W0 W hb pb V (s :: q)) (hn : (s :: q).Nodup) (hF : HpF (kys V) (s :: q) 0) : Calls Try.prog 47 #[.pointer (some ⟨hb, 0, none⟩)] W (TkPost W0 W hb pb V (s :: q) s) := by
  obtain ⟨l0, x, r, ex⟩ := h.oks s (by simp)
  have l1 := l0.below h.old
  obtain ⟨b, off, ha, hr, hbl, hp⟩ := l1.front ex
  have PX : Hid (PVOk W0 [] x) := hidIt (by obtain ⟨_, _, _, _, _, hp⟩ := l0.front ex; exact hp)
  have XC : Hid (W.rangeAt b off x.cs ∧ b < W.heap.size) := hidIt ⟨hr, hbl⟩
  obtain ⟨a, cap, bx, hcap, ha0⟩ := h.hp.bx
  obtain rfl := ha0 (by simp)
  have RP := hidIt (h.hp.rw (by simp))
  have RB := hidIt bx
  have HH := hidIt (And.intro h (And.intro hn hF))
  have NE : Hid (hb < W.heap.size ∧ pb < W.heap.size ∧ pb ≠ hb) := hidIt ⟨bx.2.2, RP.out.2.2, h.hp.ne⟩
  have CAP := hidIt hcap
  have TL := hidIt (LV.tl_run ex ha)
  obtain ⟨q2, c2, e2⟩ : ∃ q2 c2, (V s).tl.v = .slice q2 r.length c2 := ⟨(V s).tl.a, (V s).tl.c, by simp [LV.v, LV.tl, ex]⟩
  have EV : Hid ((V s).v = .slice (some ⟨b, off, none⟩) (r.length + 1) (V s).c) := hidIt (by unfold LV.v; rw [ha, ex]; rfl)
  have EQ := hidIt e2
  have n1 : (0 : Int) < ((q.length + 1 : Nat) : Int) := by omega
  have n2 : (0 : Int) < ((r.length + 1 : Nat) : Int) := by omega
  obtain ⟨m, hm⟩ : ∃ m, m = r.length + 1 := ⟨_, rfl⟩
  obtain ⟨n, hnn⟩ : ∃ n, n = q.length + 1 := ⟨_, rfl⟩
  have hsl : ∀ w, (Instr.slice 27 (.slice (some ⟨b, off, none⟩) m (V s).c) (some (.int .i64 1)) none none).run Try.prog w = .ok (.slice q2 r.length c2) w := fun w => by rw [hm, ← EV.out, ← EQ.out]; exact TL.out w
  have c0 : W.cell? ⟨hb, 0, none⟩ = some (.slice (some ⟨pb, 0, none⟩) n cap) := by rw [hnn]; exact (bx.cel 0 _ rfl).1
  have c1 : W.cell? ⟨pb, 0, none⟩ = some (.slice (some ⟨b, off, none⟩) m (V s).c) := by rw [hm, ← EV.out]; exact (RP.out.cel 0 _ rfl).1
  rw [← hnn] at n1
  rw [← hm] at n2
  have MN := hidIt (And.intro hm hnn)
  obtain ⟨cc, hcc⟩ : ∃ cc, cc = (V s).c := ⟨_, rfl⟩
  rw [← hcc] at hsl c1
  clear l0 l1 ha hr hbl hp bx ha0 h hn hF hcap TL e2 hcc EV hm hnn
  have CC := hidIt (And.intro c0 c1)
  have NS := hidIt (List.nodup_cons.1 HH.out.2.1).1
  have hP : ∀ v ∈ x.cs, v.oneCell' = true := fun v hv => (PX.out.one) v hv
  cases r with
  | cons y r' =>
    have e0 : ((((y :: r').length : Nat) : Int) == 0) = false := by simp; omega
    obtain ⟨rl, hrl⟩ : ∃ rl, rl = (y :: r').length := ⟨_, rfl⟩
    rw [← hrl] at e0 hsl EQ
    have EQ' := hidIt EQ.out
    have EX := hidIt ex
    clear EQ hrl c0 c1 ex
    go_enter Try.func47, Try.ntmps47
    go_wp2_with (first
      | (refine wpList_alloc_rec rfl 32 rfl _ W.heap.size rfl pair_zero ?_; intro W1 R1 B1 z1; have E1 := hidIt B1; have A1 := hidIt R1; have Z1 := hidIt z1; have c0 := (B1.cell (p := ⟨hb, 0, none⟩) NE.out.1).trans CC.out.1; have c1 := (B1.cell (p := ⟨pb, 0, none⟩) NE.out.2.1).trans CC.out.2; have x1 : W1.rangeAt b off x.cs := (fun j v hj => (B1.cell (p := ⟨b, off + j, none⟩) XC.out.2).trans (XC.out.1 j v hj)); clear R1 B1 z1)
      | (refine wpList_load_mid rfl 32 (.tmp 15) rfl b off rfl x.cs _ x1 Try.underlying32 rfl pair_size ?_; clear x1)
      | (refine wpList_alloc_rec rfl 32 rfl _ (W.heap.size + 1) Z1.out pair_zero ?_; intro W2 R2 B2 z2; have E2 := hidIt (E1.out.trans (B2.mono (by omega))); have A2 := hidIt (A1.out.below (by rw [Z1.out]; exact B2)); have P2 := hidIt R2; clear R2 B2 z2)
      | (refine wpList_store_rec rfl 32 (.tmp 4) (.tmp 16) rfl (W.heap.size + 1) 0 _ x.cs rfl rfl P2.out rfl pair_size hP ?_; intro W3 R3 B3; have E3 := hidIt (E2.out.trans (B3.below (by omega) E2.out.size)); have A3 := hidIt (A2.out.but B3 (by omega)); have P3 := hidIt R3; have c0 := (E3.out.cell (p := ⟨hb, 0, none⟩) NE.out.1).trans CC.out.1; have c1 := (E3.out.cell (p := ⟨pb, 0, none⟩) NE.out.2.1).trans CC.out.2; have RP3 := hidIt (RP.out.below E3.out); have RB3 := hidIt (RB.out.below E3.out); clear R3 B3)
      | (refine wpList_put_rec rfl 27 (.tmp 24) (.tmp 22) rfl pb 0 (plc V (s :: q)) [.slice q2 rl c2] (plc (updV V s (V s).tl) (s :: q)) (.slice q2 rl c2) rfl rfl rfl RP3.out (by rw [plc_len]; simp; omega) (by rw [← EQ'.out]; exact plc_tl V s q _ NS.out) (by kernel_rfl) (by simp [Value.oneCell']) ?_; intro W4 R4 B4 z4; have RP4 := hidIt R4; have RB4 := hidIt (RB3.out.but B4 (fun e => NE.out.2.2 e.symm)); have E4 := hidIt ((Off.of (bs := [pb]) E3.out).trans (Off.but B4 (by simp))); have A4 := hidIt (A3.out.but B4 (by have := NE.out.2.1; omega)); have P4 := hidIt (P3.out.but B4 (by have := NE.out.2.1; omega)); have c0 : W4.cell? ⟨hb, 0, none⟩ = some (.slice (some ⟨pb, 0, none⟩) n cap) := (by rw [MN.out.2]; exact (RB4.out.cel 0 _ rfl).1); have c1 : W4.cell? ⟨pb, 0, none⟩ = some (.slice q2 rl c2) := (by rw [← EQ'.out, ← updV_same V s (V s).tl]; exact (R4.cel 0 _ rfl).1); clear R4 B4 z4)
      | (have _q := RP4; go_at_call 53; have HK := hidIt (HH.out.1.cut1 HH.out.2.1 EX.out HH.out.2.2 RP4.out E4.out); have A7 := A4; have P7 := P4; refine (sink_any (k := 0) HK.out.1 (Nat.zero_le _) HK.out.2).mono ?_; rintro e W8 ⟨⟨v, rfl⟩, hs', hpm, hF8, hS8, hO8⟩; have A8 := hidIt (A7.out.off hO8 (by have := NE.out.2.1; simp; omega)); have P8 := hidIt (P7.out.off hO8 (by have := NE.out.2.1; simp; omega)); have S8 := hidIt (And.intro hpm (And.intro hF8 (And.intro hS8 hO8))); clear hpm hF8 hS8 hO8)
      | (refine wpList_load_rec rfl 32 (.tmp 4) rfl (W.heap.size + 1) 0 x.cs rfl _ Try.underlying32 rfl pair_size P8.out ?_)
      | (refine wpList_store_rec rfl 32 (.tmp 2) (.tmp 57) rfl W.heap.size 0 _ x.cs rfl rfl A8.out rfl pair_size hP ?_; intro W9 R9 B9; have A9 := hidIt R9; have B9' := hidIt B9; clear R9 B9))
    have FIN : TkPost W0 W hb pb V (s :: q) s (.returned (.agg x.cs.toArray)) W9 := by
      obtain ⟨hpm, hF8, hS8, hO8⟩ := S8.out
      have lt := NE.out
      have O9 : Off [W.heap.size] W8 W9 := Off.but B9'.out (by simp)
      refine ⟨x, y :: r', EX.out, rfl, PX.out, hs', hF8, ?_, hpm.nodup_iff.2 HH.out.2.1, fun t => ?_, ?_⟩
      · have lo := HH.out.1.old.size
        exact ⟨hS8.old.trans (O9.below (fun b hb => by simp at hb; omega) hS8.old.size), hS8.hp.off O9 (by simp; omega) (by simp; omega), hS8.lh, hS8.lp, hS8.oks, hS8.few⟩
      · rw [hpm.mem_iff]
        simp
      · exact Off.tk ((E4.out.trans hO8).mono (by intro b hb; simp at hb; simp [hb])) B9'.out
    have hl := A9.out.run_load 32 _ Try.underlying32 rfl pair_size
    simp only [Act.put, List.setIfInBounds_toArray, List.set_cons_zero, List.set_cons_succ]
    exact bodyPost_ret (v := .agg x.cs.toArray) (by simp [results, Try.results47, asAddr, hl]) rfl FIN
  | nil =>
    obtain ⟨rl, hrl⟩ : ∃ rl, rl = ([] : List PV).length := ⟨_, rfl⟩
    have e0 : ((rl : Int) == 0) = true := by rw [hrl]; rfl
    rw [← hrl] at hsl EQ
    have EQ' := hidIt EQ.out
    have EX := hidIt ex
    obtain ⟨m0, hm0⟩ : ∃ m0, n = m0 + 1 := ⟨_, MN.out.2⟩
    have QL : Hid (q.length = m0) := hidIt (by have := MN.out.2; omega)
    have l32 := HH.out.1.few
    obtain ⟨w1, w2, w3, w4, w5⟩ := tk_ar m0 (by simp at l32; have := QL.out; omega)
    rw [← hm0] at w1 w2 w3
    obtain ⟨l, hl⟩ : ∃ l, (s :: q)[m0]? = some l := ⟨_, List.getElem?_eq_getElem (by simp; have := QL.out; omega)⟩
    have LL := hidIt hl
    have n3 : (m0 : Int) < (n : Int) := by omega
    have n4 : (0 : Int) ≤ (m0 : Int) := by omega
    have hsh : ∀ w, (Instr.slice 73 (.slice (some ⟨pb, 0, none⟩) n cap) none (some (.int .i64 (m0 : Int))) none).run Try.prog w = .ok (.slice (some ⟨pb, 0, none⟩) m0 cap) w := run_slice_high 73 72 (by kernel_rfl) 2 place_size pb 0 n cap m0 (by have := CAP.out; simp at this; have := QL.out; omega)
    have M0 := hidIt hm0
    clear EQ hrl c0 c1 ex l32 hl hm0
    go_enter Try.func47, Try.ntmps47
    go_wp2_with (first
      | (refine wpList_alloc_rec rfl 32 rfl _ W.heap.size rfl pair_zero ?_; intro W1 R1 B1 z1; have E1 := hidIt B1; have A1 := hidIt R1; have Z1 := hidIt z1; have c0 := (B1.cell (p := ⟨hb, 0, none⟩) NE.out.1).trans CC.out.1; have c1 := (B1.cell (p := ⟨pb, 0, none⟩) NE.out.2.1).trans CC.out.2; have x1 : W1.rangeAt b off x.cs := (fun j v hj => (B1.cell (p := ⟨b, off + j, none⟩) XC.out.2).trans (XC.out.1 j v hj)); clear R1 B1 z1)
      | (refine wpList_load_mid rfl 32 (.tmp 15) rfl b off rfl x.cs _ x1 Try.underlying32 rfl pair_size ?_; clear x1)
      | (refine wpList_alloc_rec rfl 32 rfl _ (W.heap.size + 1) Z1.out pair_zero ?_; intro W2 R2 B2 z2; have E2 := hidIt (E1.out.trans (B2.mono (by omega))); have A2 := hidIt (A1.out.below (by rw [Z1.out]; exact B2)); have P2 := hidIt R2; clear R2 B2 z2)
      | (refine wpList_store_rec rfl 32 (.tmp 4) (.tmp 16) rfl (W.heap.size + 1) 0 _ x.cs rfl rfl P2.out rfl pair_size hP ?_; intro W3 R3 B3; have E3 := hidIt (E2.out.trans (B3.below (by omega) E2.out.size)); have A3 := hidIt (A2.out.but B3 (by omega)); have P3 := hidIt R3; have c0 := (E3.out.cell (p := ⟨hb, 0, none⟩) NE.out.1).trans CC.out.1; have c1 := (E3.out.cell (p := ⟨pb, 0, none⟩) NE.out.2.1).trans CC.out.2; have RP3 := hidIt (RP.out.below E3.out); have RB3 := hidIt (RB.out.below E3.out); clear R3 B3)
      | (refine wpList_put_rec rfl 27 (.tmp 24) (.tmp 22) rfl pb 0 (plc V (s :: q)) [.slice q2 rl c2] (plc (updV V s (V s).tl) (s :: q)) (.slice q2 rl c2) rfl rfl rfl RP3.out (by rw [plc_len]; simp; omega) (by rw [← EQ'.out]; exact plc_tl V s q _ NS.out) (by kernel_rfl) (by simp [Value.oneCell']) ?_; intro W4 R4 B4 z4; have RP4 := hidIt R4; have RB4 := hidIt (RB3.out.but B4 (fun e => NE.out.2.2 e.symm)); have E4 := hidIt ((Off.of (bs := [pb]) E3.out).trans (Off.but B4 (by simp))); have A4 := hidIt (A3.out.but B4 (by have := NE.out.2.1; omega)); have P4 := hidIt (P3.out.but B4 (by have := NE.out.2.1; omega)); have c0 : W4.cell? ⟨hb, 0, none⟩ = some (.slice (some ⟨pb, 0, none⟩) n cap) := (by rw [MN.out.2]; exact (RB4.out.cel 0 _ rfl).1); have c1 : W4.cell? ⟨pb, 0, none⟩ = some (.slice q2 rl c2) := (by rw [← EQ'.out, ← updV_same V s (V s).tl]; exact (R4.cel 0 _ rfl).1); clear R4 B4 z4)
      | (have _q := RP4; refine wpList_load_mid rfl 72 (.tmp 43) rfl pb (m0 * 2) rfl (plV (updV V s (V s).tl l) l) _ (plc_range RP4.out LL.out) Try.underlying72 rfl (by kernel_rfl) ?_)
      | (have _q := RP4; refine wpList_put_rec rfl 72 (.tmp 45) (.tmp 44) rfl pb 0 (plc (updV V s (V s).tl) (s :: q)) (plV (updV V s (V s).tl l) l) (plc (updV V s (V s).tl) ((s :: q).set 0 l)) _ rfl rfl rfl RP4.out (by rw [plc_len]; simp [plV]; omega) (plc_set _ _ 0 l (by simp)) (by kernel_rfl) (plV_one _ _) ?_; intro W5 R5 B5 z5; have RP5 := hidIt R5; have RB5 := hidIt (RB4.out.but B5 (fun e => NE.out.2.2 e.symm)); have E5 := hidIt (E4.out.trans (Off.but B5 (by simp))); have A5 := hidIt (A4.out.but B5 (by have := NE.out.2.1; omega)); have P5 := hidIt (P4.out.but B5 (by have := NE.out.2.1; omega)); clear c0 c1; have c0 : W5.cell? ⟨hb, 0, none⟩ = some (.slice (some ⟨pb, 0, none⟩) n cap) := (by rw [MN.out.2]; exact (RB5.out.cel 0 _ rfl).1); clear R5 B5 z5 RP4)
      | (refine wpList_put_rec rfl 73 (.tmp 54) (.tmp 52) rfl hb 0 _ [.slice (some ⟨pb, 0, none⟩) m0 cap] [.slice (some ⟨pb, 0, none⟩) m0 cap] _ rfl rfl rfl RB5.out (by simp) rfl (by kernel_rfl) (by simp [Value.oneCell']) ?_; intro W6 R6 B6 z6; have RP6 := hidIt (RP5.out.but B6 NE.out.2.2); have RB6 := hidIt R6; have E6 := hidIt ((E5.out.mono (cs := [hb, pb]) (by intro b hb; simp at hb; simp [hb])).trans (Off.but B6 (by simp))); have A6 := hidIt (A5.out.but B6 (by have := NE.out.1; omega)); have P6 := hidIt (P5.out.but B6 (by have := NE.out.1; omega)); clear c0 R6 B6 z6)
      | (have _q := RP6; go_at_call 53; have HK := hidIt (HH.out.1.cut2 HH.out.2.1 LL.out QL.out HH.out.2.2 RP6.out RB6.out (by have := CAP.out; simp at this; have := QL.out; omega) E6.out); have A7 := A6; have P7 := P6; refine (sink_any (k := 0) HK.out.1 (Nat.zero_le _) HK.out.2.1).mono ?_; rintro e W8 ⟨⟨v, rfl⟩, hs', hpm, hF8, hS8, hO8⟩; have A8 := hidIt (A7.out.off hO8 (by have := NE.out.2.1; simp; omega)); have P8 := hidIt (P7.out.off hO8 (by have := NE.out.2.1; simp; omega)); have S8 := hidIt (And.intro hpm (And.intro hF8 (And.intro hS8 hO8))); clear hpm hF8 hS8 hO8)
      | (refine wpList_load_rec rfl 32 (.tmp 4) rfl (W.heap.size + 1) 0 x.cs rfl _ Try.underlying32 rfl pair_size P8.out ?_)
      | (refine wpList_store_rec rfl 32 (.tmp 2) (.tmp 57) rfl W.heap.size 0 _ x.cs rfl rfl A8.out rfl pair_size hP ?_; intro W9 R9 B9; have A9 := hidIt R9; have B9' := hidIt B9; clear R9 B9))
    have FIN : TkPost W0 W hb pb V (s :: q) s (.returned (.agg x.cs.toArray)) W9 := by
      obtain ⟨hpm, hF8, hS8, hO8⟩ := S8.out
      have lt := NE.out
      have O9 : Off [W.heap.size] W8 W9 := Off.but B9'.out (by simp)
      refine ⟨x, [], EX.out, rfl, PX.out, hs', hF8, ?_, hpm.nodup_iff.2 HK.out.2.2.1, fun t => ?_, ?_⟩
      · have lo := HH.out.1.old.size
        exact ⟨hS8.old.trans (O9.below (fun b hb => by simp at hb; omega) hS8.old.size), hS8.hp.off O9 (by simp; omega) (by simp; omega), hS8.lh, hS8.lp, hS8.oks, hS8.few⟩
      · rw [hpm.mem_iff, HK.out.2.2.2 t]
        simp
      · exact Off.tk (E6.out.trans (hO8.mono (by intro b hb; simp at hb; simp [hb]))) B9'.out
    have hl := A9.out.run_load 32 _ Try.underlying32 rfl pair_size
    simp only [Act.put, List.setIfInBounds_toArray, List.set_cons_zero, List.set_cons_succ]
    exact bodyPost_ret (v := .agg x.cs.toArray) (by simp [results, Try.results47, asAddr, hl]) rfl FIN
end Go.Proofs.Ytgpafmgncolnmaa
