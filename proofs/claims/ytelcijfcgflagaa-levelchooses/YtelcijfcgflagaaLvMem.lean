/-
  Plain notions, not a claim by itself: tables (api.Run), lists of them, and levels in memory. By the verifier.
-/
import Derived.Test.YtelcijfcgflagaaTxL
namespace Go.Proofs.Ytelcijfcgflagaa
open Go.RowKit
theorem info_run : (Try.prog.info? 45).map (fun i => (i.zero, i.size, i.bytes)) = some (some (.agg #[.int .i64 0, .int .i64 0, .int .i64 0, .slice none 0 0, .slice none 0 0]), 5, 72) := by kernel_rfl
theorem under_runs : Try.prog.underlying 23 = some (.slice 45) := by kernel_rfl
theorem run_size : (Try.prog.info? 45).map (·.size) = some 5 := by kernel_rfl
theorem run_zero : (Try.prog.info? 45).bind (·.zero) = some (.agg #[.int .i64 0, .int .i64 0, .int .i64 0, .slice none 0 0, .slice none 0 0]) := by kernel_rfl
theorem under_levels : Try.prog.underlying 22 = some (.slice 23) := by kernel_rfl
theorem info_level : (Try.prog.info? 23).map (fun i => (i.zero, i.size, i.bytes)) = some (some (.slice none 0 0), 1, 24) := by kernel_rfl
theorem level_size : (Try.prog.info? 23).map (·.size) = some 1 := by kernel_rfl
/-- A table, plain. -/
structure Rn where
  ad : Int
  st : Int
  ct : Int
  f : ByteArray
  l : ByteArray
theorem rn_ext {p q : Rn} (h1 : p.ad = q.ad) (h2 : p.st = q.st) (h3 : p.ct = q.ct) (h4 : p.f = q.f) (h5 : p.l = q.l) : p = q := by cases p; cases q; simp_all
instance : DecidableEq Rn := fun p q => decidable_of_iff (p.ad = q.ad ∧ p.st = q.st ∧ p.ct = q.ct ∧ p.f = q.f ∧ p.l = q.l) ⟨fun h => rn_ext h.1 h.2.1 h.2.2.1 h.2.2.2.1 h.2.2.2.2, fun h => by rw [h]; exact ⟨rfl, rfl, rfl, rfl, rfl⟩⟩
/-- A table as Go has it, and what it reads as. -/
structure RV where
  f : Value
  l : Value
  r : Rn
def RV.cs (x : RV) : List Value := [.int .i64 x.r.ad, .int .i64 x.r.st, .int .i64 x.r.ct, x.f, x.l]
/-- A table reads so. -/
def RVOk (W : World) (N : List Nat) (x : RV) : Prop := Txt W N x.f x.r.f ∧ Txt W N x.l x.r.l
theorem RVOk.below {W W' : World} {N : List Nat} {x : RV} (h : RVOk W N x) (hB : Below W.heap.size W W') : RVOk W' N x := ⟨h.1.below hB, h.2.below hB⟩
theorem RVOk.off {W W' : World} {N : List Nat} {x : RV} (h : RVOk W N x) (hO : Off N W W') : RVOk W' N x := ⟨h.1.off hO, h.2.off hO⟩
theorem RVOk.mono {W : World} {N M : List Nat} {x : RV} (h : RVOk W N x) (hM : ∀ b, b ∈ M → b ∈ N ∨ W.heap.size ≤ b) : RVOk W M x := ⟨h.1.mono hM, h.2.mono hM⟩
theorem RVOk.both {W W' : World} {N M : List Nat} {x : RV} (h : RVOk W M x) (k : RVOk W N x) (hO : Off N W W') : RVOk W' M x := ⟨h.1.both k.1 hO, h.2.both k.2 hO⟩
theorem RVOk.cks {W W' : World} {N : List Nat} {x : RV} (h : RVOk W N x) (k : Cks W W') : RVOk W' N x := ⟨h.1.cks k, h.2.cks k⟩
theorem RVOk.any {W : World} {N : List Nat} {x : RV} (h : RVOk W N x) : RVOk W [] x := ⟨h.1.any, h.2.any⟩
theorem RVOk.one {W : World} {N : List Nat} {x : RV} (h : RVOk W N x) : ∀ v ∈ x.cs, v.oneCell' = true := by
  intro v hv
  simp only [RV.cs, List.mem_cons, List.not_mem_nil, or_false] at hv
  rcases hv with rfl | rfl | rfl | rfl | rfl
  · rfl
  · rfl
  · rfl
  · exact h.1.one
  · exact h.2.one
/-- The cells of tables. -/
def rcs (ps : List RV) : List Value := ps.flatMap RV.cs
theorem rcs_len (ps : List RV) : (rcs ps).length = ps.length * 5 := by
  induction ps with
  | nil => rfl
  | cons x r ih => simp only [rcs, List.flatMap_cons, List.length_append, List.length_cons] at ih ⊢; rw [show (List.flatMap RV.cs r).length = r.length * 5 from ih, show x.cs.length = 5 from rfl]; omega
theorem rcs_app (ps qs : List RV) : rcs (ps ++ qs) = rcs ps ++ rcs qs := by simp [rcs]
theorem rcs_single (x : RV) : rcs [x] = x.cs := by simp [rcs]
theorem rcs_at : ∀ (ps : List RV) (i j : Nat) (x : RV), ps[i]? = some x → j < 5 → (rcs ps)[i * 5 + j]? = x.cs[j]?
  | [], _, _, _, h, _ => by cases h
  | y :: r, 0, j, x, h, hj => by
    injection h with h
    subst h
    show (y.cs ++ rcs r)[0 * 5 + j]? = _
    rw [Nat.zero_mul, Nat.zero_add, List.getElem?_append_left (show j < 5 from hj)]
  | y :: r, i + 1, j, x, h, hj => by
    show (y.cs ++ rcs r)[(i + 1) * 5 + j]? = _
    rw [List.getElem?_append_right (show y.cs.length ≤ (i + 1) * 5 + j by show 5 ≤ (i + 1) * 5 + j; omega), show (i + 1) * 5 + j - y.cs.length = i * 5 + j by show (i + 1) * 5 + j - 5 = _; omega]
    exact rcs_at r i j x h hj
theorem rcs_take (ps : List RV) : ∀ i, (rcs ps).take (i * 5) = rcs (ps.take i) := by
  induction ps with
  | nil => intro i; simp [rcs]
  | cons x r ih =>
    intro i
    cases i with
    | zero => simp [rcs]
    | succ i =>
      show (x.cs ++ rcs r).take ((i + 1) * 5) = x.cs ++ rcs (r.take i)
      rw [List.take_append, List.take_of_length_le (show x.cs.length ≤ (i + 1) * 5 by show 5 ≤ (i + 1) * 5; omega), show (i + 1) * 5 - x.cs.length = i * 5 by show (i + 1) * 5 - 5 = _; omega, ih]
theorem rcs_drop (ps : List RV) : ∀ i, (rcs ps).drop (i * 5) = rcs (ps.drop i) := by
  induction ps with
  | nil => intro i; simp [rcs]
  | cons x r ih =>
    intro i
    cases i with
    | zero => simp [rcs]
    | succ i =>
      show (x.cs ++ rcs r).drop ((i + 1) * 5) = rcs (r.drop i)
      rw [List.drop_append, List.drop_of_length_le (show x.cs.length ≤ (i + 1) * 5 by show 5 ≤ (i + 1) * 5; omega), List.nil_append, show (i + 1) * 5 - x.cs.length = i * 5 by show (i + 1) * 5 - 5 = _; omega, ih]
theorem rcs_one {W : World} {N : List Nat} {ps : List RV} (h : ∀ x ∈ ps, RVOk W N x) : ∀ v ∈ rcs ps, v.oneCell' = true := by
  intro v hv
  obtain ⟨x, hx, hv⟩ := List.mem_flatMap.1 hv
  exact (h x hx).one v hv
/-- A slice of tables that was made behind base. -/
def OwnR (w : World) (base : Nat) (v : Value) (ps : List RV) : Prop := w.ownsRow base 45 5 v ps.length (rcs ps)
theorem OwnR.nil (w : World) (base : Nat) : OwnR w base (.slice none 0 0) [] := World.ownsRow_nil w base _ 5
theorem OwnR.off {w u : World} {base : Nat} {v : Value} {ps : List RV} {N : List Nat} (h : OwnR w base v ps) (hO : Off N w u) (hn : ∀ g, v.ownBlock = some g → g ∉ N) : OwnR u base v ps := by
  refine ⟨h.1, ?_⟩
  rcases h.2 with h0 | ⟨g, cap, cur, rfl, hb, hg, rest⟩
  · exact .inl h0
  · exact .inr ⟨g, cap, cur, rfl, hb, (hO.block g (Array.getElem?_eq_some_iff.1 hg).1 (hn g rfl)).trans hg, rest⟩
theorem OwnR.cks {w u : World} {base : Nat} {v : Value} {ps : List RV} (h : OwnR w base v ps) (k : Cks w u) : OwnR u base v ps := by
  refine ⟨h.1, ?_⟩
  rcases h.2 with h0 | ⟨g, cap, cur, rfl, hb, hg, rest⟩
  · exact .inl h0
  · exact .inr ⟨g, cap, cur, rfl, hb, k.block g _ hg rfl, rest⟩
theorem OwnR.below {w u : World} {base : Nat} {v : Value} {ps : List RV} (h : OwnR w base v ps) (hB : Below w.heap.size w u) : OwnR u base v ps := h.off (Off.of (bs := []) hB) (fun _ _ h => by cases h)
theorem OwnR.form {w : World} {base : Nat} {v : Value} {ps : List RV} (h : OwnR w base v ps) : (v = .slice none 0 0 ∧ ps = []) ∨ ∃ g cap, v = .slice (some ⟨g, 0, none⟩) ps.length cap ∧ base ≤ g ∧ ps.length ≤ cap ∧ cap ≤ maxLen ∧ g < w.heap.size ∧ Rec19 w g 0 (rcs ps) := by
  rcases h.2 with ⟨rfl, h0⟩ | ⟨g, cap, cur, rfl, hbg, hg, hnc, hcm, hsz, htake⟩
  · exact .inl ⟨rfl, List.eq_nil_of_length_eq_zero h0⟩
  · refine .inr ⟨g, cap, rfl, hbg, hnc, hcm, (Array.getElem?_eq_some_iff.1 hg).1, fun j u hj => ?_, fun j hj => ?_, (Array.getElem?_eq_some_iff.1 hg).1⟩
    · have := World.ownsRow.cellAt h j (by rw [← rcs_len]; exact (List.getElem?_eq_some_iff.1 hj).1)
      rw [Nat.zero_add, this, hj]
    · have := World.ownsRow.cellAt h j (by rw [← rcs_len]; exact hj)
      rw [Nat.zero_add]
      exact ⟨by rw [this, List.getElem?_eq_getElem hj]; rfl, World.ownsRow.frozenAt h j⟩
theorem OwnR.sl {w : World} {base : Nat} {v : Value} {ps : List RV} (h : OwnR w base v ps) : ∃ a cap, v = .slice a ps.length cap ∧ ps.length ≤ cap := by
  rcases h.form with ⟨rfl, rfl⟩ | ⟨g, cap, rfl, _, hc, _⟩
  · exact ⟨none, 0, rfl, Nat.le_refl _⟩
  · exact ⟨_, cap, rfl, hc⟩
/-- A slice of tables that is read alone. -/
def LsR (W : World) (a : Option Addr) (ps : List RV) : Prop := (∀ x ∈ ps, RVOk W [] x) ∧ (ps ≠ [] → ∃ b off, a = some ⟨b, off, none⟩ ∧ W.rangeAt b off (rcs ps) ∧ b < W.heap.size)
theorem LsR.below {W W' : World} {a : Option Addr} {ps : List RV} (h : LsR W a ps) (hB : Below W.heap.size W W') : LsR W' a ps := by
  refine ⟨fun x hx => (h.1 x hx).below hB, fun hne => ?_⟩
  obtain ⟨b, off, ha, hr, hb⟩ := h.2 hne
  exact ⟨b, off, ha, fun j v hj => (hB.cell (p := ⟨b, off + j, none⟩) hb).trans (hr j v hj), Nat.lt_of_lt_of_le hb hB.size⟩
theorem LsR.cks {W W' : World} {a : Option Addr} {ps : List RV} (h : LsR W a ps) (k : Cks W W') : LsR W' a ps := by
  refine ⟨fun x hx => (h.1 x hx).cks k, fun hne => ?_⟩
  obtain ⟨b, off, ha, hr, hb⟩ := h.2 hne
  exact ⟨b, off, ha, fun j v hj => k.cell (hr j v hj), Nat.lt_of_lt_of_le hb k.size⟩
theorem OwnR.ls {W : World} {base : Nat} {ps : List RV} {a : Option Addr} {n cap : Nat} (h : OwnR W base (.slice a n cap) ps) (hp : ∀ x ∈ ps, RVOk W [] x) : LsR W a ps := by
  refine ⟨hp, fun hne => ?_⟩
  rcases h.form with ⟨_, h0⟩ | ⟨g, cap', hv, _, _, _, hg, hR⟩
  · exact absurd h0 hne
  · injection hv with hv
    exact ⟨g, 0, hv, hR.1, hg⟩
/-- One of such tables is loaded. -/
theorem LsR.at {W : World} {a : Option Addr} {ps : List RV} (h : LsR W a ps) (i : Nat) (x : RV) (hi : ps[i]? = some x) : ∃ b off, a = some ⟨b, off, none⟩ ∧ W.rangeAt b (off + i * 5) x.cs ∧ b < W.heap.size := by
  obtain ⟨b, off, ha, hr, hb⟩ := h.2 (fun e => by rw [e] at hi; cases hi)
  refine ⟨b, off, ha, fun j v hj => ?_, hb⟩
  have hl : j < 5 := (List.getElem?_eq_some_iff.1 hj).1
  have := hr (i * 5 + j) v (by rw [rcs_at ps i j x hi hl]; exact hj)
  rwa [← Nat.add_assoc] at this
theorem five_cells {W : World} {b o : Nat} {x : RV} (h : W.rangeAt b o x.cs) : W.cell? ⟨b, o, none⟩ = some (.int .i64 x.r.ad) ∧ W.cell? ⟨b, o + 1, none⟩ = some (.int .i64 x.r.st) ∧ W.cell? ⟨b, o + 2, none⟩ = some (.int .i64 x.r.ct) ∧ W.cell? ⟨b, o + 3, none⟩ = some x.f ∧ W.cell? ⟨b, o + 4, none⟩ = some x.l :=
  ⟨h 0 _ rfl, h 1 _ rfl, h 2 _ rfl, h 3 _ rfl, h 4 _ rfl⟩
/-- A level as Go has it. -/
structure LR where
  a : Option Addr
  c : Nat
  rs : List RV
def LR.v (x : LR) : Value := .slice x.a x.rs.length x.c
/-- It lies in memory. -/
def LROk (W : World) (x : LR) : Prop := LsR W x.a x.rs ∧ x.rs.length ≤ x.c
theorem LROk.below {W W' : World} {x : LR} (h : LROk W x) (hB : Below W.heap.size W W') : LROk W' x := ⟨h.1.below hB, h.2⟩
theorem LROk.cks {W W' : World} {x : LR} (h : LROk W x) (k : Cks W W') : LROk W' x := ⟨h.1.cks k, h.2⟩
/-- Levels in memory. -/
def Lvs (W : World) (A : Option Addr) (ls : List LR) : Prop := (∀ x ∈ ls, LROk W x) ∧ (ls ≠ [] → ∃ b off, A = some ⟨b, off, none⟩ ∧ W.rangeAt b off (ls.map LR.v) ∧ b < W.heap.size)
theorem Lvs.below {W W' : World} {A : Option Addr} {ls : List LR} (h : Lvs W A ls) (hB : Below W.heap.size W W') : Lvs W' A ls := by
  refine ⟨fun x hx => (h.1 x hx).below hB, fun hne => ?_⟩
  obtain ⟨b, off, ha, hr, hb⟩ := h.2 hne
  exact ⟨b, off, ha, fun j v hj => (hB.cell (p := ⟨b, off + j, none⟩) hb).trans (hr j v hj), Nat.lt_of_lt_of_le hb hB.size⟩
theorem Lvs.cks {W W' : World} {A : Option Addr} {ls : List LR} (h : Lvs W A ls) (k : Cks W W') : Lvs W' A ls := by
  refine ⟨fun x hx => (h.1 x hx).cks k, fun hne => ?_⟩
  obtain ⟨b, off, ha, hr, hb⟩ := h.2 hne
  exact ⟨b, off, ha, fun j v hj => k.cell (hr j v hj), Nat.lt_of_lt_of_le hb k.size⟩
theorem Lvs.at {W : World} {A : Option Addr} {ls : List LR} (h : Lvs W A ls) (i : Nat) (x : LR) (hi : ls[i]? = some x) : ∃ b off, A = some ⟨b, off, none⟩ ∧ W.cell? ⟨b, off + i, none⟩ = some x.v ∧ b < W.heap.size := by
  obtain ⟨b, off, ha, hr, hb⟩ := h.2 (fun e => by rw [e] at hi; cases hi)
  exact ⟨b, off, ha, hr i _ (by rw [List.getElem?_map, hi]; rfl), hb⟩
/-- The tables of levels, plain. -/
def rns (ls : List LR) : List (List Rn) := ls.map fun x => x.rs.map RV.r
/-- All tables, with their levels' numbers. -/
def flt : Nat → List LR → List (Nat × RV)
  | _, [] => []
  | i, x :: r => x.rs.map (fun y => (i, y)) ++ flt (i + 1) r
end Go.Proofs.Ytelcijfcgflagaa
