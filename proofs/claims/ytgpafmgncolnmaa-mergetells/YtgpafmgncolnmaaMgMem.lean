/-
  Plain notions, not a claim by itself: lists of lists in memory; places in lists. By the verifier.
-/
import Derived.Test.YtgpafmgncolnmaaMgOrd
import Derived.Test.YtgpafmgncolnmaaHold
import Derived.Test.YtgpafmgncolnmaaCut
namespace Go.Proofs.Ytgpafmgncolnmaa
open Go.RowKit
/-- A list as Go has it. -/
structure LV where
  a : Option Addr
  c : Nat
  ps : List PV
def LV.v (x : LV) : Value := .slice x.a x.ps.length x.c
/-- It lies in memory. -/
def LOk (W : World) (x : LV) : Prop := Lst W x.a x.ps ∧ x.ps.length ≤ x.c
theorem LOk.below {W W' : World} {x : LV} (h : LOk W x) (hB : Below W.heap.size W W') : LOk W' x := ⟨h.1.below hB, h.2⟩
theorem LOk.old {B : Nat} {W W' : World} {x : LV} (h : LOk W x) (hB : Below B W W') (hs : W.heap.size ≤ B) : LOk W' x := h.below (hB.mono hs)
/-- Its first key. -/
def LV.k (x : LV) : ByteArray := match x.ps with
  | p :: _ => p.p.k
  | [] => .empty
/-- It is cut from its front. -/
def LV.tl (x : LV) : LV := ⟨x.a.map fun q => cutP q.block q.off 1 3 x.c, x.c - 1, x.ps.tail⟩
theorem LOk.front {W : World} {x : LV} {p : PV} {r : List PV} (h : LOk W x) (e : x.ps = p :: r) : ∃ b off, x.a = some ⟨b, off, none⟩ ∧ W.rangeAt b off p.cs ∧ b < W.heap.size ∧ PVOk W [] p := by
  obtain ⟨b, off, ha, hr, hb⟩ := h.1.at 0 p (by rw [e]; rfl)
  exact ⟨b, off, ha, by simpa using hr, hb, h.1.1 p (by rw [e]; simp)⟩
theorem LOk.tail {W : World} {x : LV} {p : PV} {r : List PV} (h : LOk W x) (e : x.ps = p :: r) : LOk W x.tl := by
  obtain ⟨b, off, ha, hr, hb⟩ := h.1.2 (by rw [e]; simp)
  have hc := h.2
  rw [e, List.length_cons] at hc
  refine ⟨⟨fun y hy => h.1.1 y (by rw [e]; rw [LV.tl, e] at hy; exact List.mem_cons_of_mem _ hy), fun hne => ?_⟩, by simp only [LV.tl, e, List.tail_cons]; omega⟩
  have hne' : r ≠ [] := by simpa [LV.tl, e] using hne
  have hl : 0 < r.length := List.length_pos_iff.2 hne'
  refine ⟨b, off + 1 * 3, ?_, fun j v hj => ?_, hb⟩
  · simp only [LV.tl, ha, Option.map_some, cutP]
    rw [if_neg (by omega)]
  · have := hr (3 + j) v (by
      simp only [LV.tl, e, List.tail_cons] at hj
      rw [e]
      show (p.cs ++ pcs r)[3 + j]? = _
      rw [List.getElem?_append_right (show p.cs.length ≤ 3 + j by show 3 ≤ 3 + j; omega), show 3 + j - p.cs.length = j by show 3 + j - 3 = j; omega]
      exact hj)
    rw [show off + 1 * 3 + j = off + (3 + j) by omega]
    exact this
theorem LV.tl_run {x : LV} {p : PV} {r : List PV} {b off : Nat} (e : x.ps = p :: r) (ha : x.a = some ⟨b, off, none⟩) (w : World) : (Instr.slice 27 x.v (some (.int .i64 1)) none none).run Try.prog w = .ok x.tl.v w := by
  have := run_slice_low 27 32 3 under_pairs pair_size b off x.ps.length x.c 1 (by rw [e]; simp) w
  have e2 : x.tl.v = .slice (some (cutP b off 1 3 x.c)) (x.ps.length - 1) (x.c - 1) := by simp [LV.v, LV.tl, ha, e]
  rw [e2]
  unfold LV.v
  rw [ha]
  exact this
/-- Lists of lists in memory. -/
def Lsts (W : World) (A : Option Addr) (ls : List LV) : Prop := (∀ x ∈ ls, LOk W x) ∧ (ls ≠ [] → ∃ b off, A = some ⟨b, off, none⟩ ∧ W.rangeAt b off (ls.map LV.v) ∧ b < W.heap.size)
theorem Lsts.below {W W' : World} {A : Option Addr} {ls : List LV} (h : Lsts W A ls) (hB : Below W.heap.size W W') : Lsts W' A ls := by
  refine ⟨fun x hx => (h.1 x hx).below hB, fun hne => ?_⟩
  obtain ⟨b, off, ha, hr, hb⟩ := h.2 hne
  exact ⟨b, off, ha, fun j v hj => (hB.cell (p := ⟨b, off + j, none⟩) hb).trans (hr j v hj), Nat.lt_of_lt_of_le hb hB.size⟩
theorem Lsts.at {W : World} {A : Option Addr} {ls : List LV} (h : Lsts W A ls) (i : Nat) (x : LV) (hi : ls[i]? = some x) : ∃ b off, A = some ⟨b, off, none⟩ ∧ W.cell? ⟨b, off + i, none⟩ = some x.v ∧ b < W.heap.size := by
  obtain ⟨b, off, ha, hr, hb⟩ := h.2 (fun e => by rw [e] at hi; cases hi)
  exact ⟨b, off, ha, hr i _ (by rw [List.getElem?_map, hi]; rfl), hb⟩
/-- The cells of places. -/
def plc (V : Nat → LV) (hs : List Nat) : List Value := hs.flatMap fun t => [(V t).v, .int .i64 (t : Int)]
theorem plc_len (V : Nat → LV) (hs : List Nat) : (plc V hs).length = hs.length * 2 := by
  induction hs with
  | nil => rfl
  | cons x r ih => simp only [plc, List.flatMap_cons, List.length_append, List.length_cons] at ih ⊢; rw [ih]; simp; omega
theorem plc_app (V : Nat → LV) (a b : List Nat) : plc V (a ++ b) = plc V a ++ plc V b := by simp [plc]
theorem plc_at (V : Nat → LV) : ∀ (hs : List Nat) (i j t : Nat), hs[i]? = some t → j < 2 → (plc V hs)[i * 2 + j]? = [(V t).v, Value.int .i64 (t : Int)][j]?
  | [], _, _, _, h, _ => by cases h
  | y :: r, 0, j, t, h, hj => by
    injection h with h
    subst h
    show ([(V y).v, Value.int .i64 (y : Int)] ++ plc V r)[0 * 2 + j]? = _
    rw [Nat.zero_mul, Nat.zero_add, List.getElem?_append_left (show j < 2 from hj)]
  | y :: r, i + 1, j, t, h, hj => by
    show ([(V y).v, Value.int .i64 (y : Int)] ++ plc V r)[(i + 1) * 2 + j]? = _
    rw [List.getElem?_append_right (show 2 ≤ (i + 1) * 2 + j by omega), show (i + 1) * 2 + j - [(V y).v, Value.int .i64 (y : Int)].length = i * 2 + j by show (i + 1) * 2 + j - 2 = _; omega]
    exact plc_at V r i j t h hj
theorem plc_one (V : Nat → LV) (hs : List Nat) : ∀ v ∈ plc V hs, v.oneCell' = true := by
  intro v hv
  obtain ⟨t, _, hv⟩ := List.mem_flatMap.1 hv
  simp only [List.mem_cons, List.not_mem_nil, or_false] at hv
  rcases hv with rfl | rfl <;> rfl
theorem plc_set (V : Nat → LV) : ∀ (hs : List Nat) (i t : Nat), i < hs.length → laidL (plc V hs) (i * 2) [(V t).v, .int .i64 (t : Int)] = plc V (hs.set i t)
  | [], _, _, h => by cases h
  | y :: r, 0, t, _ => by simp [laidL, plc]
  | y :: r, i + 1, t, h => by
    have ih := plc_set V r i t (by simpa using h)
    have e : plc V (y :: r) = [(V y).v, Value.int .i64 (y : Int)] ++ plc V r := rfl
    unfold laidL at ih ⊢
    rw [e, show (i + 1) * 2 = i * 2 + 2 by omega]
    simp only [List.cons_append, List.nil_append, List.take_succ_cons, List.length_cons, List.length_nil, List.set_cons_succ]
    rw [show i * 2 + 2 + (0 + 1 + 1) = (i * 2 + (0 + 1 + 1)) + 2 by omega]
    simp only [List.drop_succ_cons]
    simp only [List.length_cons, List.length_nil] at ih
    rw [ih]
    rfl
theorem plc_take (V : Nat → LV) (hs : List Nat) : ∀ i, (plc V hs).take (i * 2) = plc V (hs.take i) := by
  induction hs with
  | nil => intro i; simp [plc]
  | cons x r ih =>
    intro i
    cases i with
    | zero => simp [plc]
    | succ i =>
      show ([(V x).v, Value.int .i64 (x : Int)] ++ plc V r).take ((i + 1) * 2) = [(V x).v, Value.int .i64 (x : Int)] ++ plc V (r.take i)
      rw [List.take_append, List.take_of_length_le (show 2 ≤ (i + 1) * 2 by omega), show (i + 1) * 2 - [(V x).v, Value.int .i64 (x : Int)].length = i * 2 by show (i + 1) * 2 - 2 = _; omega, ih]
theorem plc_congr (V V' : Nat → LV) (hs : List Nat) (h : ∀ t ∈ hs, V t = V' t) : plc V hs = plc V' hs := by
  induction hs with
  | nil => rfl
  | cons x r ih =>
    show [(V x).v, Value.int .i64 (x : Int)] ++ plc V r = [(V' x).v, Value.int .i64 (x : Int)] ++ plc V' r
    rw [h x (by simp), ih (fun t ht => h t (by simp [ht]))]
theorem Rec19.lowU {W W' : World} {n o B : Nat} {cs : List Value} (h : Rec19 W n o cs) (hB : Below B W W') (hn : n < B) : Rec19 W' n o cs :=
  ⟨fun j v hj => (hB.cell (p := ⟨n, o + j, none⟩) hn).trans (h.1 j v hj), fun j hj => by rw [hB.cell (p := ⟨n, o + j, none⟩) hn, hB.frozen (p := ⟨n, o + j, none⟩) hn]; exact h.2.1 j hj, Nat.lt_of_lt_of_le h.2.2 hB.size⟩
theorem Rec19.pre {W : World} {n : Nat} {cs : List Value} (h : Rec19 W n 0 cs) (i : Nat) : Rec19 W n 0 (cs.take i) :=
  ⟨fun j v hj => h.1 j v (by
    rw [List.getElem?_take] at hj
    split at hj
    · exact hj
    · cases hj), fun j hj => h.2.1 j (by simp at hj; omega), h.2.2⟩
/-- A heap lies in memory: its box in block hb, its places in block pb. -/
structure HpAt (W : World) (hb pb : Nat) (V : Nat → LV) (hs : List Nat) : Prop where
  ne : pb ≠ hb
  bx : ∃ a cap, Rec19 W hb 0 [.slice a hs.length cap] ∧ hs.length ≤ cap ∧ (0 < hs.length → a = some ⟨pb, 0, none⟩)
  rw : 0 < hs.length → Rec19 W pb 0 (plc V hs)
/-- It, and the lists that it goes through. -/
structure HS (W0 W : World) (hb pb : Nat) (V : Nat → LV) (hs : List Nat) : Prop where
  old : Below W0.heap.size W0 W
  hp : HpAt W hb pb V hs
  lh : W0.heap.size ≤ hb
  lp : W0.heap.size ≤ pb
  oks : ∀ t ∈ hs, LOk W0 (V t) ∧ ∃ x r, (V t).ps = x :: r
  few : hs.length ≤ 32
theorem HpAt.off {W W' : World} {hb pb : Nat} {V : Nat → LV} {hs bs : List Nat} (h : HpAt W hb pb V hs) (hO : Off bs W W') (h1 : hb ∉ bs) (h2 : pb ∉ bs) : HpAt W' hb pb V hs := by
  obtain ⟨ne, ⟨a, cap, bx, hc, ha⟩, rw⟩ := h
  exact ⟨ne, ⟨a, cap, bx.off hO h1, hc, ha⟩, fun h0 => (rw h0).off hO h2⟩
theorem HS.up {W0 W W' : World} {hb pb : Nat} {V : Nat → LV} {hs : List Nat} (h : HS W0 W hb pb V hs) (hB : Below W.heap.size W W') : HS W0 W' hb pb V hs :=
  ⟨h.old.trans (hB.mono h.old.size), h.hp.off (Off.of (bs := []) hB) (by simp) (by simp), h.lh, h.lp, h.oks, h.few⟩
theorem HS.drew {W0 W : World} {hb pb : Nat} {V : Nat → LV} {hs : List Nat} (h : HS W0 W hb pb V hs) : HS W0 W.drew hb pb V hs := h.up (Below.refl _ _).drew
/-- The box's slice. -/
theorem HS.sl {W0 W : World} {hb pb : Nat} {V : Nat → LV} {hs : List Nat} (h : HS W0 W hb pb V hs) : ∃ a cap, W.cell? ⟨hb, 0, none⟩ = some (.slice a hs.length cap) ∧ hs.length ≤ cap ∧ (0 < hs.length → a = some ⟨pb, 0, none⟩) := by
  obtain ⟨a, cap, bx, hc, ha⟩ := h.hp.bx
  exact ⟨a, cap, (bx.cel 0 _ rfl).1, hc, ha⟩
/-- A place. -/
theorem HS.pl {W0 W : World} {hb pb : Nat} {V : Nat → LV} {hs : List Nat} (h : HS W0 W hb pb V hs) {i t : Nat} (hi : hs[i]? = some t) : W.rangeAt pb (i * 2) [(V t).v, .int .i64 (t : Int)] ∧ LOk W (V t) ∧ ∃ x r, (V t).ps = x :: r := by
  have lt := (List.getElem?_eq_some_iff.1 hi).1
  have o := h.oks t (List.mem_of_getElem? hi)
  refine ⟨fun j v hj => ?_, o.1.below h.old, o.2⟩
  have hj2 : j < 2 := (List.getElem?_eq_some_iff.1 hj).1
  have := (h.hp.rw (by omega)).1 (i * 2 + j) v (by rw [plc_at V hs i j t hi hj2]; exact hj)
  rwa [Nat.zero_add] at this
theorem place_size : (Try.prog.info? 72).map (·.size) = some 2 := by kernel_rfl
end Go.Proofs.Ytgpafmgncolnmaa
