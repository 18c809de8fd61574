/-
  Notions and laws, not a claim by itself: four levels of one's own, table by table. By the verifier.
-/
import Derived.Test.YtelcijfcgflagaaLvCp
import Derived.Test.YtelcijfcgflagaaLvIns
namespace Go.Proofs.Ytelcijfcgflagaa
open Go.RowKit
theorem make_four (w : World) : (Instr.makeSlice 22 (.int .i64 4) (.int .i64 4)).run Try.prog w = .ok (.slice (some ⟨w.heap.size, 0, none⟩) 4 4) (w.alloc (.cells #[.slice none 0 0, .slice none 0 0, .slice none 0 0, .slice none 0 0] 23)) := by
  obtain ⟨i0, hi, hz0, hz1, hz2⟩ := info_parts info_level
  have hr := run_make (P := Try.prog) w 22 23 i0 _ under_levels hi hz0 .i64 .i64 4 4 (by omega) (Int.le_refl _) (by rw [hz2]; omega) (by omega)
  have e : madeCells (Value.slice none 0 0).cells (Int.toNat 4 * i0.size) = #[.slice none 0 0, .slice none 0 0, .slice none 0 0, .slice none 0 0] := by rw [hz1]; kernel_rfl
  rw [e] at hr
  exact hr
/-- A table of new texts, that lie apart from some blocks. -/
def OkT (B1 : Nat) (W : World) (N : List Nat) (x : RV) : Prop := (FrC W B1 x.f x.r.f ∧ FrC W B1 x.l x.r.l) ∧ RVOk W N x
theorem OkT.step {B1 : Nat} {W W' : World} {N N' M : List Nat} {x : RV} (h : OkT B1 W N x) (hO : Off N' W W') (hN : ∀ b ∈ N', b ∈ N) (hM : ∀ b ∈ M, b ∈ N ∨ W.heap.size ≤ b) : OkT B1 W' M x := by
  have k := h.2.mono (M := N') (fun b hb => .inl (hN b hb))
  exact ⟨⟨h.1.1.offT k.1 hO, h.1.2.offT k.2 hO⟩, (h.2.mono hM).both k hO⟩
theorem OkT.below {B1 : Nat} {W W' : World} {N : List Nat} {x : RV} (h : OkT B1 W N x) (hB : Below W.heap.size W W') : OkT B1 W' N x := ⟨⟨h.1.1.below hB, h.1.2.below hB⟩, h.2.below hB⟩
theorem OkT.cks {B1 : Nat} {W W' : World} {N : List Nat} {x : RV} (h : OkT B1 W N x) (k : Cks W W') : OkT B1 W' N x := ⟨⟨h.1.1.cks k, h.1.2.cks k⟩, h.2.cks k⟩
/-- The blocks that hold tables, and the outer one. -/
def foN (g : Nat) (lv : Nat → Value) : List Nat := g :: ((lv 0).ownBlock.toList ++ ((lv 1).ownBlock.toList ++ ((lv 2).ownBlock.toList ++ (lv 3).ownBlock.toList)))
theorem foN_of {g : Nat} {lv : Nat → Value} {b : Nat} : b ∈ foN g lv ↔ b = g ∨ ∃ i, i < 4 ∧ (lv i).ownBlock = some b := by
  unfold foN
  simp only [List.mem_cons, List.mem_append, Option.mem_toList]
  constructor
  · rintro (h | h | h | h | h)
    · exact .inl h
    · exact .inr ⟨0, by omega, h⟩
    · exact .inr ⟨1, by omega, h⟩
    · exact .inr ⟨2, by omega, h⟩
    · exact .inr ⟨3, by omega, h⟩
  · rintro (h | ⟨i, hi, h⟩)
    · exact .inl h
    · rcases (show i = 0 ∨ i = 1 ∨ i = 2 ∨ i = 3 by omega) with rfl | rfl | rfl | rfl
      · exact .inr (.inl h)
      · exact .inr (.inr (.inl h))
      · exact .inr (.inr (.inr (.inl h)))
      · exact .inr (.inr (.inr (.inr h)))
/-- Four levels under way: the outer array lies in block g. -/
structure Fo (B1 : Nat) (W : World) (g : Nat) (lv : Nat → Value) (os : Nat → List RV) : Prop where
  rc : Rec19 W g 0 [lv 0, lv 1, lv 2, lv 3]
  own : ∀ i, i < 4 → OwnR W 0 (lv i) (os i)
  new : ∀ i, i < 4 → ∀ b, (lv i).ownBlock = some b → B1 ≤ b ∧ b ≠ g
  dis : ∀ i j b, i < 4 → j < 4 → (lv i).ownBlock = some b → (lv j).ownBlock = some b → i = j
  oks : ∀ i, i < 4 → ∀ x ∈ os i, OkT B1 W (foN g lv) x
theorem Fo.below {B1 : Nat} {W W' : World} {g : Nat} {lv : Nat → Value} {os : Nat → List RV} (h : Fo B1 W g lv os) (hB : Below W.heap.size W W') : Fo B1 W' g lv os :=
  ⟨h.rc.below hB, fun i hi => (h.own i hi).below hB, h.new, h.dis, fun i hi x hx => (h.oks i hi x hx).below hB⟩
theorem Fo.cks {B1 : Nat} {W W' : World} {g : Nat} {lv : Nat → Value} {os : Nat → List RV} (h : Fo B1 W g lv os) (k : Cks W W') : Fo B1 W' g lv os :=
  ⟨h.rc.cks k, fun i hi => (h.own i hi).cks k, h.new, h.dis, fun i hi x hx => (h.oks i hi x hx).cks k⟩
theorem Fo.nil {B1 : Nat} {W : World} {g : Nat} (h : Rec19 W g 0 [.slice none 0 0, .slice none 0 0, .slice none 0 0, .slice none 0 0]) : Fo B1 W g (fun _ => .slice none 0 0) (fun _ => []) :=
  ⟨h, fun _ _ => OwnR.nil _ _, fun _ _ b hb => (by cases hb), fun _ _ b _ _ hb => (by cases hb), fun _ _ x hx => (by cases hx)⟩
/-- One thing put in the place of another one. -/
def upd4 {β : Type} (f : Nat → β) (i : Nat) (v : β) (j : Nat) : β := if j = i then v else f j
theorem upd4_at {β : Type} (f : Nat → β) (i : Nat) (v : β) : upd4 f i v i = v := if_pos rfl
theorem upd4_ne {β : Type} (f : Nat → β) {i j : Nat} (v : β) (h : j ≠ i) : upd4 f i v j = f j := if_neg h
theorem upd4_set (lv : Nat → Value) (i : Nat) (v : Value) (hi : i < 4) : [lv 0, lv 1, lv 2, lv 3].set i v = [upd4 lv i v 0, upd4 lv i v 1, upd4 lv i v 2, upd4 lv i v 3] := by
  rcases (show i = 0 ∨ i = 1 ∨ i = 2 ∨ i = 3 by omega) with rfl | rfl | rfl | rfl <;> simp [upd4]
theorem OwnR.lt {W : World} {v : Value} {ps : List RV} (h : OwnR W 0 v ps) {b : Nat} (hb : v.ownBlock = some b) : b < W.heap.size := (World.ownsRow.lt h b hb).2
/-- A level's new tables are put into the outer array. -/
theorem Fo.set {B1 : Nat} {W W2 : World} {g i : Nat} {lv : Nat → Value} {os : Nat → List RV} {v' : Value} {qs : List RV} (h : Fo B1 W g lv os) (hi : i < 4) (hsz : B1 ≤ W.heap.size) (hI : InsR W (lv i) qs v' W2) (hq : ∀ x ∈ qs, OkT B1 W (foN g lv) x) : Fo B1 (W2.setCell ⟨g, i, none⟩ v') g (upd4 lv i v') (upd4 os i qs) := by
  have hg2 : g < W.heap.size := h.rc.2.2
  have hgn : g ∉ (lv i).ownBlock.toList := fun q => by
    have := (h.new i hi g (by simpa using q)).2
    exact this rfl
  have B3 := But.set (b := g) W2 i v'
  have O3 : Off (g :: (lv i).ownBlock.toList) W (W2.setCell ⟨g, i, none⟩ v') := ((hI.off.mono (cs := g :: (lv i).ownBlock.toList) (fun b hb => List.mem_cons_of_mem _ hb)).trans (Off.but B3 (by simp)))
  have nb : ∀ b, v'.ownBlock = some b → ((lv i).ownBlock = some b ∨ W.heap.size ≤ b) := hI.blk
  have vne : v'.ownBlock ≠ some g := fun q => by
    rcases nb g q with z | z
    · exact (h.new i hi g z).2 rfl
    · omega
  have step : ∀ x, OkT B1 W (foN g lv) x → OkT B1 (W2.setCell ⟨g, i, none⟩ v') (foN g (upd4 lv i v')) x := fun x hx => by
    refine hx.step O3 (fun b hb => ?_) (fun b hb => ?_)
    · rcases List.mem_cons.1 hb with rfl | hb
      · exact foN_of.2 (.inl rfl)
      · exact foN_of.2 (.inr ⟨i, hi, by simpa using hb⟩)
    · rcases foN_of.1 hb with rfl | ⟨j, hj, hb⟩
      · exact .inl (foN_of.2 (.inl rfl))
      · by_cases e : j = i
        · subst e
          rw [upd4_at] at hb
          rcases nb b hb with z | z
          · exact .inl (foN_of.2 (.inr ⟨j, hj, z⟩))
          · exact .inr z
        · rw [upd4_ne _ _ e] at hb
          exact .inl (foN_of.2 (.inr ⟨j, hj, hb⟩))
  refine ⟨?_, fun j hj => ?_, fun j hj b hb => ?_, fun j k b hj hk hb hc => ?_, fun j hj x hx => ?_⟩
  · rw [← upd4_set lv i v' hi]
    exact (h.rc.off hI.off hgn).putR i v' (by simpa using hi)
  · by_cases e : j = i
    · subst e
      rw [upd4_at, upd4_at]
      exact hI.own.off (Off.but (bs := [g]) B3 (by simp)) (fun b hb q => vne (by rw [hb]; simp at q; rw [q]))
    · rw [upd4_ne _ _ e, upd4_ne _ _ e]
      refine (h.own j hj).off O3 (fun b hb q => ?_)
      rcases List.mem_cons.1 q with rfl | q
      · exact (h.new j hj b hb).2 rfl
      · exact e (h.dis j i b hj hi hb (by simpa using q))
  · by_cases e : j = i
    · subst e
      rw [upd4_at] at hb
      refine ⟨?_, fun q => vne (q ▸ hb)⟩
      rcases nb b hb with z | z
      · exact (h.new j hj b z).1
      · omega
    · rw [upd4_ne _ _ e] at hb
      exact h.new j hj b hb
  · by_cases e : j = i
    · by_cases e2 : k = i
      · omega
      · subst e
        rw [upd4_at] at hb
        rw [upd4_ne _ _ e2] at hc
        rcases nb b hb with z | z
        · exact h.dis j k b hj hk z hc
        · have := (h.own k hk).lt hc; omega
    · rw [upd4_ne _ _ e] at hb
      by_cases e2 : k = i
      · subst e2
        rw [upd4_at] at hc
        rcases nb b hc with z | z
        · exact h.dis j k b hj hk hb z
        · have := (h.own j hj).lt hb; omega
      · rw [upd4_ne _ _ e2] at hc
        exact h.dis j k b hj hk hb hc
  · by_cases e : j = i
    · subst e
      rw [upd4_at] at hx
      exact step x (hq x hx)
    · rw [upd4_ne _ _ e] at hx
      exact step x (h.oks j hj x hx)
/-- What stands in a level among some tables. -/
def lvl (fl : List (Nat × RV)) (i : Nat) : List Rn := (fl.filter fun q => q.1 == i).map fun q => q.2.r
theorem lvl_snoc {fl : List (Nat × RV)} {k i : Nat} {y : RV} (h : fl[k]? = some (i, y)) (j : Nat) : lvl (fl.take (k + 1)) j = if j = i then lvl (fl.take k) j ++ [y.r] else lvl (fl.take k) j := by
  obtain ⟨hk, e⟩ := List.getElem?_eq_some_iff.1 h
  unfold lvl
  rw [List.take_succ_eq_append_getElem hk, e, List.filter_append, List.map_append]
  by_cases q : j = i
  · subst q
    rw [if_pos rfl, List.filter_cons_of_pos (by simp)]
    rfl
  · rw [if_neg q, List.filter_cons_of_neg (by simpa using fun z => q z.symm)]
    simp
theorem lvl_flt : ∀ (b : Nat) (ls : List LR) (j : Nat), lvl (flt b ls) (b + j) = ((ls[j]?).map fun x => x.rs.map RV.r).getD []
  | b, [], j => by simp [flt, lvl]
  | b, x :: r, j => by
    have ih := lvl_flt (b + 1) r
    unfold lvl at ih ⊢
    simp only [flt, List.filter_append, List.map_append]
    have lo : ∀ (b c : Nat) (r : List LR), c < b → (flt b r).filter (fun q => q.1 == c) = [] := by
      intro b c r
      induction r generalizing b with
      | nil => intro _; rfl
      | cons y r ih =>
        intro hc
        simp only [flt, List.filter_append, ih (b + 1) (by omega), List.append_nil, List.filter_map]
        rw [List.filter_eq_nil_iff.2 (fun a _ => by simp; omega)]
        rfl
    cases j with
    | zero =>
      rw [Nat.add_zero, lo (b + 1) b r (by omega)]
      simp only [List.filter_map, List.map_map]
      rw [List.filter_eq_self.2 (fun a _ => by simp), List.map_nil, List.append_nil]
      rfl
    | succ j =>
      have := ih j
      rw [show b + (j + 1) = b + 1 + j by omega, this]
      rw [List.filter_eq_nil_iff.2 (fun a ha => by
        obtain ⟨y, _, rfl⟩ := List.mem_map.1 ha
        simp; omega)]
      simp
end Go.Proofs.Ytelcijfcgflagaa
