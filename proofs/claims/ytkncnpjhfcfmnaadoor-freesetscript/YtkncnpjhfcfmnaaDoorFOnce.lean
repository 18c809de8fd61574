/-
  Walks, not a claim by itself: no block is taken twice. By the verifier.
-/
import Derived.Test.YtkncnpjhfcfmnaaDoorFKn
import Derived.Test.YtkncnpjhfcfmnaaDoorBPick
import Derived.Test.YtkncnpjhfcfmnaaDoorDRegW
namespace Go.Proofs.YtkncnpjhfcfmnaaDoor
open Go.RowKit Go.Shelf
attribute [local go_sem] Oper.semAt_some
/-- Acts that are handed in. -/
def AArg (W : World) (a : Option Addr) (n : Nat) (K N : Nat → Int) : Prop := ∀ i, i < n → ∃ b off, a = some ⟨b, off, none⟩ ∧ W.cell? ⟨b, off + i * 2, none⟩ = some (.int .i64 (K i)) ∧ W.cell? ⟨b, off + i * 2 + 1, none⟩ = some (.int .i64 (N i)) ∧ b < W.heap.size
theorem AArg.below {W W' : World} {a : Option Addr} {n : Nat} {K N : Nat → Int} (h : AArg W a n K N) (hB : Below W.heap.size W W') : AArg W' a n K N := fun i hi => by
  obtain ⟨b, off, h1, h2, h3, h4⟩ := h i hi
  exact ⟨b, off, h1, (hB.cell (p := ⟨b, off + i * 2, none⟩) h4).trans h2, (hB.cell (p := ⟨b, off + i * 2 + 1, none⟩) h4).trans h3, Nat.lt_of_lt_of_le h4 hB.size⟩
/-- How blocks are, by the statement's own list. -/
def isF (h : Nat → Nat) (j : Nat) : Int := if j = 0 then 0 else ((h (j - 1) : Nat) : Int)
theorem putS_same (v : Nat) (hv : v ≤ 2) : putS v = v := by
  have h : v = 0 ∨ v = 1 ∨ v = 2 := by omega
  rcases h with rfl | rfl | rfl <;> rfl
theorem isF_set (h : Nat → Nat) (i v : Nat) (hv : v ≤ 2) : upd (isF h) (i + 1) (v : Int) = isF (setH h i v) := by
  funext j
  unfold upd isF setH
  by_cases e : j = i + 1
  · subst e
    rw [if_pos rfl, if_neg (by omega), if_pos (by omega)]
    rw [putS_same v hv]
  · rw [if_neg e]
    by_cases e0 : j = 0
    · rw [if_pos e0, if_pos e0]
    · rw [if_neg e0, if_neg e0, if_neg (by omega)]
theorem isF_same (h : Nat → Nat) (i : Nat) : upd (isF h) (i + 1) ((h i : Nat) : Int) = isF h := by
  funext j
  unfold upd isF
  by_cases e : j = i + 1
  · subst e
    rw [if_pos rfl, if_neg (by omega), Nat.add_sub_cancel]
  · rw [if_neg e]
/-- What holds between two acts. -/
structure OnI (W : World) (b B n : Nat) (h : Nat → Nat) (X : World) : Prop where
  s : SAt X b n h
  k : SOk n h
  r : IRow X B .i64 (n + 1) (isF h)
  t : DTab X
  w : Below W.heap.size W X
  lb : W.heap.size ≤ b
  lB : W.heap.size ≤ B
  ne : b ≠ B
  z0 : 0 < W.heap.size
theorem OnI.kept {W X Y : World} {b B n : Nat} {h : Nat → Nat} (i : OnI W b B n h X) (hb : Below X.heap.size X Y) : OnI W b B n h Y :=
  ⟨i.s.below hb, i.k, i.r.below hb, i.t.below hb (Nat.lt_of_lt_of_le i.z0 i.w.size), i.w.trans (hb.mono i.w.size), i.lb, i.lB, i.ne, i.z0⟩
/-- The set is changed. -/
structure OnH (W : World) (b B n : Nat) (h h' : Nat → Nat) (X : World) : Prop where
  s : SAt X b n h'
  k : SOk n h'
  r : IRow X B .i64 (n + 1) (isF h)
  t : DTab X
  w : Below W.heap.size W X
  lb : W.heap.size ≤ b
  lB : W.heap.size ≤ B
  ne : b ≠ B
  z0 : 0 < W.heap.size
theorem OnI.half {W X Y : World} {b B n : Nat} {h h' : Nat → Nat} (i : OnI W b B n h X) (s : SAt Y b n h') (k : SOk n h') (hb : But b X Y) : OnH W b B n h h' Y :=
  ⟨s, k, i.r.but hb (fun q => i.ne q.symm), i.t.but hb (by have := i.lb; have := i.z0; omega) (Nat.lt_of_lt_of_le i.z0 i.w.size), i.w.trans (hb.below i.lb i.w.size), i.lb, i.lB, i.ne, i.z0⟩
theorem OnH.whole {W X : World} {b B n : Nat} {h h' : Nat → Nat} (i : OnH W b B n h h' X) (e : isF h = isF h') : OnI W b B n h' X :=
  ⟨i.s, i.k, by rw [← e]; exact i.r, i.t, i.w, i.lb, i.lB, i.ne, i.z0⟩
theorem OnH.put {W X : World} {b B n : Nat} {h h' g : Nat → Nat} (i : OnH W b B n h h' X) (x : Nat) (v : Int) (e : upd (isF h) x v = isF g) : OnH W b B n g h' (X.setCell ⟨B, x, none⟩ (.int .i64 v)) := by
  have hb : But B X (X.setCell ⟨B, x, none⟩ (.int .i64 v)) := But.set _ _ _
  exact ⟨i.s.but hb i.ne, i.k, by rw [← e]; exact i.r.set x v, i.t.but hb (by have := i.lB; have := i.z0; omega) (Nat.lt_of_lt_of_le i.z0 i.w.size), i.w.trans (hb.below i.lB i.w.size), i.lb, i.lB, i.ne, i.z0⟩
/-- The lowest free one, as the statement reckons it. -/
def lvN (o : Option Nat) : Int := match o with
  | some i => (i : Int) + 1
  | none => 0
theorem low_cut (p : Nat → Bool) : ∀ m k c, (∀ j, k + m ≤ j → p j = false) → lowFrom p k (m + c) = lowFrom p k m
  | 0, k, c, h => by rw [Nat.zero_add]; exact low_none p c k fun j hj _ => h j (by omega)
  | m + 1, k, c, h => by
    rw [show m + 1 + c = (m + c) + 1 by omega]
    unfold lowFrom
    rw [low_cut p m (k + 1) c fun j hj => h j (by omega)]
theorem low_n {n : Nat} {h : Nat → Nat} (k : SOk n h) : lowFrom (fr h) 0 n = low (fr h) := by
  have := low_cut (fr h) n 0 (512 - n) fun j hj => by simp [fr, k.out j (by omega)]
  rw [← this, show n + (512 - n) = 512 by have := k.n2; omega]
  rfl
theorem low_stepN (h : Nat → Nat) (n k : Nat) (hk : k < n) : lvN (lowFrom (fr h) k (n - k)) = if h k = 0 then (k : Int) + 1 else lvN (lowFrom (fr h) (k + 1) (n - (k + 1))) := by
  rw [show n - k = (n - (k + 1)) + 1 by omega]
  conv => lhs; unfold lowFrom
  by_cases e : h k = 0
  · rw [if_pos e, if_pos (by simp [fr, e])]; rfl
  · rw [if_neg e, if_neg (by simp [fr, e])]
set_option maxRecDepth 100000 in
theorem once_far (x : Int) (a : Option Addr) (m C : Nat) (W : World) (hT : DTab W) (h0 : 0 < W.heap.size) (h : x < 1 ∨ 512 < x ∨ 200 < m) : Calls Tryd.prog 7 #[.int .i64 x, .slice a m C] W fun e w' => e = .returned (.bool true) ∧ Below W.heap.size W w' := by
  have K := hidIt (known_ok W hT h0)
  by_cases h1 : x < 1
  · have N := hidIt fun (u : World) => new_er u x (.inl h1)
    clear hT h0 h
    go_enter Tryd.func7, Tryd.ntmps7
    go_wp2_with (first
      | (go_at_call 6; refine K.out.mono ?_; rintro e W1 ⟨rfl, hb⟩; have B1 := hidIt hb; clear hb)
      | (go_at_call 9; refine (N.out _).mono ?_; rintro e w' ⟨rfl, hw⟩; subst w'))
    go_ret
    exact ⟨rfl, B1.out⟩
  · by_cases h2 : 512 < x
    · have N := hidIt fun (u : World) => new_er u x (.inr h2)
      clear hT h0 h
      go_enter Tryd.func7, Tryd.ntmps7
      go_wp2_with (first
        | (go_at_call 6; refine K.out.mono ?_; rintro e W1 ⟨rfl, hb⟩; have B1 := hidIt hb; clear hb)
        | (go_at_call 9; refine (N.out _).mono ?_; rintro e w' ⟨rfl, hw⟩; subst w'))
      go_ret
      exact ⟨rfl, B1.out⟩
    · have h3 : 200 < (m : Int) := by omega
      obtain ⟨n, rfl⟩ : ∃ n : Nat, x = (n : Int) := ⟨x.toNat, by omega⟩
      have N := hidIt fun (u : World) => new_ok u n (by omega) (by omega)
      have e1 : ((n : Int) < 1) = False := by simpa using h1
      have e2 : (512 < (n : Int)) = False := by simpa using h2
      clear hT h0 h h1 h2
      go_enter Tryd.func7, Tryd.ntmps7
      go_wp2_with (first
        | (go_at_call 6; refine K.out.mono ?_; rintro e W1 ⟨rfl, hb⟩; have B1 := hidIt hb; clear hb)
        | (go_at_call 9; refine (N.out _).mono ?_; rintro e W2 ⟨rfl, hs, hb⟩; have B2 := hidIt hb; clear hb hs))
      go_ret
      exact ⟨rfl, B1.out.trans (B2.out.mono B1.out.size)⟩
end Go.Proofs.YtkncnpjhfcfmnaaDoor
