
/-
  Walks, not a claim by itself: the law of choosing. By the verifier.
-/
import Derived.Test.YtelcijfcgflagaaLwE
import Derived.Test.YtelcijfcgflagaaLwF
import Derived.Test.YtelcijfcgflagaaLwB
import Derived.Test.YtelcijfcgflagaaLvAk
namespace Go.Proofs.Ytelcijfcgflagaa
open Go.RowKit
def LeF (x y : Rn) : Prop := cmpB x.f y.f ≤ 0
def LtF (x y : Rn) : Prop := cmpB x.f y.f < 0
theorem snd_le {r : Rn} (h : sndR r = true) : cmpB r.f r.l ≤ 0 := by
  unfold sndR at h
  simp only [Bool.and_eq_true, decide_eq_true_eq] at h
  exact h.2
theorem str_of : ∀ (l : List Rn), (∀ x ∈ l, cmpB x.f x.l ≤ 0) → chnR l = true → l.Pairwise LtF
  | [], _, _ => .nil
  | [a], _, _ => List.pairwise_singleton _ _
  | a :: b :: t, h, hc => by
    unfold chnR at hc
    rw [Bool.and_eq_true, decide_eq_true_eq] at hc
    have i := str_of (b :: t) (fun x hx => h x (List.mem_cons_of_mem _ hx)) hc.2
    refine List.pairwise_cons.2 ⟨fun y hy => ?_, i⟩
    have ab : cmpB a.f b.f < 0 := c_le_lt (h a List.mem_cons_self) hc.1
    rcases List.mem_cons.1 hy with rfl | hy
    · exact ab
    · exact c_trans ab ((List.pairwise_cons.1 i).1 y hy)
theorem with_nil (r : Rn) : withD [] r = [r] := rfl
theorem with_cons (x : Rn) (q : List Rn) (r : Rn) : withD (x :: q) r = if cmpB x.f r.f ≤ 0 then x :: withD q r else r :: x :: q := by
  unfold withD wiD
  by_cases h : cmpB x.f r.f ≤ 0
  · rw [if_pos h, List.takeWhile_cons_of_pos (by simpa using h)]
    rfl
  · rw [if_neg h, List.takeWhile_cons_of_neg (by simpa using h)]
    rfl
theorem withD_mem {l : List Rn} {r x : Rn} (h : x ∈ withD l r) : x ∈ l ∨ x = r := by
  unfold withD at h
  simp only [List.mem_append, List.mem_singleton] at h
  rcases h with (h | h) | h
  · exact .inl (List.mem_of_mem_take h)
  · exact .inr h
  · exact .inl (List.mem_of_mem_drop h)
theorem with_perm (l : List Rn) (r : Rn) : (withD l r).Perm (r :: l) := by
  unfold withD
  rw [List.append_assoc]
  have h : (l.take (wiD l r) ++ r :: l.drop (wiD l r)).Perm (r :: (l.take (wiD l r) ++ l.drop (wiD l r))) := List.perm_middle
  rwa [List.take_append_drop] at h
theorem with_srt : ∀ (l : List Rn) (r : Rn), l.Pairwise LeF → (withD l r).Pairwise LeF
  | [], r, _ => List.pairwise_singleton _ _
  | x :: q, r, h => by
    rw [with_cons]
    have hx := List.pairwise_cons.1 h
    by_cases c : cmpB x.f r.f ≤ 0
    · rw [if_pos c]
      refine List.pairwise_cons.2 ⟨fun y hy => ?_, with_srt q r hx.2⟩
      rcases withD_mem hy with hy | rfl
      · exact hx.1 y hy
      · exact c
    · rw [if_neg c]
      have rx : cmpB r.f x.f ≤ 0 := by have := c_anti r.f x.f; omega
      refine List.pairwise_cons.2 ⟨fun y hy => ?_, h⟩
      rcases List.mem_cons.1 hy with rfl | hy
      · exact rx
      · exact c_le_le rx (hx.1 y hy)
theorem ins_perm : ∀ (ts l : List Rn), (insD l ts).Perm (l ++ ts)
  | [], l => by rw [List.append_nil]; exact List.Perm.refl _
  | t :: q, l => by
    show (insD (withD l t) q).Perm _
    exact (ins_perm q (withD l t)).trans (((with_perm l t).append_right q).trans List.perm_middle.symm)
theorem ins_srt : ∀ (ts l : List Rn), l.Pairwise LeF → (insD l ts).Pairwise LeF
  | [], _, h => h
  | t :: q, l, h => by
    show (insD (withD l t) q).Pairwise _
    exact ins_srt q _ (with_srt l t h)
theorem lt_one {l : List Rn} (h : l.Pairwise LtF) {a b : Rn} (ha : a ∈ l) (hb : b ∈ l) (h1 : LeF a b) (h2 : LeF b a) : a = b := by
  obtain ⟨i, hi, rfl⟩ := List.getElem_of_mem ha
  obtain ⟨j, hj, rfl⟩ := List.getElem_of_mem hb
  have p := List.pairwise_iff_getElem.1 h
  rcases Nat.lt_trichotomy i j with q | q | q
  · have z : cmpB l[i].f l[j].f < 0 := p i j hi hj q
    have := c_anti l[j].f l[i].f
    have h2 : cmpB l[j].f l[i].f ≤ 0 := h2
    omega
  · subst q; rfl
  · have z : cmpB l[j].f l[i].f < 0 := p j i hj hi q
    have := c_anti l[j].f l[i].f
    have h1 : cmpB l[i].f l[j].f ≤ 0 := h1
    omega
theorem eq_strict {l k : List Rn} (hp : l.Perm k) (hl : l.Pairwise LtF) (hk : k.Pairwise LeF) : l = k :=
  List.Perm.eq_of_pairwise (fun _ _ ha hb h1 h2 => lt_one hl ha (hp.symm.subset hb) h1 h2) (hl.imp (fun h => Int.le_of_lt h)) hk hp
theorem rp_str {m : List (List Rn)} {i : Nat} {fr qs : List Rn} (hi : i < 3) (h : mayB [rpL m i fr qs 0, rpL m i fr qs 1, rpL m i fr qs 2, rpL m i fr qs 3] = true) : qs.Pairwise LtF := by
  have a := may_fourD h (i + 1)
  have e : fourD [rpL m i fr qs 0, rpL m i fr qs 1, rpL m i fr qs 2, rpL m i fr qs 3] (i + 1) = qs := by
    rcases (show i = 0 ∨ i = 1 ∨ i = 2 by omega) with rfl | rfl | rfl <;> rfl
  rw [e] at a
  exact str_of qs (fun x hx => snd_le (List.all_eq_true.1 a.1 x hx)) (a.2 (by omega))
/-- Sorted at once and sorted in one by one: where the levels may be, it is the same. -/
theorem rep_same {m : List (List Rn)} {z : Int} {fr to fresh qs : List Rn} (hp : preB m z fr to = true) (hq : qs.Perm (restD ((m[z.toNat + 1]?).getD []) to ++ fresh)) (hs : qs.Pairwise (fun x y => cmpB x.f y.f ≤ 0)) :
    mayB [rpL m z.toNat fr qs 0, rpL m z.toNat fr qs 1, rpL m z.toNat fr qs 2, rpL m z.toNat fr qs 3] = mayB [rpL m z.toNat fr (insD (restD ((m[z.toNat + 1]?).getD []) to) fresh) 0, rpL m z.toNat fr (insD (restD ((m[z.toNat + 1]?).getD []) to) fresh) 1, rpL m z.toNat fr (insD (restD ((m[z.toNat + 1]?).getD []) to) fresh) 2, rpL m z.toNat fr (insD (restD ((m[z.toNat + 1]?).getD []) to) fresh) 3] ∧
    (mayB [rpL m z.toNat fr qs 0, rpL m z.toNat fr qs 1, rpL m z.toNat fr qs 2, rpL m z.toNat fr qs 3] = true → qs = insD (restD ((m[z.toNat + 1]?).getD []) to) fresh) := by
  unfold preB at hp
  simp only [Bool.and_eq_true, decide_eq_true_eq] at hp
  obtain ⟨⟨⟨⟨hm, h0⟩, h3⟩, _⟩, _⟩ := hp
  obtain ⟨i, rfl⟩ : ∃ i : Nat, z = (i : Int) := ⟨z.toNat, by omega⟩
  rw [Int.toNat_natCast] at hq ⊢
  have hi : i < 3 := by omega
  have a := may_fourD hm (i + 1)
  have l0 : ((m[i + 1]?).getD []).Pairwise LtF := str_of _ (fun x hx => snd_le (List.all_eq_true.1 a.1 x hx)) (a.2 (by omega))
  have l1 : (restD ((m[i + 1]?).getD []) to).Pairwise LeF := (l0.filter _).imp (fun h => Int.le_of_lt h)
  have ps := ins_perm fresh (restD ((m[i + 1]?).getD []) to)
  have ss := ins_srt fresh _ l1
  have pq := hq.trans ps.symm
  have one : mayB [rpL m i fr qs 0, rpL m i fr qs 1, rpL m i fr qs 2, rpL m i fr qs 3] = true → qs = insD (restD ((m[i + 1]?).getD []) to) fresh := fun h => eq_strict pq (rp_str hi h) ss
  have two : mayB [rpL m i fr (insD (restD ((m[i + 1]?).getD []) to) fresh) 0, rpL m i fr (insD (restD ((m[i + 1]?).getD []) to) fresh) 1, rpL m i fr (insD (restD ((m[i + 1]?).getD []) to) fresh) 2, rpL m i fr (insD (restD ((m[i + 1]?).getD []) to) fresh) 3] = true → insD (restD ((m[i + 1]?).getD []) to) fresh = qs := fun h => eq_strict pq.symm (rp_str hi h) hs
  refine ⟨?_, one⟩
  cases h1 : mayB [rpL m i fr qs 0, rpL m i fr qs 1, rpL m i fr qs 2, rpL m i fr qs 3] with
  | true => rw [one h1] at h1; exact h1.symm
  | false =>
    cases h2 : mayB [rpL m i fr (insD (restD ((m[i + 1]?).getD []) to) fresh) 0, rpL m i fr (insD (restD ((m[i + 1]?).getD []) to) fresh) 1, rpL m i fr (insD (restD ((m[i + 1]?).getD []) to) fresh) 2, rpL m i fr (insD (restD ((m[i + 1]?).getD []) to) fresh) 3] with
    | false => rfl
    | true => rw [two h2] at h2; rw [h1] at h2; exact h2
end Go.Proofs.Ytelcijfcgflagaa
namespace Go.Proofs.Ytelcijfcgflagaa
open Go.RowKit
def chF (m : List (List Rn)) (z : Int) : List Rn := if choP m z then froP m z.toNat else []
def chI (m : List (List Rn)) (z : Int) : List Rn := if choP m z then intP m z.toNat else []
def chZ (m : List (List Rn)) (z : Int) : Int := if choP m z then z else 0
def chD (m : List (List Rn)) (z : Int) : Bool := if choP m z then drpP m z.toNat 4 else false
def chE (m : List (List Rn)) (z : Int) : Int := if choP m z then 0 else 2
theorem PlI.none (W : World) {w' : World} (h : Below W.heap.size W w') : PlI W w' W.heap.size w'.heap.size none 0 [] none 0 [] :=
  ⟨⟨Nat.le_refl _, h.size⟩, Nat.le_refl _, OwnR.nil _ _, fun b hb => (by cases hb), fun x hx => (by cases hx), fun x hx => (by cases hx), OwnR.nil _ _, fun b hb => (by cases hb), fun x hx => (by cases hx), h⟩
theorem ch_form {W : World} {ls : List LR} {z : Int} {e : Ending} {w' : World} {m : List (List Rn)} (h : ChoP W ls z e w') (hm : rns ls = m) : ∃ B1 B2 a c os a2 c2 os2, e = .returned (.tuple #[.agg (plC (chZ m z) (.slice a (os : List RV).length c) (.slice a2 (os2 : List RV).length c2) (chD m z)).toArray, .int .i64 (chE m z)]) ∧ PlI W w' B1 B2 a c os a2 c2 os2 ∧ os.map RV.r = chF m z ∧ os2.map RV.r = chI m z := by
  subst hm
  rcases h with ⟨hc, rfl, hb⟩ | ⟨hc, B1, B2, a, c, os, a2, c2, os2, rfl, hp, h1, h2⟩
  · rw [cho_map] at hc
    refine ⟨_, _, none, 0, [], none, 0, [], ?_, PlI.none W hb, ?_, ?_⟩
    · unfold chZ chD chE; rw [hc]; rfl
    · unfold chF; rw [hc]; rfl
    · unfold chI; rw [hc]; rfl
  · rw [cho_map] at hc
    refine ⟨B1, B2, a, c, os, a2, c2, os2, ?_, hp, ?_, ?_⟩
    · unfold chZ chD chE; rw [hc, drp_map]; rfl
    · unfold chF; rw [hc, h1, fro_map]; rfl
    · unfold chI; rw [hc, h2, int_map]; rfl
theorem nc_form {W : World} {ls : List LR} {z : Int} {e : Ending} {w' : World} {m : List (List Rn)} (h : NcP W ls z e w') (hm : rns ls = m) : ∃ a c os a2 c2 os2, e = .returned (.tuple #[.agg (plC (chZ m z) (.slice a (os : List RV).length c) (.slice a2 (os2 : List RV).length c2) (chD m z)).toArray, .int .i64 (chE m z)]) ∧ LsR w' a os ∧ LsR w' a2 os2 ∧ os.map RV.r = chF m z ∧ os2.map RV.r = chI m z ∧ Below W.heap.size W w' := by
  subst hm
  rcases h with ⟨hc, rfl, hb⟩ | ⟨hc, a, c, os, a2, c2, os2, rfl, l1, l2, h1, h2, hb⟩
  · rw [cho_map] at hc
    refine ⟨none, 0, [], none, 0, [], ?_, LsR.nilA _ _, LsR.nilA _ _, ?_, ?_, hb⟩
    · unfold chZ chD chE; rw [hc]; rfl
    · unfold chF; rw [hc]; rfl
    · unfold chI; rw [hc]; rfl
  · rw [cho_map] at hc
    refine ⟨a, c, os, a2, c2, os2, ?_, l1, l2, ?_, ?_, hb⟩
    · unfold chZ chD chE; rw [hc, drp_map]; rfl
    · unfold chF; rw [hc, h1, fro_map]; rfl
    · unfold chI; rw [hc, h2, int_map]; rfl
/-- The levels that Replace makes, or none. -/
def rpQ (m : List (List Rn)) (z : Int) (to fresh : List Rn) : List Rn := insD (restD ((m[z.toNat + 1]?).getD []) to) fresh
def rp4 (m : List (List Rn)) (z : Int) (fr to fresh : List Rn) : List (List Rn) := [rpL m z.toNat fr (rpQ m z to fresh) 0, rpL m z.toNat fr (rpQ m z to fresh) 1, rpL m z.toNat fr (rpQ m z to fresh) 2, rpL m z.toNat fr (rpQ m z to fresh) 3]
def rpOk (m : List (List Rn)) (z : Int) (fr to fresh : List Rn) : Bool := preB m z fr to && mayB (rp4 m z fr to fresh)
def rpM (m : List (List Rn)) (z : Int) (fr to fresh : List Rn) : List (List Rn) := if rpOk m z fr to fresh then rp4 m z fr to fresh else []
def rpE (m : List (List Rn)) (z : Int) (fr to fresh : List Rn) : Int := if rpOk m z fr to fresh then 0 else 2
/-- The program's Replace, split by whether it may be. -/
theorem re_form {W : World} {m : List (List Rn)} {z : Int} {fr to fresh : List Rn} {e : Ending} {w' : World} (h : ReP W m z fr to fresh e w') : ∃ v, e = .returned (.tuple #[v, .int .i64 (rpE m z fr to fresh)]) ∧ Below W.heap.size W w' ∧ ((rpM m z fr to fresh = [] ∧ v = .slice none 0 0) ∨ (rpM m z fr to fresh = rp4 m z fr to fresh ∧ ∃ B1 g lv os, v = .slice (some ⟨g, 0, none⟩) 4 4 ∧ Fo B1 w' g lv os ∧ W.heap.size < g ∧ W.heap.size < B1 ∧ ∀ k, k < 4 → (os k).map RV.r = rpL m z.toNat fr (rpQ m z to fresh) k)) := by
  rcases h with ⟨hp, rfl, hb⟩ | ⟨hp, qs, hq, hs, hc⟩
  · have ok : rpOk m z fr to fresh = false := by unfold rpOk; rw [hp]; rfl
    exact ⟨_, by unfold rpE; rw [ok]; rfl, hb, .inl ⟨by unfold rpM; rw [ok]; rfl, rfl⟩⟩
  · obtain ⟨s1, s2⟩ := rep_same (fresh := fresh) hp hq hs
    rcases hc with ⟨hc, rfl, hb⟩ | ⟨hc, B1, g, lv, os, rfl, hF, hg, hB, hm, hb⟩
    · have ok : rpOk m z fr to fresh = false := by unfold rpOk rp4 rpQ; rw [← s1, hc, Bool.and_false]
      exact ⟨_, by unfold rpE; rw [ok]; rfl, hb, .inl ⟨by unfold rpM; rw [ok]; rfl, rfl⟩⟩
    · have ok : rpOk m z fr to fresh = true := by unfold rpOk rp4 rpQ; rw [← s1, hc, hp]; rfl
      exact ⟨_, by unfold rpE; rw [ok]; rfl, hb, .inr ⟨by unfold rpM; rw [ok]; rfl, B1, g, lv, os, rfl, hF, hg, hB, fun k hk => by unfold rpQ; rw [← s2 hc]; exact hm k hk⟩⟩
/-- The reference's Replace, as levels. -/
theorem nr_form {W : World} {m : List (List Rn)} {z : Int} {fr to fresh : List Rn} {e : Ending} {w' : World} (h : NrP W m z fr to fresh e w') : ∃ A c xs, e = .returned (.tuple #[.slice A (xs : List LR).length c, .int .i64 (rpE m z fr to fresh)]) ∧ Lvs w' A xs ∧ rns xs = rpM m z fr to fresh ∧ Below W.heap.size W w' := by
  have nl : ∀ U, Lvs U none [] := fun U => ⟨fun x hx => (by cases hx), fun q => absurd rfl q⟩
  rcases h with ⟨hp, rfl, hb⟩ | ⟨hp, qs, rfl, hc⟩
  · have ok : rpOk m z fr to fresh = false := by unfold rpOk; rw [hp]; rfl
    exact ⟨none, 0, [], by unfold rpE; rw [ok]; rfl, nl _, by unfold rpM; rw [ok]; rfl, hb⟩
  · rcases hc with ⟨hc, rfl, hb⟩ | ⟨hc, g, lv, rfl, hF, hg, hm, hb⟩
    · have ok : rpOk m z fr to fresh = false := by unfold rpOk rp4 rpQ; rw [hc, Bool.and_false]
      exact ⟨none, 0, [], by unfold rpE; rw [ok]; rfl, nl _, by unfold rpM; rw [ok]; rfl, hb⟩
    · have ok : rpOk m z fr to fresh = true := by unfold rpOk rp4 rpQ; rw [hc, hp]; rfl
      exact ⟨some ⟨g, 0, none⟩, 4, [lv 0, lv 1, lv 2, lv 3], by unfold rpE; rw [ok]; rfl, hF.lvs, by unfold rpM; rw [ok]; exact four_rns2 hm, hb⟩
theorem Fo.lvsOf {B1 : Nat} {W : World} {g : Nat} {lv : Nat → Value} {os : Nat → List RV} {f : Nat → List Rn} (h : Fo B1 W g lv os) (hm : ∀ i, i < 4 → (os i).map RV.r = f i) : ∃ ls : List LR, ls.length = 4 ∧ Lvs W (some ⟨g, 0, none⟩) ls ∧ rns ls = [f 0, f 1, f 2, f 3] := by
  obtain ⟨ls, h1, h2, _, h4⟩ := h.lvs
  exact ⟨ls, h1, h2, by rw [h4, hm 0 (by omega), hm 1 (by omega), hm 2 (by omega), hm 3 (by omega)]⟩
/-- The program's, as levels. -/
theorem re_lvs {W : World} {m : List (List Rn)} {z : Int} {fr to fresh : List Rn} {e : Ending} {w' : World} (h : ReP W m z fr to fresh e w') : ∃ A c xs, e = .returned (.tuple #[.slice A (xs : List LR).length c, .int .i64 (rpE m z fr to fresh)]) ∧ Lvs w' A xs ∧ rns xs = rpM m z fr to fresh ∧ Below W.heap.size W w' := by
  obtain ⟨v, rfl, hb, ⟨h0, rfl⟩ | ⟨h1, B1, g, lv, os, rfl, hF, _, _, hm⟩⟩ := re_form h
  · exact ⟨none, 0, [], rfl, ⟨fun x hx => (by cases hx), fun q => absurd rfl q⟩, h0.symm, hb⟩
  · obtain ⟨xs, x1, x2, x3⟩ := hF.lvsOf hm
    exact ⟨some ⟨g, 0, none⟩, 4, xs, by rw [x1], x2, by rw [x3, h1]; rfl, hb⟩
end Go.Proofs.Ytelcijfcgflagaa
namespace Go.Proofs.Ytelcijfcgflagaa
open Go.RowKit
attribute [-go_sem] Builtin.append_
theorem Rec19.same {W W' : World} {n o : Nat} {cs : List Value} (h : Rec19 W n o cs) (e : W'.heap[n]? = W.heap[n]?) (hs : W.heap.size ≤ W'.heap.size) : Rec19 W' n o cs :=
  ⟨fun j v hj => (World.cell?_of_block (w := W) (a := ⟨n, o + j, none⟩) e).trans (h.1 j v hj), fun j hj => by rw [World.cell?_of_block (w := W) (a := ⟨n, o + j, none⟩) e, World.frozen?_of_block (w := W) (a := ⟨n, o + j, none⟩) e]; exact h.2.1 j hj, Nat.lt_of_lt_of_le h.2.2 hs⟩
theorem OwnR.same {w u : World} {base : Nat} {v : Value} {ps : List RV} (h : OwnR w base v ps) (e : ∀ b, v.ownBlock = some b → u.heap[b]? = w.heap[b]?) : OwnR u base v ps := by
  refine ⟨h.1, ?_⟩
  rcases h.2 with h0 | ⟨g, cap, cur, rfl, hb, hg, rest⟩
  · exact .inl h0
  · exact .inr ⟨g, cap, cur, rfl, hb, (e g rfl).trans hg, rest⟩
/-- What stands while what Add told is written over, level by level. -/
structure WoI (B g : Nat) (lv : Nat → Value) (os : Nat → List RV) (W0 : World) (k : Nat) (wr : World) : Prop where
  rc : Rec19 wr g 0 [lv 0, lv 1, lv 2, lv 3]
  own : ∀ i, k ≤ i → i < 4 → OwnR wr 0 (lv i) (os i)
  new : ∀ i, i < 4 → ∀ b, (lv i).ownBlock = some b → B ≤ b ∧ b ≠ g
  dis : ∀ i j b, i < 4 → j < 4 → (lv i).ownBlock = some b → (lv j).ownBlock = some b → i = j
  ovs : ∀ i, i < 4 → ∀ x ∈ os i, OvS wr (fun b => B ≤ b) (fun b => b ∈ foN g lv) x.f ∧ OvS wr (fun b => B ≤ b) (fun b => b ∈ foN g lv) x.l
  below : Below B W0 wr
  base : B ≤ W0.heap.size
theorem WoI.start {B B1 g : Nat} {lv : Nat → Value} {os : Nat → List RV} {W0 W : World} (h : Fo B1 W g lv os) (hB : B ≤ B1) (hb : Below B W0 W) (h0 : B ≤ W0.heap.size) : WoI B g lv os W0 0 W :=
  ⟨h.rc, fun i _ hi => h.own i hi, fun i hi b hb => ⟨Nat.le_trans hB (h.new i hi b hb).1, (h.new i hi b hb).2⟩, h.dis, fun i hi x hx => ⟨OvS.of (h.oks i hi x hx).1.1 (h.oks i hi x hx).2.1 (fun _ q => q) (fun _ q _ => Nat.le_trans hB q), OvS.of (h.oks i hi x hx).1.2 (h.oks i hi x hx).2.2 (fun _ q => q) (fun _ q _ => Nat.le_trans hB q)⟩, hb, h0⟩
theorem WoI.next {B g : Nat} {lv : Nat → Value} {os : Nat → List RV} {W0 wr w' : World} {k L : Nat} (h : WoI B g lv os W0 k wr) (hk : OvK (fun b => B ≤ b) (fun b => b ∈ foN g lv) L wr w') (hg : g ≠ L) (hL : ∀ i b, k < i → i < 4 → (lv i).ownBlock = some b → b ≠ L) : WoI B g lv os W0 (k + 1) w' :=
  ⟨h.rc.same (hk.blk g (foN_of.2 (.inl rfl)) hg h.rc.2.2) hk.ofs.size, fun i hi h4 => (h.own i (by omega) h4).same (fun b hb => hk.blk b (foN_of.2 (.inr ⟨i, h4, hb⟩)) (hL i b (by omega) h4 hb) ((h.own i (by omega) h4).lt hb)), h.new, h.dis, fun i hi x hx => ⟨hk.keep _ (h.ovs i hi x hx).1, hk.keep _ (h.ovs i hi x hx).2⟩, h.below.trans (hk.ofs.below (fun _ q => q) (Nat.le_trans h.base h.below.size)), h.base⟩
theorem wo_call {B g : Nat} {lv : Nat → Value} {os : Nat → List RV} {W0 wr : World} {k : Nat} (h : WoI B g lv os W0 k wr) (hk : k < 4) (hf : (os k).length ≤ 100000) : Calls Try.prog 14 #[lv k] wr fun e w' => e = .returned (.tuple #[]) ∧ WoI B g lv os W0 (k + 1) w' := by
  have ho := h.own k (Nat.le_refl _) hk
  obtain ⟨a, c, hv, _⟩ := ho.sl
  have ho' := ho
  rw [hv] at ho' ⊢
  by_cases h0 : os k = []
  · refine (overRuns_any (S := fun b => B ≤ b) (T := fun b => b ∈ foN g lv) (os k).length c wr.heap.size rfl hf (fun q => absurd h0 q)).mono ?_
    rintro e w' ⟨rfl, hK⟩
    exact ⟨rfl, h.next hK (by have := h.rc.2.2; omega) (fun i b hi h4 hb => by have := (h.own i (by omega) h4).lt hb; omega)⟩
  · rcases ho'.form with ⟨_, q⟩ | ⟨L, cap, hs, _, _, _, hL, hR⟩
    · exact absurd q h0
    · injection hs with ha
      subst ha
      have own : (lv k).ownBlock = some L := by rw [hv]; rfl
      refine (overRuns_any (S := fun b => B ≤ b) (T := fun b => b ∈ foN g lv) (os k).length c L rfl hf (fun _ => ⟨rfl, (h.new k hk L own).1, foN_of.2 (.inr ⟨k, hk, own⟩), hR, fun x hx => h.ovs k hk x hx⟩)).mono ?_
      rintro e w' ⟨rfl, hK⟩
      exact ⟨rfl, h.next hK (fun q => (h.new k hk L own).2 q.symm) (fun i b hi h4 hb q => by subst q; have := h.dis i k b h4 hk hb own; omega)⟩
/-- A list that was told lately may be written over. -/
theorem tell_over {W : World} {base : Nat} {a : Option Addr} {c : Nat} {os : List RV} (h1 : OwnR W 0 (.slice a os.length c) os) (h2 : ∀ b, (Value.slice a os.length c).ownBlock = some b → base ≤ b) (h3 : ∀ x ∈ os, OkT base W (Value.slice a os.length c).ownBlock.toList x) (hb : base ≤ W.heap.size) (hf : os.length ≤ 100000) : Calls Try.prog 14 #[.slice a os.length c] W fun e w' => e = .returned (.tuple #[]) ∧ Below base W w' := by
  by_cases h0 : os = []
  · refine (overRuns_any (S := fun b => base ≤ b) (T := fun b => b ∈ (Value.slice a os.length c).ownBlock.toList) os.length c 0 rfl hf (fun q => absurd h0 q)).mono ?_
    rintro e w' ⟨rfl, hK⟩
    exact ⟨rfl, hK.ofs.below (fun _ q => q) hb⟩
  · rcases h1.form with ⟨_, q⟩ | ⟨L, cap, hs, _, _, _, hL, hR⟩
    · exact absurd q h0
    · injection hs with ha
      subst ha
      refine (overRuns_any (S := fun b => base ≤ b) (T := fun b => b ∈ (Value.slice (some ⟨L, 0, none⟩) os.length c).ownBlock.toList) os.length c L rfl hf (fun _ => ⟨rfl, h2 L rfl, by simp [Value.ownBlock], hR, fun x hx => ⟨OvS.of (h3 x hx).1.1 (h3 x hx).2.1 (fun _ q => q) (fun _ q _ => q), OvS.of (h3 x hx).1.2 (h3 x hx).2.2 (fun _ q => q) (fun _ q _ => q)⟩⟩)).mono ?_
      rintro e w' ⟨rfl, hK⟩
      exact ⟨rfl, hK.ofs.below (fun _ q => q) hb⟩
theorem na_no {W : World} {m : List (List Rn)} {r : Rn} {e : Ending} {w' : World} (h : NaPost W m r e w') (hn : (mayB m && sndR r) = false) : e = .returned (.tuple #[.slice none 0 0, .int .i64 2]) ∧ Below W.heap.size W w' := by
  rcases h.2 with ⟨_, q⟩ | ⟨q, _⟩
  · exact ⟨q, h.1⟩
  · rw [hn] at q; cases q
theorem na_yes {W : World} {m : List (List Rn)} {r : Rn} {e : Ending} {w' : World} (h : NaPost W m r e w') (hn : (mayB m && sndR r) = true) : ∃ g lv, e = .returned (.tuple #[.slice (some ⟨g, 0, none⟩) 4 4, .int .i64 0]) ∧ Four w' g lv ∧ (∀ i, i < 4 → (lv i).rs.map RV.r = if i = 0 then r :: fourD m 0 else fourD m i) ∧ Below W.heap.size W w' := by
  rcases h.2 with ⟨q, _⟩ | ⟨_, g, lv, q1, q2, q3⟩
  · rw [hn] at q; cases q
  · exact ⟨g, lv, q1, q2, q3, h.1⟩
theorem rns_sm {ls ms : List LR} (h : rns ms = rns ls) (hs : ∀ x ∈ ls, x.rs.length ≤ 40 ∧ ∀ y ∈ x.rs, SmR y.r) : ∀ x ∈ ms, x.rs.length ≤ 40 ∧ ∀ y ∈ x.rs, SmR y.r := fun x hx => by
  have : x.rs.map RV.r ∈ rns ls := by rw [← h]; exact List.mem_map.2 ⟨x, hx, rfl⟩
  obtain ⟨x', hx', e⟩ := List.mem_map.1 this
  refine ⟨?_, fun y hy => ?_⟩
  · have a := congrArg List.length e
    rw [List.length_map, List.length_map] at a
    have := (hs x' hx').1
    omega
  · have : y.r ∈ x'.rs.map RV.r := by rw [e]; exact List.mem_map.2 ⟨y, hy, rfl⟩
    obtain ⟨y', hy', e'⟩ := List.mem_map.1 this
    rw [← e']
    exact (hs x' hx').2 y' hy'
theorem Fo.same4 {B1 : Nat} {W : World} {g : Nat} {lv : Nat → Value} {os : Nat → List RV} (h : Fo B1 W g lv os) {m : List (List Rn)} {r : Rn} (hm : ∀ i, i < 4 → (os i).map RV.r = if i = 0 then r :: fourD m 0 else fourD m i) : ∃ ls : List LR, ls.length = 4 ∧ Lvs W (some ⟨g, 0, none⟩) ls ∧ rns ls = [r :: fourD m 0, fourD m 1, fourD m 2, fourD m 3] := by
  obtain ⟨ls, h1, h2, _, h4⟩ := h.lvs
  have a0 := hm 0 (by omega)
  have a1 := hm 1 (by omega)
  have a2 := hm 2 (by omega)
  have a3 := hm 3 (by omega)
  simp at a0 a1 a2 a3
  exact ⟨ls, h1, h2, by rw [h4, a0, a1, a2, a3]⟩
end Go.Proofs.Ytelcijfcgflagaa
namespace Go.Proofs.Ytelcijfcgflagaa
open Go.RowKit
attribute [-go_sem] Builtin.append_
theorem OfS.offN {S : Nat → Prop} {X : Nat} {w w' : World} (h : OfS S w w') (hs : ∀ b, S b → b < X) : Off (List.range X) w w' := ⟨h.os, h.tape, h.output, h.size, fun k hk hn => h.block k hk (fun q => hn (List.mem_range.2 (hs k q)))⟩
theorem OkT.farN {B : Nat} {W W' : World} {N M : List Nat} {x : RV} (h : OkT B W N x) (O : Off M W W') (hM : ∀ g, g ∈ M → g < B) : OkT B W' N x :=
  ⟨⟨h.1.1.off O hM, h.1.2.off O hM⟩, h.2.both ⟨h.1.1.txt hM, h.1.2.txt hM⟩ O⟩
theorem Fo.farN {B1 g : Nat} {W W' : World} {M : List Nat} {lv : Nat → Value} {os : Nat → List RV} (h : Fo B1 W g lv os) (O : Off M W W') (hM : ∀ b, b ∈ M → b < B1) (hg : g ∉ M) : Fo B1 W' g lv os :=
  ⟨h.rc.off O hg, fun i hi => (h.own i hi).off O (fun b hb q => by have := (h.new i hi b hb).1; have := hM b q; omega), h.new, h.dis, fun i hi x hx => (h.oks i hi x hx).farN O hM⟩
theorem OvS.farN {S T : Nat → Prop} {M : List Nat} {W W' : World} {s : Value} (h : OvS W S T s) (O : Off M W W') (hM : ∀ b, b ∈ M → ¬ S b) : OvS W' S T s := by
  rcases h with h | ⟨g2, n, F2, hs, hb2, hl2, h1, h2, hR2⟩
  · exact .inl h
  · have e : g2 ∉ M := fun q => hM g2 q hb2
    have q : hsz W' g2 = hsz W g2 := hsz_eq (O.block g2 hR2.2.2 e)
    exact .inr ⟨g2, n, F2, by rw [q]; exact hs, hb2, hl2, by rw [q]; exact h1, by rw [q]; exact h2, by rw [q]; exact hR2.off O e⟩
/-- The first list of a plan is written over. -/
theorem pl_one {W w' U : World} {B1 B2 : Nat} {a a2 : Option Addr} {c c2 : Nat} {os os2 : List RV} (h : PlI W w' B1 B2 a c os a2 c2 os2) (hB : Below w'.heap.size w' U) (hf : os.length ≤ 100000) : Calls Try.prog 14 #[.slice a os.length c] U fun e w2 => e = .returned (.tuple #[]) ∧ OfS (fun b => B1 ≤ b ∧ b < B2) U w2 := by
  have k := h.below' hB
  by_cases h0 : os = []
  · refine (overRuns_any (S := fun b => B1 ≤ b ∧ b < B2) (T := fun b => b ∈ (Value.slice a os.length c).ownBlock.toList) os.length c 0 rfl hf (fun q => absurd h0 q)).mono ?_
    rintro e w2 ⟨rfl, hK⟩
    exact ⟨rfl, hK.ofs⟩
  · rcases k.own.form with ⟨_, q⟩ | ⟨L, cap, hs, _, _, _, hL, hR⟩
    · exact absurd q h0
    · injection hs with ha
      subst ha
      refine (overRuns_any (S := fun b => B1 ≤ b ∧ b < B2) (T := fun b => b ∈ (Value.slice (some ⟨L, 0, none⟩) os.length c).ownBlock.toList) os.length c L rfl hf (fun _ => ⟨rfl, k.new L rfl, by simp [Value.ownBlock], hR, k.ovs⟩)).mono ?_
      rintro e w2 ⟨rfl, hK⟩
      exact ⟨rfl, hK.ofs⟩
/-- Then the second. -/
theorem pl_two {W w' U V : World} {B1 B2 : Nat} {a a2 : Option Addr} {c c2 : Nat} {os os2 : List RV} (h : PlI W w' B1 B2 a c os a2 c2 os2) (hB : Below w'.heap.size w' U) (hO : OfS (fun b => B1 ≤ b ∧ b < B2) U V) (hf : os2.length ≤ 100000) : Calls Try.prog 14 #[.slice a2 os2.length c2] V fun e w2 => e = .returned (.tuple #[]) ∧ OfS (fun b => B2 ≤ b ∧ b < w'.heap.size) V w2 := by
  have O : Off (List.range B2) U V := hO.offN (fun _ q => q.2)
  have hM : ∀ b, b ∈ List.range B2 → b < B2 := fun b hb => List.mem_range.1 hb
  by_cases h0 : os2 = []
  · refine (overRuns_any (S := fun b => B2 ≤ b ∧ b < w'.heap.size) (T := fun b => b ∈ (Value.slice a2 os2.length c2).ownBlock.toList) os2.length c2 0 rfl hf (fun q => absurd h0 q)).mono ?_
    rintro e w2 ⟨rfl, hK⟩
    exact ⟨rfl, hK.ofs⟩
  · have ov : ∀ x ∈ os2, OvS V (fun b => B2 ≤ b ∧ b < w'.heap.size) (fun b => b ∈ (Value.slice a2 os2.length c2).ownBlock.toList) x.f ∧ OvS V (fun b => B2 ≤ b ∧ b < w'.heap.size) (fun b => b ∈ (Value.slice a2 os2.length c2).ownBlock.toList) x.l := fun x hx => by
      have k := h.oks2 x hx
      have f : ∀ b, b ∈ List.range B2 → ¬ (B2 ≤ b ∧ b < w'.heap.size) := fun b hb q => by have := hM b hb; omega
      exact ⟨((OvS.of k.1.1 k.2.1 (fun _ q => q) (fun _ q r => ⟨q, r⟩)).below hB).farN O f, ((OvS.of k.1.2 k.2.2 (fun _ q => q) (fun _ q r => ⟨q, r⟩)).below hB).farN O f⟩
    have lt : ∀ b, (Value.slice a2 os2.length c2).ownBlock = some b → b < w'.heap.size := fun b hb => h.own2.lt hb
    have ow := (h.own2.below hB).off O (fun b hb q => by have := h.new2 b hb; have := hM b q; omega)
    rcases ow.form with ⟨_, q⟩ | ⟨L, cap, hs, _, _, _, hL, hR⟩
    · exact absurd q h0
    · injection hs with ha
      subst ha
      refine (overRuns_any (S := fun b => B2 ≤ b ∧ b < w'.heap.size) (T := fun b => b ∈ (Value.slice (some ⟨L, 0, none⟩) os2.length c2).ownBlock.toList) os2.length c2 L rfl hf (fun _ => ⟨rfl, ⟨h.new2 L rfl, lt L rfl⟩, by simp [Value.ownBlock], hR, ov⟩)).mono ?_
      rintro e w2 ⟨rfl, hK⟩
      exact ⟨rfl, hK.ofs⟩
/-- Both. -/
theorem pl_both {w' U V X : World} {B0 B1 B2 : Nat} (h0 : B0 ≤ B1 ∧ B1 ≤ B2 ∧ B2 ≤ w'.heap.size) (hu : w'.heap.size ≤ U.heap.size) (h1 : OfS (fun b => B1 ≤ b ∧ b < B2) U V) (h2 : OfS (fun b => B2 ≤ b ∧ b < w'.heap.size) V X) : Below B0 U X ∧ Off (List.range w'.heap.size) U X := by
  have a : OfS (fun b => B0 ≤ b ∧ b < w'.heap.size) U X := (h1.mono (fun b q => by omega)).trans (h2.mono (fun b q => by omega))
  exact ⟨a.below (fun b q => q.1) (by omega), a.offN (fun b q => q.2)⟩
end Go.Proofs.Ytelcijfcgflagaa
namespace Go.Proofs.Ytelcijfcgflagaa
open Go.RowKit
attribute [-go_sem] Builtin.append_
def T3 : Rn := ⟨3, 0, 1, ⟨#[101]⟩, ⟨#[102]⟩⟩
set_option maxRecDepth 100000 in
set_option maxHeartbeats 1000000 in
theorem samePlan_eq {W : World} {a b a2 b2 : Option Addr} {ps qs ps2 qs2 : List RV} {lv : Int} {d : Bool} (n C m D n2 C2 m2 D2 : Nat) (hn : ps.length = n) (hm : qs.length = m) (hn2 : ps2.length = n2) (hm2 : qs2.length = m2) (hL : LsR W a ps) (hM : LsR W b qs) (hL2 : LsR W a2 ps2) (hM2 : LsR W b2 qs2) (hf : n ≤ 100000) (hf2 : n2 ≤ 100000) (he : ps.map RV.r = qs.map RV.r) (he2 : ps2.map RV.r = qs2.map RV.r) : Calls Try.prog 9 #[.agg (plC lv (.slice a n C) (.slice a2 n2 C2) d).toArray, .agg (plC lv (.slice b m D) (.slice b2 m2 D2) d).toArray] W fun e w' => e = .returned (.bool true) ∧ Below W.heap.size W w' := by
  have H1 := hidIt (And.intro hn (And.intro hm (And.intro hL (And.intro hM (And.intro hf he)))))
  have H2 := hidIt (And.intro hn2 (And.intro hm2 (And.intro hL2 (And.intro hM2 (And.intro hf2 he2)))))
  clear hn hm hL hM hf he hn2 hm2 hL2 hM2 hf2 he2
  have t1 : Hid True := trivial
  have t2 : Hid True := trivial
  have ll : (lv == lv) = true := by simp
  have dd : (d == d) = true := by simp
  go_enter Try.func9, Try.ntmps9
  go_wp2_with (first
    | (have _q := t1; clear t1 _q; refine wpList_box_rec rfl 25 (.tmp 0) rfl (plC lv (.slice a n C) (.slice a2 n2 C2) d) rfl W.heap.size rfl ?_; intro W1 R1 B1 z1; have E1 := hidIt (And.intro B1 z1); have P1 := hidIt R1; clear R1 B1 z1)
    | (refine wpList_box_rec rfl 25 (.tmp 1) rfl (plC lv (.slice b m D) (.slice b2 m2 D2) d) rfl (W.heap.size + 1) E1.out.2 ?_; intro W2 R2 B2 z2; have E2 := hidIt (E1.out.1.trans (B2.mono (by have := E1.out.2; omega))); have P2 := hidIt R2; have Q2 := hidIt (P1.out.below (by rw [E1.out.2]; exact B2)); have p0 := (Q2.out.cel 0 _ rfl).1; have p1 := (Q2.out.cel 1 _ rfl).1; have p3 := (Q2.out.cel 3 _ rfl).1; have q0 := (P2.out.cel 0 _ rfl).1; have q1 := (P2.out.cel 1 _ rfl).1; have q3 := (P2.out.cel 3 _ rfl).1; clear R2 B2 z2)
    | (go_at_call 15; have _q := t2; clear t2 _q; clear p0 p1 p3 q0 q1 q3; refine (sameRuns_eq n m C D H1.out.1 H1.out.2.1 (H1.out.2.2.1.below E2.out) (H1.out.2.2.2.1.below E2.out) H1.out.2.2.2.2.1 H1.out.2.2.2.2.2).mono ?_; rintro e W3 ⟨rfl, hb⟩; have E3 := hidIt (E2.out.trans (hb.mono E2.out.size)); have p2 := ((Q2.out.below hb).cel 2 _ rfl).1; have q2 := ((P2.out.below hb).cel 2 _ rfl).1; clear hb)
    | (go_at_call 15; clear p2 q2; refine (sameRuns_eq n2 m2 C2 D2 H2.out.1 H2.out.2.1 (H2.out.2.2.1.below E3.out) (H2.out.2.2.2.1.below E3.out) H2.out.2.2.2.2.1 H2.out.2.2.2.2.2).mono ?_; rintro e W4 ⟨rfl, hb⟩; have E4 := hidIt (E3.out.trans (hb.mono E3.out.size)); clear hb))
  exact bodyPost_ret (v := .bool true) (by simp [results, Try.results9, go_sem]) rfl ⟨rfl, E4.out⟩
/-- The chapter's levels. -/
def K5 : List (List Rn) := [[T1, T1, T1, T1, T1]]
def K4 : List (List Rn) := [[T1, T1, T1, T1]]
def KL : List (List Rn) := [[T2, T1], [T3]]
theorem kn_1 : ovD K5 = (0, true) := by decide
theorem kn_2 : ovD K4 = (0, false) := by decide
theorem kn_3 : choP KL 0 = true := by decide
theorem kn_4 : froP KL 0 = [T2, T1] := by decide
theorem kn_5 : intP KL 0 = [] := by decide
theorem kn_6 : drpP KL 0 4 = true := by decide
theorem kn_7 : choP KL 3 = false := by decide
theorem kn_8 : preB KL 0 [T2, T1] [] = true := by decide
theorem kn_9 : restD ((KL[(0 : Int).toNat + 1]?).getD []) [] ++ [T2] = [T3, T2] := by decide
theorem kn_a : mayB [rpL KL 0 [T2, T1] [T2, T3] 0, rpL KL 0 [T2, T1] [T2, T3] 1, rpL KL 0 [T2, T1] [T2, T3] 2, rpL KL 0 [T2, T1] [T2, T3] 3] = true := by decide
theorem kn_b : [rpL KL 0 [T2, T1] [T2, T3] 0, rpL KL 0 [T2, T1] [T2, T3] 1, rpL KL 0 [T2, T1] [T2, T3] 2, rpL KL 0 [T2, T1] [T2, T3] 3] = [[], [T2, T3], [], []] := by decide
theorem kn_c : mayI [[], [T3, T1]] = 2 := by decide
theorem kn_d : mayI [[⟨1, 0, 0, ⟨#[97]⟩, ⟨#[99]⟩⟩]] = 2 := by decide
theorem kn_q {qs : List Rn} (h : qs.Perm [T3, T2]) (hs : qs.Pairwise (fun x y => cmpB x.f y.f ≤ 0)) : qs = [T2, T3] := by
  obtain ⟨a, b, rfl⟩ : ∃ a b, qs = [a, b] := by
    have := h.length_eq
    match qs, this with
    | [a, b], _ => exact ⟨a, b, rfl⟩
  have hs' : cmpB a.f b.f ≤ 0 := by simpa using hs
  have ma : a ∈ [T3, T2] := h.mem_iff.1 (by simp)
  have mb : b ∈ [T3, T2] := h.mem_iff.1 (by simp)
  have m2 : T2 ∈ [a, b] := h.mem_iff.2 (by simp)
  have m3 : T3 ∈ [a, b] := h.mem_iff.2 (by simp)
  have ne : T2 ≠ T3 := by decide
  have lt : ¬ cmpB T3.f T2.f ≤ 0 := by decide
  simp only [List.mem_cons, List.not_mem_nil, or_false] at ma mb m2 m3
  rcases ma with rfl | rfl <;> rcases mb with rfl | rfl
  · rcases m2 with q | q <;> exact absurd q ne
  · exact absurd hs' lt
  · rfl
  · rcases m3 with q | q <;> exact absurd q.symm ne
end Go.Proofs.Ytelcijfcgflagaa
namespace Go.Proofs.Ytelcijfcgflagaa
open Go.RowKit
attribute [-go_sem] Builtin.append_
theorem pl_ls {W w' U : World} {B1 B2 : Nat} {a a2 : Option Addr} {c c2 : Nat} {os os2 : List RV} (h : PlI W w' B1 B2 a c os a2 c2 os2) (hB : Below w'.heap.size w' U) : LsR U a os ∧ LsR U a2 os2 := by
  have k := h.below' hB
  exact ⟨k.own.ls (fun x hx => (k.oks x hx).2.any), k.own2.ls (fun x hx => (k.oks2 x hx).2.any)⟩
theorem rns_all {p : Rn → Prop} {ls ms : List LR} (h : rns ms = rns ls) (hs : ∀ x ∈ ls, ∀ y ∈ x.rs, p y.r) : ∀ x ∈ ms, ∀ y ∈ x.rs, p y.r := fun x hx y hy => by
  have : x.rs.map RV.r ∈ rns ls := by rw [← h]; exact List.mem_map.2 ⟨x, hx, rfl⟩
  obtain ⟨x', hx', e⟩ := List.mem_map.1 this
  have : y.r ∈ x'.rs.map RV.r := by rw [e]; exact List.mem_map.2 ⟨y, hy, rfl⟩
  obtain ⟨y', hy', e'⟩ := List.mem_map.1 this
  rw [← e']
  exact hs x' hx' y' hy'
theorem map_all {p : Rn → Prop} {os ps : List RV} (h : os.map RV.r = ps.map RV.r) (hp : ∀ y ∈ ps, p y.r) : ∀ x ∈ os, p x.r := fun x hx => by
  have : x.r ∈ ps.map RV.r := by rw [← h]; exact List.mem_map_of_mem hx
  obtain ⟨y, hy, e⟩ := List.mem_map.1 this
  rw [← e]
  exact hp y hy
theorem chF_is {ls : List LR} {z : Int} {os : List RV} (h : os.map RV.r = chF (rns ls) z) : os = [] ∨ os.map RV.r = (froL ls z.toNat).map RV.r := by
  unfold chF at h
  split at h
  · exact .inr (by rw [h, fro_map])
  · exact .inl (List.map_eq_nil_iff.1 h)
theorem chI_is {ls : List LR} {z : Int} {os : List RV} (h : os.map RV.r = chI (rns ls) z) : os = [] ∨ os.map RV.r = (intL ls z.toNat).map RV.r := by
  unfold chI at h
  split at h
  · exact .inr (by rw [h, int_map])
  · exact .inl (List.map_eq_nil_iff.1 h)
theorem chF_few {ls : List LR} {z : Int} {os : List RV} (hs : ∀ x ∈ ls, x.rs.length ≤ 40) (h : os.map RV.r = chF (rns ls) z) : os.length ≤ 40 := by
  rcases chF_is h with rfl | e
  · exact Nat.zero_le _
  · have a := congrArg List.length e
    rw [List.length_map, List.length_map] at a
    have := froL_few hs (by omega) z.toNat
    omega
theorem chI_few {ls : List LR} {z : Int} {os : List RV} (hs : ∀ x ∈ ls, x.rs.length ≤ 40) (h : os.map RV.r = chI (rns ls) z) : os.length ≤ 40 := by
  rcases chI_is h with rfl | e
  · exact Nat.zero_le _
  · have a := congrArg List.length e
    rw [List.length_map, List.length_map] at a
    have := intL_few hs z.toNat
    omega
theorem chF_all {p : Rn → Prop} {ls : List LR} {z : Int} {os : List RV} (hp : ∀ x ∈ ls, ∀ y ∈ x.rs, p y.r) (h : os.map RV.r = chF (rns ls) z) : ∀ x ∈ os, p x.r := by
  rcases chF_is h with rfl | e
  · exact fun x hx => by cases hx
  · exact map_all e (fun y hy => lvR_all (p := fun y => p y.r) hp z.toNat y (froL_sub ls _ y hy))
theorem chI_all {p : Rn → Prop} {ls : List LR} {z : Int} {os : List RV} (hp : ∀ x ∈ ls, ∀ y ∈ x.rs, p y.r) (h : os.map RV.r = chI (rns ls) z) : ∀ x ∈ os, p x.r := by
  rcases chI_is h with rfl | e
  · exact fun x hx => by cases hx
  · exact map_all e (fun y hy => lvR_all (p := fun y => p y.r) hp (z.toNat + 1) y (intL_sub ls _ y hy))
theorem sm_big {r : Rn} (h : SmR r) : r.f.size ≤ 1000000 ∧ r.l.size ≤ 1000000 := by unfold SmR at h; omega
theorem mkReA {U : World} {A fa ta ra : Option Addr} {ms : List LR} {fs ts rs oo : List RV} (h : Lvs U A ms) (h8 : ms.length ≤ 8) (hs : ∀ x ∈ ms, x.rs.length ≤ 40 ∧ ∀ y ∈ x.rs, SmR y.r) (hr : ∀ x ∈ ms, ∀ y ∈ x.rs, Rf y.r) (lf : LsR U fa fs) (lt : LsR U ta ts) (lo : LsR U ra oo) (nf : fs.length ≤ 40) (nt : ts.length ≤ 40) (rf : ∀ x ∈ fs, Rf x.r) (rt : ∀ x ∈ ts, Rf x.r) (ho : oo.map RV.r = rs.map RV.r) (sr : rs.length ≤ 40 ∧ ∀ x ∈ rs, SmR x.r) (rr : ∀ x ∈ rs, Rf x.r) : ReA U A ms ms.length fa ta ra fs ts oo := by
  have ol : oo.length = rs.length := by have := congrArg List.length ho; simpa using this
  exact ⟨rfl, h, fun x hx => by have := (hs x hx).1; omega, fun x hx y hy => sm_big ((hs x hx).2 y hy), hr, by omega, lf, lt, lo, by omega, by omega, by omega, rf, rt, map_all ho rr, fun y hy => sm_big (map_all ho sr.2 y hy)⟩
theorem mkNrA {U : World} {A fa ta ra : Option Addr} {ls : List LR} {L : Nat} {fs ts rs : List RV} (hL : ls.length = L) (h : Lvs U A ls) (hs : ∀ x ∈ ls, x.rs.length ≤ 40) (lf : LsR U fa fs) (lt : LsR U ta ts) (lr : LsR U ra rs) (nf : fs.length ≤ 40) (nt : ts.length ≤ 40) (nr : rs.length ≤ 40) : NrA U A ls L fa ta ra fs ts rs :=
  ⟨hL, h, fun x hx => by have := hs x hx; omega, lf, lt, lr, by omega, by omega, by omega⟩
end Go.Proofs.Ytelcijfcgflagaa
namespace Go.Proofs.Ytelcijfcgflagaa
open Go.RowKit
attribute [-go_sem] Builtin.append_
theorem rest_sub {l g : List Rn} : (restD l g).length ≤ l.length := List.length_filter_le _ _
theorem ins_len (ts l : List Rn) : (insD l ts).length = l.length + ts.length := by rw [(ins_perm ts l).length_eq, List.length_append]
theorem rpM_len {m : List (List Rn)} {z : Int} {fr to fresh : List Rn} {xs : List LR} (h : rns xs = rpM m z fr to fresh) : xs.length ≤ 4 := by
  have a := congrArg List.length h
  unfold rns rpM at a
  rw [List.length_map] at a
  split at a
  · rw [a]; exact Nat.le_refl _
  · rw [a]; exact Nat.zero_le _
theorem rpL_few {m : List (List Rn)} {i k : Nat} {fr qs : List Rn} {b : Nat} (hm : ∀ j : Nat, ((m[j]?).getD []).length ≤ b) (hq : qs.length ≤ b) : (rpL m i fr qs k).length ≤ b := by
  unfold rpL
  split
  · exact Nat.le_trans rest_sub (hm i)
  · split
    · exact hq
    · exact hm k
theorem rpM_few {ls xs : List LR} {z : Int} {fr to : List Rn} (hs : ∀ x ∈ ls, x.rs.length ≤ 40) {rs : List RV} (hr : rs.length ≤ 40) (h : rns xs = rpM (rns ls) z fr to (rs.map RV.r)) : ∀ x ∈ xs, x.rs.length ≤ 80 := fun x hx => by
  have hm : ∀ j : Nat, (((rns ls)[j]?).getD []).length ≤ 80 := fun j => by
    rw [← lvR_map, List.length_map]
    have := lvR_bound hs j
    omega
  have hq : (rpQ (rns ls) z to (rs.map RV.r)).length ≤ 80 := by
    unfold rpQ
    rw [ins_len, List.length_map]
    have a : (((rns ls)[z.toNat + 1]?).getD []).length ≤ 40 := by
      rw [← lvR_map, List.length_map]
      exact lvR_bound hs _
    have b : (restD (((rns ls)[z.toNat + 1]?).getD []) to).length ≤ (((rns ls)[z.toNat + 1]?).getD []).length := rest_sub
    omega
  have : x.rs.map RV.r ∈ rpM (rns ls) z fr to (rs.map RV.r) := by rw [← h]; exact List.mem_map.2 ⟨x, hx, rfl⟩
  unfold rpM rp4 at this
  split at this
  · simp only [List.mem_cons, List.not_mem_nil, or_false] at this
    rcases this with q | q | q | q <;> (have q := congrArg List.length q; rw [List.length_map] at q; rw [q]; exact rpL_few hm hq)
  · cases this
theorem off3 {M : List Nat} {W U V X : World} (h1 : Below W.heap.size W U) (h2 : Off M U V) (h3 : Below W.heap.size V X) : Off M W X := ⟨h3.os.trans (h2.os.trans h1.os), h3.tape.trans (h2.tape.trans h1.tape), h3.output.trans (h2.output.trans h1.output), Nat.le_trans h1.size (Nat.le_trans h2.size h3.size), fun k hk hn => (h3.block k hk).trans ((h2.block k (Nat.lt_of_lt_of_le hk h1.size) hn).trans (h1.block k hk))⟩
set_option maxRecDepth 100000 in
set_option maxHeartbeats 2000000 in
theorem lchooses_any {W : World} {A fa ta ra : Option Addr} {ls : List LR} {fs ts rs : List RV} (L C fc tc rc : Nat) (z zl : Int) (d : Bool) (hL : ls.length = L) (h : Lvs W A ls) (hf : LsR W fa fs) (ht : LsR W ta ts) (hr : LsR W ra rs) (hR : (∀ x ∈ ls, ∀ y ∈ x.rs, Rf y.r) ∧ (∀ x ∈ fs, Rf x.r) ∧ (∀ x ∈ ts, Rf x.r) ∧ ∀ x ∈ rs, Rf x.r) : Calls Try.prog 3 #[.slice A L C, .int .i64 z, .agg (plC zl (.slice fa fs.length fc) (.slice ta ts.length tc) d).toArray, .slice ra rs.length rc] W fun e w' => e = .returned (.bool true) ∧ Below W.heap.size W w' := by
  have HN := hidIt hL
  have HH := hidIt h
  have HF := hidIt hf
  have HT := hidIt ht
  have HR := hidIt hr
  have RT := hidIt hR
  clear hL h hf ht hr hR
  go_enter Try.func3, Try.ntmps3
  go_wp2_with (first
    | (refine wpList_box_rec rfl 25 (.tmp 2) rfl (plC zl (.slice fa fs.length fc) (.slice ta ts.length tc) d) rfl W.heap.size rfl ?_; intro W1 R1 B1 z1; have E1 := hidIt B1; have P1 := hidIt R1; have q1 := (R1.cel 1 _ rfl).1; have q2 := (R1.cel 2 _ rfl).1; clear R1 B1 z1)
    | (go_at_call 4; refine (largeLevels_any L C 40 _ rfl (by omega) HN.out (HH.out.below E1.out)).mono ?_; rintro e w2 ⟨bb, rfl, hw, hbb⟩; rw [hw]; clear hw w2; have BB := hidIt hbb; clear hbb; refine Held.out ?_))
  cases bb with
  | true =>
    refine Held.mk ?_
    go_wp2_with fail
    exact bodyPost_ret (v := .bool true) (by simp [results, Try.results3, go_sem]) rfl ⟨rfl, E1.out⟩
  | false =>
    have SM := hidIt (BB.out rfl)
    have S40 : Hid (∀ x ∈ ls, x.rs.length ≤ 40) := hidIt (fun x hx => (SM.out.2 x hx).1)
    clear BB
    refine Held.mk ?_
    go_wp2_with (go_at_call 5; refine (largeRuns_any fs.length fc 40 _ rfl (by omega) rfl (HF.out.below E1.out)).mono ?_; rintro e w2 ⟨bb, rfl, hw, hbb⟩; rw [hw]; clear hw w2; have BB := hidIt hbb; clear hbb; refine Held.out ?_)
    cases bb with
    | true =>
      refine Held.mk ?_
      go_wp2_with fail
      exact bodyPost_ret (v := .bool true) (by simp [results, Try.results3, go_sem]) rfl ⟨rfl, E1.out⟩
    | false =>
      have SF := hidIt (BB.out rfl)
      clear BB
      refine Held.mk ?_
      go_wp2_with (go_at_call 5; refine (largeRuns_any ts.length tc 40 _ rfl (by omega) rfl (HT.out.below E1.out)).mono ?_; rintro e w2 ⟨bb, rfl, hw, hbb⟩; rw [hw]; clear hw w2; have BB := hidIt hbb; clear hbb; refine Held.out ?_)
      cases bb with
      | true =>
        refine Held.mk ?_
        go_wp2_with fail
        exact bodyPost_ret (v := .bool true) (by simp [results, Try.results3, go_sem]) rfl ⟨rfl, E1.out⟩
      | false =>
        have ST := hidIt (BB.out rfl)
        clear BB
        refine Held.mk ?_
        go_wp2_with (go_at_call 5; refine (largeRuns_any rs.length rc 40 _ rfl (by omega) rfl (HR.out.below E1.out)).mono ?_; rintro e w2 ⟨bb, rfl, hw, hbb⟩; rw [hw]; clear hw w2; have BB := hidIt hbb; clear hbb; refine Held.out ?_)
        cases bb with
        | true =>
          refine Held.mk ?_
          go_wp2_with fail
          exact bodyPost_ret (v := .bool true) (by simp [results, Try.results3, go_sem]) rfl ⟨rfl, E1.out⟩
        | false =>
          have SR := hidIt (BB.out rfl)
          clear BB
          refine Held.mk ?_
          have t1 : Hid True := trivial
          have u1 : (chE (rns ls) z != chE (rns ls) z) = false := by simp
          go_wp2_with (first
              | (go_at_call 6; refine (copyLevels_any (N := []) L C HN.out (HH.out.below E1.out) (by have := SM.out.1; have := HN.out; omega) (fun x hx => ⟨by have := (SM.out.2 x hx).1; omega, (SM.out.2 x hx).2⟩) (fun b hb => by cases hb)).mono ?_; rintro e W2 ⟨A2, C2, ms, rfl, hml, hmr, hms, hb⟩; have E2 := hidIt (E1.out.trans (hb.mono E1.out.size)); have P2 := hidIt (P1.out.below hb); have MN := hidIt hml; have MR := hidIt hmr; have MS := hidIt hms; have SMM := hidIt (rns_sm hmr SM.out.2); have MRT := hidIt (rns_all hmr RT.out.1); clear hb hml hmr hms q1 q2)
              | (go_at_call 7; refine (lChoose_any ms.length C2 z rfl MS.out (by have := MN.out; have := SM.out.1; omega) (fun x hx => by have := (SMM.out x hx).1; omega) (fun x hx y hy => by have := (SMM.out x hx).2 y hy; unfold SmR at this; omega)).mono ?_; rintro e W3 hch; obtain ⟨B1, B2, xa, xc, xo, xa2, xc2, xo2, rfl, hp, hx1, hx2⟩ := ch_form hch MR.out; have PX := hidIt hp; have X1 := hidIt hx1; have X2 := hidIt hx2; have E3 := hidIt (E2.out.trans (hp.below.mono E2.out.size)); have P3 := hidIt (P2.out.below hp.below); clear hch hp hx1 hx2)
              | (have _q := t1; clear t1 _q; refine wpList_alloc_rec rfl 25 rfl _ W3.heap.size rfl zero_plan ?_; intro W4 R4 B4 z4; have D4 := hidIt B4; have Z4 := hidIt R4; clear R4 B4 z4)
              | (refine wpList_store_rec rfl 25 (.tmp 10) (.tmp 46) rfl W3.heap.size 0 _ (plC (chZ (rns ls) z) (.slice xa xo.length xc) (.slice xa2 xo2.length xc2) (chD (rns ls) z)) rfl rfl Z4.out rfl plan_size (plC_one _ _ rfl rfl) ?_; intro W5 R5 B5; have K5 := hidIt R5; have D5 := hidIt (D4.out.trans (B5.below (Nat.le_refl _) D4.out.size)); clear R5 B5)
              | (go_at_call 8; refine (nchoose_any L C z HN.out (HH.out.below (E3.out.trans (D5.out.mono E3.out.size))) (fun x hx => by have := (SM.out.2 x hx).1; omega)).mono ?_; rintro e W6 hch; obtain ⟨ya, yc, yo, ya2, yc2, yo2, rfl, ly1, ly2, hy1, hy2, hb⟩ := nc_form hch rfl; have D6 := hidIt (D5.out.trans (hb.mono D5.out.size)); have K6 := hidIt (K5.out.below hb); have LY := hidIt (And.intro ly1 ly2); have Y1 := hidIt hy1; have Y2 := hidIt hy2; clear hch hb ly1 ly2 hy1 hy2)
              | (refine wpList_alloc_rec rfl 25 rfl _ W6.heap.size rfl zero_plan ?_; intro W7 R7 B7 z7; have G7 := hidIt B7; have Z7 := hidIt R7; clear R7 B7 z7)
              | (refine wpList_store_rec rfl 25 (.tmp 12) (.tmp 52) rfl W6.heap.size 0 _ (plC (chZ (rns ls) z) (.slice ya yo.length yc) (.slice ya2 yo2.length yc2) (chD (rns ls) z)) rfl rfl Z7.out rfl plan_size (plC_one _ _ rfl rfl) ?_; intro W8 R8 B8; have Y8 := hidIt R8; have G8 := hidIt (G7.out.trans (B8.below (Nat.le_refl _) G7.out.size)); have K8 := hidIt (K6.out.below G8.out); have D8 := hidIt (D6.out.trans (G8.out.mono D6.out.size)); clear R8 B8)
              | (refine wpList_load_rec rfl 25 (.tmp 10) rfl W3.heap.size 0 (plC (chZ (rns ls) z) (.slice xa xo.length xc) (.slice xa2 xo2.length xc2) (chD (rns ls) z)) rfl _ Try.underlying25 rfl plan_size K8.out ?_)
              | (refine wpList_load_rec rfl 25 (.tmp 12) rfl W6.heap.size 0 (plC (chZ (rns ls) z) (.slice ya yo.length yc) (.slice ya2 yo2.length yc2) (chD (rns ls) z)) rfl _ Try.underlying25 rfl plan_size Y8.out ?_)
              | (go_at_call 9; refine (samePlan_eq xo.length xc yo.length yc xo2.length xc2 yo2.length yc2 rfl rfl rfl rfl (pl_ls PX.out D8.out).1 (LY.out.1.below G8.out) (pl_ls PX.out D8.out).2 (LY.out.2.below G8.out) (by have := chF_few S40.out X1.out; omega) (by have := chI_few S40.out X2.out; omega) (X1.out.trans Y1.out.symm) (X2.out.trans Y2.out.symm)).mono ?_; rintro e W9 ⟨rfl, hb⟩; have G9 := hidIt (G8.out.trans (hb.mono G8.out.size)); have K9 := hidIt (K8.out.below hb); have Y9 := hidIt (Y8.out.below hb); have D9 := hidIt (D8.out.trans (hb.mono D8.out.size)); clear hb)
              | (go_at_call 10; refine (copyRuns_any (N := List.range W9.heap.size) rs.length rc rfl (HR.out.below (E3.out.trans (D9.out.mono E3.out.size))) (by have := SR.out.1; omega) SR.out.2 (fun b hb => List.mem_range.1 hb)).mono ?_; rintro e W10 ⟨oa, oC, oo, rfl, hol, hor, hok, hb⟩; have G10 := hidIt (G9.out.trans (hb.mono G9.out.size)); have K10 := hidIt (K9.out.below hb); have Y10 := hidIt (Y9.out.below hb); have D10 := hidIt (D9.out.trans (hb.mono D9.out.size)); have OK := hidIt hok; have OL := hidIt hol; have OR := hidIt hor; have SZ9 := hidIt (And.intro D9.out.size hb.size); clear hb hol hor hok)
              | (refine wpList_load_rec rfl 25 (.tmp 10) rfl W3.heap.size 0 (plC (chZ (rns ls) z) (.slice xa xo.length xc) (.slice xa2 xo2.length xc2) (chD (rns ls) z)) rfl _ Try.underlying25 rfl plan_size K10.out ?_)
              | (go_at_call 11; refine (lReplace_any ms.length C2 xc xc2 oC (chZ (rns ls) z) (chD (rns ls) z) (mkReA ((MS.out.below PX.out.below).below D10.out) (by have := MN.out; have := SM.out.1; omega) SMM.out MRT.out (pl_ls PX.out D10.out).1 (pl_ls PX.out D10.out).2 OK.out.ok.1 (chF_few S40.out X1.out) (chI_few S40.out X2.out) (chF_all RT.out.1 X1.out) (chI_all RT.out.1 X2.out) OR.out SR.out RT.out.2.2.2)).mono ?_; rintro e W11 hre; rw [MR.out, X1.out, X2.out, OR.out] at hre; obtain ⟨v, rfl, hb, hc⟩ := re_form hre; clear hre; have G11 := hidIt (G10.out.trans (hb.mono G10.out.size)); have K11 := hidIt (K10.out.below hb); have Y11 := hidIt (Y10.out.below hb); have D11 := hidIt (D10.out.trans (hb.mono D10.out.size)); have OK11 := hidIt (OK.out.below hb); have H11 := hidIt hb; clear hb; refine Held.out ?_))
          have t2 : Hid True := trivial
          have t3 : Hid True := trivial
          have t4 : Hid True := trivial
          obtain ⟨e1, he1⟩ : ∃ e1, e1 = rpE (rns ls) (chZ (rns ls) z) (chF (rns ls) z) (chI (rns ls) z) (rs.map RV.r) := ⟨_, rfl⟩
          obtain ⟨e2, he2⟩ : ∃ e2, e2 = rpE (rns ls) zl (fs.map RV.r) (ts.map RV.r) (rs.map RV.r) := ⟨_, rfl⟩
          have u2 : (rpE (rns ls) (chZ (rns ls) z) (chF (rns ls) z) (chI (rns ls) z) (rs.map RV.r) != rpE (rns ls) (chZ (rns ls) z) (chF (rns ls) z) (chI (rns ls) z) (rs.map RV.r)) = false := by simp
          have u3 : (rpE (rns ls) zl (fs.map RV.r) (ts.map RV.r) (rs.map RV.r) != rpE (rns ls) zl (fs.map RV.r) (ts.map RV.r) (rs.map RV.r)) = false := by simp
          clear he1 he2
          rcases hc with ⟨hM, rfl⟩ | ⟨hM, B1', g, lv, os, rfl, hF, hg, hB1, hm⟩
          · have XN : Hid (([] : List LR).length = 0) := hidIt rfl
            have XL : Hid (∀ U, Below W11.heap.size W11 U → Lvs U none []) := hidIt (fun U _ => ⟨fun x hx => (by cases hx), fun q => absurd rfl q⟩)
            have XM : Hid (rns [] = rpM (rns ls) (chZ (rns ls) z) (chF (rns ls) z) (chI (rns ls) z) (rs.map RV.r)) := hidIt hM.symm
            clear hM
            refine Held.mk ?_
            go_wp2_with (first
              | (refine wpList_load_rec rfl 25 (.tmp 12) rfl W6.heap.size 0 (plC (chZ (rns ls) z) (.slice ya yo.length yc) (.slice ya2 yo2.length yc2) (chD (rns ls) z)) rfl _ Try.underlying25 rfl plan_size Y11.out ?_)
              | (go_at_call 12; have _q := t4; clear t4 _q; refine (nreplace_any L C yc yc2 rc (chZ (rns ls) z) (chD (rns ls) z) (mkNrA HN.out (HH.out.below (E3.out.trans (D11.out.mono E3.out.size))) S40.out (LY.out.1.below G11.out) (LY.out.2.below G11.out) (HR.out.below (E3.out.trans (D11.out.mono E3.out.size))) (chF_few S40.out Y1.out) (chI_few S40.out Y2.out) SR.out.1)).mono ?_; rintro e W12 hre; rw [Y1.out, Y2.out] at hre; obtain ⟨A3, c3, x3, rfl, l3, m3, hb⟩ := nr_form hre; clear hre; have H12 := hidIt hb; have D12 := hidIt (D11.out.trans (hb.mono D11.out.size)); have L3 := hidIt l3; have M3 := hidIt m3; have P12 := hidIt (P3.out.below D12.out); clear hb l3 m3)
              | (refine wpList_load_rec rfl 25 (.tmp 6) rfl W.heap.size 0 (plC zl (.slice fa fs.length fc) (.slice ta ts.length tc) d) rfl _ Try.underlying25 rfl plan_size P12.out ?_)
              | (go_at_call 11; refine (lReplace_any ms.length C2 fc tc oC zl d (mkReA ((MS.out.below PX.out.below).below D12.out) (by have := MN.out; have := SM.out.1; omega) SMM.out MRT.out (HF.out.below (E3.out.trans (D12.out.mono E3.out.size))) (HT.out.below (E3.out.trans (D12.out.mono E3.out.size))) (OK11.out.below H12.out).ok.1 SF.out.1 ST.out.1 RT.out.2.1 RT.out.2.2.1 OR.out SR.out RT.out.2.2.2)).mono ?_; rintro e W13 hre; rw [MR.out, OR.out] at hre; obtain ⟨A4, c4, x4, rfl, l4, m4, hb⟩ := re_lvs hre; clear hre; have H13 := hidIt (H12.out.trans (hb.mono H12.out.size)); have D13 := hidIt (D12.out.trans (hb.mono D12.out.size)); have J13 := hidIt hb; have L4 := hidIt l4; have M4 := hidIt m4; have P13 := hidIt (P12.out.below hb); clear hb l4 m4)
              | (refine wpList_load_rec rfl 25 (.tmp 6) rfl W.heap.size 0 (plC zl (.slice fa fs.length fc) (.slice ta ts.length tc) d) rfl _ Try.underlying25 rfl plan_size P13.out ?_)
              | (go_at_call 12; refine (nreplace_any L C fc tc rc zl d (mkNrA HN.out (HH.out.below (E3.out.trans (D13.out.mono E3.out.size))) S40.out (HF.out.below (E3.out.trans (D13.out.mono E3.out.size))) (HT.out.below (E3.out.trans (D13.out.mono E3.out.size))) (HR.out.below (E3.out.trans (D13.out.mono E3.out.size))) SF.out.1 ST.out.1 SR.out.1)).mono ?_; rintro e W14 hre; obtain ⟨A5, c5, x5, rfl, l5, m5, hb⟩ := nr_form hre; clear hre; have H14 := hidIt (H13.out.trans (hb.mono H13.out.size)); have D14 := hidIt (D13.out.trans (hb.mono D13.out.size)); have J14 := hidIt (J13.out.trans (hb.mono J13.out.size)); have F14 := hidIt hb; have L5 := hidIt l5; have M5 := hidIt m5; clear hb l5 m5)
              | (go_at_call 13; have _q := t2; clear t2 _q; refine (sameLevels_eq 0 x3.length 0 c3 XN.out rfl (XL.out _ H14.out) (L3.out.below J14.out) (by omega) (fun x hx => by have := rpM_few S40.out SR.out.1 (XM.out.trans rfl) x hx; omega) (XM.out.trans M3.out.symm)).mono ?_; rintro e W15 ⟨rfl, hb⟩; have H15 := hidIt (H14.out.trans (hb.mono H14.out.size)); have D15 := hidIt (D14.out.trans (hb.mono D14.out.size)); have F15 := hidIt hb; clear hb)
              | (go_at_call 13; refine (sameLevels_eq x4.length x5.length c4 c5 rfl rfl ((L4.out.below F14.out).below F15.out) (L5.out.below F15.out) (by have := rpM_len M4.out; omega) (fun x hx => by have := rpM_few S40.out SR.out.1 M4.out x hx; omega) (M4.out.trans M5.out.symm)).mono ?_; rintro e W16 ⟨rfl, hb⟩; have H16 := hidIt (H15.out.trans (hb.mono H15.out.size)); have D16 := hidIt (D15.out.trans (hb.mono D15.out.size)); have K16 := hidIt (K11.out.below H16.out); have k1 := (K16.out.cel 1 _ rfl).1; clear hb)
              | (go_at_call 14; have _q := t3; clear t3 _q; refine (pl_one PX.out D16.out (by have := chF_few S40.out X1.out; omega)).mono ?_; rintro e W17 ⟨rfl, hb⟩; have O17 := hidIt hb; have K17 := hidIt (K16.out.off (hb.offN (X := B2) (fun _ q => q.2)) (fun q => by have q := List.mem_range.1 q; have := PX.out.hi; omega)); have k2 := (K17.out.cel 2 _ rfl).1; clear hb k1)
              | (go_at_call 14; refine (pl_two PX.out D16.out O17.out (by have := chI_few S40.out X2.out; omega)).mono ?_; rintro e W18 ⟨rfl, hb⟩; have BO := hidIt (pl_both (B0 := W2.heap.size) ⟨PX.out.lo.1, PX.out.lo.2, PX.out.hi⟩ D16.out.size O17.out hb); clear hb k2))
            refine wp_loop_rounds 1 ?_
            rw [rounds_succ]
            have WR : Hid (Below W2.heap.size W18 W18) := hidIt (Below.refl _ _)
            have BW : Hid (Below W10.heap.size W18 W18) := hidIt (Below.refl _ _)
            have FB : Hid (Below W2.heap.size W2 W18) := hidIt (((PX.out.below.trans (D16.out.mono PX.out.below.size)).trans BO.out.1).trans WR.out)
            have FE : Hid (Below W.heap.size W W18) := hidIt (E2.out.trans (FB.out.mono E2.out.size))
            have FO : Hid (LrkN W18 (List.range W3.heap.size) ⟨oa, oC, oo⟩) := hidIt ((OK.out.mono (M := List.range W3.heap.size) (fun b hb => .inl (List.mem_range.2 (by have := List.mem_range.1 hb; have := SZ9.out.1; omega)))).off (off3 (H11.out.trans (H16.out.mono H11.out.size)) BO.out.2 BW.out))
            go_wp2_with (first
              | (go_at_call 13; refine (sameLevels_eq ms.length L C2 C rfl HN.out (MS.out.below FB.out) (HH.out.below FE.out) (by have := MN.out; have := SM.out.1; omega) (fun x hx => by have := (SMM.out x hx).1; omega) MR.out).mono ?_; rintro e W20 ⟨rfl, hb⟩; have F20 := hidIt hb; clear hb)
              | (go_at_call 15; refine (sameRuns_eq oo.length rs.length oC rc rfl rfl (FO.out.ok.1.below F20.out) (HR.out.below (FE.out.trans (F20.out.mono FE.out.size))) (by have := OL.out; have := SR.out.1; omega) OR.out).mono ?_; rintro e W21 ⟨rfl, hb⟩; have F21 := hidIt (F20.out.trans (hb.mono F20.out.size)); clear hb)
              | (go_at_call 16; refine (lawake_any _).mono ?_; rintro e W22 ⟨rfl, hb⟩; have F22 := hidIt (F21.out.trans (hb.mono F21.out.size)); clear hb))
            exact bodyPost_ret (v := .bool true) (by simp [results, Try.results3, go_sem]) rfl ⟨rfl, FE.out.trans (F22.out.mono FE.out.size)⟩
          · obtain ⟨xs, hx1, hx2, hx3⟩ := hF.lvsOf hm
            have XN := hidIt hx1
            have XL : Hid (∀ U, Below W11.heap.size W11 U → Lvs U (some ⟨g, 0, none⟩) xs) := hidIt (fun U hU => hx2.below hU)
            have XM : Hid (rns xs = rpM (rns ls) (chZ (rns ls) z) (chF (rns ls) z) (chI (rns ls) z) (rs.map RV.r)) := hidIt (by rw [hx3, hM]; rfl)
            have FF := hidIt hF
            have FG := hidIt (And.intro hg hB1)
            have FL : Hid (∀ i, i < 4 → (os i).length ≤ 80) := hidIt (fun i hi => by
              have a := congrArg List.length (hm i hi)
              rw [List.length_map] at a
              rw [a]
              refine rpL_few (fun j => ?_) ?_
              · rw [← lvR_map, List.length_map]
                have := lvR_bound S40.out j
                omega
              · unfold rpQ
                rw [ins_len, List.length_map]
                have a : (((rns ls)[(chZ (rns ls) z).toNat + 1]?).getD []).length ≤ 40 := by
                  rw [← lvR_map, List.length_map]
                  exact lvR_bound S40.out _
                have b : (restD (((rns ls)[(chZ (rns ls) z).toNat + 1]?).getD []) (chI (rns ls) z)).length ≤ (((rns ls)[(chZ (rns ls) z).toNat + 1]?).getD []).length := rest_sub
                have := SR.out.1
                omega)
            clear hM hF hg hB1 hm hx1 hx2 hx3
            refine Held.mk ?_
            go_wp2_with (first
              | (refine wpList_load_rec rfl 25 (.tmp 12) rfl W6.heap.size 0 (plC (chZ (rns ls) z) (.slice ya yo.length yc) (.slice ya2 yo2.length yc2) (chD (rns ls) z)) rfl _ Try.underlying25 rfl plan_size Y11.out ?_)
              | (go_at_call 12; have _q := t4; clear t4 _q; refine (nreplace_any L C yc yc2 rc (chZ (rns ls) z) (chD (rns ls) z) (mkNrA HN.out (HH.out.below (E3.out.trans (D11.out.mono E3.out.size))) S40.out (LY.out.1.below G11.out) (LY.out.2.below G11.out) (HR.out.below (E3.out.trans (D11.out.mono E3.out.size))) (chF_few S40.out Y1.out) (chI_few S40.out Y2.out) SR.out.1)).mono ?_; rintro e W12 hre; rw [Y1.out, Y2.out] at hre; obtain ⟨A3, c3, x3, rfl, l3, m3, hb⟩ := nr_form hre; clear hre; have H12 := hidIt hb; have D12 := hidIt (D11.out.trans (hb.mono D11.out.size)); have L3 := hidIt l3; have M3 := hidIt m3; have P12 := hidIt (P3.out.below D12.out); clear hb l3 m3)
              | (refine wpList_load_rec rfl 25 (.tmp 6) rfl W.heap.size 0 (plC zl (.slice fa fs.length fc) (.slice ta ts.length tc) d) rfl _ Try.underlying25 rfl plan_size P12.out ?_)
              | (go_at_call 11; refine (lReplace_any ms.length C2 fc tc oC zl d (mkReA ((MS.out.below PX.out.below).below D12.out) (by have := MN.out; have := SM.out.1; omega) SMM.out MRT.out (HF.out.below (E3.out.trans (D12.out.mono E3.out.size))) (HT.out.below (E3.out.trans (D12.out.mono E3.out.size))) (OK11.out.below H12.out).ok.1 SF.out.1 ST.out.1 RT.out.2.1 RT.out.2.2.1 OR.out SR.out RT.out.2.2.2)).mono ?_; rintro e W13 hre; rw [MR.out, OR.out] at hre; obtain ⟨A4, c4, x4, rfl, l4, m4, hb⟩ := re_lvs hre; clear hre; have H13 := hidIt (H12.out.trans (hb.mono H12.out.size)); have D13 := hidIt (D12.out.trans (hb.mono D12.out.size)); have J13 := hidIt hb; have L4 := hidIt l4; have M4 := hidIt m4; have P13 := hidIt (P12.out.below hb); clear hb l4 m4)
              | (refine wpList_load_rec rfl 25 (.tmp 6) rfl W.heap.size 0 (plC zl (.slice fa fs.length fc) (.slice ta ts.length tc) d) rfl _ Try.underlying25 rfl plan_size P13.out ?_)
              | (go_at_call 12; refine (nreplace_any L C fc tc rc zl d (mkNrA HN.out (HH.out.below (E3.out.trans (D13.out.mono E3.out.size))) S40.out (HF.out.below (E3.out.trans (D13.out.mono E3.out.size))) (HT.out.below (E3.out.trans (D13.out.mono E3.out.size))) (HR.out.below (E3.out.trans (D13.out.mono E3.out.size))) SF.out.1 ST.out.1 SR.out.1)).mono ?_; rintro e W14 hre; obtain ⟨A5, c5, x5, rfl, l5, m5, hb⟩ := nr_form hre; clear hre; have H14 := hidIt (H13.out.trans (hb.mono H13.out.size)); have D14 := hidIt (D13.out.trans (hb.mono D13.out.size)); have J14 := hidIt (J13.out.trans (hb.mono J13.out.size)); have F14 := hidIt hb; have L5 := hidIt l5; have M5 := hidIt m5; clear hb l5 m5)
              | (go_at_call 13; have _q := t2; clear t2 _q; refine (sameLevels_eq 4 x3.length 4 c3 XN.out rfl (XL.out _ H14.out) (L3.out.below J14.out) (by omega) (fun x hx => by have := rpM_few S40.out SR.out.1 (XM.out.trans rfl) x hx; omega) (XM.out.trans M3.out.symm)).mono ?_; rintro e W15 ⟨rfl, hb⟩; have H15 := hidIt (H14.out.trans (hb.mono H14.out.size)); have D15 := hidIt (D14.out.trans (hb.mono D14.out.size)); have F15 := hidIt hb; clear hb)
              | (go_at_call 13; refine (sameLevels_eq x4.length x5.length c4 c5 rfl rfl ((L4.out.below F14.out).below F15.out) (L5.out.below F15.out) (by have := rpM_len M4.out; omega) (fun x hx => by have := rpM_few S40.out SR.out.1 M4.out x hx; omega) (M4.out.trans M5.out.symm)).mono ?_; rintro e W16 ⟨rfl, hb⟩; have H16 := hidIt (H15.out.trans (hb.mono H15.out.size)); have D16 := hidIt (D15.out.trans (hb.mono D15.out.size)); have K16 := hidIt (K11.out.below H16.out); have k1 := (K16.out.cel 1 _ rfl).1; clear hb)
              | (go_at_call 14; have _q := t3; clear t3 _q; refine (pl_one PX.out D16.out (by have := chF_few S40.out X1.out; omega)).mono ?_; rintro e W17 ⟨rfl, hb⟩; have O17 := hidIt hb; have K17 := hidIt (K16.out.off (hb.offN (X := B2) (fun _ q => q.2)) (fun q => by have q := List.mem_range.1 q; have := PX.out.hi; omega)); have k2 := (K17.out.cel 2 _ rfl).1; clear hb k1)
              | (go_at_call 14; refine (pl_two PX.out D16.out O17.out (by have := chI_few S40.out X2.out; omega)).mono ?_; rintro e W18 ⟨rfl, hb⟩; have BO := hidIt (pl_both (B0 := W2.heap.size) ⟨PX.out.lo.1, PX.out.lo.2, PX.out.hi⟩ D16.out.size O17.out hb); clear hb k2))
            have W3l : Hid (W3.heap.size ≤ W10.heap.size) := hidIt D10.out.size
            have F18 : Hid (Fo B1' W18 g lv os) := hidIt ((FF.out.below H16.out).farN BO.out.2 (fun b hb => by have := List.mem_range.1 hb; have := W3l.out; have := FG.out.2; omega) (fun q => by have := List.mem_range.1 q; have := W3l.out; have := FG.out.1; omega))
            have SZ18 : Hid (W10.heap.size ≤ W18.heap.size) := hidIt (Nat.le_trans (Nat.le_trans H11.out.size H16.out.size) BO.out.1.size)
            have STW : Hid (WoI W10.heap.size g lv os W18 0 W18) := hidIt (WoI.start F18.out (Nat.le_of_lt FG.out.2) (Below.refl _ _) SZ18.out)
            go_loopw [23] (fun iv wr => ∃ k : Nat, k ≤ 4 ∧ iv = .int .i64 (k : Int) ∧ Hid (WoI W10.heap.size g lv os W18 k wr)) (fun iv _ => 4 - (RowKit.intOf iv).toNat)
            case atStart => exact ⟨0, by omega, rfl, STW⟩
            case round =>
              clear STW
              obtain ⟨k, hk, rfl, hI⟩ := hrel
              rename World => wr
              by_cases hlt : k < 4
              · have ck : wr.cell? ⟨g, k, none⟩ = some (lv k) := (hI.out.rc.cel k (lv k) (four_at lv hlt)).1
                have G := hidIt (wo_call hI.out hlt (by have := FL.out k hlt; omega))
                obtain ⟨i0, i1, i2, i3, i4⟩ := tb_ar k 4 hlt (by omega)
                have i0' : ((k : Int) < 4) = True := eq_true (by omega)
                have i1' : (k < 4) = True := eq_true hlt
                have LT := hidIt hlt
                have GO := hidIt i4
                clear hlt hk i4
                go_wp2_with (go_at_call 14; refine G.out.mono ?_; rintro e W19 ⟨rfl, hb⟩; have N19 := hidIt hb; clear hb)
                exact ⟨⟨k + 1, LT.out, rfl, N19⟩, GO.out⟩
              · obtain rfl : k = 4 := by omega
                have SZ2 : W2.heap.size ≤ W10.heap.size := Nat.le_trans PX.out.below.size W3l.out
                have WR : Hid (Below W2.heap.size W18 wr) := hidIt (hI.out.below.mono SZ2)
                have BW : Hid (Below W10.heap.size W18 wr) := hidIt hI.out.below
                have FB : Hid (Below W2.heap.size W2 wr) := hidIt (((PX.out.below.trans (D16.out.mono PX.out.below.size)).trans BO.out.1).trans WR.out)
                have FE : Hid (Below W.heap.size W wr) := hidIt (E2.out.trans (FB.out.mono E2.out.size))
                have FO : Hid (LrkN wr (List.range W3.heap.size) ⟨oa, oC, oo⟩) := hidIt ((OK.out.mono (M := List.range W3.heap.size) (fun b hb => .inl (List.mem_range.2 (by have := List.mem_range.1 hb; have := SZ9.out.1; omega)))).off (off3 (H11.out.trans (H16.out.mono H11.out.size)) BO.out.2 BW.out))
                clear hk hlt
                go_wp2_with (first
                  | (go_at_call 13; refine (sameLevels_eq ms.length L C2 C rfl HN.out (MS.out.below FB.out) (HH.out.below FE.out) (by have := MN.out; have := SM.out.1; omega) (fun x hx => by have := (SMM.out x hx).1; omega) MR.out).mono ?_; rintro e W20 ⟨rfl, hb⟩; have F20 := hidIt hb; clear hb)
                  | (go_at_call 15; refine (sameRuns_eq oo.length rs.length oC rc rfl rfl (FO.out.ok.1.below F20.out) (HR.out.below (FE.out.trans (F20.out.mono FE.out.size))) (by have := OL.out; have := SR.out.1; omega) OR.out).mono ?_; rintro e W21 ⟨rfl, hb⟩; have F21 := hidIt (F20.out.trans (hb.mono F20.out.size)); clear hb)
                  | (go_at_call 16; refine (lawake_any _).mono ?_; rintro e W22 ⟨rfl, hb⟩; have F22 := hidIt (F21.out.trans (hb.mono F21.out.size)); clear hb))
                exact bodyPost_ret (v := .bool true) (by simp [results, Try.results3, go_sem]) rfl ⟨rfl, FE.out.trans (F22.out.mono FE.out.size)⟩
end Go.Proofs.Ytelcijfcgflagaa
