/-
  Walks, not a claim by itself: New of a set. By the verifier.
-/
import Derived.Test.YtkncnpjhfcfmnaaDoorFStl
import Derived.Test.YtkncnpjhfcfmnaaDoorFen
namespace Go.Proofs.YtkncnpjhfcfmnaaDoor
open Go.RowKit Go.Shelf
attribute [local go_sem] Oper.semAt_some
theorem new_er (W : World) (x : Int) (h : x < 1 ∨ 512 < x) : Calls Tryd.prog 9 #[.int .i64 x] W fun e w' => e = .returned (.tuple #[.pointer none, .int .i64 5]) ∧ w' = W := by
  by_cases h1 : x < 1
  · clear h
    go_enter Tryd.func9, Tryd.ntmps9
    go_wp2
    go_ret2
    exact ⟨rfl, rfl⟩
  · have h2 : 512 < x := by omega
    clear h
    go_enter Tryd.func9, Tryd.ntmps9
    go_wp2
    go_ret2
    exact ⟨rfl, rfl⟩
/-- The first k are free, the others are not there yet. -/
def iniH (k i : Nat) : Nat := if i < k then 0 else 1
theorem ini_sok (n : Nat) (h1 : 1 ≤ n) (h2 : n ≤ 512) : SOk n (iniH n) := ⟨h1, h2, fun i hi => by unfold iniH; rw [if_neg (by omega)], fun i => by unfold iniH; split <;> omega⟩
theorem ini_step (k : Nat) : setH (iniH k) k 0 = iniH (k + 1) := by
  funext j
  unfold setH iniH putS
  by_cases e : j = k
  · subst e; rw [if_pos rfl, if_pos rfl, if_pos (by omega)]
  · rw [if_neg e]
    by_cases e2 : j < k
    · rw [if_pos e2, if_pos (by omega)]
    · rw [if_neg e2, if_neg (by omega)]
theorem built_set (n : Nat) : Tryd.prog.built 50 [(1, .int .i64 (n : Int))] = some (csS none n fun _ => 1).toArray := by kernel_rfl
structure NewI (W : World) (n k : Nat) (X : World) : Prop where
  m : ThrMem (W.heap.size + 2) (W.heap.size + 3) n (howV W.heap.size) X
  s : SAt X W.heap.size n (iniH k)
  c : X.cell? ⟨W.heap.size + 1, 0, none⟩ = some (.pointer (some ⟨W.heap.size, 0, none⟩))
  b : Below W.heap.size W X
  z : W.heap.size + 4 ≤ X.heap.size
theorem NewI.below {W X X' : World} {n k : Nat} (i : NewI W n k X) (hb : Below (W.heap.size + 4) X X') : NewI W n k X' :=
  ⟨i.m.below hb (by omega) (by omega), i.s.belowB hb (by omega), (hb.cell (p := ⟨W.heap.size + 1, 0, none⟩) (by show W.heap.size + 1 < _; omega)).trans i.c, i.b.trans (hb.mono (by omega)), Nat.le_trans i.z hb.size⟩
set_option maxRecDepth 100000 in
set_option maxHeartbeats 1000000 in
theorem new_ok (W : World) (n : Nat) (h1 : 1 ≤ n) (h2 : n ≤ 512) : Calls Tryd.prog 9 #[.int .i64 (n : Int)] W fun e w' => e = .returned (.tuple #[.pointer (some ⟨W.heap.size, 0, none⟩), .int .i64 0]) ∧ SAt w' W.heap.size n (iniH n) ∧ Below W.heap.size W w' := by
  refine (callsIn_wide (n := 5)).1 ?_
  have i1 : ¬ (n : Int) < 1 := by omega
  have i2 : ¬ 512 < (n : Int) := by omega
  refine callsIn_of_wp_marks Tryd.func9 rfl trivial ?_ rfl
  simp only [Tryd.ntmps9, List.size_toArray, List.length_cons, List.length_nil, Nat.reduceAdd, Nat.reduceSub, Array.replicate_succ, Array.replicate_zero, List.push_toArray, List.append_toArray, List.nil_append, List.cons_append]
  gi_wp2_with (first
    | (refine fen_build rfl 50 #[(1, .tmp 12)] rfl (csS none n fun _ => 1).toArray (built_set n) ?_)
    | (refine fen_box rfl 50 (.tmp 13) rfl (csS none n fun _ => 1) W.heap.size rfl rfl ?_; intro W1 R1 B1 z1
       have c0 : W1.cell? ⟨W.heap.size, 0, none⟩ = some (.pointer none) := R1.1 0 _ (csS_0 _ _ _)
       have f0 : W1.frozen? ⟨W.heap.size, 0, none⟩ = false := (R1.2.1 0 (by rw [csS_len]; omega)).2
       have S1 := hidIt (And.intro (SAt.of R1) B1)
       clear R1 B1))
  refine ⟨trivial, ?_⟩
  have S2 := hidIt (S1.out.1.below ((Below.refl _ _).alloc (Nat.le_refl _) (.cells #[.pointer (some ⟨W.heap.size, 0, none⟩)] 23)))
  have B2 : Hid (Below W.heap.size W ((W1.setCell ⟨W.heap.size, 0, none⟩ (.pointer (some ⟨W.heap.size, 0, none⟩))).alloc (.cells #[.pointer (some ⟨W.heap.size, 0, none⟩)] 23))) := (S1.out.2.trans ((But.set _ _ _).below (Nat.le_refl _) (by omega))).alloc (by simp; omega) _
  have z2 : ((W1.setCell ⟨W.heap.size, 0, none⟩ (.pointer (some ⟨W.heap.size, 0, none⟩))).alloc (.cells #[.pointer (some ⟨W.heap.size, 0, none⟩)] 23)).heap.size = W.heap.size + 2 := by simp [z1]
  have c2 : ((W1.setCell ⟨W.heap.size, 0, none⟩ (.pointer (some ⟨W.heap.size, 0, none⟩))).alloc (.cells #[.pointer (some ⟨W.heap.size, 0, none⟩)] 23)).cell? ⟨W.heap.size + 1, 0, none⟩ = some (.pointer (some ⟨W.heap.size, 0, none⟩)) := by
    rw [World.cell?_alloc_at _ _ _ _ (by simp [z1])]
    rfl
  clear S1 c0 f0 z1
  generalize ((W1.setCell ⟨W.heap.size, 0, none⟩ (.pointer (some ⟨W.heap.size, 0, none⟩))).alloc (.cells #[.pointer (some ⟨W.heap.size, 0, none⟩)] 23)) = W2 at S2 B2 z2 c2 ⊢
  refine CallsIn.mono ((callsIn_wide (n := _)).2 (each_ok W2 W.heap.size n _ S2.out)) ?_
  rintro e w' ⟨rfl, rfl⟩
  have I0 : NewI W n 0 (eachW W2 W.heap.size n) := ⟨by have := eachW_mem W2 W.heap.size n; rw [z2] at this; exact this, S2.out.below (eachW_below _ _ _), ((eachW_below W2 W.heap.size n).cell (p := ⟨W.heap.size + 1, 0, none⟩) (by show W.heap.size + 1 < _; omega)).trans c2, B2.out.trans ((eachW_below _ _ _).mono (by omega)), by rw [eachW_size]; omega⟩
  have z3 : (eachW W2 W.heap.size n).heap.size = W.heap.size + 4 := by rw [eachW_size]; omega
  rw [z2]
  generalize eachW W2 W.heap.size n = W3 at I0 z3 ⊢
  clear c2 S2 B2 z2
  gi_wp2
  refine range_thr (m := 5) 21 22 (by omega) (W.heap.size + 2) (W.heap.size + 3) n h2 49 (fun _ _ => by simp [go_sem]) [.pointer (some ⟨W.heap.size, 0, none⟩)] [] (fun _ => 1) rfl (NewI W n) (fun k X X' i hB => i.below (by rw [← z3]; exact hB)) (fun k X i => by rw [z3]; exact i.z) I0 (fun k X i => i.m) (fun k X hk i => (how_ok X W.heap.size n (iniH k) k (by omega) (by simp [iniH]) i.s).mono fun e w' q => ⟨by rw [q.1]; simp [iniH], q.2.1⟩) ?_ ?_
  · intro l k X hk hI hl1 hl2
    have i0 : Hid (∀ X', But l X X' → NewI W n k X') := fun X' hB => hI.below (hB.below (by omega) hI.z)
    clear hI I0
    rw [z3] at hl1 ⊢
    simp only [List.setIfInBounds_toArray, List.set_cons_zero, List.set_cons_succ]
    gi_wp2
    refine ⟨KeepsFrom.refl _ _, fun X2 hB2 hz2 => ?_⟩
    have I2 := hidIt (i0.out X2 hB2)
    have c1 := I2.out.c
    clear i0 hB2 hz2
    gi_wp2
    refine ⟨trivial, ?_⟩
    refine (CallsIn.inRound l ((callsIn_wide (n := _)).2 (sput_ok X2 W.heap.size n (iniH k) k 0 (by omega) I2.out.s))).mono ?_
    rintro e X3 ⟨rfl, q1, q2, q3⟩
    rw [ini_step] at q1
    have F : Hid (NewI W n (k + 1) X3 ∧ KeepsFrom (W.heap.size + 4) X2 X3) := by
      have i := I2.out
      have nm : ∀ (p : Nat), p < X2.heap.size → p ≠ W.heap.size → ∀ o, X3.cell? ⟨p, o, none⟩ = X2.cell? ⟨p, o, none⟩ := fun p hp hn o => q2.cell (p := ⟨p, o, none⟩) hp hn
      have zz := i.z
      exact ⟨⟨⟨(nm _ (by omega) (by omega) _).trans i.m.cn, (nm _ (by omega) (by omega) _).trans i.m.ch⟩, q1, (nm _ (by omega) (by omega) _).trans i.c, i.b.trans (q2.below (Nat.le_refl _) (by omega)), by rw [q3]; exact zz⟩, keeps_but q2 (by omega)⟩
    clear q1 q2 q3 I2 c1
    gi_wp2
    exact ⟨F.out.2, F.out.1⟩
  · intro D X hD hI hd
    have c1 := hI.c
    have E := hidIt hI
    rw [z3] at hD
    clear hI I0
    gi_wp2
    refine And.intro (by simp) (Or.inl ⟨_, _, rfl, run_takeDeferred hd, ?_⟩)
    refine ⟨.tuple #[.pointer (some ⟨W.heap.size, 0, none⟩), .int .i64 0], by simp [results, Tryd.results9, go_sem], rfl, ?_⟩
    have U : But D X (X.putObj D (.deferred none)) := But.putO _ _ _
    exact ⟨E.out.s.but U (by omega), E.out.b.trans (U.below (by omega) E.out.b.size)⟩
end Go.Proofs.YtkncnpjhfcfmnaaDoor
